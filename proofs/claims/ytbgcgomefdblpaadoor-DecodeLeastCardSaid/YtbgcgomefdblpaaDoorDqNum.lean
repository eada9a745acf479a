/-
  The program's number of a word, and the word of a number, walked.
-/
import Derived.Test.YtbgcgomefdblpaaDoorDqOnes
import Derived.Deep.RegionHeld3
namespace Go.Proofs.YtbgcgomefdblpaaDoor
open Go.RowKit
namespace De
set_option maxHeartbeats 3200000
set_option maxRecDepth 100000

def Fm.pc (f : Fm) (k : Nat) : Pc := match k with | 0 => f.p0 | 1 => f.p1 | 2 => f.p2 | _ => f.p3
theorem Fm.Ok.pc {f : Fm} (h : f.Ok) (k : Nat) : (f.pc k).Ok := by
  unfold Fm.pc
  split
  · exact h.p0
  · exact h.p1
  · exact h.p2
  · exact h.p3
def accP (f : Fm) (w : Nat) : Nat → Nat
  | 0 => 0
  | k + 1 => accP f w k ||| pcP w (f.pc k)
def accS (f : Fm) (w : Nat) : Nat → Nat
  | 0 => 0
  | k + 1 => accS f w k ||| scP w (f.pc k)
theorem pc_lt (n : Nat) (p : Pc) (h : p.b + p.n ≤ 32) : pcP n p < 4294967296 := sc_lt n ⟨p.b, p.a, p.n⟩ h
theorem accP_lt {f : Fm} (h : f.Ok) (w k : Nat) : accP f w k < 4294967296 := by
  induction k with
  | zero => exact (by decide : (0 : Nat) < 4294967296)
  | succ k ih => exact or_lt ih (pc_lt w _ (h.pc k).2.1)
theorem accS_lt {f : Fm} (h : f.Ok) (w k : Nat) : accS f w k < 4294967296 := by
  induction k with
  | zero => exact (by decide : (0 : Nat) < 4294967296)
  | succ k ih => exact or_lt ih (sc_lt w _ (h.pc k).1)
def pcsV (f : Fm) : Array Value := #[.int .u8 ((f.p0.a : Nat) : Int), .int .u8 ((f.p0.b : Nat) : Int), .int .u8 ((f.p0.n : Nat) : Int),
  .int .u8 ((f.p1.a : Nat) : Int), .int .u8 ((f.p1.b : Nat) : Int), .int .u8 ((f.p1.n : Nat) : Int), .int .u8 ((f.p2.a : Nat) : Int), .int .u8 ((f.p2.b : Nat) : Int), .int .u8 ((f.p2.n : Nat) : Int), .int .u8 ((f.p3.a : Nat) : Int), .int .u8 ((f.p3.b : Nat) : Int), .int .u8 ((f.p3.n : Nat) : Int)]
theorem index_pc (f : Fm) {k : Nat} (hk : k < 4) (w : World) : (Instr.index 51 (.agg (pcsV f)) (.int .i64 ((k : Nat) : Int))).run Tryd.prog w = .ok (.agg (pcV (f.pc k))) w := by
  rcases k with _ | _ | _ | _ | k
  · kernel_rfl
  · kernel_rfl
  · kernel_rfl
  · kernel_rfl
  · omega
/-- A word's bits, by a piece. -/
theorem piece_and {w a n o : Nat} (hw : w < 4294967296) (ho : o = 2 ^ n - 1) (hn : n ≤ 31) : bits .and .u32 (((w : Nat) : Int) / 2 ^ a) ((o : Nat) : Int) = ((w / 2 ^ a % 2 ^ n : Nat) : Int) := by
  have e : ((w : Nat) : Int) / 2 ^ a = ((w / 2 ^ a : Nat) : Int) := by simp
  have h1 : 2 ^ n < 2 ^ 32 := Nat.pow_lt_pow_right (by decide) (by omega)
  rw [e, u32_and_nat _ _ (Nat.lt_of_le_of_lt (Nat.div_le_self _ _) hw) (by omega), ho, Nat.and_two_pow_sub_one_eq_mod]
theorem piece_shl {y b z : Nat} (hz : z = y * 2 ^ b) (h : z < 4294967296) : ((y : Nat) : Int) * 2 ^ b % 4294967296 = ((z : Nat) : Int) := by
  have e : ((y : Nat) : Int) * 2 ^ b = ((z : Nat) : Int) := by rw [hz]; simp
  rw [e]; omega
/-- A piece in memory, behind w0. -/
def PnC (w : World) (b : Nat) (p : Pc) : Prop := w.cell? ⟨b, 0, none⟩ = some (.int .u8 ((p.a : Nat) : Int)) ∧ w.cell? ⟨b, 1, none⟩ = some (.int .u8 ((p.b : Nat) : Int)) ∧ w.cell? ⟨b, 2, none⟩ = some (.int .u8 ((p.n : Nat) : Int))
structure PnAt (w0 w : World) (b : Nat) (p : Pc) : Prop where
  c : PnC w b p
  bw : Below w0.heap.size w0 w
  lt : b < w.heap.size
theorem PnAt.on {w0 w w' : World} {b : Nat} {p : Pc} (h : PnAt w0 w b p) (hb : Below w.heap.size w w') : PnAt w0 w' b p :=
  ⟨⟨(hb.cell (p := ⟨b, 0, none⟩) h.lt).trans h.c.1, (hb.cell (p := ⟨b, 1, none⟩) h.lt).trans h.c.2.1, (hb.cell (p := ⟨b, 2, none⟩) h.lt).trans h.c.2.2⟩, De.on h.bw hb, Nat.lt_of_lt_of_le h.lt hb.size⟩
theorem PnAt.drew {w0 w : World} {b : Nat} {p : Pc} (h : PnAt w0 w b p) : PnAt w0 w.drew b p := h.on (below_drewN (Below.refl _ w) 1)
theorem PnAt.new {w0 w : World} (p : Pc) (t : TypeId) (hb : Below w0.heap.size w0 w) : PnAt w0 (w.alloc (.cells (pcV p) t)) w.heap.size p :=
  ⟨⟨by rw [new_cell]; rfl, by rw [new_cell]; rfl, by rw [new_cell]; rfl⟩, De.on hb (alloc_below w _), by simp⟩
end De
end Go.Proofs.YtbgcgomefdblpaaDoor
