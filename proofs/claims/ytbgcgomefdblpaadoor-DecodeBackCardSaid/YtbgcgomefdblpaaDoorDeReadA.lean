/-
  The instruction of a word that is a row's: the document's read, walked.
-/
import Derived.Test.YtbgcgomefdblpaaDoorDeFits
import Derived.Laws.NewFold
import Derived.Laws.IdiomCopy
import Derived.Laws.IdiomArrays
namespace Go.Proofs.YtbgcgomefdblpaaDoor
open Go.RowKit
namespace De
set_option maxHeartbeats 6400000
set_option maxRecDepth 100000

/-- An instruction's cells. -/
def insV (i : Ins) : Array Value := #[.int .u8 ((i.op : Nat) : Int), .int .u8 ((i.rd : Nat) : Int), .int .u8 ((i.a : Nat) : Int), .int .u8 ((i.b : Nat) : Int), .int .i32 i.imm, .int .u16 ((i.csr : Nat) : Int)]
theorem signed_at {v n : Nat} {z : Int} (hz : z = ((n : Nat) : Int)) (hv : v < 4294967296) (hn1 : 1 ≤ n) (hn : n ≤ 32) (hvn : v < 2 ^ n) (W : World) :
    Calls Tryd.prog 26 #[.int .u32 ((v : Nat) : Int), .int .i64 z] W fun e W' => e = .returned (.int .i32 (sgn v n)) ∧ W' = W := by
  subst hz
  exact signed_any hv hn1 hn hvn W
theorem wu8 {x : Nat} (h : x < 256) : IntKind.u8.wrap ((x : Nat) : Int) = ((x : Nat) : Int) := by
  simp [IntKind.wrap, IntKind.bits, IntKind.signed]; omega
theorem wu16 {x : Nat} (h : x < 65536) : IntKind.u16.wrap ((x : Nat) : Int) = ((x : Nat) : Int) := by
  simp [IntKind.wrap, IntKind.bits, IntKind.signed]; omega
theorem wmul {c a m : Nat} {z : Int} (hz : z = ((c : Nat) : Int)) (hm : m = c * a) (h : m < 4294967296) : IntKind.u32.wrap (z * ((a : Nat) : Int)) = ((m : Nat) : Int) := by
  subst hz
  rw [IntKind.wrap_u32, ← Int.natCast_mul, ← hm]; omega
theorem wadd {a b m : Nat} (hm : m = a + b) (h : m < 4294967296) : IntKind.u32.wrap (((a : Nat) : Int) + ((b : Nat) : Int)) = ((m : Nat) : Int) := by
  rw [IntKind.wrap_u32]; omega
theorem field_v {w : Nat} (hw : w < 4294967296) {lo n v : Nat} {zl zn : Int} (hv : v = fld w lo n) (h1 : zl = ((lo : Nat) : Int)) (h2 : zn = ((n : Nat) : Int)) (hlo : lo ≤ 32) (hn : n ≤ 32) (W : World) :
    Calls Tryd.prog 25 #[.int .u32 ((w : Nat) : Int), .int .i64 zl, .int .i64 zn] W fun e W' => e = .returned (.int .u32 ((v : Nat) : Int)) ∧ W' = W := by
  subst hv
  exact field_at hw h1 h2 hlo hn W
theorem build_op (op : Nat) (w : World) : (Instr.build 26 #[(0, .int .u8 ((op : Nat) : Int))]).run Tryd.prog w = .ok (.agg #[.int .u8 ((op : Nat) : Int), .int .u8 0, .int .u8 0, .int .u8 0, .int .i32 0, .int .u16 0]) w := run_build w _ _ _ (by kernel_rfl)
/-- What the document's read has made, ahead of what it reads. -/
structure RdAt (W w : World) (r : Row) (s : ByteArray) : Prop where
  row : RowAt w W.heap.size r s
  x0 : w.cell? ⟨W.heap.size + 1 + 1, 0, none⟩ = some (.int .u8 ((r.op : Nat) : Int))
  x1 : w.cell? ⟨W.heap.size + 1 + 1, 1, none⟩ = some (.int .u8 0)
  x2 : w.cell? ⟨W.heap.size + 1 + 1, 2, none⟩ = some (.int .u8 0)
  x3 : w.cell? ⟨W.heap.size + 1 + 1, 3, none⟩ = some (.int .u8 0)
  x4 : w.cell? ⟨W.heap.size + 1 + 1, 4, none⟩ = some (.int .i32 0)
  x5 : w.cell? ⟨W.heap.size + 1 + 1, 5, none⟩ = some (.int .u16 0)
  y0 : w.cell? ⟨W.heap.size + 1, 0, none⟩ = some (.int .u8 0)
  y1 : w.cell? ⟨W.heap.size + 1, 1, none⟩ = some (.int .u8 0)
  y2 : w.cell? ⟨W.heap.size + 1, 2, none⟩ = some (.int .u8 0)
  y3 : w.cell? ⟨W.heap.size + 1, 3, none⟩ = some (.int .u8 0)
  y4 : w.cell? ⟨W.heap.size + 1, 4, none⟩ = some (.int .i32 0)
  y5 : w.cell? ⟨W.heap.size + 1, 5, none⟩ = some (.int .u16 0)
  fx : ∀ j, w.frozen? ⟨W.heap.size + 1 + 1, j, none⟩ = false
  fy : ∀ j, w.frozen? ⟨W.heap.size + 1, j, none⟩ = false
  b : Below W.heap.size W w
theorem frozen_new (W : World) (c1 c2 c3 : Array Value) (t1 t2 t3 : TypeId) (j : Nat) :
    (((W.alloc (.cells c1 t1)).alloc (.cells c2 t2)).alloc (.cells c3 t3)).frozen? ⟨W.heap.size + 1 + 1, j, none⟩ = false ∧ (((W.alloc (.cells c1 t1)).alloc (.cells c2 t2)).alloc (.cells c3 t3)).frozen? ⟨W.heap.size + 1, j, none⟩ = false := by
  have h : ∀ b, W.heap.size ≤ b → W.frozen? ⟨b, j, none⟩ = false := fun b hb => by
    unfold World.frozen?
    rw [show W.heap[(⟨b, j, none⟩ : Addr).block]? = none from by simp; omega]
  simp only [frozen?_alloc_cells]
  exact ⟨h _ (by omega), h _ (by omega)⟩
theorem alloc_old (w : World) (o : Obj) {b : Nat} (j : Nat) (h : b < w.heap.size) : (w.alloc o).cell? ⟨b, j, none⟩ = w.cell? ⟨b, j, none⟩ := World.cell?_alloc_lt _ _ _ h
theorem RdAt.new (W : World) (r : Row) (s : ByteArray) (t1 t2 t3 : TypeId) : RdAt W (((W.alloc (.cells (rowV r s) t1)).alloc (.cells #[.int .u8 0, .int .u8 0, .int .u8 0, .int .u8 0, .int .i32 0, .int .u16 0] t2)).alloc (.cells #[.int .u8 ((r.op : Nat) : Int), .int .u8 0, .int .u8 0, .int .u8 0, .int .i32 0, .int .u16 0] t3)) r s := by
  have e1 : ∀ c t, (W.alloc (.cells c t)).heap.size = W.heap.size + 1 := fun c t => by simp
  have e2 : ∀ c t c2 t2, ((W.alloc (.cells c t)).alloc (.cells c2 t2)).heap.size = W.heap.size + 1 + 1 := fun c t c2 t2 => by simp
  have hx : ∀ c1 c2 c3 t1 t2 t3 j, (((W.alloc (.cells c1 t1)).alloc (.cells c2 t2)).alloc (.cells c3 t3)).cell? ⟨W.heap.size + 1 + 1, j, none⟩ = c3[j]? := fun c1 c2 c3 t1 t2 t3 j => by
    have := new_cell ((W.alloc (.cells c1 t1)).alloc (.cells c2 t2)) c3 t3 j
    rw [e2] at this; exact this
  have hy : ∀ c1 c2 c3 t1 t2 t3 j, (((W.alloc (.cells c1 t1)).alloc (.cells c2 t2)).alloc (.cells c3 t3)).cell? ⟨W.heap.size + 1, j, none⟩ = c2[j]? := fun c1 c2 c3 t1 t2 t3 j => by
    rw [alloc_old _ _ _ (by rw [e2]; omega)]
    have := new_cell (W.alloc (.cells c1 t1)) c2 t2 j
    rw [e1] at this; exact this
  have hr : ∀ c1 c2 c3 t1 t2 t3 j, (((W.alloc (.cells c1 t1)).alloc (.cells c2 t2)).alloc (.cells c3 t3)).cell? ⟨W.heap.size, j, none⟩ = c1[j]? := fun c1 c2 c3 t1 t2 t3 j => by
    rw [alloc_old _ _ _ (by rw [e2]; omega), alloc_old _ _ _ (by rw [e1]; omega)]
    exact new_cell W c1 t1 j
  refine ⟨⟨?_, ?_, ?_, ?_, ?_⟩, ?_, ?_, ?_, ?_, ?_, ?_, ?_, ?_, ?_, ?_, ?_, ?_, fun j => (frozen_new W _ _ _ _ _ _ j).1, fun j => (frozen_new W _ _ _ _ _ _ j).2, (((Below.refl _ _).alloc (Nat.le_refl _) _).alloc (by simp) _).alloc (by simp; omega) _⟩
  all_goals first | (rw [hr]; rfl) | (rw [hx]; rfl) | (rw [hy]; rfl)
/-- What the document's read hands back, by its result's cells. -/
theorem read_out {tmps : Array Value} {w : World} {b : Nat} {v0 v1 v2 v3 v4 v5 : Value} (h : tmps.getD 4 undef = .pointer (some ⟨b, 0, none⟩)) (c0 : w.cell? ⟨b, 0, none⟩ = some v0) (c1 : w.cell? ⟨b, 1, none⟩ = some v1) (c2 : w.cell? ⟨b, 2, none⟩ = some v2) (c3 : w.cell? ⟨b, 3, none⟩ = some v3) (c4 : w.cell? ⟨b, 4, none⟩ = some v4) (c5 : w.cell? ⟨b, 5, none⟩ = some v5) :
    (results Tryd.f18 tmps).run Tryd.prog w = .ok (.agg #[v0, v1, v2, v3, v4, v5]) w := by
  have h : tmps[4]?.getD undef = .pointer (some ⟨b, 0, none⟩) := by simpa using h
  simp [results, Tryd.results18, go_sem, h, c0, c1, c2, c3, c4, c5]
theorem set_off {w : World} {b i j : Nat} {x v : Value} (h : w.cell? ⟨b, j, none⟩ = some v) (hne : i ≠ j) : (w.setCell ⟨b, i, none⟩ x).cell? ⟨b, j, none⟩ = some v := by
  rw [World.cell?_setCell_other _ _ _ _ (by simp; exact fun e => absurd e hne)]; exact h
theorem set_at {w : World} {b i : Nat} {x : Value} (h : (w.cell? ⟨b, i, none⟩).isSome = true) : (w.setCell ⟨b, i, none⟩ x).cell? ⟨b, i, none⟩ = some x := World.cell?_setCell_same' _ _ _ h
theorem set_some {w : World} {b i c j : Nat} {x : Value} (h : (w.cell? ⟨b, i, none⟩).isSome = true) : ((w.setCell ⟨c, j, none⟩ x).cell? ⟨b, i, none⟩).isSome = true := by
  by_cases e : c = b ∧ j = i
  · obtain ⟨rfl, rfl⟩ := e
    rw [set_at h]; rfl
  · rw [World.cell?_setCell_other _ _ _ _ (by simp; exact fun h1 h2 => e ⟨h1, h2⟩)]; exact h
theorem is_some {w : World} {p : Addr} {v : Value} (h : w.cell? p = some v) : (w.cell? p).isSome = true := by rw [h]; rfl
theorem set_blk {w : World} {b c i j : Nat} {x v : Value} (h : w.cell? ⟨b, j, none⟩ = some v) (hne : c ≠ b) : (w.setCell ⟨c, i, none⟩ x).cell? ⟨b, j, none⟩ = some v := by
  rw [World.cell?_setCell_other _ _ _ _ (by simp; exact fun e => absurd e hne)]; exact h
theorem wi32 {x : Nat} (h : x < 2147483648) : IntKind.i32.wrap ((x : Nat) : Int) = ((x : Nat) : Int) := by rw [IntKind.wrap_i32]; omega
end De
end Go.Proofs.YtbgcgomefdblpaaDoor
