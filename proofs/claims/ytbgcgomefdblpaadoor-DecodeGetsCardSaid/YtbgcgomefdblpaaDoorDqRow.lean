/-
  A row of the program's: how far a word is above it, whether it has it; walked.
-/
import Derived.Test.YtbgcgomefdblpaaDoorDqFldB
import Derived.BigQuiet
import Derived.Deep.QuietTactic
namespace Go.Proofs.YtbgcgomefdblpaaDoor
open Go.RowKit
namespace De
set_option maxHeartbeats 3200000
set_option maxRecDepth 100000

/-- A row in memory. -/
structure QrAt (w : World) (b : Nat) (q : Qr) : Prop where
  q0 : w.cell? ⟨b, 0, none⟩ = some (.int .u8 ((q.lo : Nat) : Int))
  q1 : w.cell? ⟨b, 1, none⟩ = some (.int .u8 ((q.hi : Nat) : Int))
  q2 : w.cell? ⟨b, 2, none⟩ = some (.int .u8 ((q.form : Nat) : Int))
  q3 : w.cell? ⟨b, 3, none⟩ = some (.int .u32 ((q.word : Nat) : Int))
  lt : b < w.heap.size
theorem QrAt.below {w w' : World} {b : Nat} {q : Qr} (h : QrAt w b q) (hb : Below w.heap.size w w') : QrAt w' b q := by
  have k := fun (j : Nat) => hb.cell (p := ⟨b, j, none⟩) h.lt
  exact ⟨(k _).trans h.q0, (k _).trans h.q1, (k _).trans h.q2, (k _).trans h.q3, Nat.lt_of_lt_of_le h.lt hb.size⟩
theorem QrAt.new (w : World) (q : Qr) (t : TypeId) : QrAt (w.alloc (.cells (qrV q) t)) w.heap.size q := by
  refine ⟨?_, ?_, ?_, ?_, by simp⟩ <;> (rw [new_cell]; rfl)
theorem env_fixed {w : World} (hE : EnvAt w) {k : Nat} (hk : k ≤ 12) : w.cell? ⟨2, k * 15, none⟩ = some (.int .u32 (((fmQ k).fixed : Nat) : Int)) := hE.forms k _ (fmQ_get k hk) 0 _ rfl
theorem above_any {q : Qr} (hq : q ∈ rowsQ) {w : Nat} (hw : w < 4294967296) (W : World) (hE : EnvAt W) :
    Calls Tryd.prog 21 #[.agg (qrV q), .int .u32 ((w : Nat) : Int)] W fun e W' => e = .returned (.int .u32 ((aboveP q w : Nat) : Int)) ∧ Below W.heap.size W W' := by
  obtain ⟨h1, h2, h3, hf, h5⟩ := rowQ_ok q hq
  have hfx := (fmQ_ok q.form hf).fixed
  obtain ⟨m, hm⟩ : ∃ m, m = w &&& (fmQ q.form).fixed := ⟨_, rfl⟩
  have e1 : bits .and .u32 ((w : Nat) : Int) (((fmQ q.form).fixed : Nat) : Int) = ((m : Nat) : Int) := by rw [hm]; exact u32_and_nat _ _ hw hfx
  have hml : m ≤ w := by rw [hm]; exact Nat.and_le_left
  have hA : Hid (aboveP q w = (m + 4294967296 - q.word) % 4294967296) := Lib.hid (by unfold aboveP; rw [hm])
  have e2 : IntKind.u32.wrap (((m : Nat) : Int) - ((q.word : Nat) : Int)) = ((aboveP q w : Nat) : Int) := by
    rw [hA.out, IntKind.wrap_u32]; omega
  have HB := Lib.hid (alloc_below W (.cells (qrV q) 37))
  have HQ := Lib.hid (QrAt.new W q 37)
  have hc := env_fixed (hE.below HB.out) hf
  clear hA h1 h2 h3 h5 hfx hm hml hq hw hE
  generalize aboveP q w = ab at *
  generalize (fmQ q.form).fixed = fx at *
  have f0 : (0 : Int) ≤ ((q.form : Nat) : Int) := by omega
  have f1 : ((q.form : Nat) : Int) < 13 := by omega
  unfold qrV at HB HQ hc ⊢
  go_enter Tryd.func21, Tryd.ntmps21
  go_upto_region 1 with fail
  generalize W.alloc _ = w1 at HB HQ hc ⊢
  have q2 := HQ.out.q2
  have q3 := HQ.out.q3
  go_quiet (fail)
  go_wp2_with fail
  go_ret
  exact ⟨rfl, on HB.out (below_drewN (Below.refl _ _) _)⟩
end De
end Go.Proofs.YtbgcgomefdblpaaDoor
