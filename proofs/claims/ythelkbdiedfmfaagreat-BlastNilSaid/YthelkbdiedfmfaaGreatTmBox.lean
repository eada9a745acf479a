/-
  A node in a block of its own: kept over calls and new blocks.
-/
import Derived.Test.YthelkbdiedfmfaaGreatTmStore
namespace Go.Proofs.YthelkbdiedfmfaaGreat
open Go.RowKit Bv
namespace Tm
/-- Block b holds these seven cells from place o on. -/
def At7 (w : World) (b : Nat) (x0 x1 x2 x3 x4 x5 x6 : Value) : Prop :=
  w.cell? ⟨b, 0, none⟩ = some x0 ∧ w.cell? ⟨b, 1, none⟩ = some x1 ∧ w.cell? ⟨b, 2, none⟩ = some x2 ∧ w.cell? ⟨b, 3, none⟩ = some x3 ∧ w.cell? ⟨b, 4, none⟩ = some x4 ∧ w.cell? ⟨b, 5, none⟩ = some x5 ∧ w.cell? ⟨b, 6, none⟩ = some x6
section
variable {w w' : World} {b : Nat} {x0 x1 x2 x3 x4 x5 x6 : Value}
theorem At7.lt (h : At7 w b x0 x1 x2 x3 x4 x5 x6) : b < w.heap.size := World.block_lt_of_cell? w _ h.1
theorem At7.move (h : At7 w b x0 x1 x2 x3 x4 x5 x6) (hb : ∀ o, w'.cell? ⟨b, o, none⟩ = w.cell? ⟨b, o, none⟩) : At7 w' b x0 x1 x2 x3 x4 x5 x6 := by
  unfold At7 at h ⊢
  simp only [hb]
  exact h
theorem At7.kept {F : Nat → Prop} (h : At7 w b x0 x1 x2 x3 x4 x5 x6) (k : Kept F w w') (hF : ¬ F b) : At7 w' b x0 x1 x2 x3 x4 x5 x6 := h.move fun o => k.cell (x := ⟨b, o, none⟩) h.lt hF
theorem At7.keep (h : At7 w b x0 x1 x2 x3 x4 x5 x6) (hb : Below w.heap.size w w') : At7 w' b x0 x1 x2 x3 x4 x5 x6 := h.move fun o => hb.cell (p := ⟨b, o, none⟩) h.lt
theorem At7.alloc (h : At7 w b x0 x1 x2 x3 x4 x5 x6) (o : Obj) : At7 (w.alloc o) b x0 x1 x2 x3 x4 x5 x6 := h.move fun _ => World.cell?_alloc_lt w o _ h.lt
theorem At7.drew (h : At7 w b x0 x1 x2 x3 x4 x5 x6) : At7 w.drew b x0 x1 x2 x3 x4 x5 x6 := h
theorem At7.new (w : World) (x0 x1 x2 x3 x4 x5 x6 : Value) (t : TypeId) : At7 (w.alloc (.cells #[x0, x1, x2, x3, x4, x5, x6] t)) w.heap.size x0 x1 x2 x3 x4 x5 x6 := by
  refine ⟨?_, ?_, ?_, ?_, ?_, ?_, ?_⟩ <;> simp [go_sem]
end
end Tm
end Go.Proofs.YthelkbdiedfmfaaGreat
