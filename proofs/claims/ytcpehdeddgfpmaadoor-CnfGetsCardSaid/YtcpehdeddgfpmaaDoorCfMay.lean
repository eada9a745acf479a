/-
  The document's May, as a fact on one call.
-/
import Derived.Test.YtcpehdeddgfpmaaDoorCfHas
namespace Go.Proofs.YtcpehdeddgfpmaaDoor
open Go.RowKit
namespace Cf
set_option maxHeartbeats 1000000
set_option maxRecDepth 100000

theorem mayC_out {v : Int} {C : Cl} (h : mayV v = false) : mayC v C = false := by unfold mayC; rw [h]; rfl
theorem mayC_at {v l : Int} {C : Cl} {k : List Int} {i j : Nat} (hk : C[i]? = some k) (hl : k[j]? = some l) (h : isL l v = false) : mayC v C = false := by
  cases hm : mayC v C with
  | false => rfl
  | true =>
    have := (mayC_parts hm).2 k (List.mem_of_getElem? hk) l (List.mem_of_getElem? hl)
    rw [h] at this; cases this
theorem mayC_all {v : Int} {C : Cl} (hv : mayV v = true) (h : ∀ (i : Nat), i < C.length → ∀ (k : List Int), C[i]? = some k → ∀ (j : Nat) (l : Int), k[j]? = some l → isL l v = true) : mayC v C = true := by
  unfold mayC
  rw [hv, Bool.true_and, List.all_eq_true]
  intro k hk
  rw [List.all_eq_true]
  intro l hl
  obtain ⟨i, hi⟩ := List.getElem?_of_mem hk
  obtain ⟨j, hj⟩ := List.getElem?_of_mem hl
  exact h i (List.getElem?_eq_some_iff.1 hi).1 k hi j l hj
theorem cls_at {W : World} {al : Option Addr} {C : Cl} (h : ClsAt W al C) {i : Nat} {k : List Int} (hk : C[i]? = some k) : ∃ bl ol kal kc, al = some ⟨bl, ol, none⟩ ∧ bl < W.heap.size ∧ W.cell? ⟨bl, ol + i, none⟩ = some (.slice kal k.length kc) ∧ IntsAt W kal k := by
  rcases h with h | ⟨bl, ol, h1, h2, h3⟩
  · subst h; simp at hk
  · obtain ⟨kal, kc, a, b⟩ := h3 i k hk
    exact ⟨bl, ol, kal, kc, h1, h2, a, b⟩
theorem ints_at {W : World} {al : Option Addr} {T : List Int} (h : IntsAt W al T) {i : Nat} {x : Int} (hk : T[i]? = some x) : ∃ bl ol, al = some ⟨bl, ol, none⟩ ∧ bl < W.heap.size ∧ W.cell? ⟨bl, ol + i, none⟩ = some (.int .i64 x) := by
  rcases h with h | ⟨bl, ol, h1, h2, h3⟩
  · subst h; simp at hk
  · exact ⟨bl, ol, h1, h2, h3 i x hk⟩

end Cf
end Go.Proofs.YtcpehdeddgfpmaaDoor
