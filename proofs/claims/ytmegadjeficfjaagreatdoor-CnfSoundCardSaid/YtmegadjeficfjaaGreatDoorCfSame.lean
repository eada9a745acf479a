/-
  The document's Same, as a fact on one call.
-/
import Derived.Test.YtmegadjeficfjaaGreatDoorCfGrow
import Derived.Deep.Cut
namespace Go.Proofs.YtmegadjeficfjaaGreatDoor
open Go.RowKit
namespace Cf
set_option maxHeartbeats 3200000
set_option maxRecDepth 100000

theorem cls_ext {C D : Cl} (hl : C.length = D.length) (h : ∀ i, i < C.length → C[i]? = D[i]?) : C = D := by
  apply List.ext_getElem?
  intro i
  by_cases hi : i < C.length
  · exact h i hi
  · rw [List.getElem?_eq_none (by omega), List.getElem?_eq_none (by omega)]
theorem ints_ext {C D : List Int} (hl : C.length = D.length) (h : ∀ i, i < C.length → C[i]? = D[i]?) : C = D := by
  apply List.ext_getElem?
  intro i
  by_cases hi : i < C.length
  · exact h i hi
  · rw [List.getElem?_eq_none (by omega), List.getElem?_eq_none (by omega)]

theorem two_boxes (W : World) (v u : Int) (x y : Value) :
    ((W.alloc (.cells #[.int .i64 v, x] 24)).alloc (.cells #[.int .i64 u, y] 24)).cell? ⟨W.heap.size, 0, none⟩ = some (.int .i64 v) ∧
    ((W.alloc (.cells #[.int .i64 v, x] 24)).alloc (.cells #[.int .i64 u, y] 24)).cell? ⟨W.heap.size, 1, none⟩ = some x ∧
    ((W.alloc (.cells #[.int .i64 v, x] 24)).alloc (.cells #[.int .i64 u, y] 24)).cell? ⟨W.heap.size + 1, 0, none⟩ = some (.int .i64 u) ∧
    ((W.alloc (.cells #[.int .i64 v, x] 24)).alloc (.cells #[.int .i64 u, y] 24)).cell? ⟨W.heap.size + 1, 1, none⟩ = some y := by
  have e : (W.alloc (.cells #[.int .i64 v, x] 24)).heap.size = W.heap.size + 1 := by simp
  have n0 := new_cell (W.alloc (.cells #[.int .i64 v, x] 24)) #[.int .i64 u, y] 24 0
  have n1 := new_cell (W.alloc (.cells #[.int .i64 v, x] 24)) #[.int .i64 u, y] 24 1
  rw [e] at n0 n1
  have b := bel_alloc (Below.refl _ (W.alloc (.cells #[.int .i64 v, x] 24))) (.cells #[.int .i64 u, y] 24)
  exact ⟨(b.cell (p := ⟨W.heap.size, 0, none⟩) (by simp)).trans (new_cell _ _ _ _), (b.cell (p := ⟨W.heap.size, 1, none⟩) (by simp)).trans (new_cell _ _ _ _), n0, n1⟩

end Cf
end Go.Proofs.YtmegadjeficfjaaGreatDoor
