/-
  The statements CnfPuts and CnfUnits, as facts on one call.
-/
import Derived.Test.YtmegadjeficfjaaGreatDoorCuLives
namespace Go.Proofs.YtmegadjeficfjaaGreatDoor
open Go.RowKit
namespace Cf
set_option maxHeartbeats 3200000
set_option maxRecDepth 100000

theorem great_bel {W : World} {al : Option Addr} {C : Cl} {v : Int} {c : Nat} {b : Bool} (h : ClsAt W al C) (hok : OkC C) (hb : greatC C = b) :
    Calls Tryz.prog 4 #[.agg #[.int .i64 v, .slice al C.length c]] W fun e w => e = .returned (.bool b) ∧ Below W.heap.size W w :=
  (great_any h hok).mono fun e w ⟨he, hw⟩ => ⟨by rw [he, hb], by rw [← hw]; exact bel_alloc (Below.refl _ _) _⟩

theorem givenG_len (v : Int) : ∀ (g came : List Int), (givenG v came g).1.length ≤ came.length + g.length
  | [], came => by simp [givenG]
  | l :: r, came => by
    unfold givenG
    split
    · have := givenG_len v r came
      simp; omega
    · split
      · simp
      · have := givenG_len v r (came ++ [l])
        simp at this ⊢; omega
theorem stepsG_len (C : Cl) : ∀ (f : Nat) (came : List Int), (stepsG C f came).1.length ≤ came.length + f
  | 0, came => by simp [stepsG]
  | f + 1, came => by
    unfold stepsG
    split
    · simp
    · split
      · simp
      · rename_i n _ _
        have := stepsG_len C f (came ++ [n])
        simp at this; omega
theorem units_len (v : Int) (C : Cl) (g : List Int) : (unitsC v C g).1.length ≤ g.length + C.flatten.length + 1 := by
  unfold unitsC
  have h1 := givenG_len v g []
  split
  · cases hgv : givenG v [] g with
    | mk came o =>
      rw [hgv] at h1
      cases o with
      | true =>
        have h2 := stepsG_len C (openN C came + 1) came
        have h3 := openN_le C came
        simp only [List.length_nil] at h1
        show (stepsG C (openN C came + 1) came).1.length ≤ _
        omega
      | false => simp at h1 ⊢; omega
  · simp
end Cf
end Go.Proofs.YtmegadjeficfjaaGreatDoor
