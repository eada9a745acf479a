/-
  For every number and whichever of the two (no store, a zero one): the law KnownNil returns true, and what is handed in reads as it did. No condition.
-/
import Derived.Test.YtigjbngedbbdbaaPt30
import Derived.Test.YtigjbngedbbdbaaPt28
namespace Go.Proofs.Ytigjbngedbbdbaa
open Go.ChangeShapes Go.WideShapes Go.ChangeAt Go.RowKit Go.Joins Bv Tm
namespace Kn
set_option maxHeartbeats 400000

theorem knil_any (id : Int) (z : Bool) (W : World) :
    Calls Try.prog 5 #[.int .i64 id, .bool z] W fun e W' => e = .returned (.bool true) ∧ Below W.heap.size W W' := by
  cases z
  · exact knil_false id W
  · exact knil_true id W

set_option maxRecDepth 100000 in
theorem knil_lifted (os : Os) (started : os.Started) (H : Type) (enc : TypeId × Value → H) :
    ReturnsInHanded {} Try.checked os 5 .any (Rows.knownNilSpec.pre6 enc Try.prog Try.f5 Rows.knownNilRow.domain false) (Rows.knownNilSpec.post enc Try.prog Try.f5 false true false false) := by
  refine returnsInHanded_of_change (C := Try.checked) ownk started (by kernel_rfl) Try.func5
    (ChangeSpec.witness6 (enc := enc) (C := Try.checked) false ⟨#[], #[.int .i64 0, .bool false], []⟩ 8 (by kernel_rfl) (by kernel_rfl) (by kernel_rfl) (by kernel_rfl)) ?_
  intro W base args ds gs before hval0 hW _ _
  have hval : ∀ (j : Nat) t v, Try.f5.params[j]? = some t → args[j]? = some v → Value.okWide Try.prog W .any base t v := hval0
  have hW' := hW
  obtain ⟨p, q, hA0, hV, rfl, _, _⟩ := hW
  have hA : DataW.TrodAll enc Try.prog W 0 (fun _ => true) true Try.f5.params.toList args.toList ds p := hA0
  rw [Try.params5] at hA hval
  obtain ⟨v0, vs0, d0, ds0, p0, q0, hargs, rfl, rfl, h0, r0⟩ := trodAll_cons hA
  obtain ⟨v1, vs1, d1, ds1, p1, q1, rfl, rfl, rfl, h1, r1⟩ := trodAll_cons r0
  obtain ⟨rfl, rfl, rfl⟩ := trodAll_nil r1
  obtain rfl : args = #[v0, v1] := by cases args; simp_all
  obtain ⟨rfl, rfl⟩ := trodVars_none hV
  obtain ⟨i, rfl, rfl, rfl, wi⟩ := open_int Try.underlying3 (hval 0 3 v0 rfl rfl) h0
  obtain ⟨z, rfl, rfl, rfl⟩ := open_bool Try.underlying4 (hval 1 4 v1 rfl rfl) h1
  clear hA0 hval0
  simp only [List.append_nil] at hW'
  refine (knil_any i z W).mono fun e W' ⟨he, hg⟩ => ?_
  subst he
  refine ⟨_, rfl, post_new hW' (fun _ _ _ => trodAll_mk1 (shut_bool Try.underlying4 _)) (fun sp => ?_) (fun _ => rfl) hg⟩
  exact trodAll_cons_mk (shut_int Try.underlying3 wi) (trodAll_cons_mk (shut_bool Try.underlying4 _) trodAll_mk0)

theorem knil_holds : Rows.KnownNilSaid :=
  OpenClaim.holds_of_wide 5 Try.f5 rfl rfl rfl rfl rfl rfl rfl ⟨rfl, rfl, rfl, rfl, rfl⟩ rfl rfl rfl rfl rfl (by kernel_rfl) Try.func5 (by kernel_rfl)
    (of_decide_eq_true (by kernel_rfl)) (by unfold Func.isWrapper; rw [if_neg (of_decide_eq_false (by kernel_rfl))]; exact ⟨rfl, rfl⟩)
    (fun os started H enc _ => knil_lifted os started H enc)
end Kn
theorem knownNil_holds : Rows.KnownNilSaid := Kn.knil_holds
#print axioms knownNil_holds
end Go.Proofs.Ytigjbngedbbdbaa
