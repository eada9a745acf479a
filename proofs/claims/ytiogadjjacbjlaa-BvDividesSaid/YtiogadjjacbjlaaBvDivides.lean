/-
  Of whatever two vectors BvDivides returns true, and what was handed in reads as it did: the quotient times the second, and the rest, are the first, of numbers and of worths; of numbers the rest is less than the second. No condition.
-/
import Derived.Test.YtiogadjjacbjlaaBvDividesA
import Derived.Test.YtiogadjjacbjlaaBvRow
import Derived.JoinedOf
namespace Go.Proofs.Ytiogadjjacbjlaa
open Go.ChangeShapes Go.WideShapes Go.ChangeAt Go.RowKit Go.Joins
namespace Bv

theorem width_own {o w : Nat} (h1 : 5 ≤ o) (h2 : o ≤ 17) : widthB o w w = w := by unfold widthB; rw [if_pos ⟨h1, h2⟩, if_pos rfl]

theorem divides_any (w v n m : Nat) (W : World) :
    Calls Try.prog 5 #[.agg #[.int .u8 w, .int .u64 n], .agg #[.int .u8 v, .int .u64 m]] W fun e W' => e = .returned (.bool true) ∧ Below W.heap.size W W' := by
  cases ha : mayB w n
  · exact div_bad1 w v n m (Lib.hid ha) W
  cases hb : mayB v m
  · exact div_bad2 w v n m (Lib.hid ha) (Lib.hid hb) W
  by_cases hwv : w = v
  · subst hwv
    by_cases h0 : m = 0
    · exact div_bad4 w w n m (Lib.hid ha) (Lib.hid hb) (by simp) (by simp [h0]) W
    · obtain ⟨hw1, hw2, hn⟩ := mayB_true ha
      have s : ∀ o, 5 ≤ o → o ≤ 17 → widthB o w w = w := fun o a b => width_own a b
      have hw0 : ¬ w = 0 := by omega
      exact div_ok w w n m _ _ _ _ _ _ (Lib.hid ha) (Lib.hid hb) (by simp) (by simp; omega)
        (Lib.hid (bin_at 11 w w n m w _ ha hb (s 11 (by decide) (by decide)) rfl hw0))
        (Lib.hid (bin_at 12 w w n m w _ ha hb (s 12 (by decide) (by decide)) rfl hw0))
        (Lib.hid (bin_at 10 w w (low w (numB 11 w w n m)) m w _ (may_low hw1 hw2 _) hb (s 10 (by decide) (by decide)) rfl hw0))
        (Lib.hid (bin_at 8 w w (low w (numB 10 w w (low w (numB 11 w w n m)) m)) (low w (numB 12 w w n m)) w n (may_low hw1 hw2 _) (may_low hw1 hw2 _) (s 8 (by decide) (by decide)) (udiv_is hw2 hn h0) hw0))
        (Lib.hid (bin_at 19 w w (low w (numB 12 w w n m)) m 1 1 (may_low hw1 hw2 _) hb (by unfold widthB; simp) (urem_lt hn h0) (by decide)))
        (Lib.hid (bin_at 13 w w n m w _ ha hb (s 13 (by decide) (by decide)) rfl hw0))
        (Lib.hid (bin_at 14 w w n m w _ ha hb (s 14 (by decide) (by decide)) rfl hw0))
        (Lib.hid (bin_at 10 w w (low w (numB 13 w w n m)) m w _ (may_low hw1 hw2 _) hb (s 10 (by decide) (by decide)) rfl hw0))
        (Lib.hid (bin_at 8 w w (low w (numB 10 w w (low w (numB 13 w w n m)) m)) (low w (numB 14 w w n m)) w n (may_low hw1 hw2 _) (may_low hw1 hw2 _) (s 8 (by decide) (by decide)) (sdiv_is hw2 hn h0) hw0)) W
  · exact div_bad3 w v n m (Lib.hid ha) (Lib.hid hb) (by simp; omega) W

set_option maxRecDepth 100000 in
theorem divides_lifted (os : Os) (started : os.Started) (H : Type) (enc : TypeId × Value → H) :
    ReturnsInHanded {} Try.checked os 5 .any (Rows.bvDividesSpec.pre6 enc Try.prog Try.f5 Rows.bvDividesRow.domain false) (Rows.bvDividesSpec.post enc Try.prog Try.f5 false true false false) := by
  refine returnsInHanded_of_change (C := Try.checked) own started (by kernel_rfl) Try.func5
    (ChangeSpec.witness6 (enc := enc) (C := Try.checked) false ⟨#[], #[.agg #[.int .u8 0, .int .u64 0], .agg #[.int .u8 0, .int .u64 0]], []⟩ 8 (by kernel_rfl) (by kernel_rfl) (by kernel_rfl) (by kernel_rfl)) ?_
  intro W base args ds gs before hval0 hW _ _
  have hval : ∀ (j : Nat) t v, Try.f5.params[j]? = some t → args[j]? = some v → Value.okWide Try.prog W .any base t v := hval0
  have hW' := hW
  obtain ⟨p, q, hA0, hV, rfl, _, _⟩ := hW
  have hA : DataW.TrodAll enc Try.prog W 0 (fun _ => true) true Try.f5.params.toList args.toList ds p := hA0
  rw [Try.params5] at hA hval
  obtain ⟨v0, v1, d0, d1, p0, p1, rfl, rfl, rfl, h0, h1⟩ := trodAll_two hA
  obtain ⟨rfl, rfl⟩ := trodVars_none hV
  obtain ⟨w, n, rfl, rfl, _, _, b0⟩ := open_bv (hval 0 25 v0 rfl rfl) h0
  obtain ⟨v, m, rfl, rfl, _, _, b1⟩ := open_bv (hval 1 25 v1 rfl rfl) h1
  clear hA0 hval0
  simp only [List.append_nil] at hW'
  refine (divides_any w v n m W).mono fun e W' ⟨he, hg⟩ => ?_
  subst he
  exact ⟨_, rfl, post_new hW' (fun _ _ _ => trodAll_mk1 (shut_bool Try.underlying4 _)) (fun sp => trodAll_mk2 (b0 _ _ sp _) (b1 _ _ sp _)) (fun _ => rfl) hg⟩

theorem divides_holds : Rows.BvDividesSaid :=
  OpenClaim.holds_of_wide 5 Try.f5 rfl rfl rfl rfl rfl rfl rfl ⟨rfl, rfl, rfl, rfl, rfl⟩ rfl rfl rfl rfl rfl (by kernel_rfl) Try.func5 (by kernel_rfl)
    (of_decide_eq_true (by kernel_rfl)) (by unfold Func.isWrapper; rw [if_neg (of_decide_eq_false (by kernel_rfl))]; exact ⟨rfl, rfl⟩)
    (fun os started H enc _ => divides_lifted os started H enc)
end Bv
theorem bvDivides_holds : Rows.BvDividesSaid := Bv.divides_holds
#print axioms bvDivides_holds
end Go.Proofs.Ytiogadjjacbjlaa
