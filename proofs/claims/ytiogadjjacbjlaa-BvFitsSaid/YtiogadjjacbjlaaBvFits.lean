/-
  Of whatever two vectors BvFits returns true, and what was handed in reads as it did: Neg is Not and 1, Sub is Add of Neg, parts of Concat are its parts, wider ones begin with it, just one of less, equal and greater is so. No condition.
-/
import Derived.Test.YtiogadjjacbjlaaBvFitsB
import Derived.Test.YtiogadjjacbjlaaBvFitsC
import Derived.Test.YtiogadjjacbjlaaBvFitsD
import Derived.Test.YtiogadjjacbjlaaBvRow
import Derived.JoinedOf
namespace Go.Proofs.Ytiogadjjacbjlaa
open Go.ChangeShapes Go.WideShapes Go.ChangeAt Go.RowKit Go.Joins
namespace Bv

theorem width_self {o w : Nat} (h1 : 5 ≤ o) (h2 : o ≤ 17) : widthB o w w = w := by unfold widthB; rw [if_pos ⟨h1, h2⟩, if_pos rfl]
theorem width_one {o w : Nat} (h1 : 18 ≤ o) (h2 : o ≤ 20) : widthB o w w = 1 := by unfold widthB; rw [if_neg (by omega), if_pos ⟨h1, h2⟩, if_pos rfl]
theorem width_cat {v w : Nat} (h : v + w ≤ 64) : widthB 21 v w = v + w := by unfold widthB; simp [h]
theorem width_cat0 {v w : Nat} (h : ¬ v + w ≤ 64) : widthB 21 v w = 0 := by unfold widthB; simp [h]

theorem fits_any (w v n m : Nat) (W : World) :
    Calls Try.prog 6 #[.agg #[.int .u8 w, .int .u64 n], .agg #[.int .u8 v, .int .u64 m]] W fun e W' => e = .returned (.bool true) ∧ Below W.heap.size W W' := by
  cases ha : mayB w n
  · exact fits_bad1 w v n m (Lib.hid ha) W
  cases hb : mayB v m
  · exact fits_bad2 w v n m (Lib.hid ha) (Lib.hid hb) W
  obtain ⟨hw1, hw2, hn⟩ := mayB_true ha
  obtain ⟨hv1, hv2, hm⟩ := mayB_true hb
  have hn6 : n < 18446744073709551616 := Nat.lt_of_lt_of_le hn (pow_le64 hw2)
  have H1 := Lib.hid (unary_ok 3 w n (.inl rfl) ha)
  have H2 := Lib.hid (unary_ok 4 w n (.inr rfl) ha)
  have H3 := Lib.hid (bin_at 8 w w (low w (numU 3 n)) 1 w (low w (numU 4 n)) (may_low hw1 hw2 _) (may_one hw1 hw2) (width_self (by decide) (by decide)) (neg_is hw2 hn6) (by omega))
  have h7 := extend_ok 23 w n 64 (.inl rfl) ha hw2 (by decide)
  rw [show low 64 (numE 23 w n) = n from low64 hn6] at h7
  have H7 := Lib.hid h7
  have h8 := extend_ok 24 w n 64 (.inr rfl) ha hw2 (by decide)
  have hse := numE_lt 24 w hn6
  rw [low64 hse] at h8
  have H8 := Lib.hid h8
  have h9 := extract_ok 64 n 0 w (mayB_mk (by decide) (by decide) (by simpa using hn6)) hw1 (by omega)
  rw [low_div0 hn] at h9
  have H9 := Lib.hid h9
  have h10 := extract_ok 64 (numE 24 w n) 0 w (mayB_mk (by decide) (by decide) (by simpa using hse)) hw1 (by omega)
  rw [sext_low hw2 hn] at h10
  have H10 := Lib.hid h10
  have h11 := bworth_any w n
  rw [if_pos ha] at h11
  have H11 := Lib.hid h11
  have hwo : (IntKind.i64.wrap (numE 24 w n : Int) != wo w n) = false := by
    have := sext_worth hw1 hw2 hn
    rw [IntKind.wrap_i64]
    unfold wrap64 at this
    rw [this]; simp
  by_cases hc : w + v ≤ 64
  · have hclt := concat_lt hn hm
    have hcm : mayB (w + v) (n * 2 ^ v + m) = true := mayB_mk (by omega) hc hclt
    have H4 := Lib.hid (bin_at 21 w v n m (w + v) (n * 2 ^ v + m) ha hb (width_cat hc) (concat_is hc hn hm) (by omega))
    have h5 := extract_ok (w + v) (n * 2 ^ v + m) 0 v hcm hv1 (by omega)
    rw [concat_low hm] at h5
    have H5 := Lib.hid h5
    have h6 := extract_ok (w + v) (n * 2 ^ v + m) v w hcm hw1 (by omega)
    rw [concat_high hn hm] at h6
    have H6 := Lib.hid h6
    by_cases hwv : w = v
    · subst hwv
      have H12 := Lib.hid (bin_at 19 w w n m 1 _ ha hb (width_one (by decide) (by decide)) rfl (by decide))
      have H13 := Lib.hid (bin_at 19 w w m n 1 _ hb ha (width_one (by decide) (by decide)) rfl (by decide))
      have H14 := Lib.hid (bin_at 18 w w n m 1 _ ha hb (width_one (by decide) (by decide)) rfl (by decide))
      have H15 := Lib.hid (bin_at 9 w w n m w _ ha hb (width_self (by decide) (by decide)) rfl (by omega))
      have H16 := Lib.hid (unary_ok 4 w m (.inr rfl) hb)
      have H17 := Lib.hid (bin_at 8 w w n (low w (numU 4 m)) w _ ha (may_low hw1 hw2 _) (width_self (by decide) (by decide)) (sub_is hw2) (by omega))
      have h1 := one_of w n m
      exact fits_cs w w n m _ _ _ _ _ _ _ _ _ _ _ hw2 hv2 (Lib.hid ha) (Lib.hid hb) H1 H2 H3 H4 H5 H6 H7 H8 H9 H10 H11 hwo H12 H13 H14 H15 H16 H17 (by simp) (by omega) (by omega) (by omega) (by simp; omega) W
    · exact fits_cf w v n m _ _ _ _ _ _ hw2 hv2 (Lib.hid ha) (Lib.hid hb) H1 H2 H3 H4 H5 H6 H7 H8 H9 H10 H11 hwo (by simp; omega) W
  · have H4 := Lib.hid (binary_bad 21 w v n m (.inr (.inr (width_cat0 hc))))
    by_cases hwv : w = v
    · subst hwv
      have H12 := Lib.hid (bin_at 19 w w n m 1 _ ha hb (width_one (by decide) (by decide)) rfl (by decide))
      have H13 := Lib.hid (bin_at 19 w w m n 1 _ hb ha (width_one (by decide) (by decide)) rfl (by decide))
      have H14 := Lib.hid (bin_at 18 w w n m 1 _ ha hb (width_one (by decide) (by decide)) rfl (by decide))
      have H15 := Lib.hid (bin_at 9 w w n m w _ ha hb (width_self (by decide) (by decide)) rfl (by omega))
      have H16 := Lib.hid (unary_ok 4 w m (.inr rfl) hb)
      have H17 := Lib.hid (bin_at 8 w w n (low w (numU 4 m)) w _ ha (may_low hw1 hw2 _) (width_self (by decide) (by decide)) (sub_is hw2) (by omega))
      have h1 := one_of w n m
      exact fits_fs w w n m _ _ _ _ _ _ _ _ _ hw2 hv2 (Lib.hid ha) (Lib.hid hb) H1 H2 H3 H4 H7 H8 H9 H10 H11 hwo H12 H13 H14 H15 H16 H17 (by simp) (by omega) (by omega) (by omega) (by simp; omega) W
    · exact fits_ff w v n m _ _ _ _ hw2 hv2 (Lib.hid ha) (Lib.hid hb) H1 H2 H3 H4 H7 H8 H9 H10 H11 hwo (by simp; omega) W

set_option maxRecDepth 100000 in
theorem fits_lifted (os : Os) (started : os.Started) (H : Type) (enc : TypeId × Value → H) :
    ReturnsInHanded {} Try.checked os 6 .any (Rows.bvFitsSpec.pre6 enc Try.prog Try.f6 Rows.bvFitsRow.domain false) (Rows.bvFitsSpec.post enc Try.prog Try.f6 false true false false) := by
  refine returnsInHanded_of_change (C := Try.checked) own started (by kernel_rfl) Try.func6
    (ChangeSpec.witness6 (enc := enc) (C := Try.checked) false ⟨#[], #[.agg #[.int .u8 0, .int .u64 0], .agg #[.int .u8 0, .int .u64 0]], []⟩ 8 (by kernel_rfl) (by kernel_rfl) (by kernel_rfl) (by kernel_rfl)) ?_
  intro W base args ds gs before hval0 hW _ _
  have hval : ∀ (j : Nat) t v, Try.f6.params[j]? = some t → args[j]? = some v → Value.okWide Try.prog W .any base t v := hval0
  have hW' := hW
  obtain ⟨p, q, hA0, hV, rfl, _, _⟩ := hW
  have hA : DataW.TrodAll enc Try.prog W 0 (fun _ => true) true Try.f6.params.toList args.toList ds p := hA0
  rw [Try.params6] at hA hval
  obtain ⟨v0, v1, d0, d1, p0, p1, rfl, rfl, rfl, h0, h1⟩ := trodAll_two hA
  obtain ⟨rfl, rfl⟩ := trodVars_none hV
  obtain ⟨w, n, rfl, rfl, _, _, b0⟩ := open_bv (hval 0 25 v0 rfl rfl) h0
  obtain ⟨v, m, rfl, rfl, _, _, b1⟩ := open_bv (hval 1 25 v1 rfl rfl) h1
  clear hA0 hval0
  simp only [List.append_nil] at hW'
  refine (fits_any w v n m W).mono fun e W' ⟨he, hg⟩ => ?_
  subst he
  exact ⟨_, rfl, post_new hW' (fun _ _ _ => trodAll_mk1 (shut_bool Try.underlying4 _)) (fun sp => trodAll_mk2 (b0 _ _ sp _) (b1 _ _ sp _)) (fun _ => rfl) hg⟩

theorem fits_holds : Rows.BvFitsSaid :=
  OpenClaim.holds_of_wide 6 Try.f6 rfl rfl rfl rfl rfl rfl rfl ⟨rfl, rfl, rfl, rfl, rfl⟩ rfl rfl rfl rfl rfl (by kernel_rfl) Try.func6 (by kernel_rfl)
    (of_decide_eq_true (by kernel_rfl)) (by unfold Func.isWrapper; rw [if_neg (of_decide_eq_false (by kernel_rfl))]; exact ⟨rfl, rfl⟩)
    (fun os started H enc _ => fits_lifted os started H enc)
end Bv
theorem bvFits_holds : Rows.BvFitsSaid := Bv.fits_holds
#print axioms bvFits_holds
end Go.Proofs.Ytiogadjjacbjlaa
