/-
  Of whatever operator and two vectors BvDoes returns true, and what was handed in reads as it did: what Unary, Binary, May and Worth answer is the reference's answer, or its error. No condition.
-/
import Derived.Test.YtiogadjjacbjlaaBvDoesA
import Derived.Test.YtiogadjjacbjlaaBvRbinB
import Derived.Test.YtiogadjjacbjlaaBvRbinC
import Derived.Test.YtiogadjjacbjlaaBvSg00
import Derived.Test.YtiogadjjacbjlaaBvSg01
import Derived.Test.YtiogadjjacbjlaaBvSg10
import Derived.Test.YtiogadjjacbjlaaBvSg11
import Derived.Test.YtiogadjjacbjlaaBvSgZ
import Derived.Test.YtiogadjjacbjlaaBvMathH
import Derived.Test.YtiogadjjacbjlaaBvRow
import Derived.JoinedOf
namespace Go.Proofs.Ytiogadjjacbjlaa
open Go.ChangeShapes Go.WideShapes Go.ChangeAt Go.RowKit Go.Joins
namespace Bv

theorem both_unary (o w n : Nat) (hn6 : n < 18446744073709551616) :
    ∃ (x y : Nat) (k : Int), (∀ W : World, Calls Try.prog 7 #[.int .u8 o, .agg #[.int .u8 w, .int .u64 n]] W fun e W' => e = .returned (.tuple #[.agg #[.int .u8 x, .int .u64 y], .int .i64 k]) ∧ Below W.heap.size W W') ∧
      (∀ W : World, Calls Try.prog 8 #[.int .u8 o, .agg #[.int .u8 w, .int .u64 n]] W fun e W' => e = .returned (.tuple #[.agg #[.int .u8 x, .int .u64 y], .int .i64 k]) ∧ Below W.heap.size W W') := by
  cases ha : mayB w n
  · exact ⟨0, 0, 2, unary_bad o w n (.inl ha), runary_b1 o w n hn6 (Lib.hid ha)⟩
  have HA := Lib.hid ha
  obtain ⟨hw1, hw2, hn⟩ := mayB_true ha
  by_cases h3 : o = 3
  · subst h3
    exact ⟨w, low w (numU 3 n), 0, unary_ok 3 w n (.inl rfl) ha, runary_3 w n hn6 HA hw2⟩
  by_cases h4 : o = 4
  · subst h4
    refine ⟨w, low w (numU 4 n), 0, unary_ok 4 w n (.inr rfl) ha, ?_⟩
    rw [lowU4 w n hw2]
    exact runary_4 w n hn6 HA hw2
  · exact ⟨0, 0, 2, unary_bad o w n (.inr ⟨h3, h4⟩), runary_b2 o w n hn6 HA (by simp; omega) (by simp; omega)⟩

theorem num21_eq {w v n m : Nat} (hr : w + v ≤ 64) (hn : n < 2 ^ w) (hm : m < 2 ^ v) : numB 21 w v n m = n * 2 ^ v + m := by
  have hl := pow_le64 hr
  have hlt := concat_lt hn hm
  show n * 2 ^ v % 18446744073709551616 ||| m = _
  rw [Nat.mod_eq_of_lt (by omega), or_join hm]

theorem sg_any (w n m : Nat) (h1 : 1 ≤ w) (h2 : w ≤ 64) (hn : n < 2 ^ w) (hm : m < 2 ^ w) (W : World) :
    Calls Try.prog 29 #[.agg #[.int .u8 w, .int .u64 n], .agg #[.int .u8 w, .int .u64 m]] W fun e W' => e = .returned (.tuple #[.agg #[.int .u8 w, .int .u64 (low w (numB 13 w w n m) : Nat)], .agg #[.int .u8 w, .int .u64 (low w (numB 14 w w n m) : Nat)]]) ∧ Below W.heap.size W W' := by
  have hn6 := Nat.lt_of_lt_of_le hn (pow_le64 h2)
  have hm6 := Nat.lt_of_lt_of_le hm (pow_le64 h2)
  by_cases h0 : m = 0
  · subst h0
    have h := rsigned_0 w n w h2 W
    rw [show low w (numB 14 w w n 0) = n from low_self hn]
    exact h
  have hb0 : ((m : Int) == 0) = false := by simp; omega
  have key := signed_is h1 h2 hn hm h0 _ _ rfl rfl
  have hp := pow_half h1
  have hl := pow_le64 h2
  have lt6 : ∀ z, low w z < 18446744073709551616 := fun z => Nat.lt_of_lt_of_le (low_lt w z) hl
  cases hs : decide (2 ^ (w - 1) ≤ n) <;> cases ht : decide (2 ^ (w - 1) ≤ m)
  all_goals
    have HS := Lib.hid (rsign_is h1 h2 hn hs)
    have HT := Lib.hid (rsign_is h1 h2 hm ht)
    rw [hs, ht] at key
    simp only [ab, Bool.false_eq_true, if_false, if_true, reduceCtorEq] at key
    rw [← key.1, ← key.2]
  · have h := rsigned_00 w n w m h2 h2 hn6 hm6 (by omega) hn6 hm6 hb0 HS HT W
    rw [dq_end, dr_end] at h
    exact h
  · have hy : 0 < low w (18446744073709551616 - m) := by rw [neg_low h1 h2 hm (of_decide_eq_true ht)]; omega
    have h := rsigned_01 w n w m h2 h2 hn6 hm6 hy hn6 (lt6 _) hb0 HS HT W
    rw [dq_end, dr_end] at h
    exact h
  · have h := rsigned_10 w n w m h2 h2 hn6 hm6 (by omega) (lt6 _) hm6 hb0 HS HT W
    rw [dq_end, dr_end] at h
    exact h
  · have hy : 0 < low w (18446744073709551616 - m) := by rw [neg_low h1 h2 hm (of_decide_eq_true ht)]; omega
    have h := rsigned_11 w n w m h2 h2 hn6 hm6 hy (lt6 _) (lt6 _) hb0 HS HT W
    rw [dq_end, dr_end] at h
    exact h

theorem wself {o w : Nat} (h1 : 5 ≤ o) (h2 : o ≤ 17) : widthB o w w = w := by unfold widthB; rw [if_pos ⟨h1, h2⟩, if_pos rfl]
theorem wone {o w : Nat} (h1 : 18 ≤ o) (h2 : o ≤ 20) : widthB o w w = 1 := by unfold widthB; rw [if_neg (by omega), if_pos ⟨h1, h2⟩, if_pos rfl]
theorem wcat {v w : Nat} (h : v + w ≤ 64) : widthB 21 v w = v + w := by unfold widthB; simp [h]
theorem wcat0 {v w : Nat} (h : ¬ v + w ≤ 64) : widthB 21 v w = 0 := by unfold widthB; simp [h]
theorem wne {o v w : Nat} (h : ¬ o = 21) (hvw : ¬ v = w) : widthB o v w = 0 := by unfold widthB; simp [h, hvw]
theorem wno {o v w : Nat} (h : o < 5 ∨ 21 < o) : widthB o v w = 0 := by
  unfold widthB; rw [if_neg (by omega), if_neg (by omega), if_neg (by omega)]
theorem low_one (b : Bool) : low 1 b.toNat = b.toNat := by cases b <;> rfl

theorem both_same (o w n m : Nat) (h5 : 5 ≤ o) (h20 : o ≤ 20) (ha : mayB w n = true) (hb : mayB w m = true) :
    ∃ (x y : Nat) (k : Int), (∀ W : World, Calls Try.prog 9 #[.int .u8 o, .agg #[.int .u8 w, .int .u64 n], .agg #[.int .u8 w, .int .u64 m]] W fun e W' => e = .returned (.tuple #[.agg #[.int .u8 x, .int .u64 y], .int .i64 k]) ∧ Below W.heap.size W W') ∧
      (∀ W : World, Calls Try.prog 10 #[.int .u8 o, .agg #[.int .u8 w, .int .u64 n], .agg #[.int .u8 w, .int .u64 m]] W fun e W' => e = .returned (.tuple #[.agg #[.int .u8 x, .int .u64 y], .int .i64 k]) ∧ Below W.heap.size W W') := by
  have HA := Lib.hid ha
  have HB := Lib.hid hb
  obtain ⟨hw1, hw2, hn⟩ := mayB_true ha
  obtain ⟨_, _, hm⟩ := mayB_true hb
  have hn6 := Nat.lt_of_lt_of_le hn (pow_le64 hw2)
  have hm6 := Nat.lt_of_lt_of_le hm (pow_le64 hw2)
  have d : ((w : Int) != (w : Int)) = false := by simp
  have w0 : ¬ w = 0 := by omega
  obtain rfl | rfl | rfl | rfl | rfl | rfl | rfl | rfl | rfl | rfl | rfl | rfl | rfl | rfl | rfl | rfl : o = 5 ∨ o = 6 ∨ o = 7 ∨ o = 8 ∨ o = 9 ∨ o = 10 ∨ o = 11 ∨ o = 12 ∨ o = 13 ∨ o = 14 ∨ o = 15 ∨ o = 16 ∨ o = 17 ∨ o = 18 ∨ o = 19 ∨ o = 20 := by omega
  · exact ⟨w, _, 0, bin_at 5 w w n m w _ ha hb (wself (by decide) (by decide)) rfl w0, rbin_5 w n w m hn6 hm6 HA HB d hw2⟩
  · exact ⟨w, _, 0, bin_at 6 w w n m w _ ha hb (wself (by decide) (by decide)) rfl w0, rbin_6 w n w m hn6 hm6 HA HB d hw2⟩
  · exact ⟨w, _, 0, bin_at 7 w w n m w _ ha hb (wself (by decide) (by decide)) rfl w0, rbin_7 w n w m hn6 hm6 HA HB d hw2⟩
  · exact ⟨w, _, 0, bin_at 8 w w n m w _ ha hb (wself (by decide) (by decide)) rfl w0, rbin_8 w n w m hn6 hm6 HA HB d hw2⟩
  · exact ⟨w, _, 0, bin_at 9 w w n m w _ ha hb (wself (by decide) (by decide)) rfl w0, rbin_9 w n w m hn6 hm6 HA HB d hw2⟩
  · refine ⟨w, _, 0, bin_at 10 w w n m w _ ha hb (wself (by decide) (by decide)) rfl w0, rbin_10 w n w m hn6 hm6 HA HB d _ (Lib.hid fun W => ?_)⟩
    have h := rtimes_any w n w m hw2 hm6 W
    rw [tm_end hm hw2, ← low10 w w n m hw2] at h
    exact h
  · by_cases h0 : m = 0
    · subst h0
      refine ⟨w, low w 18446744073709551615, 0, bin_at 11 w w n 0 w _ ha hb (wself (by decide) (by decide)) rfl w0, ?_⟩
      exact rbin_11_0 w n w 0 hn6 hm6 HA HB d hw2 (by simp)
    · refine ⟨w, low w (numB 11 w w n m), 0, bin_at 11 w w n m w _ ha hb (wself (by decide) (by decide)) rfl w0, ?_⟩
      have h := rbin_11_1 w n w m hn6 hm6 HA HB d hw2 (by omega) (by simp; omega)
      rw [dq_end, ← num11_eq (w := w) (v := w) h0] at h
      exact h
  · by_cases h0 : m = 0
    · subst h0
      refine ⟨w, n, 0, bin_at 12 w w n 0 w _ ha hb (wself (by decide) (by decide)) (low_self hn) w0, ?_⟩
      exact rbin_12_0 w n w 0 hn6 hm6 HA HB d (by simp)
    · refine ⟨w, low w (numB 12 w w n m), 0, bin_at 12 w w n m w _ ha hb (wself (by decide) (by decide)) rfl w0, ?_⟩
      have h := rbin_12_1 w n w m hn6 hm6 HA HB d hw2 (by omega) (by simp; omega)
      rw [dr_end, ← num12_eq (w := w) (v := w) h0] at h
      exact h
  · exact ⟨w, _, 0, bin_at 13 w w n m w _ ha hb (wself (by decide) (by decide)) rfl w0, rbin_13 w n w m hn6 hm6 HA HB d _ _ (Lib.hid (sg_any w n m hw1 hw2 hn hm))⟩
  · exact ⟨w, _, 0, bin_at 14 w w n m w _ ha hb (wself (by decide) (by decide)) rfl w0, rbin_14 w n w m hn6 hm6 HA HB d _ _ (Lib.hid (sg_any w n m hw1 hw2 hn hm))⟩
  · refine ⟨w, _, 0, bin_at 15 w w n m w _ ha hb (wself (by decide) (by decide)) rfl w0, rbin_15 w n w m hn6 hm6 HA HB d _ (Lib.hid fun W => ?_)⟩
    have h := rshift_15 w n w m (low w (numB 15 w w n m)) hw2 hn6 hm6 (Lib.hid fun k hk => shl_bits hw2 hk) W
    rw [sh_end (low_lt w _), low_low] at h
    exact h
  · refine ⟨w, _, 0, bin_at 16 w w n m w _ ha hb (wself (by decide) (by decide)) rfl w0, rbin_16 w n w m hn6 hm6 HA HB d _ (Lib.hid fun W => ?_)⟩
    have h := rshift_16 w n w m (low w (numB 16 w w n m)) hw2 hn6 hm6 (Lib.hid fun k hk => lshr_bits hw2 hn hk) W
    rw [sh_end (low_lt w _), low_low] at h
    exact h
  · refine ⟨w, _, 0, bin_at 17 w w n m w _ ha hb (wself (by decide) (by decide)) rfl w0, rbin_17 w n w m hn6 hm6 HA HB d _ (Lib.hid fun W => ?_)⟩
    have h := rshift_17 w n w m (low w (numB 17 w w n m)) hw2 hn6 hm6 (decide (2 ^ (w - 1) ≤ n)) (Lib.hid (rsign_any w n hw1 hw2 hn)) (Lib.hid fun k hk => ashr_bits hw1 hw2 hn hk) W
    rw [sh_end (low_lt w _), low_low] at h
    exact h
  · refine ⟨1, (n == m).toNat, 0, bin_at 18 w w n m 1 _ ha hb (wone (by decide) (by decide)) (low_one _) (by decide), ?_⟩
    have h := rbin_18 w n w m hn6 hm6 HA HB d
    rw [show ((n : Int) == (m : Int)) = (n == m) from Bool.eq_iff_iff.2 (by simp [Int.ofNat_inj])] at h
    exact h
  · refine ⟨1, (decide (n < m)).toNat, 0, bin_at 19 w w n m 1 _ ha hb (wone (by decide) (by decide)) (low_one _) (by decide), ?_⟩
    have h := rbin_19 w n w m hn6 hm6 HA HB d
    rw [show decide ((n : Int) < (m : Int)) = decide (n < m) by simp] at h
    exact h
  · refine ⟨1, _, 0, bin_at 20 w w n m 1 _ ha hb (wone (by decide) (by decide)) (low_one (decide (n ^^^ 2 ^ (w - 1) < m ^^^ 2 ^ (w - 1)))) (by decide), ?_⟩
    rw [slt_is hw1 hn hm]
    exact rbin_20 w n w m hn6 hm6 HA HB d _ (Lib.hid (rless_any w n w m _ _ (Lib.hid (rsign_any w n hw1 hw2 hn)) (Lib.hid (rsign_any w m hw1 hw2 hm))))

theorem both_binary (o w n v m : Nat) (hn6 : n < 18446744073709551616) (hm6 : m < 18446744073709551616) :
    ∃ (x y : Nat) (k : Int), (∀ W : World, Calls Try.prog 9 #[.int .u8 o, .agg #[.int .u8 w, .int .u64 n], .agg #[.int .u8 v, .int .u64 m]] W fun e W' => e = .returned (.tuple #[.agg #[.int .u8 x, .int .u64 y], .int .i64 k]) ∧ Below W.heap.size W W') ∧
      (∀ W : World, Calls Try.prog 10 #[.int .u8 o, .agg #[.int .u8 w, .int .u64 n], .agg #[.int .u8 v, .int .u64 m]] W fun e W' => e = .returned (.tuple #[.agg #[.int .u8 x, .int .u64 y], .int .i64 k]) ∧ Below W.heap.size W W') := by
  cases ha : mayB w n
  · exact ⟨0, 0, 2, binary_bad o w v n m (.inl ha), rbin_b1 o w n v m hn6 (Lib.hid ha)⟩
  cases hb : mayB v m
  · exact ⟨0, 0, 2, binary_bad o w v n m (.inr (.inl hb)), rbin_b2 o w n v m hn6 hm6 (Lib.hid ha) (Lib.hid hb)⟩
  have HA := Lib.hid ha
  have HB := Lib.hid hb
  obtain ⟨hw1, hw2, hn⟩ := mayB_true ha
  obtain ⟨hv1, hv2, hm⟩ := mayB_true hb
  by_cases ho : o = 21
  · subst ho
    by_cases hr : w + v ≤ 64
    · refine ⟨w + v, n * 2 ^ v + m, 0, bin_at 21 w v n m (w + v) (n * 2 ^ v + m) ha hb (wcat hr) (concat_is hr hn hm) (by omega), ?_⟩
      have h := rbin_21 w n v m hn6 hm6 HA HB hw2 hv2 hr
      rw [num21_eq hr hn hm, ← Int.natCast_add] at h
      exact h
    · exact ⟨0, 0, 2, binary_bad 21 w v n m (.inr (.inr (wcat0 hr))), rbin_b3 w n v m hn6 hm6 HA HB hw2 hv2 (by omega)⟩
  by_cases hwv : w = v
  · subst hwv
    by_cases h5 : o < 5
    · exact ⟨0, 0, 2, binary_bad o w w n m (.inr (.inr (wno (.inl h5)))), rbin_b5 o w n w m hn6 hm6 HA HB (by simp) h5⟩
    by_cases h21 : 21 < o
    · exact ⟨0, 0, 2, binary_bad o w w n m (.inr (.inr (wno (.inr h21)))), rbin_b6 o w n w m hn6 hm6 HA HB (by simp) h21⟩
    exact both_same o w n m (by omega) (by omega) ha hb
  · exact ⟨0, 0, 2, binary_bad o w v n m (.inr (.inr (wne ho hwv))), rbin_b4 o w n v m hn6 hm6 HA HB (by simp; omega) (by simp; omega)⟩

theorem does_any (o w n v m : Nat) (hn6 : n < 18446744073709551616) (hm6 : m < 18446744073709551616) (W : World) :
    Calls Try.prog 3 #[.int .u8 o, .agg #[.int .u8 w, .int .u64 n], .agg #[.int .u8 v, .int .u64 m]] W fun e W' => e = .returned (.bool true) ∧ Below W.heap.size W W' := by
  obtain ⟨x1, y1, k1, a1, b1⟩ := both_unary o w n hn6
  obtain ⟨x2, y2, k2, a2, b2⟩ := both_binary o w n v m hn6 hm6
  exact does_ok o w n v m x1 y1 x2 y2 k1 k2 _ _ (Lib.hid a1) (Lib.hid b1) (Lib.hid a2) (Lib.hid b2) (Lib.hid (may_any w n)) (Lib.hid (rmay_any w n hn6)) (Lib.hid (bworth_any w n)) (Lib.hid (rworth_any w n hn6)) W

set_option maxRecDepth 100000 in
theorem does_lifted (os : Os) (started : os.Started) (H : Type) (enc : TypeId × Value → H) :
    ReturnsInHanded {} Try.checked os 3 .any (Rows.bvDoesSpec.pre6 enc Try.prog Try.f3 Rows.bvDoesRow.domain false) (Rows.bvDoesSpec.post enc Try.prog Try.f3 false true false false) := by
  refine returnsInHanded_of_change (C := Try.checked) own started (by kernel_rfl) Try.func3
    (ChangeSpec.witness6 (enc := enc) (C := Try.checked) false ⟨#[], #[.int .u8 0, .agg #[.int .u8 0, .int .u64 0], .agg #[.int .u8 0, .int .u64 0]], []⟩ 8 (by kernel_rfl) (by kernel_rfl) (by kernel_rfl) (by kernel_rfl)) ?_
  intro W base args ds gs before hval0 hW _ _
  have hval : ∀ (j : Nat) t v, Try.f3.params[j]? = some t → args[j]? = some v → Value.okWide Try.prog W .any base t v := hval0
  have hW' := hW
  obtain ⟨p, q, hA0, hV, rfl, _, _⟩ := hW
  have hA : DataW.TrodAll enc Try.prog W 0 (fun _ => true) true Try.f3.params.toList args.toList ds p := hA0
  rw [Try.params3] at hA hval
  obtain ⟨v0, v1, v2, d0, d1, d2, p0, p1, p2, rfl, rfl, rfl, h0, h1, h2⟩ := trodAll_three hA
  obtain ⟨rfl, rfl⟩ := trodVars_none hV
  obtain ⟨o, rfl, rfl, rfl, wo⟩ := open_int Try.underlying22 (hval 0 22 v0 rfl rfl) h0
  obtain ⟨w, n, rfl, rfl, _, hn6, b1⟩ := open_bv (hval 1 25 v1 rfl rfl) h1
  obtain ⟨v, m, rfl, rfl, _, hm6, b2⟩ := open_bv (hval 2 25 v2 rfl rfl) h2
  obtain ⟨k, rfl⟩ := Int.eq_ofNat_of_zero_le (a := o) (by
    have h := wo
    simp only [Lit.wf, IntKind.min, IntKind.max, IntKind.signed, IntKind.bits, Bool.and_eq_true] at h
    simpa using h.1)
  clear hA0 hval0
  simp only [List.append_nil] at hW'
  refine (does_any k w n v m hn6 hm6 W).mono fun e W' ⟨he, hg⟩ => ?_
  subst he
  exact ⟨_, rfl, post_new hW' (fun _ _ _ => trodAll_mk1 (shut_bool Try.underlying4 _)) (fun sp => trodAll_mk3 (shut_int Try.underlying22 wo) (b1 _ _ sp _) (b2 _ _ sp _)) (fun _ => rfl) hg⟩

theorem does_holds : Rows.BvDoesSaid :=
  OpenClaim.holds_of_wide 3 Try.f3 rfl rfl rfl rfl rfl rfl rfl ⟨rfl, rfl, rfl, rfl, rfl⟩ rfl rfl rfl rfl rfl (by kernel_rfl) Try.func3 (by kernel_rfl)
    (of_decide_eq_true (by kernel_rfl)) (by unfold Func.isWrapper; rw [if_neg (of_decide_eq_false (by kernel_rfl))]; exact ⟨rfl, rfl⟩)
    (fun os started H enc _ => does_lifted os started H enc)
end Bv
theorem bvDoes_holds : Rows.BvDoesSaid := Bv.does_holds
#print axioms bvDoes_holds
end Go.Proofs.Ytiogadjjacbjlaa
