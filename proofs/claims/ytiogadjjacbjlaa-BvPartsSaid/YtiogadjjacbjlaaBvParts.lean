/-
  Of whatever operator, three vectors and two numbers BvParts returns true, and what was handed in reads as it did: parts, wider ones and choices are the reference's, or its error. No condition.
-/
import Derived.Test.YtiogadjjacbjlaaBvPartsA
import Derived.Test.YtiogadjjacbjlaaBvRefuse
import Derived.Test.YtiogadjjacbjlaaBvRefB
import Derived.Test.YtiogadjjacbjlaaBvRow
import Derived.JoinedOf
namespace Go.Proofs.Ytiogadjjacbjlaa
open Go.ChangeShapes Go.WideShapes Go.ChangeAt Go.RowKit Go.Joins
namespace Bv

theorem both_extract (w n : Nat) (l r : Int) (hn6 : n < 18446744073709551616) (hr1 : r < 9223372036854775808) :
    ∃ (x y : Nat) (k : Int), (∀ W : World, Calls Try.prog 16 #[.agg #[.int .u8 w, .int .u64 n], .int .i64 l, .int .i64 r] W fun e W' => e = .returned (.tuple #[.agg #[.int .u8 (x : Nat), .int .u64 (y : Nat)], .int .i64 k]) ∧ Below W.heap.size W W') ∧
      (∀ W : World, Calls Try.prog 17 #[.agg #[.int .u8 w, .int .u64 n], .int .i64 l, .int .i64 r] W fun e W' => e = .returned (.tuple #[.agg #[.int .u8 (x : Nat), .int .u64 (y : Nat)], .int .i64 k]) ∧ Below W.heap.size W W') := by
  cases ha : mayB w n
  · exact ⟨0, 0, 2, extract_b1 w n l r (Lib.hid ha), rextract_b1 w n l r hn6 (Lib.hid ha)⟩
  have HA := Lib.hid ha
  obtain ⟨hw1, hw2, hn⟩ := mayB_true ha
  by_cases h0 : l < 0
  · exact ⟨0, 0, 2, extract_b2 w n l r HA h0, rextract_b2 w n l r hn6 HA h0⟩
  by_cases h1 : r < 1
  · exact ⟨0, 0, 2, extract_b3 w n l r HA (by omega) h1, rextract_b3 w n l r hn6 HA (by omega) h1⟩
  by_cases h2 : (w : Int) - r < l
  · have c := extract_b4 w n l r HA hw2 (by omega) (by omega) hr1 h2
    by_cases h3 : 64 < r
    · exact ⟨0, 0, 2, c, rextract_b4 w n l r hn6 HA (by omega) (by omega) h3⟩
    by_cases h4 : 64 < l
    · exact ⟨0, 0, 2, c, rextract_b5 w n l r hn6 HA (by omega) (by omega) (by omega) h4⟩
    · exact ⟨0, 0, 2, c, rextract_b6 w n l r hn6 HA hw2 (by omega) (by omega) (by omega) (by omega) (by omega)⟩
  · obtain ⟨i, rfl⟩ := Int.eq_ofNat_of_zero_le (a := l) (by omega)
    obtain ⟨j, rfl⟩ := Int.eq_ofNat_of_zero_le (a := r) (by omega)
    exact ⟨j, low j (n / 2 ^ i), 0, extract_ok w n i j ha (by omega) (by omega), rextract_ok w n i j hn6 HA hw2 (by omega) (by omega)⟩

theorem both_extend (o w n : Nat) (r : Int) (hn6 : n < 18446744073709551616) :
    ∃ (x y : Nat) (k : Int), (∀ W : World, Calls Try.prog 18 #[.int .u8 o, .agg #[.int .u8 w, .int .u64 n], .int .i64 r] W fun e W' => e = .returned (.tuple #[.agg #[.int .u8 (x : Nat), .int .u64 (y : Nat)], .int .i64 k]) ∧ Below W.heap.size W W') ∧
      (∀ W : World, Calls Try.prog 19 #[.int .u8 o, .agg #[.int .u8 w, .int .u64 n], .int .i64 r] W fun e W' => e = .returned (.tuple #[.agg #[.int .u8 (x : Nat), .int .u64 (y : Nat)], .int .i64 k]) ∧ Below W.heap.size W W') := by
  cases ha : mayB w n
  · exact ⟨0, 0, 2, extend_b1 o w n r (Lib.hid ha), rextend_b1 o w n r hn6 (Lib.hid ha)⟩
  have HA := Lib.hid ha
  obtain ⟨hw1, hw2, hn⟩ := mayB_true ha
  by_cases ho : o = 23 ∨ o = 24
  · by_cases h2 : r < (w : Int)
    · refine ⟨0, 0, 2, extend_b2 o w n r HA hw2 h2, ?_⟩
      rcases ho with rfl | rfl
      · exact rextend_23_b3 w n r hn6 HA hw2 h2
      · exact rextend_24_b3 w n r hn6 HA hw2 h2
    by_cases h3 : 64 < r
    · refine ⟨0, 0, 2, extend_b3 o w n r HA hw2 (by omega) h3, ?_⟩
      rcases ho with rfl | rfl
      · exact rextend_23_b4 w n r hn6 HA hw2 (by omega) h3
      · exact rextend_24_b4 w n r hn6 HA hw2 (by omega) h3
    obtain ⟨j, rfl⟩ := Int.eq_ofNat_of_zero_le (a := r) (by omega)
    refine ⟨j, low j (numE o w n), 0, extend_ok o w n j ho ha (by omega) (by omega), ?_⟩
    rcases ho with rfl | rfl
    · exact rextend_23_ok w n j hn6 HA hw2 (by omega) (by omega)
    · exact rextend_24_ok w n j hn6 HA hw2 (by omega) (by omega)
  · have c := rextend_b2 o w n r hn6 HA (by simp; omega) (by simp; omega)
    by_cases h2 : r < (w : Int)
    · exact ⟨0, 0, 2, extend_b2 o w n r HA hw2 h2, c⟩
    by_cases h3 : 64 < r
    · exact ⟨0, 0, 2, extend_b3 o w n r HA hw2 (by omega) h3, c⟩
    · exact ⟨0, 0, 2, extend_b4 o w n r HA hw2 (by omega) (by omega) (by simp; omega) (by simp; omega), c⟩

theorem both_ite (cw cn w n v m : Nat) (hc6 : cn < 18446744073709551616) (hn6 : n < 18446744073709551616) (hm6 : m < 18446744073709551616) :
    ∃ (x y : Nat) (k : Int), (∀ W : World, Calls Try.prog 20 #[.agg #[.int .u8 cw, .int .u64 cn], .agg #[.int .u8 w, .int .u64 n], .agg #[.int .u8 v, .int .u64 m]] W fun e W' => e = .returned (.tuple #[.agg #[.int .u8 (x : Nat), .int .u64 (y : Nat)], .int .i64 k]) ∧ Below W.heap.size W W') ∧
      (∀ W : World, Calls Try.prog 21 #[.agg #[.int .u8 cw, .int .u64 cn], .agg #[.int .u8 w, .int .u64 n], .agg #[.int .u8 v, .int .u64 m]] W fun e W' => e = .returned (.tuple #[.agg #[.int .u8 (x : Nat), .int .u64 (y : Nat)], .int .i64 k]) ∧ Below W.heap.size W W') := by
  cases hc : mayB cw cn
  · exact ⟨0, 0, 2, ite_b1 cw cn w n v m (Lib.hid hc), rite_b1 cw cn w n v m hc6 (Lib.hid hc)⟩
  cases ha : mayB w n
  · exact ⟨0, 0, 2, ite_b2 cw cn w n v m (Lib.hid hc) (Lib.hid ha), rite_b2 cw cn w n v m hc6 hn6 (Lib.hid hc) (Lib.hid ha)⟩
  cases hb : mayB v m
  · exact ⟨0, 0, 2, ite_b3 cw cn w n v m (Lib.hid hc) (Lib.hid ha) (Lib.hid hb), rite_b3 cw cn w n v m hc6 hn6 hm6 (Lib.hid hc) (Lib.hid ha) (Lib.hid hb)⟩
  have HC := Lib.hid hc
  have HA := Lib.hid ha
  have HB := Lib.hid hb
  cases h1 : ((cw : Int) != 1)
  · cases h2 : ((w : Int) != (v : Int))
    · cases h3 : ((cn : Int) == 1)
      · exact ⟨v, m, 0, ite_b cw cn w n v m HC HA HB h1 h2 h3, rite_b cw cn w n v m hc6 hn6 hm6 HC HA HB h1 h2 h3⟩
      · exact ⟨w, n, 0, ite_a cw cn w n v m HC HA HB h1 h2 h3, rite_a cw cn w n v m hc6 hn6 hm6 HC HA HB h1 h2 h3⟩
    · exact ⟨0, 0, 2, ite_b5 cw cn w n v m HC HA HB h1 h2, rite_b5 cw cn w n v m hc6 hn6 hm6 HC HA HB h1 h2⟩
  · exact ⟨0, 0, 2, ite_b4 cw cn w n v m HC HA HB h1, rite_b4 cw cn w n v m hc6 hn6 hm6 HC HA HB h1⟩

theorem parts_any (o w n v m cw cn : Nat) (l r : Int) (hn6 : n < 18446744073709551616) (hm6 : m < 18446744073709551616) (hc6 : cn < 18446744073709551616) (hr1 : r < 9223372036854775808) (W : World) :
    Calls Try.prog 4 #[.int .u8 o, .agg #[.int .u8 w, .int .u64 n], .agg #[.int .u8 v, .int .u64 m], .agg #[.int .u8 cw, .int .u64 cn], .int .i64 l, .int .i64 r] W fun e W' => e = .returned (.bool true) ∧ Below W.heap.size W W' := by
  obtain ⟨x1, y1, k1, a1, b1⟩ := both_extract w n l r hn6 hr1
  obtain ⟨x2, y2, k2, a2, b2⟩ := both_extend o w n r hn6
  obtain ⟨x3, y3, k3, a3, b3⟩ := both_ite cw cn w n v m hc6 hn6 hm6
  exact parts_ok o w n v m cw cn x1 y1 x2 y2 x3 y3 l r k1 k2 k3 (Lib.hid a1) (Lib.hid b1) (Lib.hid a2) (Lib.hid b2) (Lib.hid a3) (Lib.hid b3) W

set_option maxRecDepth 100000 in
theorem parts_lifted (os : Os) (started : os.Started) (H : Type) (enc : TypeId × Value → H) :
    ReturnsInHanded {} Try.checked os 4 .any (Rows.bvPartsSpec.pre6 enc Try.prog Try.f4 Rows.bvPartsRow.domain false) (Rows.bvPartsSpec.post enc Try.prog Try.f4 false true false false) := by
  refine returnsInHanded_of_change (C := Try.checked) own started (by kernel_rfl) Try.func4
    (ChangeSpec.witness6 (enc := enc) (C := Try.checked) false ⟨#[], #[.int .u8 0, .agg #[.int .u8 0, .int .u64 0], .agg #[.int .u8 0, .int .u64 0], .agg #[.int .u8 0, .int .u64 0], .int .i64 0, .int .i64 0], []⟩ 8 (by kernel_rfl) (by kernel_rfl) (by kernel_rfl) (by kernel_rfl)) ?_
  intro W base args ds gs before hval0 hW _ _
  have hval : ∀ (j : Nat) t v, Try.f4.params[j]? = some t → args[j]? = some v → Value.okWide Try.prog W .any base t v := hval0
  have hW' := hW
  obtain ⟨p, q, hA0, hV, rfl, _, _⟩ := hW
  have hA : DataW.TrodAll enc Try.prog W 0 (fun _ => true) true Try.f4.params.toList args.toList ds p := hA0
  rw [Try.params4] at hA hval
  obtain ⟨v0, vs0, d0, ds0, p0, q0, hargs, rfl, rfl, h0, r0⟩ := trodAll_cons hA
  obtain ⟨v1, vs1, d1, ds1, p1, q1, rfl, rfl, rfl, h1, r1⟩ := trodAll_cons r0
  obtain ⟨v2, vs2, d2, ds2, p2, q2, rfl, rfl, rfl, h2, r2⟩ := trodAll_cons r1
  obtain ⟨v3, vs3, d3, ds3, p3, q3, rfl, rfl, rfl, h3, r3⟩ := trodAll_cons r2
  obtain ⟨v4, vs4, d4, ds4, p4, q4, rfl, rfl, rfl, h4, r4⟩ := trodAll_cons r3
  obtain ⟨v5, vs5, d5, ds5, p5, q5, rfl, rfl, rfl, h5, r5⟩ := trodAll_cons r4
  obtain ⟨rfl, rfl, rfl⟩ := trodAll_nil r5
  obtain rfl : args = #[v0, v1, v2, v3, v4, v5] := by cases args; simp_all
  obtain ⟨rfl, rfl⟩ := trodVars_none hV
  obtain ⟨o, rfl, rfl, rfl, wo⟩ := open_int Try.underlying22 (hval 0 22 v0 rfl rfl) h0
  obtain ⟨w, n, rfl, rfl, _, hn6, b1⟩ := open_bv (hval 1 25 v1 rfl rfl) h1
  obtain ⟨v, m, rfl, rfl, _, hm6, b2⟩ := open_bv (hval 2 25 v2 rfl rfl) h2
  obtain ⟨cw, cn, rfl, rfl, _, hc6, b3⟩ := open_bv (hval 3 25 v3 rfl rfl) h3
  obtain ⟨l, rfl, rfl, rfl, wl⟩ := open_int Try.underlying3 (hval 4 3 v4 rfl rfl) h4
  obtain ⟨r, rfl, rfl, rfl, wr⟩ := open_int Try.underlying3 (hval 5 3 v5 rfl rfl) h5
  have hr1 : r < 9223372036854775808 := by
    have h := wr
    simp only [Lit.wf, IntKind.min, IntKind.max, IntKind.signed, IntKind.bits, Bool.and_eq_true] at h
    have := h.2; simp at this; omega
  obtain ⟨k, rfl⟩ := Int.eq_ofNat_of_zero_le (a := o) (by
    have h := wo
    simp only [Lit.wf, IntKind.min, IntKind.max, IntKind.signed, IntKind.bits, Bool.and_eq_true] at h
    simpa using h.1)
  clear hA0 hval0
  simp only [List.append_nil] at hW'
  refine (parts_any k w n v m cw cn l r hn6 hm6 hc6 hr1 W).mono fun e W' ⟨he, hg⟩ => ?_
  subst he
  exact ⟨_, rfl, post_new hW' (fun _ _ _ => trodAll_mk1 (shut_bool Try.underlying4 _)) (fun sp => trodAll_cons_mk (shut_int Try.underlying22 wo) (trodAll_cons_mk (b1 _ _ sp _) (trodAll_cons_mk (b2 _ _ sp _) (trodAll_cons_mk (b3 _ _ sp _) (trodAll_cons_mk (shut_int Try.underlying3 wl) (trodAll_cons_mk (shut_int Try.underlying3 wr) trodAll_mk0)))))) (fun _ => rfl) hg⟩

theorem parts_holds : Rows.BvPartsSaid :=
  OpenClaim.holds_of_wide 4 Try.f4 rfl rfl rfl rfl rfl rfl rfl ⟨rfl, rfl, rfl, rfl, rfl⟩ rfl rfl rfl rfl rfl (by kernel_rfl) Try.func4 (by kernel_rfl)
    (of_decide_eq_true (by kernel_rfl)) (by unfold Func.isWrapper; rw [if_neg (of_decide_eq_false (by kernel_rfl))]; exact ⟨rfl, rfl⟩)
    (fun os started H enc _ => parts_lifted os started H enc)
end Bv
theorem bvParts_holds : Rows.BvPartsSaid := Bv.parts_holds
#print axioms bvParts_holds
end Go.Proofs.Ytiogadjjacbjlaa
