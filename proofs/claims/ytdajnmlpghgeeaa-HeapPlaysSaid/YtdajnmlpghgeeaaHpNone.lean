/-
  The program's heap where it is none; the laws HeapNil and HeapAbove, walked.
-/
import Derived.Test.YtdajnmlpghgeeaaHpLives
namespace Go.Proofs.Ytdajnmlpghgeeaa
open Go.RowKit
namespace Hp
set_option maxHeartbeats 1600000
set_option maxRecDepth 100000

/-- No heap, or a zero one. -/
def NoneAt (w : World) (v : Value) : Prop := v = .pointer none ∨ ∃ p, v = .pointer (some ⟨p, 0, none⟩) ∧ w.cell? ⟨p, 1, none⟩ = some (.slice none 0 0)
theorem isnone_of {W : World} {v : Value} (h : NoneAt W v) : Calls Try.prog 29 #[v] W fun e w => e = .returned (.bool true) ∧ w = W := by
  rcases h with rfl | ⟨p, rfl, h⟩
  · exact isnone_nil W
  · exact isnone_zero h
theorem none_var {W : World} {v : Value} (h : NoneAt W v) (i : Int) : Calls Try.prog 30 #[v, .int .i64 i] W fun e w => e = .returned (.bool false) ∧ w = W := by
  have HN := Lib.hid (isnone_of h)
  clear h
  go_enter Try.func30, Try.ntmps30
  go_wp2_with fail
  refine HN.out.mono ?_
  rintro e W ⟨rfl, rfl⟩
  go_wp2_with fail
  go_ret
  exact ⟨rfl, rfl⟩
theorem none_bump {W : World} {v : Value} (h : NoneAt W v) (i : Int) (y : Nat) : Calls Try.prog 18 #[v, .int .i64 i, .float .f64 y] W fun e w => e = .returned (.int .i64 1) ∧ w = W := by
  have HN := Lib.hid (isnone_of h)
  clear h
  go_enter Try.func18, Try.ntmps18
  go_wp2_with fail
  refine HN.out.mono ?_
  rintro e W ⟨rfl, rfl⟩
  go_wp2_with fail
  go_ret
  exact ⟨rfl, rfl⟩
theorem none_scale {W : World} {v : Value} (h : NoneAt W v) (y : Nat) : Calls Try.prog 19 #[v, .float .f64 y] W fun e w => e = .returned (.int .i64 1) ∧ w = W := by
  have HN := Lib.hid (isnone_of h)
  clear h
  go_enter Try.func19, Try.ntmps19
  go_wp2_with fail
  refine HN.out.mono ?_
  rintro e W ⟨rfl, rfl⟩
  go_wp2_with fail
  go_ret
  exact ⟨rfl, rfl⟩
theorem none_pop {W : World} {v : Value} (h : NoneAt W v) : Calls Try.prog 20 #[v] W fun e w => e = .returned (.tuple #[.int .i64 0, .int .i64 1]) ∧ w = W := by
  have HN := Lib.hid (isnone_of h)
  clear h
  go_enter Try.func20, Try.ntmps20
  go_wp2_with fail
  refine HN.out.mono ?_
  rintro e W ⟨rfl, rfl⟩
  go_wp2_with fail
  go_ret2
  exact ⟨rfl, rfl⟩
theorem none_put {W : World} {v : Value} (h : NoneAt W v) (i : Int) : Calls Try.prog 21 #[v, .int .i64 i] W fun e w => e = .returned (.int .i64 1) ∧ w = W := by
  have HN := Lib.hid (isnone_of h)
  clear h
  go_enter Try.func21, Try.ntmps21
  go_wp2_with fail
  refine HN.out.mono ?_
  rintro e W ⟨rfl, rfl⟩
  go_wp2_with fail
  go_ret
  exact ⟨rfl, rfl⟩
theorem none_has {W : World} {v : Value} (h : NoneAt W v) (i : Int) : Calls Try.prog 13 #[v, .int .i64 i] W fun e w => e = .returned (.bool false) ∧ w = W := by
  have HN := Lib.hid (none_var h i)
  clear h
  go_enter Try.func13, Try.ntmps13
  go_wp2_with fail
  refine HN.out.mono ?_
  rintro e W ⟨rfl, rfl⟩
  go_wp2_with fail
  go_ret
  exact ⟨rfl, rfl⟩
theorem none_score {W : World} {v : Value} (h : NoneAt W v) (i : Int) : Calls Try.prog 16 #[v, .int .i64 i] W fun e w => e = .returned (.float .f64 0) ∧ w = W := by
  have HN := Lib.hid (none_var h i)
  clear h
  go_enter Try.func16, Try.ntmps16
  go_wp2_with fail
  refine HN.out.mono ?_
  rintro e W ⟨rfl, rfl⟩
  go_wp2_with fail
  go_ret
  exact ⟨rfl, rfl⟩
theorem none_len {W : World} {v : Value} (h : NoneAt W v) : Calls Try.prog 11 #[v] W fun e w => e = .returned (.int .i64 0) ∧ w = W := by
  have HN := Lib.hid (isnone_of h)
  clear h
  go_enter Try.func11, Try.ntmps11
  go_wp2_with fail
  refine HN.out.mono ?_
  rintro e W ⟨rfl, rfl⟩
  go_wp2_with fail
  go_ret
  exact ⟨rfl, rfl⟩
theorem nil_false (v : Int) (y : Nat) (W : World) : Calls Try.prog 6 #[.int .i64 v, .float .f64 y, .bool false] W fun e w => e = .returned (.bool true) ∧ Below W.heap.size W w := by
  have HN : Hid (NoneAt W (.pointer none)) := Lib.hid (.inl rfl)
  have hz : (FloatKind.f64.format.order 0 0 == some .eq) = true := by decide +kernel
  go_enter Try.func6, Try.ntmps6
  go_wp2_with fail
  refine (none_pop HN.out).mono ?_
  rintro e W ⟨rfl, rfl⟩
  go_wp2_with fail
  refine (new_no (.inl (by omega)) _).mono ?_
  rintro e W ⟨rfl, rfl⟩
  go_wp2_with fail
  refine (new_no (.inr (by omega)) _).mono ?_
  rintro e W ⟨rfl, rfl⟩
  go_wp2_with fail
  refine (none_bump HN.out _ _).mono ?_
  rintro e W ⟨rfl, rfl⟩
  go_wp2_with fail
  refine (none_scale HN.out _).mono ?_
  rintro e W ⟨rfl, rfl⟩
  go_wp2_with fail
  refine (none_put HN.out _).mono ?_
  rintro e W ⟨rfl, rfl⟩
  go_wp2_with fail
  refine (none_has HN.out _).mono ?_
  rintro e W ⟨rfl, rfl⟩
  go_wp2_with fail
  refine (none_score HN.out _).mono ?_
  rintro e W ⟨rfl, rfl⟩
  go_wp2_with fail
  refine (none_len HN.out).mono ?_
  rintro e W ⟨rfl, rfl⟩
  go_wp2_with fail
  refine (lives_any _).mono ?_
  rintro e w ⟨rfl, hb⟩
  go_wp2_with fail
  go_ret
  exact ⟨rfl, hb⟩
theorem nil_true (v : Int) (y : Nat) (W : World) : Calls Try.prog 6 #[.int .i64 v, .float .f64 y, .bool true] W fun e w => e = .returned (.bool true) ∧ Below W.heap.size W w := by
  have hz : (FloatKind.f64.format.order 0 0 == some .eq) = true := by decide +kernel
  go_enter Try.func6, Try.ntmps6
  go_wp2_with fail
  have HN : Hid (NoneAt (W.alloc (.cells #[.slice none 0 0, .slice none 0 0, .slice none 0 0] 49)) (.pointer (some ⟨W.heap.size, 0, none⟩))) := Lib.hid (.inr ⟨_, rfl, by simp⟩)
  have HB : Hid (Below W.heap.size W (W.alloc (.cells #[.slice none 0 0, .slice none 0 0, .slice none 0 0] 49))) := Lib.hid ((Below.refl _ _).alloc (Nat.le_refl _) _)
  generalize W.alloc (.cells #[.slice none 0 0, .slice none 0 0, .slice none 0 0] 49) = U at *
  refine (none_pop HN.out).mono ?_
  rintro e U ⟨rfl, rfl⟩
  go_wp2_with fail
  refine (new_no (.inl (by omega)) _).mono ?_
  rintro e U ⟨rfl, rfl⟩
  go_wp2_with fail
  refine (new_no (.inr (by omega)) _).mono ?_
  rintro e U ⟨rfl, rfl⟩
  go_wp2_with fail
  refine (none_bump HN.out _ _).mono ?_
  rintro e U ⟨rfl, rfl⟩
  go_wp2_with fail
  refine (none_scale HN.out _).mono ?_
  rintro e U ⟨rfl, rfl⟩
  go_wp2_with fail
  refine (none_put HN.out _).mono ?_
  rintro e U ⟨rfl, rfl⟩
  go_wp2_with fail
  refine (none_has HN.out _).mono ?_
  rintro e U ⟨rfl, rfl⟩
  go_wp2_with fail
  refine (none_score HN.out _).mono ?_
  rintro e U ⟨rfl, rfl⟩
  go_wp2_with fail
  refine (none_len HN.out).mono ?_
  rintro e U ⟨rfl, rfl⟩
  go_wp2_with fail
  refine (lives_any _).mono ?_
  rintro e w ⟨rfl, hb⟩
  go_wp2_with fail
  go_ret
  exact ⟨rfl, HB.out.trans (hb.mono HB.out.size)⟩
theorem heapnil_any (v : Int) (y : Nat) (z : Bool) (W : World) : Calls Try.prog 6 #[.int .i64 v, .float .f64 y, .bool z] W fun e w => e = .returned (.bool true) ∧ Below W.heap.size W w := by
  cases z
  · exact nil_false v y W
  · exact nil_true v y W
theorem order_self (x : Nat) : (FloatKind.f64.format.order x x != some .eq) = (keyF x).isNone := by
  rw [order_key]; cases keyF x <;> simp [cmpO, compare, compareOfLessAndEq]
theorem order_gt {a b : Nat} (x : keyF a ≠ none) (y : keyF b ≠ none) : (FloatKind.f64.format.order a b == some .gt) = aboveF a b := by
  unfold aboveF
  cases ha : keyF a with
  | none => exact absurd ha x
  | some p =>
    cases hb : keyF b with
    | none => exact absurd hb y
    | some q =>
      rw [order_key, ha, hb]
      simp only [cmpO, compare, compareOfLessAndEq]
      by_cases h1 : p < q
      · rw [if_pos h1, decide_eq_false (by omega)]; rfl
      · by_cases h2 : p = q
        · rw [if_neg h1, if_pos h2, decide_eq_false (by omega)]; rfl
        · rw [if_neg h1, if_neg h2, decide_eq_true (by omega)]; rfl
theorem habove_no {a b c : Nat} (hx : aboveF a b = false) (W : World) : Calls Try.prog 5 #[.float .f64 a, .float .f64 b, .float .f64 c] W fun e w => e = .returned (.bool true) ∧ Below W.heap.size W w := by
  have H1 := Lib.hid (fun w => above_any a b w)
  have H2 := Lib.hid (fun w => rabove_any a b w)
  rw [hx] at H1 H2
  have o1 := order_self a
  have o2 := order_self b
  by_cases ha : keyF a = none
  · rw [ha] at o1
    have o1 : (FloatKind.f64.format.order a a != some .eq) = true := o1
    clear hx ha o2
    go_enter Try.func5, Try.ntmps5
    go_wp2_with fail
    refine (H1.out _).mono ?_
    rintro e W ⟨rfl, rfl⟩
    go_wp2_with fail
    refine (H2.out _).mono ?_
    rintro e W ⟨rfl, rfl⟩
    go_wp2_with fail
    refine (lives_any _).mono ?_
    rintro e w ⟨rfl, hb⟩
    go_wp2_with fail
    go_ret
    exact ⟨rfl, hb⟩
  · have e1 : (keyF a).isNone = false := by cases h : keyF a with | none => exact absurd h ha | some _ => rfl
    rw [e1] at o1
    by_cases hb : keyF b = none
    · rw [hb] at o2
      have o2 : (FloatKind.f64.format.order b b != some .eq) = true := o2
      clear hx ha hb e1
      go_enter Try.func5, Try.ntmps5
      go_wp2_with fail
      refine (H1.out _).mono ?_
      rintro e W ⟨rfl, rfl⟩
      go_wp2_with fail
      refine (H2.out _).mono ?_
      rintro e W ⟨rfl, rfl⟩
      go_wp2_with fail
      refine (lives_any _).mono ?_
      rintro e w ⟨rfl, hb⟩
      go_wp2_with fail
      go_ret
      exact ⟨rfl, hb⟩
    · have e2 : (keyF b).isNone = false := by cases h : keyF b with | none => exact absurd h hb | some _ => rfl
      rw [e2] at o2
      have o3 := order_gt ha hb
      rw [hx] at o3
      clear hx ha hb e1 e2
      go_enter Try.func5, Try.ntmps5
      go_wp2_with fail
      refine (H1.out _).mono ?_
      rintro e W ⟨rfl, rfl⟩
      go_wp2_with fail
      refine (H2.out _).mono ?_
      rintro e W ⟨rfl, rfl⟩
      go_wp2_with fail
      refine (lives_any _).mono ?_
      rintro e w ⟨rfl, hb⟩
      go_wp2_with fail
      go_ret
      exact ⟨rfl, hb⟩
theorem habove_yes {a b c : Nat} (hx : aboveF a b = true) (W : World) : Calls Try.prog 5 #[.float .f64 a, .float .f64 b, .float .f64 c] W fun e w => e = .returned (.bool true) ∧ Below W.heap.size W w := by
  have H1 := Lib.hid (fun w => above_any a b w)
  have H2 := Lib.hid (fun w => rabove_any a b w)
  rw [hx] at H1 H2
  have H3 := Lib.hid (fun w => above_any b a w)
  have H4 := Lib.hid (fun w => above_any b c w)
  have H5 := Lib.hid (fun w => above_any a c w)
  rw [above_asym hx] at H3
  have ha : keyF a ≠ none := fun e => by unfold aboveF at hx; rw [e] at hx; cases hx
  have e1 : (keyF a).isNone = false := by cases h : keyF a with | none => exact absurd h ha | some _ => rfl
  have o1 := order_self a
  have o2 := order_self b
  rw [e1] at o1
  by_cases hb : keyF b = none
  · rw [hb] at o2
    have o2 : (FloatKind.f64.format.order b b != some .eq) = true := o2
    have hy : aboveF b c = false := by unfold aboveF; rw [hb]
    rw [hy] at H4
    clear hx ha hb e1 hy
    go_enter Try.func5, Try.ntmps5
    go_wp2_with fail
    refine (H1.out _).mono ?_
    rintro e W ⟨rfl, rfl⟩
    go_wp2_with fail
    refine (H2.out _).mono ?_
    rintro e W ⟨rfl, rfl⟩
    go_wp2_with fail
    refine (H3.out _).mono ?_
    rintro e W ⟨rfl, rfl⟩
    go_wp2_with fail
    refine (H4.out _).mono ?_
    rintro e W ⟨rfl, rfl⟩
    go_wp2_with fail
    refine (lives_any _).mono ?_
    rintro e w ⟨rfl, hb⟩
    go_wp2_with fail
    go_ret
    exact ⟨rfl, hb⟩
  · have e2 : (keyF b).isNone = false := by cases h : keyF b with | none => exact absurd h hb | some _ => rfl
    rw [e2] at o2
    have o3 := order_gt ha hb
    rw [hx] at o3
    cases hy : aboveF b c with
    | true =>
      rw [hy] at H4
      rw [above_trans hx hy] at H5
      clear hx ha hb e1 e2 hy
      go_enter Try.func5, Try.ntmps5
      go_wp2_with fail
      refine (H1.out _).mono ?_
      rintro e W ⟨rfl, rfl⟩
      go_wp2_with fail
      refine (H2.out _).mono ?_
      rintro e W ⟨rfl, rfl⟩
      go_wp2_with fail
      refine (H3.out _).mono ?_
      rintro e W ⟨rfl, rfl⟩
      go_wp2_with fail
      refine (H4.out _).mono ?_
      rintro e W ⟨rfl, rfl⟩
      go_wp2_with fail
      refine (H5.out _).mono ?_
      rintro e W ⟨rfl, rfl⟩
      go_wp2_with fail
      refine (lives_any _).mono ?_
      rintro e w ⟨rfl, hb⟩
      go_wp2_with fail
      go_ret
      exact ⟨rfl, hb⟩
    | false =>
      rw [hy] at H4
      clear hx ha hb e1 e2 hy
      go_enter Try.func5, Try.ntmps5
      go_wp2_with fail
      refine (H1.out _).mono ?_
      rintro e W ⟨rfl, rfl⟩
      go_wp2_with fail
      refine (H2.out _).mono ?_
      rintro e W ⟨rfl, rfl⟩
      go_wp2_with fail
      refine (H3.out _).mono ?_
      rintro e W ⟨rfl, rfl⟩
      go_wp2_with fail
      refine (H4.out _).mono ?_
      rintro e W ⟨rfl, rfl⟩
      go_wp2_with fail
      refine (lives_any _).mono ?_
      rintro e w ⟨rfl, hb⟩
      go_wp2_with fail
      go_ret
      exact ⟨rfl, hb⟩
theorem habove_any (a b c : Nat) (W : World) : Calls Try.prog 5 #[.float .f64 a, .float .f64 b, .float .f64 c] W fun e w => e = .returned (.bool true) ∧ Below W.heap.size W w := by
  cases hx : aboveF a b with
  | true => exact habove_yes hx W
  | false => exact habove_no hx W
end Hp
end Go.Proofs.Ytdajnmlpghgeeaa
