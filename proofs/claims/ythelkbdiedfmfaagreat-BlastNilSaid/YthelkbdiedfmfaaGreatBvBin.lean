/-
  What Binary and Unary of layer bv return.
-/
import Derived.Test.YthelkbdiedfmfaaGreatBvNum
import Derived.Laws.ResultCell
namespace Go.Proofs.YthelkbdiedfmfaaGreat
open Go.RowKit
namespace Bv
set_option maxHeartbeats 400000

theorem width_any (o v w : Nat) (hv : v ≤ 64) (hw : w ≤ 64) (W : World) :
    Calls Tryz.prog 95 #[.int .u8 o, .int .u8 v, .int .u8 w] W fun e W' => e = .returned (.int .u8 ((widthB o v w : Nat) : Int)) ∧ W = W' := by
  by_cases h1 : 5 ≤ o ∧ o ≤ 17
  · have e : widthB o v w = (if v = w then v else 0) := by unfold widthB; rw [if_pos h1]
    rw [e]; exact width_same o v w h1.1 h1.2 W
  · by_cases h2 : 18 ≤ o ∧ o ≤ 20
    · have e : widthB o v w = (if v = w then 1 else 0) := by unfold widthB; rw [if_neg h1, if_pos h2]
      rw [e]; exact width_test o v w h2.1 h2.2 W
    · by_cases h3 : o = 21
      · subst h3
        exact width_concat v w hv hw W
      · have e : widthB o v w = 0 := by unfold widthB; rw [if_neg h1, if_neg h2, if_neg h3]
        rw [e]; exact width_none o v w (by omega) W

theorem number_any (o w v n m : Nat) (h1 : 5 ≤ o) (h2 : o ≤ 21) (hw1 : 1 ≤ w) (hw2 : w ≤ 64) (hn : n < 2 ^ w) (hv1 : 1 ≤ v) (hv2 : v ≤ 64) (hm : m < 2 ^ v) (W : World) :
    Calls Tryz.prog 96 #[.int .u8 o, .agg #[.int .u8 w, .int .u64 n], .agg #[.int .u8 v, .int .u64 m]] W fun e W' => e = .returned (.int .u64 (numB o w v n m : Int)) ∧ Below W.heap.size W W' := by
  obtain rfl | rfl | rfl | rfl | rfl | rfl | rfl | rfl | rfl | rfl | rfl | rfl | rfl | rfl | rfl | rfl | rfl : o = 5 ∨ o = 6 ∨ o = 7 ∨ o = 8 ∨ o = 9 ∨ o = 10 ∨ o = 11 ∨ o = 12 ∨ o = 13 ∨ o = 14 ∨ o = 15 ∨ o = 16 ∨ o = 17 ∨ o = 18 ∨ o = 19 ∨ o = 20 ∨ o = 21 := by omega
  · exact number_5 w v n m hw1 hw2 hn hv1 hv2 hm W
  · exact number_6 w v n m hw1 hw2 hn hv1 hv2 hm W
  · exact number_7 w v n m hw1 hw2 hn hv1 hv2 hm W
  · exact number_8 w v n m hw1 hw2 hn hv1 hv2 hm W
  · exact number_9 w v n m hw1 hw2 hn hv1 hv2 hm W
  · exact number_10 w v n m hw1 hw2 hn hv1 hv2 hm W
  · exact number_11 w v n m hw1 hw2 hn hv1 hv2 hm W
  · exact number_12 w v n m hw1 hw2 hn hv1 hv2 hm W
  · exact number_13 w v n m hw1 hw2 hn hv1 hv2 hm W
  · exact number_14 w v n m hw1 hw2 hn hv1 hv2 hm W
  · exact number_15 w v n m hw1 hw2 hn hv1 hv2 hm W
  · exact number_16 w v n m hw1 hw2 hn hv1 hv2 hm W
  · exact number_17 w v n m hw1 hw2 hn hv1 hv2 hm W
  · exact number_18 w v n m hw1 hw2 hn hv1 hv2 hm W
  · exact number_19 w v n m hw1 hw2 hn hv1 hv2 hm W
  · exact number_20 w v n m hw1 hw2 hn hv1 hv2 hm W
  · exact number_21 w v n m hw1 hw2 hn hv1 hv2 hm W

theorem binary_ok (o w v n m : Nat) (ha : mayB w n = true) (hb : mayB v m = true) (hr : ¬ widthB o w v = 0) (W : World) :
    Calls Tryz.prog 90 #[.int .u8 o, .agg #[.int .u8 w, .int .u64 n], .agg #[.int .u8 v, .int .u64 m]] W fun e W' => e = .returned (.tuple #[.agg #[.int .u8 (widthB o w v : Nat), .int .u64 (low (widthB o w v) (numB o w v n m) : Nat)], .int .i64 0]) ∧ Below W.heap.size W W' := by
  obtain ⟨hw1, hw2, hn⟩ := mayB_true ha
  obtain ⟨hv1, hv2, hm⟩ := mayB_true hb
  obtain ⟨ho1, ho2⟩ := widthB_op hr
  have hle := widthB_le (o := o) (w := v) hw2
  have hnum : numB o w v n m < 18446744073709551616 := numB_lt (Nat.lt_of_lt_of_le hn (pow_le64 hw2)) (Nat.lt_of_lt_of_le hm (pow_le64 hv2))
  have d0 : (((widthB o w v : Nat) : Int) == 0) = false := by simp; omega
  have HA := Lib.hid ha
  have HB := Lib.hid hb
  clear ha hb
  go_enter Tryz.func90, Tryz.ntmps90
  go_wp2_with fail
  refine (may_any w n _).mono ?_; rw [HA.out]; rintro e w1 ⟨rfl, hb1⟩; obtain ⟨hc1, hf1⟩ := bcell hb1
  obtain ⟨z1a, z1b, z1c⟩ : W.heap.size < w1.heap.size ∧ W.heap.size + 1 < w1.heap.size ∧ W.heap.size + 1 + 1 < w1.heap.size := by have := hb1.size; simp at this; omega
  go_wp2_with fail
  refine (may_any v m _).mono ?_; rw [HB.out]; rintro e w2 ⟨rfl, hb2⟩; obtain ⟨hc2, hf2⟩ := bcell hb2
  obtain ⟨z2a, z2b, z2c⟩ : W.heap.size < w2.heap.size ∧ W.heap.size + 1 < w2.heap.size ∧ W.heap.size + 1 + 1 < w2.heap.size := by have := hb2.size; omega
  go_wp2_with fail
  refine (width_any o w v hw2 hv2 _).mono ?_; rintro e w3 ⟨rfl, rfl⟩
  go_wp2_with fail
  refine (number_any o w v n m ho1 ho2 hw1 hw2 hn hv1 hv2 hm _).mono ?_; rintro e w4 ⟨rfl, hb4⟩; obtain ⟨hc4, hf4⟩ := bcell hb4
  obtain ⟨z4a, z4b, z4c⟩ : W.heap.size < w4.heap.size ∧ W.heap.size + 1 < w4.heap.size ∧ W.heap.size + 1 + 1 < w4.heap.size := by have := hb4.size; omega
  go_wp2_with fail
  refine (cut_any (widthB o w v) (by omega) hle _ (by omega) (by omega) _).mono ?_; rintro e w5 ⟨rfl, hb5⟩; obtain ⟨hc5, hf5⟩ := bcell hb5
  obtain ⟨z5a, z5b, z5c⟩ : W.heap.size < w5.heap.size ∧ W.heap.size + 1 < w5.heap.size ∧ W.heap.size + 1 + 1 < w5.heap.size := by have := hb5.size; omega
  go_wp2_with fail
  refine bodyPost_ret (v := .tuple #[.agg #[.int .u8 (widthB o w v : Nat), .int .u64 (low (widthB o w v) (numB o w v n m) : Nat)], .int .i64 0]) (by simp [results, Tryz.results90, go_sem, hc5, hc4, hc2, hc1, z4c, z2c, z1c]) rfl ⟨rfl, ?_⟩
  have hb := bel_call (bel_call (bel_call (bel_call (bel_alloc (bel_alloc (bel_alloc (Below.refl _ _) _) _) _) hb1) hb2) hb4) hb5
  exact (hb.setCell (by simp; omega) _).setCell (by simp; omega) _

theorem binary_bad (o w v n m : Nat) (h : mayB w n = false ∨ mayB v m = false ∨ widthB o w v = 0) (W : World) :
    Calls Tryz.prog 90 #[.int .u8 o, .agg #[.int .u8 w, .int .u64 n], .agg #[.int .u8 v, .int .u64 m]] W fun e W' => e = .returned (.tuple #[.agg #[.int .u8 0, .int .u64 0], .int .i64 2]) ∧ Below W.heap.size W W' := by
  cases ha : mayB w n
  · have HA := Lib.hid ha
    clear ha h
    go_enter Tryz.func90, Tryz.ntmps90
    go_wp2_with fail
    refine (may_any w n _).mono ?_; rw [HA.out]; rintro e w1 ⟨rfl, hb1⟩; obtain ⟨hc1, hf1⟩ := bcell hb1
    obtain ⟨z1a, z1b, z1c⟩ : W.heap.size < w1.heap.size ∧ W.heap.size + 1 < w1.heap.size ∧ W.heap.size + 1 + 1 < w1.heap.size := by have := hb1.size; simp at this; omega
    go_wp2_with fail
    refine bodyPost_ret (v := .tuple #[.agg #[.int .u8 0, .int .u64 0], .int .i64 2]) (by simp [results, Tryz.results90, go_sem, hc1]) rfl ⟨rfl, ?_⟩
    have hb := bel_call (bel_alloc (bel_alloc (bel_alloc (Below.refl _ _) _) _) _) hb1
    exact (hb.setCell (by simp; omega) _).setCell (by simp; omega) _
  · cases hb : mayB v m
    · have HA := Lib.hid ha
      have HB := Lib.hid hb
      clear ha hb h
      go_enter Tryz.func90, Tryz.ntmps90
      go_wp2_with fail
      refine (may_any w n _).mono ?_; rw [HA.out]; rintro e w1 ⟨rfl, hb1⟩; obtain ⟨hc1, hf1⟩ := bcell hb1
      obtain ⟨z1a, z1b, z1c⟩ : W.heap.size < w1.heap.size ∧ W.heap.size + 1 < w1.heap.size ∧ W.heap.size + 1 + 1 < w1.heap.size := by have := hb1.size; simp at this; omega
      go_wp2_with fail
      refine (may_any v m _).mono ?_; rw [HB.out]; rintro e w2 ⟨rfl, hb2⟩; obtain ⟨hc2, hf2⟩ := bcell hb2
      obtain ⟨z2a, z2b, z2c⟩ : W.heap.size < w2.heap.size ∧ W.heap.size + 1 < w2.heap.size ∧ W.heap.size + 1 + 1 < w2.heap.size := by have := hb2.size; omega
      go_wp2_with fail
      refine bodyPost_ret (v := .tuple #[.agg #[.int .u8 0, .int .u64 0], .int .i64 2]) (by simp [results, Tryz.results90, go_sem, hc2, hc1, z1c]) rfl ⟨rfl, ?_⟩
      have hb := bel_call (bel_call (bel_alloc (bel_alloc (bel_alloc (Below.refl _ _) _) _) _) hb1) hb2
      exact (hb.setCell (by simp; omega) _).setCell (by simp; omega) _
    · have hr : widthB o w v = 0 := by
        rcases h with h | h | h
        · rw [ha] at h; cases h
        · rw [hb] at h; cases h
        · exact h
      obtain ⟨hw1, hw2, hn⟩ := mayB_true ha
      obtain ⟨hv1, hv2, hm⟩ := mayB_true hb
      have HA := Lib.hid ha
      have HB := Lib.hid hb
      have HR := Lib.hid hr
      clear ha hb h hr
      go_enter Tryz.func90, Tryz.ntmps90
      go_wp2_with fail
      refine (may_any w n _).mono ?_; rw [HA.out]; rintro e w1 ⟨rfl, hb1⟩; obtain ⟨hc1, hf1⟩ := bcell hb1
      obtain ⟨z1a, z1b, z1c⟩ : W.heap.size < w1.heap.size ∧ W.heap.size + 1 < w1.heap.size ∧ W.heap.size + 1 + 1 < w1.heap.size := by have := hb1.size; simp at this; omega
      go_wp2_with fail
      refine (may_any v m _).mono ?_; rw [HB.out]; rintro e w2 ⟨rfl, hb2⟩; obtain ⟨hc2, hf2⟩ := bcell hb2
      obtain ⟨z2a, z2b, z2c⟩ : W.heap.size < w2.heap.size ∧ W.heap.size + 1 < w2.heap.size ∧ W.heap.size + 1 + 1 < w2.heap.size := by have := hb2.size; omega
      go_wp2_with fail
      refine (width_any o w v hw2 hv2 _).mono ?_; rw [HR.out]; rintro e w3 ⟨rfl, rfl⟩
      go_wp2_with fail
      refine bodyPost_ret (v := .tuple #[.agg #[.int .u8 0, .int .u64 0], .int .i64 2]) (by simp [results, Tryz.results90, go_sem, hc2, hc1, z1c]) rfl ⟨rfl, ?_⟩
      have hb := bel_call (bel_call (bel_alloc (bel_alloc (bel_alloc (Below.refl _ _) _) _) _) hb1) hb2
      exact (hb.setCell (by simp; omega) _).setCell (by simp; omega) _

end Bv
end Go.Proofs.YthelkbdiedfmfaaGreat
