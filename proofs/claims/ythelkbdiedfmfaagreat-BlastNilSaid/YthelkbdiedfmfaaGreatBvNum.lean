/-
  What binaryNumber of layer bv returns, operator by operator.
-/
import Derived.Test.YthelkbdiedfmfaaGreatBvDiv
import Derived.Test.YthelkbdiedfmfaaGreatBvExit
namespace Go.Proofs.YthelkbdiedfmfaaGreat
open Go.RowKit
namespace Bv
set_option maxHeartbeats 400000

theorem number_5 (w v n m : Nat) (_hw1 : 1 ≤ w) (hw2 : w ≤ 64) (hn : n < 2 ^ w) (_hv1 : 1 ≤ v) (hv2 : v ≤ 64) (hm : m < 2 ^ v) (W : World) :
    Calls Tryz.prog 96 #[.int .u8 5, .agg #[.int .u8 w, .int .u64 n], .agg #[.int .u8 v, .int .u64 m]] W fun e W' => e = .returned (.int .u64 (numB 5 w v n m : Int)) ∧ Below W.heap.size W W' := by
  have hn6 : n < 18446744073709551616 := Nat.lt_of_lt_of_le hn (pow_le64 hw2)
  have hm6 : m < 18446744073709551616 := Nat.lt_of_lt_of_le hm (pow_le64 hv2)
  go_enter Tryz.func96, Tryz.ntmps96
  go_wp2_with fail
  go_quiet (fail)
  repeat' (first | ((with_reducible refine wp_exit ?_); (repeat (first | (with_reducible refine ex_then ?_) | (with_reducible refine ex_near ?_) | (refine ex_far (by decide) ?_))); (with_reducible refine ex_go ?_)) | go_values | go_skip | go_guarded | go_step | go_upon)
  go_ret
  exact ⟨ret_u64 (bits_and_u64_nat n m hn6 hm6), bel_drewN (bel_alloc (bel_alloc (Below.refl _ _) _) _) _⟩

theorem number_6 (w v n m : Nat) (_hw1 : 1 ≤ w) (hw2 : w ≤ 64) (hn : n < 2 ^ w) (_hv1 : 1 ≤ v) (hv2 : v ≤ 64) (hm : m < 2 ^ v) (W : World) :
    Calls Tryz.prog 96 #[.int .u8 6, .agg #[.int .u8 w, .int .u64 n], .agg #[.int .u8 v, .int .u64 m]] W fun e W' => e = .returned (.int .u64 (numB 6 w v n m : Int)) ∧ Below W.heap.size W W' := by
  have hn6 : n < 18446744073709551616 := Nat.lt_of_lt_of_le hn (pow_le64 hw2)
  have hm6 : m < 18446744073709551616 := Nat.lt_of_lt_of_le hm (pow_le64 hv2)
  go_enter Tryz.func96, Tryz.ntmps96
  go_wp2_with fail
  go_quiet (fail)
  repeat' (first | ((with_reducible refine wp_exit ?_); (repeat (first | (with_reducible refine ex_then ?_) | (with_reducible refine ex_near ?_) | (refine ex_far (by decide) ?_))); (with_reducible refine ex_go ?_)) | go_values | go_skip | go_guarded | go_step | go_upon)
  go_ret
  exact ⟨ret_u64 (bits_or_u64_nat n m hn6 hm6), bel_drewN (bel_alloc (bel_alloc (Below.refl _ _) _) _) _⟩

theorem number_7 (w v n m : Nat) (_hw1 : 1 ≤ w) (hw2 : w ≤ 64) (hn : n < 2 ^ w) (_hv1 : 1 ≤ v) (hv2 : v ≤ 64) (hm : m < 2 ^ v) (W : World) :
    Calls Tryz.prog 96 #[.int .u8 7, .agg #[.int .u8 w, .int .u64 n], .agg #[.int .u8 v, .int .u64 m]] W fun e W' => e = .returned (.int .u64 (numB 7 w v n m : Int)) ∧ Below W.heap.size W W' := by
  have hn6 : n < 18446744073709551616 := Nat.lt_of_lt_of_le hn (pow_le64 hw2)
  have hm6 : m < 18446744073709551616 := Nat.lt_of_lt_of_le hm (pow_le64 hv2)
  go_enter Tryz.func96, Tryz.ntmps96
  go_wp2_with fail
  go_quiet (fail)
  repeat' (first | ((with_reducible refine wp_exit ?_); (repeat (first | (with_reducible refine ex_then ?_) | (with_reducible refine ex_near ?_) | (refine ex_far (by decide) ?_))); (with_reducible refine ex_go ?_)) | go_values | go_skip | go_guarded | go_step | go_upon)
  go_ret
  exact ⟨ret_u64 (bits_xor_u64_nat n m hn6 hm6), bel_drewN (bel_alloc (bel_alloc (Below.refl _ _) _) _) _⟩

theorem number_8 (w v n m : Nat) (_hw1 : 1 ≤ w) (_hw2 : w ≤ 64) (_hn : n < 2 ^ w) (_hv1 : 1 ≤ v) (_hv2 : v ≤ 64) (_hm : m < 2 ^ v) (W : World) :
    Calls Tryz.prog 96 #[.int .u8 8, .agg #[.int .u8 w, .int .u64 n], .agg #[.int .u8 v, .int .u64 m]] W fun e W' => e = .returned (.int .u64 (numB 8 w v n m : Int)) ∧ Below W.heap.size W W' := by
  go_enter Tryz.func96, Tryz.ntmps96
  go_wp2_with fail
  go_quiet (fail)
  repeat' (first | ((with_reducible refine wp_exit ?_); (repeat (first | (with_reducible refine ex_then ?_) | (with_reducible refine ex_near ?_) | (refine ex_far (by decide) ?_))); (with_reducible refine ex_go ?_)) | go_values | go_skip | go_guarded | go_step | go_upon)
  go_ret
  exact ⟨ret_u64 (num8 w v n m), bel_drewN (bel_alloc (bel_alloc (Below.refl _ _) _) _) _⟩

theorem number_9 (w v n m : Nat) (_hw1 : 1 ≤ w) (_hw2 : w ≤ 64) (_hn : n < 2 ^ w) (_hv1 : 1 ≤ v) (hv2 : v ≤ 64) (hm : m < 2 ^ v) (W : World) :
    Calls Tryz.prog 96 #[.int .u8 9, .agg #[.int .u8 w, .int .u64 n], .agg #[.int .u8 v, .int .u64 m]] W fun e W' => e = .returned (.int .u64 (numB 9 w v n m : Int)) ∧ Below W.heap.size W W' := by
  have hm6 : m < 18446744073709551616 := Nat.lt_of_lt_of_le hm (pow_le64 hv2)
  go_enter Tryz.func96, Tryz.ntmps96
  go_wp2_with fail
  go_quiet (fail)
  repeat' (first | ((with_reducible refine wp_exit ?_); (repeat (first | (with_reducible refine ex_then ?_) | (with_reducible refine ex_near ?_) | (refine ex_far (by decide) ?_))); (with_reducible refine ex_go ?_)) | go_values | go_skip | go_guarded | go_step | go_upon)
  go_ret
  exact ⟨ret_u64 (num9 w v n m hm6), bel_drewN (bel_alloc (bel_alloc (Below.refl _ _) _) _) _⟩

theorem number_10 (w v n m : Nat) (_hw1 : 1 ≤ w) (_hw2 : w ≤ 64) (_hn : n < 2 ^ w) (_hv1 : 1 ≤ v) (_hv2 : v ≤ 64) (_hm : m < 2 ^ v) (W : World) :
    Calls Tryz.prog 96 #[.int .u8 10, .agg #[.int .u8 w, .int .u64 n], .agg #[.int .u8 v, .int .u64 m]] W fun e W' => e = .returned (.int .u64 (numB 10 w v n m : Int)) ∧ Below W.heap.size W W' := by
  go_enter Tryz.func96, Tryz.ntmps96
  go_wp2_with fail
  go_quiet (fail)
  repeat' (first | ((with_reducible refine wp_exit ?_); (repeat (first | (with_reducible refine ex_then ?_) | (with_reducible refine ex_near ?_) | (refine ex_far (by decide) ?_))); (with_reducible refine ex_go ?_)) | go_values | go_skip | go_guarded | go_step | go_upon)
  go_ret
  exact ⟨ret_u64 (num10 w v n m), bel_drewN (bel_alloc (bel_alloc (Below.refl _ _) _) _) _⟩

theorem number_11 (w v n m : Nat) (_hw1 : 1 ≤ w) (hw2 : w ≤ 64) (hn : n < 2 ^ w) (_hv1 : 1 ≤ v) (_hv2 : v ≤ 64) (_hm : m < 2 ^ v) (W : World) :
    Calls Tryz.prog 96 #[.int .u8 11, .agg #[.int .u8 w, .int .u64 n], .agg #[.int .u8 v, .int .u64 m]] W fun e W' => e = .returned (.int .u64 (numB 11 w v n m : Int)) ∧ Below W.heap.size W W' := by
  have hn6 : n < 18446744073709551616 := Nat.lt_of_lt_of_le hn (pow_le64 hw2)
  go_enter Tryz.func96, Tryz.ntmps96
  go_wp2_with fail
  go_quiet (fail)
  repeat' (first | ((with_reducible refine wp_exit ?_); (repeat (first | (with_reducible refine ex_then ?_) | (with_reducible refine ex_near ?_) | (refine ex_far (by decide) ?_))); (with_reducible refine ex_go ?_)) | go_values | go_skip | go_guarded | go_step | go_upon)
  go_wp2_with (first | (go_at_call 105; refine (div_u w v n m hn6 _).mono ?_; rintro e w1 ⟨rfl, hb⟩))
  go_ret
  exact ⟨rfl, bel_call (bel_drewN (bel_alloc (bel_alloc (Below.refl _ _) _) _) _) hb⟩

theorem number_12 (w v n m : Nat) (_hw1 : 1 ≤ w) (_hw2 : w ≤ 64) (_hn : n < 2 ^ w) (_hv1 : 1 ≤ v) (_hv2 : v ≤ 64) (_hm : m < 2 ^ v) (W : World) :
    Calls Tryz.prog 96 #[.int .u8 12, .agg #[.int .u8 w, .int .u64 n], .agg #[.int .u8 v, .int .u64 m]] W fun e W' => e = .returned (.int .u64 (numB 12 w v n m : Int)) ∧ Below W.heap.size W W' := by
  go_enter Tryz.func96, Tryz.ntmps96
  go_wp2_with fail
  go_quiet (fail)
  repeat' (first | ((with_reducible refine wp_exit ?_); (repeat (first | (with_reducible refine ex_then ?_) | (with_reducible refine ex_near ?_) | (refine ex_far (by decide) ?_))); (with_reducible refine ex_go ?_)) | go_values | go_skip | go_guarded | go_step | go_upon)
  go_wp2_with (first | (go_at_call 105; refine (div_r w v n m _).mono ?_; rintro e w1 ⟨rfl, hb⟩))
  go_ret
  exact ⟨rfl, bel_call (bel_drewN (bel_alloc (bel_alloc (Below.refl _ _) _) _) _) hb⟩

theorem number_13 (w v n m : Nat) (hw1 : 1 ≤ w) (hw2 : w ≤ 64) (hn : n < 2 ^ w) (hv1 : 1 ≤ v) (hv2 : v ≤ 64) (hm : m < 2 ^ v) (W : World) :
    Calls Tryz.prog 96 #[.int .u8 13, .agg #[.int .u8 w, .int .u64 n], .agg #[.int .u8 v, .int .u64 m]] W fun e W' => e = .returned (.int .u64 (numB 13 w v n m : Int)) ∧ Below W.heap.size W W' := by
  go_enter Tryz.func96, Tryz.ntmps96
  go_wp2_with fail
  go_quiet (fail)
  repeat' (first | ((with_reducible refine wp_exit ?_); (repeat (first | (with_reducible refine ex_then ?_) | (with_reducible refine ex_near ?_) | (refine ex_far (by decide) ?_))); (with_reducible refine ex_go ?_)) | go_values | go_skip | go_guarded | go_step | go_upon)
  go_wp2_with (first | (go_at_call 105; refine (div_s w v n m hw1 hw2 hn hv1 hv2 hm _).mono ?_; rintro e w1 ⟨rfl, hb⟩))
  go_ret
  exact ⟨rfl, bel_call (bel_drewN (bel_alloc (bel_alloc (Below.refl _ _) _) _) _) hb⟩

theorem number_14 (w v n m : Nat) (hw1 : 1 ≤ w) (hw2 : w ≤ 64) (hn : n < 2 ^ w) (hv1 : 1 ≤ v) (hv2 : v ≤ 64) (hm : m < 2 ^ v) (W : World) :
    Calls Tryz.prog 96 #[.int .u8 14, .agg #[.int .u8 w, .int .u64 n], .agg #[.int .u8 v, .int .u64 m]] W fun e W' => e = .returned (.int .u64 (numB 14 w v n m : Int)) ∧ Below W.heap.size W W' := by
  go_enter Tryz.func96, Tryz.ntmps96
  go_wp2_with fail
  go_quiet (fail)
  repeat' (first | ((with_reducible refine wp_exit ?_); (repeat (first | (with_reducible refine ex_then ?_) | (with_reducible refine ex_near ?_) | (refine ex_far (by decide) ?_))); (with_reducible refine ex_go ?_)) | go_values | go_skip | go_guarded | go_step | go_upon)
  go_wp2_with (first | (go_at_call 105; refine (div_sr w v n m hw1 hw2 hn hv1 hv2 hm _).mono ?_; rintro e w1 ⟨rfl, hb⟩))
  go_ret
  exact ⟨rfl, bel_call (bel_drewN (bel_alloc (bel_alloc (Below.refl _ _) _) _) _) hb⟩

theorem number_15 (w v n m : Nat) (_hw1 : 1 ≤ w) (_hw2 : w ≤ 64) (_hn : n < 2 ^ w) (_hv1 : 1 ≤ v) (_hv2 : v ≤ 64) (_hm : m < 2 ^ v) (W : World) :
    Calls Tryz.prog 96 #[.int .u8 15, .agg #[.int .u8 w, .int .u64 n], .agg #[.int .u8 v, .int .u64 m]] W fun e W' => e = .returned (.int .u64 (numB 15 w v n m : Int)) ∧ Below W.heap.size W W' := by
  go_enter Tryz.func96, Tryz.ntmps96
  go_wp2_with fail
  go_quiet (fail)
  repeat' (first | ((with_reducible refine wp_exit ?_); (repeat (first | (with_reducible refine ex_then ?_) | (with_reducible refine ex_near ?_) | (refine ex_far (by decide) ?_))); (with_reducible refine ex_go ?_)) | go_values | go_skip | go_guarded | go_step | go_upon)
  go_ret
  exact ⟨ret_u64 (num15 w v n m), bel_drewN (bel_alloc (bel_alloc (Below.refl _ _) _) _) _⟩

theorem number_16 (w v n m : Nat) (_hw1 : 1 ≤ w) (_hw2 : w ≤ 64) (_hn : n < 2 ^ w) (_hv1 : 1 ≤ v) (_hv2 : v ≤ 64) (_hm : m < 2 ^ v) (W : World) :
    Calls Tryz.prog 96 #[.int .u8 16, .agg #[.int .u8 w, .int .u64 n], .agg #[.int .u8 v, .int .u64 m]] W fun e W' => e = .returned (.int .u64 (numB 16 w v n m : Int)) ∧ Below W.heap.size W W' := by
  go_enter Tryz.func96, Tryz.ntmps96
  go_wp2_with fail
  go_quiet (fail)
  repeat' (first | ((with_reducible refine wp_exit ?_); (repeat (first | (with_reducible refine ex_then ?_) | (with_reducible refine ex_near ?_) | (refine ex_far (by decide) ?_))); (with_reducible refine ex_go ?_)) | go_values | go_skip | go_guarded | go_step | go_upon)
  go_ret
  exact ⟨ret_u64 (num16 w v n m), bel_drewN (bel_alloc (bel_alloc (Below.refl _ _) _) _) _⟩

theorem number_17 (w v n m : Nat) (hw1 : 1 ≤ w) (hw2 : w ≤ 64) (hn : n < 2 ^ w) (_hv1 : 1 ≤ v) (_hv2 : v ≤ 64) (_hm : m < 2 ^ v) (W : World) :
    Calls Tryz.prog 96 #[.int .u8 17, .agg #[.int .u8 w, .int .u64 n], .agg #[.int .u8 v, .int .u64 m]] W fun e W' => e = .returned (.int .u64 (numB 17 w v n m : Int)) ∧ Below W.heap.size W W' := by
  go_enter Tryz.func96, Tryz.ntmps96
  go_wp2_with fail
  go_quiet (fail)
  repeat' (first | ((with_reducible refine wp_exit ?_); (repeat (first | (with_reducible refine ex_then ?_) | (with_reducible refine ex_near ?_) | (refine ex_far (by decide) ?_))); (with_reducible refine ex_go ?_)) | go_values | go_skip | go_guarded | go_step | go_upon)
  go_wp2_with (first | (go_at_call 94; refine (worth_any w n hw1 hw2 hn _).mono ?_; rintro e w1 ⟨rfl, hb⟩))
  go_ret
  exact ⟨ret_u64 (num17 w v n m), bel_call (bel_drewN (bel_alloc (bel_alloc (Below.refl _ _) _) _) _) hb⟩

theorem number_18 (w v n m : Nat) (_hw1 : 1 ≤ w) (_hw2 : w ≤ 64) (_hn : n < 2 ^ w) (_hv1 : 1 ≤ v) (_hv2 : v ≤ 64) (_hm : m < 2 ^ v) (W : World) :
    Calls Tryz.prog 96 #[.int .u8 18, .agg #[.int .u8 w, .int .u64 n], .agg #[.int .u8 v, .int .u64 m]] W fun e W' => e = .returned (.int .u64 (numB 18 w v n m : Int)) ∧ Below W.heap.size W W' := by
  go_enter Tryz.func96, Tryz.ntmps96
  go_wp2_with fail
  go_quiet (fail)
  repeat' (first | ((with_reducible refine wp_exit ?_); (repeat (first | (with_reducible refine ex_then ?_) | (with_reducible refine ex_near ?_) | (refine ex_far (by decide) ?_))); (with_reducible refine ex_go ?_)) | go_values | go_skip | go_guarded | go_step | go_upon)
  go_wp2_with (first | (go_at_call 106; refine (bit_any _ _).mono ?_; rintro e w1 ⟨rfl, rfl⟩))
  go_ret
  refine ⟨ret_u64 (congrArg (fun b : Bool => ((b.toNat : Nat) : Int)) (?_ : _ = (n == m))), bel_drewN (bel_alloc (bel_alloc (Below.refl _ _) _) _) _⟩
  exact Bool.eq_iff_iff.2 (by simp [Int.ofNat_inj])

theorem number_19 (w v n m : Nat) (_hw1 : 1 ≤ w) (_hw2 : w ≤ 64) (_hn : n < 2 ^ w) (_hv1 : 1 ≤ v) (_hv2 : v ≤ 64) (_hm : m < 2 ^ v) (W : World) :
    Calls Tryz.prog 96 #[.int .u8 19, .agg #[.int .u8 w, .int .u64 n], .agg #[.int .u8 v, .int .u64 m]] W fun e W' => e = .returned (.int .u64 (numB 19 w v n m : Int)) ∧ Below W.heap.size W W' := by
  go_enter Tryz.func96, Tryz.ntmps96
  go_wp2_with fail
  go_quiet (fail)
  repeat' (first | ((with_reducible refine wp_exit ?_); (repeat (first | (with_reducible refine ex_then ?_) | (with_reducible refine ex_near ?_) | (refine ex_far (by decide) ?_))); (with_reducible refine ex_go ?_)) | go_values | go_skip | go_guarded | go_step | go_upon)
  go_wp2_with (first | (go_at_call 106; refine (bit_any _ _).mono ?_; rintro e w1 ⟨rfl, rfl⟩))
  go_ret
  refine ⟨ret_u64 (congrArg (fun b : Bool => ((b.toNat : Nat) : Int)) (?_ : _ = decide (n < m))), bel_drewN (bel_alloc (bel_alloc (Below.refl _ _) _) _) _⟩
  exact by simp

theorem number_20 (w v n m : Nat) (hw1 : 1 ≤ w) (hw2 : w ≤ 64) (hn : n < 2 ^ w) (_hv1 : 1 ≤ v) (hv2 : v ≤ 64) (hm : m < 2 ^ v) (W : World) :
    Calls Tryz.prog 96 #[.int .u8 20, .agg #[.int .u8 w, .int .u64 n], .agg #[.int .u8 v, .int .u64 m]] W fun e W' => e = .returned (.int .u64 (numB 20 w v n m : Int)) ∧ Below W.heap.size W W' := by
  have hn6 : n < 18446744073709551616 := Nat.lt_of_lt_of_le hn (pow_le64 hw2)
  have hm6 : m < 18446744073709551616 := Nat.lt_of_lt_of_le hm (pow_le64 hv2)
  go_enter Tryz.func96, Tryz.ntmps96
  go_wp2_with fail
  go_quiet (fail)
  repeat' (first | ((with_reducible refine wp_exit ?_); (repeat (first | (with_reducible refine ex_then ?_) | (with_reducible refine ex_near ?_) | (refine ex_far (by decide) ?_))); (with_reducible refine ex_go ?_)) | go_values | go_skip | go_guarded | go_step | go_upon)
  go_wp2_with (first | (go_at_call 106; refine (bit_any _ _).mono ?_; rintro e w1 ⟨rfl, rfl⟩))
  go_ret
  refine ⟨ret_u64 (congrArg (fun b : Bool => ((b.toNat : Nat) : Int)) (?_ : _ = decide (n ^^^ 2 ^ (w - 1) < m ^^^ 2 ^ (w - 1)))), bel_drewN (bel_alloc (bel_alloc (Below.refl _ _) _) _) _⟩
  exact num20 w n m hw1 hw2 hn6 hm6

theorem number_21 (w v n m : Nat) (_hw1 : 1 ≤ w) (_hw2 : w ≤ 64) (_hn : n < 2 ^ w) (_hv1 : 1 ≤ v) (hv2 : v ≤ 64) (hm : m < 2 ^ v) (W : World) :
    Calls Tryz.prog 96 #[.int .u8 21, .agg #[.int .u8 w, .int .u64 n], .agg #[.int .u8 v, .int .u64 m]] W fun e W' => e = .returned (.int .u64 (numB 21 w v n m : Int)) ∧ Below W.heap.size W W' := by
  have hm6 : m < 18446744073709551616 := Nat.lt_of_lt_of_le hm (pow_le64 hv2)
  go_enter Tryz.func96, Tryz.ntmps96
  go_wp2_with fail
  go_quiet (fail)
  repeat' (first | ((with_reducible refine wp_exit ?_); (repeat (first | (with_reducible refine ex_then ?_) | (with_reducible refine ex_near ?_) | (refine ex_far (by decide) ?_))); (with_reducible refine ex_go ?_)) | go_values | go_skip | go_guarded | go_step | go_upon)
  go_ret
  exact ⟨ret_u64 (num21 w v n m hm6), bel_drewN (bel_alloc (bel_alloc (Below.refl _ _) _) _) _⟩

end Bv
end Go.Proofs.YthelkbdiedfmfaaGreat
