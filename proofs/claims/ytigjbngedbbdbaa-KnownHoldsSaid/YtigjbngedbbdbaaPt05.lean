/-
What binaryNumber of layer bv returns, operator by operator.
What Binary and Unary of layer bv return.
What Unary, Extract, Extend and Ite of layer bv return.
A struct of two cells in a block of its own: kept over calls and new blocks.
Whether a vector may be, as the program tells it, as a fact on the call.
-/
import Derived.Test.YtigjbngedbbdbaaPt04
import Derived.Test.YtigjbngedbbdbaaPt01
import Derived.Laws.ResultCell
import Derived.Test.YtigjbngedbbdbaaPt02
import Derived.Deep.RegionHeld3
namespace Go.Proofs.Ytigjbngedbbdbaa
open Go.RowKit
namespace Bv
set_option maxHeartbeats 400000

theorem number_5 (w v n m : Nat) (_hw1 : 1 ≤ w) (hw2 : w ≤ 64) (hn : n < 2 ^ w) (_hv1 : 1 ≤ v) (hv2 : v ≤ 64) (hm : m < 2 ^ v) (W : World) :
    Calls Try.prog 86 #[.int .u8 5, .agg #[.int .u8 w, .int .u64 n], .agg #[.int .u8 v, .int .u64 m]] W fun e W' => e = .returned (.int .u64 (numB 5 w v n m : Int)) ∧ Below W.heap.size W W' := by
  have hn6 : n < 18446744073709551616 := Nat.lt_of_lt_of_le hn (pow_le64 hw2)
  have hm6 : m < 18446744073709551616 := Nat.lt_of_lt_of_le hm (pow_le64 hv2)
  go_enter Try.func86, Try.ntmps86
  go_wp2_with fail
  go_quiet (fail)
  repeat' (first | ((with_reducible refine wp_exit ?_); (repeat (first | (with_reducible refine ex_then ?_) | (with_reducible refine ex_near ?_) | (refine ex_far (by decide) ?_))); (with_reducible refine ex_go ?_)) | go_values | go_skip | go_guarded | go_step | go_upon)
  go_ret
  exact ⟨ret_u64 (bits_and_u64_nat n m hn6 hm6), bel_drewN (bel_alloc (bel_alloc (Below.refl _ _) _) _) _⟩

theorem number_6 (w v n m : Nat) (_hw1 : 1 ≤ w) (hw2 : w ≤ 64) (hn : n < 2 ^ w) (_hv1 : 1 ≤ v) (hv2 : v ≤ 64) (hm : m < 2 ^ v) (W : World) :
    Calls Try.prog 86 #[.int .u8 6, .agg #[.int .u8 w, .int .u64 n], .agg #[.int .u8 v, .int .u64 m]] W fun e W' => e = .returned (.int .u64 (numB 6 w v n m : Int)) ∧ Below W.heap.size W W' := by
  have hn6 : n < 18446744073709551616 := Nat.lt_of_lt_of_le hn (pow_le64 hw2)
  have hm6 : m < 18446744073709551616 := Nat.lt_of_lt_of_le hm (pow_le64 hv2)
  go_enter Try.func86, Try.ntmps86
  go_wp2_with fail
  go_quiet (fail)
  repeat' (first | ((with_reducible refine wp_exit ?_); (repeat (first | (with_reducible refine ex_then ?_) | (with_reducible refine ex_near ?_) | (refine ex_far (by decide) ?_))); (with_reducible refine ex_go ?_)) | go_values | go_skip | go_guarded | go_step | go_upon)
  go_ret
  exact ⟨ret_u64 (bits_or_u64_nat n m hn6 hm6), bel_drewN (bel_alloc (bel_alloc (Below.refl _ _) _) _) _⟩

theorem number_7 (w v n m : Nat) (_hw1 : 1 ≤ w) (hw2 : w ≤ 64) (hn : n < 2 ^ w) (_hv1 : 1 ≤ v) (hv2 : v ≤ 64) (hm : m < 2 ^ v) (W : World) :
    Calls Try.prog 86 #[.int .u8 7, .agg #[.int .u8 w, .int .u64 n], .agg #[.int .u8 v, .int .u64 m]] W fun e W' => e = .returned (.int .u64 (numB 7 w v n m : Int)) ∧ Below W.heap.size W W' := by
  have hn6 : n < 18446744073709551616 := Nat.lt_of_lt_of_le hn (pow_le64 hw2)
  have hm6 : m < 18446744073709551616 := Nat.lt_of_lt_of_le hm (pow_le64 hv2)
  go_enter Try.func86, Try.ntmps86
  go_wp2_with fail
  go_quiet (fail)
  repeat' (first | ((with_reducible refine wp_exit ?_); (repeat (first | (with_reducible refine ex_then ?_) | (with_reducible refine ex_near ?_) | (refine ex_far (by decide) ?_))); (with_reducible refine ex_go ?_)) | go_values | go_skip | go_guarded | go_step | go_upon)
  go_ret
  exact ⟨ret_u64 (bits_xor_u64_nat n m hn6 hm6), bel_drewN (bel_alloc (bel_alloc (Below.refl _ _) _) _) _⟩

theorem number_8 (w v n m : Nat) (_hw1 : 1 ≤ w) (_hw2 : w ≤ 64) (_hn : n < 2 ^ w) (_hv1 : 1 ≤ v) (_hv2 : v ≤ 64) (_hm : m < 2 ^ v) (W : World) :
    Calls Try.prog 86 #[.int .u8 8, .agg #[.int .u8 w, .int .u64 n], .agg #[.int .u8 v, .int .u64 m]] W fun e W' => e = .returned (.int .u64 (numB 8 w v n m : Int)) ∧ Below W.heap.size W W' := by
  go_enter Try.func86, Try.ntmps86
  go_wp2_with fail
  go_quiet (fail)
  repeat' (first | ((with_reducible refine wp_exit ?_); (repeat (first | (with_reducible refine ex_then ?_) | (with_reducible refine ex_near ?_) | (refine ex_far (by decide) ?_))); (with_reducible refine ex_go ?_)) | go_values | go_skip | go_guarded | go_step | go_upon)
  go_ret
  exact ⟨ret_u64 (num8 w v n m), bel_drewN (bel_alloc (bel_alloc (Below.refl _ _) _) _) _⟩

theorem number_9 (w v n m : Nat) (_hw1 : 1 ≤ w) (_hw2 : w ≤ 64) (_hn : n < 2 ^ w) (_hv1 : 1 ≤ v) (hv2 : v ≤ 64) (hm : m < 2 ^ v) (W : World) :
    Calls Try.prog 86 #[.int .u8 9, .agg #[.int .u8 w, .int .u64 n], .agg #[.int .u8 v, .int .u64 m]] W fun e W' => e = .returned (.int .u64 (numB 9 w v n m : Int)) ∧ Below W.heap.size W W' := by
  have hm6 : m < 18446744073709551616 := Nat.lt_of_lt_of_le hm (pow_le64 hv2)
  go_enter Try.func86, Try.ntmps86
  go_wp2_with fail
  go_quiet (fail)
  repeat' (first | ((with_reducible refine wp_exit ?_); (repeat (first | (with_reducible refine ex_then ?_) | (with_reducible refine ex_near ?_) | (refine ex_far (by decide) ?_))); (with_reducible refine ex_go ?_)) | go_values | go_skip | go_guarded | go_step | go_upon)
  go_ret
  exact ⟨ret_u64 (num9 w v n m hm6), bel_drewN (bel_alloc (bel_alloc (Below.refl _ _) _) _) _⟩

theorem number_10 (w v n m : Nat) (_hw1 : 1 ≤ w) (_hw2 : w ≤ 64) (_hn : n < 2 ^ w) (_hv1 : 1 ≤ v) (_hv2 : v ≤ 64) (_hm : m < 2 ^ v) (W : World) :
    Calls Try.prog 86 #[.int .u8 10, .agg #[.int .u8 w, .int .u64 n], .agg #[.int .u8 v, .int .u64 m]] W fun e W' => e = .returned (.int .u64 (numB 10 w v n m : Int)) ∧ Below W.heap.size W W' := by
  go_enter Try.func86, Try.ntmps86
  go_wp2_with fail
  go_quiet (fail)
  repeat' (first | ((with_reducible refine wp_exit ?_); (repeat (first | (with_reducible refine ex_then ?_) | (with_reducible refine ex_near ?_) | (refine ex_far (by decide) ?_))); (with_reducible refine ex_go ?_)) | go_values | go_skip | go_guarded | go_step | go_upon)
  go_ret
  exact ⟨ret_u64 (num10 w v n m), bel_drewN (bel_alloc (bel_alloc (Below.refl _ _) _) _) _⟩

theorem number_11 (w v n m : Nat) (_hw1 : 1 ≤ w) (hw2 : w ≤ 64) (hn : n < 2 ^ w) (_hv1 : 1 ≤ v) (_hv2 : v ≤ 64) (_hm : m < 2 ^ v) (W : World) :
    Calls Try.prog 86 #[.int .u8 11, .agg #[.int .u8 w, .int .u64 n], .agg #[.int .u8 v, .int .u64 m]] W fun e W' => e = .returned (.int .u64 (numB 11 w v n m : Int)) ∧ Below W.heap.size W W' := by
  have hn6 : n < 18446744073709551616 := Nat.lt_of_lt_of_le hn (pow_le64 hw2)
  go_enter Try.func86, Try.ntmps86
  go_wp2_with fail
  go_quiet (fail)
  repeat' (first | ((with_reducible refine wp_exit ?_); (repeat (first | (with_reducible refine ex_then ?_) | (with_reducible refine ex_near ?_) | (refine ex_far (by decide) ?_))); (with_reducible refine ex_go ?_)) | go_values | go_skip | go_guarded | go_step | go_upon)
  go_wp2_with (first | (go_at_call 93; refine (div_u w v n m hn6 _).mono ?_; rintro e w1 ⟨rfl, hb⟩))
  go_ret
  exact ⟨rfl, bel_call (bel_drewN (bel_alloc (bel_alloc (Below.refl _ _) _) _) _) hb⟩

theorem number_12 (w v n m : Nat) (_hw1 : 1 ≤ w) (_hw2 : w ≤ 64) (_hn : n < 2 ^ w) (_hv1 : 1 ≤ v) (_hv2 : v ≤ 64) (_hm : m < 2 ^ v) (W : World) :
    Calls Try.prog 86 #[.int .u8 12, .agg #[.int .u8 w, .int .u64 n], .agg #[.int .u8 v, .int .u64 m]] W fun e W' => e = .returned (.int .u64 (numB 12 w v n m : Int)) ∧ Below W.heap.size W W' := by
  go_enter Try.func86, Try.ntmps86
  go_wp2_with fail
  go_quiet (fail)
  repeat' (first | ((with_reducible refine wp_exit ?_); (repeat (first | (with_reducible refine ex_then ?_) | (with_reducible refine ex_near ?_) | (refine ex_far (by decide) ?_))); (with_reducible refine ex_go ?_)) | go_values | go_skip | go_guarded | go_step | go_upon)
  go_wp2_with (first | (go_at_call 93; refine (div_r w v n m _).mono ?_; rintro e w1 ⟨rfl, hb⟩))
  go_ret
  exact ⟨rfl, bel_call (bel_drewN (bel_alloc (bel_alloc (Below.refl _ _) _) _) _) hb⟩

theorem number_13 (w v n m : Nat) (hw1 : 1 ≤ w) (hw2 : w ≤ 64) (hn : n < 2 ^ w) (hv1 : 1 ≤ v) (hv2 : v ≤ 64) (hm : m < 2 ^ v) (W : World) :
    Calls Try.prog 86 #[.int .u8 13, .agg #[.int .u8 w, .int .u64 n], .agg #[.int .u8 v, .int .u64 m]] W fun e W' => e = .returned (.int .u64 (numB 13 w v n m : Int)) ∧ Below W.heap.size W W' := by
  go_enter Try.func86, Try.ntmps86
  go_wp2_with fail
  go_quiet (fail)
  repeat' (first | ((with_reducible refine wp_exit ?_); (repeat (first | (with_reducible refine ex_then ?_) | (with_reducible refine ex_near ?_) | (refine ex_far (by decide) ?_))); (with_reducible refine ex_go ?_)) | go_values | go_skip | go_guarded | go_step | go_upon)
  go_wp2_with (first | (go_at_call 93; refine (div_s w v n m hw1 hw2 hn hv1 hv2 hm _).mono ?_; rintro e w1 ⟨rfl, hb⟩))
  go_ret
  exact ⟨rfl, bel_call (bel_drewN (bel_alloc (bel_alloc (Below.refl _ _) _) _) _) hb⟩

theorem number_14 (w v n m : Nat) (hw1 : 1 ≤ w) (hw2 : w ≤ 64) (hn : n < 2 ^ w) (hv1 : 1 ≤ v) (hv2 : v ≤ 64) (hm : m < 2 ^ v) (W : World) :
    Calls Try.prog 86 #[.int .u8 14, .agg #[.int .u8 w, .int .u64 n], .agg #[.int .u8 v, .int .u64 m]] W fun e W' => e = .returned (.int .u64 (numB 14 w v n m : Int)) ∧ Below W.heap.size W W' := by
  go_enter Try.func86, Try.ntmps86
  go_wp2_with fail
  go_quiet (fail)
  repeat' (first | ((with_reducible refine wp_exit ?_); (repeat (first | (with_reducible refine ex_then ?_) | (with_reducible refine ex_near ?_) | (refine ex_far (by decide) ?_))); (with_reducible refine ex_go ?_)) | go_values | go_skip | go_guarded | go_step | go_upon)
  go_wp2_with (first | (go_at_call 93; refine (div_sr w v n m hw1 hw2 hn hv1 hv2 hm _).mono ?_; rintro e w1 ⟨rfl, hb⟩))
  go_ret
  exact ⟨rfl, bel_call (bel_drewN (bel_alloc (bel_alloc (Below.refl _ _) _) _) _) hb⟩

theorem number_15 (w v n m : Nat) (_hw1 : 1 ≤ w) (_hw2 : w ≤ 64) (_hn : n < 2 ^ w) (_hv1 : 1 ≤ v) (_hv2 : v ≤ 64) (_hm : m < 2 ^ v) (W : World) :
    Calls Try.prog 86 #[.int .u8 15, .agg #[.int .u8 w, .int .u64 n], .agg #[.int .u8 v, .int .u64 m]] W fun e W' => e = .returned (.int .u64 (numB 15 w v n m : Int)) ∧ Below W.heap.size W W' := by
  go_enter Try.func86, Try.ntmps86
  go_wp2_with fail
  go_quiet (fail)
  repeat' (first | ((with_reducible refine wp_exit ?_); (repeat (first | (with_reducible refine ex_then ?_) | (with_reducible refine ex_near ?_) | (refine ex_far (by decide) ?_))); (with_reducible refine ex_go ?_)) | go_values | go_skip | go_guarded | go_step | go_upon)
  go_ret
  exact ⟨ret_u64 (num15 w v n m), bel_drewN (bel_alloc (bel_alloc (Below.refl _ _) _) _) _⟩

theorem number_16 (w v n m : Nat) (_hw1 : 1 ≤ w) (_hw2 : w ≤ 64) (_hn : n < 2 ^ w) (_hv1 : 1 ≤ v) (_hv2 : v ≤ 64) (_hm : m < 2 ^ v) (W : World) :
    Calls Try.prog 86 #[.int .u8 16, .agg #[.int .u8 w, .int .u64 n], .agg #[.int .u8 v, .int .u64 m]] W fun e W' => e = .returned (.int .u64 (numB 16 w v n m : Int)) ∧ Below W.heap.size W W' := by
  go_enter Try.func86, Try.ntmps86
  go_wp2_with fail
  go_quiet (fail)
  repeat' (first | ((with_reducible refine wp_exit ?_); (repeat (first | (with_reducible refine ex_then ?_) | (with_reducible refine ex_near ?_) | (refine ex_far (by decide) ?_))); (with_reducible refine ex_go ?_)) | go_values | go_skip | go_guarded | go_step | go_upon)
  go_ret
  exact ⟨ret_u64 (num16 w v n m), bel_drewN (bel_alloc (bel_alloc (Below.refl _ _) _) _) _⟩

theorem number_17 (w v n m : Nat) (hw1 : 1 ≤ w) (hw2 : w ≤ 64) (hn : n < 2 ^ w) (_hv1 : 1 ≤ v) (_hv2 : v ≤ 64) (_hm : m < 2 ^ v) (W : World) :
    Calls Try.prog 86 #[.int .u8 17, .agg #[.int .u8 w, .int .u64 n], .agg #[.int .u8 v, .int .u64 m]] W fun e W' => e = .returned (.int .u64 (numB 17 w v n m : Int)) ∧ Below W.heap.size W W' := by
  go_enter Try.func86, Try.ntmps86
  go_wp2_with fail
  go_quiet (fail)
  repeat' (first | ((with_reducible refine wp_exit ?_); (repeat (first | (with_reducible refine ex_then ?_) | (with_reducible refine ex_near ?_) | (refine ex_far (by decide) ?_))); (with_reducible refine ex_go ?_)) | go_values | go_skip | go_guarded | go_step | go_upon)
  go_wp2_with (first | (go_at_call 84; refine (worth_any w n hw1 hw2 hn _).mono ?_; rintro e w1 ⟨rfl, hb⟩))
  go_ret
  exact ⟨ret_u64 (num17 w v n m), bel_call (bel_drewN (bel_alloc (bel_alloc (Below.refl _ _) _) _) _) hb⟩

theorem number_18 (w v n m : Nat) (_hw1 : 1 ≤ w) (_hw2 : w ≤ 64) (_hn : n < 2 ^ w) (_hv1 : 1 ≤ v) (_hv2 : v ≤ 64) (_hm : m < 2 ^ v) (W : World) :
    Calls Try.prog 86 #[.int .u8 18, .agg #[.int .u8 w, .int .u64 n], .agg #[.int .u8 v, .int .u64 m]] W fun e W' => e = .returned (.int .u64 (numB 18 w v n m : Int)) ∧ Below W.heap.size W W' := by
  go_enter Try.func86, Try.ntmps86
  go_wp2_with fail
  go_quiet (fail)
  repeat' (first | ((with_reducible refine wp_exit ?_); (repeat (first | (with_reducible refine ex_then ?_) | (with_reducible refine ex_near ?_) | (refine ex_far (by decide) ?_))); (with_reducible refine ex_go ?_)) | go_values | go_skip | go_guarded | go_step | go_upon)
  go_wp2_with (first | (go_at_call 94; refine (bit_any _ _).mono ?_; rintro e w1 ⟨rfl, rfl⟩))
  go_ret
  refine ⟨ret_u64 (congrArg (fun b : Bool => ((b.toNat : Nat) : Int)) (?_ : _ = (n == m))), bel_drewN (bel_alloc (bel_alloc (Below.refl _ _) _) _) _⟩
  exact Bool.eq_iff_iff.2 (by simp [Int.ofNat_inj])

theorem number_19 (w v n m : Nat) (_hw1 : 1 ≤ w) (_hw2 : w ≤ 64) (_hn : n < 2 ^ w) (_hv1 : 1 ≤ v) (_hv2 : v ≤ 64) (_hm : m < 2 ^ v) (W : World) :
    Calls Try.prog 86 #[.int .u8 19, .agg #[.int .u8 w, .int .u64 n], .agg #[.int .u8 v, .int .u64 m]] W fun e W' => e = .returned (.int .u64 (numB 19 w v n m : Int)) ∧ Below W.heap.size W W' := by
  go_enter Try.func86, Try.ntmps86
  go_wp2_with fail
  go_quiet (fail)
  repeat' (first | ((with_reducible refine wp_exit ?_); (repeat (first | (with_reducible refine ex_then ?_) | (with_reducible refine ex_near ?_) | (refine ex_far (by decide) ?_))); (with_reducible refine ex_go ?_)) | go_values | go_skip | go_guarded | go_step | go_upon)
  go_wp2_with (first | (go_at_call 94; refine (bit_any _ _).mono ?_; rintro e w1 ⟨rfl, rfl⟩))
  go_ret
  refine ⟨ret_u64 (congrArg (fun b : Bool => ((b.toNat : Nat) : Int)) (?_ : _ = decide (n < m))), bel_drewN (bel_alloc (bel_alloc (Below.refl _ _) _) _) _⟩
  exact by simp

theorem number_20 (w v n m : Nat) (hw1 : 1 ≤ w) (hw2 : w ≤ 64) (hn : n < 2 ^ w) (_hv1 : 1 ≤ v) (hv2 : v ≤ 64) (hm : m < 2 ^ v) (W : World) :
    Calls Try.prog 86 #[.int .u8 20, .agg #[.int .u8 w, .int .u64 n], .agg #[.int .u8 v, .int .u64 m]] W fun e W' => e = .returned (.int .u64 (numB 20 w v n m : Int)) ∧ Below W.heap.size W W' := by
  have hn6 : n < 18446744073709551616 := Nat.lt_of_lt_of_le hn (pow_le64 hw2)
  have hm6 : m < 18446744073709551616 := Nat.lt_of_lt_of_le hm (pow_le64 hv2)
  go_enter Try.func86, Try.ntmps86
  go_wp2_with fail
  go_quiet (fail)
  repeat' (first | ((with_reducible refine wp_exit ?_); (repeat (first | (with_reducible refine ex_then ?_) | (with_reducible refine ex_near ?_) | (refine ex_far (by decide) ?_))); (with_reducible refine ex_go ?_)) | go_values | go_skip | go_guarded | go_step | go_upon)
  go_wp2_with (first | (go_at_call 94; refine (bit_any _ _).mono ?_; rintro e w1 ⟨rfl, rfl⟩))
  go_ret
  refine ⟨ret_u64 (congrArg (fun b : Bool => ((b.toNat : Nat) : Int)) (?_ : _ = decide (n ^^^ 2 ^ (w - 1) < m ^^^ 2 ^ (w - 1)))), bel_drewN (bel_alloc (bel_alloc (Below.refl _ _) _) _) _⟩
  exact num20 w n m hw1 hw2 hn6 hm6

theorem number_21 (w v n m : Nat) (_hw1 : 1 ≤ w) (_hw2 : w ≤ 64) (_hn : n < 2 ^ w) (_hv1 : 1 ≤ v) (hv2 : v ≤ 64) (hm : m < 2 ^ v) (W : World) :
    Calls Try.prog 86 #[.int .u8 21, .agg #[.int .u8 w, .int .u64 n], .agg #[.int .u8 v, .int .u64 m]] W fun e W' => e = .returned (.int .u64 (numB 21 w v n m : Int)) ∧ Below W.heap.size W W' := by
  have hm6 : m < 18446744073709551616 := Nat.lt_of_lt_of_le hm (pow_le64 hv2)
  go_enter Try.func86, Try.ntmps86
  go_wp2_with fail
  go_quiet (fail)
  repeat' (first | ((with_reducible refine wp_exit ?_); (repeat (first | (with_reducible refine ex_then ?_) | (with_reducible refine ex_near ?_) | (refine ex_far (by decide) ?_))); (with_reducible refine ex_go ?_)) | go_values | go_skip | go_guarded | go_step | go_upon)
  go_ret
  exact ⟨ret_u64 (num21 w v n m hm6), bel_drewN (bel_alloc (bel_alloc (Below.refl _ _) _) _) _⟩

end Bv
end Go.Proofs.Ytigjbngedbbdbaa

namespace Go.Proofs.Ytigjbngedbbdbaa
open Go.RowKit
namespace Bv
set_option maxHeartbeats 400000

theorem width_any (o v w : Nat) (hv : v ≤ 64) (hw : w ≤ 64) (W : World) :
    Calls Try.prog 85 #[.int .u8 o, .int .u8 v, .int .u8 w] W fun e W' => e = .returned (.int .u8 ((widthB o v w : Nat) : Int)) ∧ W = W' := by
  by_cases h1 : 5 ≤ o ∧ o ≤ 17
  · have e : widthB o v w = (if v = w then v else 0) := by unfold widthB; rw [if_pos h1]
    rw [e]; exact width_same o v w h1.1 h1.2 W
  · by_cases h2 : 18 ≤ o ∧ o ≤ 20
    · have e : widthB o v w = (if v = w then 1 else 0) := by unfold widthB; rw [if_neg h1, if_pos h2]
      rw [e]; exact width_test o v w h2.1 h2.2 W
    · by_cases h3 : o = 21
      · subst h3
        exact width_concat v w hv hw W
      · have e : widthB o v w = 0 := by unfold widthB; rw [if_neg h1, if_neg h2, if_neg h3]
        rw [e]; exact width_none o v w (by omega) W

theorem number_any (o w v n m : Nat) (h1 : 5 ≤ o) (h2 : o ≤ 21) (hw1 : 1 ≤ w) (hw2 : w ≤ 64) (hn : n < 2 ^ w) (hv1 : 1 ≤ v) (hv2 : v ≤ 64) (hm : m < 2 ^ v) (W : World) :
    Calls Try.prog 86 #[.int .u8 o, .agg #[.int .u8 w, .int .u64 n], .agg #[.int .u8 v, .int .u64 m]] W fun e W' => e = .returned (.int .u64 (numB o w v n m : Int)) ∧ Below W.heap.size W W' := by
  obtain rfl | rfl | rfl | rfl | rfl | rfl | rfl | rfl | rfl | rfl | rfl | rfl | rfl | rfl | rfl | rfl | rfl : o = 5 ∨ o = 6 ∨ o = 7 ∨ o = 8 ∨ o = 9 ∨ o = 10 ∨ o = 11 ∨ o = 12 ∨ o = 13 ∨ o = 14 ∨ o = 15 ∨ o = 16 ∨ o = 17 ∨ o = 18 ∨ o = 19 ∨ o = 20 ∨ o = 21 := by omega
  · exact number_5 w v n m hw1 hw2 hn hv1 hv2 hm W
  · exact number_6 w v n m hw1 hw2 hn hv1 hv2 hm W
  · exact number_7 w v n m hw1 hw2 hn hv1 hv2 hm W
  · exact number_8 w v n m hw1 hw2 hn hv1 hv2 hm W
  · exact number_9 w v n m hw1 hw2 hn hv1 hv2 hm W
  · exact number_10 w v n m hw1 hw2 hn hv1 hv2 hm W
  · exact number_11 w v n m hw1 hw2 hn hv1 hv2 hm W
  · exact number_12 w v n m hw1 hw2 hn hv1 hv2 hm W
  · exact number_13 w v n m hw1 hw2 hn hv1 hv2 hm W
  · exact number_14 w v n m hw1 hw2 hn hv1 hv2 hm W
  · exact number_15 w v n m hw1 hw2 hn hv1 hv2 hm W
  · exact number_16 w v n m hw1 hw2 hn hv1 hv2 hm W
  · exact number_17 w v n m hw1 hw2 hn hv1 hv2 hm W
  · exact number_18 w v n m hw1 hw2 hn hv1 hv2 hm W
  · exact number_19 w v n m hw1 hw2 hn hv1 hv2 hm W
  · exact number_20 w v n m hw1 hw2 hn hv1 hv2 hm W
  · exact number_21 w v n m hw1 hw2 hn hv1 hv2 hm W

theorem binary_ok (o w v n m : Nat) (ha : mayB w n = true) (hb : mayB v m = true) (hr : ¬ widthB o w v = 0) (W : World) :
    Calls Try.prog 69 #[.int .u8 o, .agg #[.int .u8 w, .int .u64 n], .agg #[.int .u8 v, .int .u64 m]] W fun e W' => e = .returned (.tuple #[.agg #[.int .u8 (widthB o w v : Nat), .int .u64 (low (widthB o w v) (numB o w v n m) : Nat)], .int .i64 0]) ∧ Below W.heap.size W W' := by
  obtain ⟨hw1, hw2, hn⟩ := mayB_true ha
  obtain ⟨hv1, hv2, hm⟩ := mayB_true hb
  obtain ⟨ho1, ho2⟩ := widthB_op hr
  have hle := widthB_le (o := o) (w := v) hw2
  have hnum : numB o w v n m < 18446744073709551616 := numB_lt (Nat.lt_of_lt_of_le hn (pow_le64 hw2)) (Nat.lt_of_lt_of_le hm (pow_le64 hv2))
  have d0 : (((widthB o w v : Nat) : Int) == 0) = false := by simp; omega
  have HA := Lib.hid ha
  have HB := Lib.hid hb
  clear ha hb
  go_enter Try.func69, Try.ntmps69
  go_wp2_with fail
  refine (may_any w n _).mono ?_; rw [HA.out]; rintro e w1 ⟨rfl, hb1⟩; obtain ⟨hc1, hf1⟩ := bcell hb1
  obtain ⟨z1a, z1b, z1c⟩ : W.heap.size < w1.heap.size ∧ W.heap.size + 1 < w1.heap.size ∧ W.heap.size + 1 + 1 < w1.heap.size := by have := hb1.size; simp at this; omega
  go_wp2_with fail
  refine (may_any v m _).mono ?_; rw [HB.out]; rintro e w2 ⟨rfl, hb2⟩; obtain ⟨hc2, hf2⟩ := bcell hb2
  obtain ⟨z2a, z2b, z2c⟩ : W.heap.size < w2.heap.size ∧ W.heap.size + 1 < w2.heap.size ∧ W.heap.size + 1 + 1 < w2.heap.size := by have := hb2.size; omega
  go_wp2_with fail
  refine (width_any o w v hw2 hv2 _).mono ?_; rintro e w3 ⟨rfl, rfl⟩
  go_wp2_with fail
  refine (number_any o w v n m ho1 ho2 hw1 hw2 hn hv1 hv2 hm _).mono ?_; rintro e w4 ⟨rfl, hb4⟩; obtain ⟨hc4, hf4⟩ := bcell hb4
  obtain ⟨z4a, z4b, z4c⟩ : W.heap.size < w4.heap.size ∧ W.heap.size + 1 < w4.heap.size ∧ W.heap.size + 1 + 1 < w4.heap.size := by have := hb4.size; omega
  go_wp2_with fail
  refine (cut_any (widthB o w v) (by omega) hle _ (by omega) (by omega) _).mono ?_; rintro e w5 ⟨rfl, hb5⟩; obtain ⟨hc5, hf5⟩ := bcell hb5
  obtain ⟨z5a, z5b, z5c⟩ : W.heap.size < w5.heap.size ∧ W.heap.size + 1 < w5.heap.size ∧ W.heap.size + 1 + 1 < w5.heap.size := by have := hb5.size; omega
  go_wp2_with fail
  refine bodyPost_ret (v := .tuple #[.agg #[.int .u8 (widthB o w v : Nat), .int .u64 (low (widthB o w v) (numB o w v n m) : Nat)], .int .i64 0]) (by simp [results, Try.results69, go_sem, hc5, hc4, hc2, hc1, z4c, z2c, z1c]) rfl ⟨rfl, ?_⟩
  have hb := bel_call (bel_call (bel_call (bel_call (bel_alloc (bel_alloc (bel_alloc (Below.refl _ _) _) _) _) hb1) hb2) hb4) hb5
  exact (hb.setCell (by simp; omega) _).setCell (by simp; omega) _

theorem binary_bad (o w v n m : Nat) (h : mayB w n = false ∨ mayB v m = false ∨ widthB o w v = 0) (W : World) :
    Calls Try.prog 69 #[.int .u8 o, .agg #[.int .u8 w, .int .u64 n], .agg #[.int .u8 v, .int .u64 m]] W fun e W' => e = .returned (.tuple #[.agg #[.int .u8 0, .int .u64 0], .int .i64 2]) ∧ Below W.heap.size W W' := by
  cases ha : mayB w n
  · have HA := Lib.hid ha
    clear ha h
    go_enter Try.func69, Try.ntmps69
    go_wp2_with fail
    refine (may_any w n _).mono ?_; rw [HA.out]; rintro e w1 ⟨rfl, hb1⟩; obtain ⟨hc1, hf1⟩ := bcell hb1
    obtain ⟨z1a, z1b, z1c⟩ : W.heap.size < w1.heap.size ∧ W.heap.size + 1 < w1.heap.size ∧ W.heap.size + 1 + 1 < w1.heap.size := by have := hb1.size; simp at this; omega
    go_wp2_with fail
    refine bodyPost_ret (v := .tuple #[.agg #[.int .u8 0, .int .u64 0], .int .i64 2]) (by simp [results, Try.results69, go_sem, hc1]) rfl ⟨rfl, ?_⟩
    have hb := bel_call (bel_alloc (bel_alloc (bel_alloc (Below.refl _ _) _) _) _) hb1
    exact (hb.setCell (by simp; omega) _).setCell (by simp; omega) _
  · cases hb : mayB v m
    · have HA := Lib.hid ha
      have HB := Lib.hid hb
      clear ha hb h
      go_enter Try.func69, Try.ntmps69
      go_wp2_with fail
      refine (may_any w n _).mono ?_; rw [HA.out]; rintro e w1 ⟨rfl, hb1⟩; obtain ⟨hc1, hf1⟩ := bcell hb1
      obtain ⟨z1a, z1b, z1c⟩ : W.heap.size < w1.heap.size ∧ W.heap.size + 1 < w1.heap.size ∧ W.heap.size + 1 + 1 < w1.heap.size := by have := hb1.size; simp at this; omega
      go_wp2_with fail
      refine (may_any v m _).mono ?_; rw [HB.out]; rintro e w2 ⟨rfl, hb2⟩; obtain ⟨hc2, hf2⟩ := bcell hb2
      obtain ⟨z2a, z2b, z2c⟩ : W.heap.size < w2.heap.size ∧ W.heap.size + 1 < w2.heap.size ∧ W.heap.size + 1 + 1 < w2.heap.size := by have := hb2.size; omega
      go_wp2_with fail
      refine bodyPost_ret (v := .tuple #[.agg #[.int .u8 0, .int .u64 0], .int .i64 2]) (by simp [results, Try.results69, go_sem, hc2, hc1, z1c]) rfl ⟨rfl, ?_⟩
      have hb := bel_call (bel_call (bel_alloc (bel_alloc (bel_alloc (Below.refl _ _) _) _) _) hb1) hb2
      exact (hb.setCell (by simp; omega) _).setCell (by simp; omega) _
    · have hr : widthB o w v = 0 := by
        rcases h with h | h | h
        · rw [ha] at h; cases h
        · rw [hb] at h; cases h
        · exact h
      obtain ⟨hw1, hw2, hn⟩ := mayB_true ha
      obtain ⟨hv1, hv2, hm⟩ := mayB_true hb
      have HA := Lib.hid ha
      have HB := Lib.hid hb
      have HR := Lib.hid hr
      clear ha hb h hr
      go_enter Try.func69, Try.ntmps69
      go_wp2_with fail
      refine (may_any w n _).mono ?_; rw [HA.out]; rintro e w1 ⟨rfl, hb1⟩; obtain ⟨hc1, hf1⟩ := bcell hb1
      obtain ⟨z1a, z1b, z1c⟩ : W.heap.size < w1.heap.size ∧ W.heap.size + 1 < w1.heap.size ∧ W.heap.size + 1 + 1 < w1.heap.size := by have := hb1.size; simp at this; omega
      go_wp2_with fail
      refine (may_any v m _).mono ?_; rw [HB.out]; rintro e w2 ⟨rfl, hb2⟩; obtain ⟨hc2, hf2⟩ := bcell hb2
      obtain ⟨z2a, z2b, z2c⟩ : W.heap.size < w2.heap.size ∧ W.heap.size + 1 < w2.heap.size ∧ W.heap.size + 1 + 1 < w2.heap.size := by have := hb2.size; omega
      go_wp2_with fail
      refine (width_any o w v hw2 hv2 _).mono ?_; rw [HR.out]; rintro e w3 ⟨rfl, rfl⟩
      go_wp2_with fail
      refine bodyPost_ret (v := .tuple #[.agg #[.int .u8 0, .int .u64 0], .int .i64 2]) (by simp [results, Try.results69, go_sem, hc2, hc1, z1c]) rfl ⟨rfl, ?_⟩
      have hb := bel_call (bel_call (bel_alloc (bel_alloc (bel_alloc (Below.refl _ _) _) _) _) hb1) hb2
      exact (hb.setCell (by simp; omega) _).setCell (by simp; omega) _

end Bv
end Go.Proofs.Ytigjbngedbbdbaa

namespace Go.Proofs.Ytigjbngedbbdbaa
open Go.RowKit
namespace Bv
set_option maxHeartbeats 400000

theorem unary_ok (o w n : Nat) (ho : o = 3 ∨ o = 4) (ha : mayB w n = true) (W : World) :
    Calls Try.prog 65 #[.int .u8 o, .agg #[.int .u8 w, .int .u64 n]] W fun e W' => e = .returned (.tuple #[.agg #[.int .u8 w, .int .u64 (low w (numU o n) : Nat)], .int .i64 0]) ∧ Below W.heap.size W W' := by
  obtain ⟨hw1, hw2, hn⟩ := mayB_true ha
  have hn6 : n < 18446744073709551616 := Nat.lt_of_lt_of_le hn (pow_le64 hw2)
  have hu := numU_lt 4 n
  have HA := Lib.hid ha
  clear ha
  rcases ho with rfl | rfl
  · go_enter Try.func65, Try.ntmps65
    go_wp2_with fail
    refine (may_any w n _).mono ?_; rw [HA.out]; rintro e w1 ⟨rfl, hb1⟩; obtain ⟨hc1, hf1⟩ := bcell hb1
    obtain ⟨z1a, z1b⟩ : W.heap.size < w1.heap.size ∧ W.heap.size + 1 < w1.heap.size := by have := hb1.size; simp at this; omega
    go_wp2_with fail
    rw [notmax hn6]
    refine (cut_any w hw1 hw2 _ (by omega) (by omega) _).mono ?_; rintro e w2 ⟨rfl, hb2⟩; obtain ⟨hc2, hf2⟩ := bcell hb2
    obtain ⟨z2a, z2b⟩ : W.heap.size < w2.heap.size ∧ W.heap.size + 1 < w2.heap.size := by have := hb2.size; omega
    go_wp2_with fail
    refine bodyPost_ret (v := .tuple #[.agg #[.int .u8 w, .int .u64 (low w (numU 3 n) : Nat)], .int .i64 0]) (by simp [results, Try.results65, go_sem, hc2, hc1, z1b]; rfl) rfl ⟨rfl, ?_⟩
    have hb := bel_call (bel_call (bel_alloc (bel_alloc (Below.refl _ _) _) _) hb1) hb2
    exact (hb.setCell (by simp) _).setCell (by simp) _
  · go_enter Try.func65, Try.ntmps65
    go_wp2_with fail
    refine (may_any w n _).mono ?_; rw [HA.out]; rintro e w1 ⟨rfl, hb1⟩; obtain ⟨hc1, hf1⟩ := bcell hb1
    obtain ⟨z1a, z1b⟩ : W.heap.size < w1.heap.size ∧ W.heap.size + 1 < w1.heap.size := by have := hb1.size; simp at this; omega
    go_wp2_with fail
    rw [neg64 hn6]
    refine (cut_any w hw1 hw2 _ (by omega) (by omega) _).mono ?_; rintro e w2 ⟨rfl, hb2⟩; obtain ⟨hc2, hf2⟩ := bcell hb2
    obtain ⟨z2a, z2b⟩ : W.heap.size < w2.heap.size ∧ W.heap.size + 1 < w2.heap.size := by have := hb2.size; omega
    go_wp2_with fail
    refine bodyPost_ret (v := .tuple #[.agg #[.int .u8 w, .int .u64 (low w (numU 4 n) : Nat)], .int .i64 0]) (by simp [results, Try.results65, go_sem, hc2, hc1, z1b]) rfl ⟨rfl, ?_⟩
    have hb := bel_call (bel_call (bel_alloc (bel_alloc (Below.refl _ _) _) _) hb1) hb2
    exact (hb.setCell (by simp) _).setCell (by simp) _

theorem unary_bad (o w n : Nat) (h : mayB w n = false ∨ (o ≠ 3 ∧ o ≠ 4)) (W : World) :
    Calls Try.prog 65 #[.int .u8 o, .agg #[.int .u8 w, .int .u64 n]] W fun e W' => e = .returned (.tuple #[.agg #[.int .u8 0, .int .u64 0], .int .i64 2]) ∧ Below W.heap.size W W' := by
  cases ha : mayB w n
  · have HA := Lib.hid ha
    clear ha h
    go_enter Try.func65, Try.ntmps65
    go_wp2_with fail
    refine (may_any w n _).mono ?_; rw [HA.out]; rintro e w1 ⟨rfl, hb1⟩; obtain ⟨hc1, hf1⟩ := bcell hb1
    obtain ⟨z1a, z1b⟩ : W.heap.size < w1.heap.size ∧ W.heap.size + 1 < w1.heap.size := by have := hb1.size; simp at this; omega
    go_wp2_with fail
    refine bodyPost_ret (v := .tuple #[.agg #[.int .u8 0, .int .u64 0], .int .i64 2]) (by simp [results, Try.results65, go_sem, hc1]) rfl ⟨rfl, ?_⟩
    have hb := bel_call (bel_alloc (bel_alloc (Below.refl _ _) _) _) hb1
    exact (hb.setCell (by simp) _).setCell (by simp) _
  · have ho : o ≠ 3 ∧ o ≠ 4 := by
      rcases h with h | h
      · rw [ha] at h; cases h
      · exact h
    have d3 : ((o : Int) == 3) = false := by simp; omega
    have d4 : ((o : Int) == 4) = false := by simp; omega
    have HA := Lib.hid ha
    clear ha h ho
    go_enter Try.func65, Try.ntmps65
    go_wp2_with fail
    refine (may_any w n _).mono ?_; rw [HA.out]; rintro e w1 ⟨rfl, hb1⟩; obtain ⟨hc1, hf1⟩ := bcell hb1
    obtain ⟨z1a, z1b⟩ : W.heap.size < w1.heap.size ∧ W.heap.size + 1 < w1.heap.size := by have := hb1.size; simp at this; omega
    go_wp2_with fail
    refine bodyPost_ret (v := .tuple #[.agg #[.int .u8 0, .int .u64 0], .int .i64 2]) (by simp [results, Try.results65, go_sem, hc1]) rfl ⟨rfl, ?_⟩
    have hb := bel_call (bel_alloc (bel_alloc (Below.refl _ _) _) _) hb1
    exact (hb.setCell (by simp) _).setCell (by simp) _

theorem extract_ok (w n l r : Nat) (ha : mayB w n = true) (hr : 1 ≤ r) (hl : l + r ≤ w) (W : World) :
    Calls Try.prog 66 #[.agg #[.int .u8 w, .int .u64 n], .int .i64 l, .int .i64 r] W fun e W' => e = .returned (.tuple #[.agg #[.int .u8 r, .int .u64 (low r (n / 2 ^ l) : Nat)], .int .i64 0]) ∧ Below W.heap.size W W' := by
  obtain ⟨hw1, hw2, hn⟩ := mayB_true ha
  have hn6 : n < 18446744073709551616 := Nat.lt_of_lt_of_le hn (pow_le64 hw2)
  have hd : n / 2 ^ l < 18446744073709551616 := Nat.lt_of_le_of_lt (Nat.div_le_self _ _) hn6
  have e : (n : Int) / 2 ^ l = ((n / 2 ^ l : Nat) : Int) := by simp
  generalize n / 2 ^ l = q at *
  have HQ := Lib.hid e
  clear e
  have HA := Lib.hid ha
  clear ha
  go_enter Try.func66, Try.ntmps66
  go_wp2_with fail
  refine (may_any w n _).mono ?_; rw [HA.out]; rintro e w1 ⟨rfl, hb1⟩; obtain ⟨hc1, hf1⟩ := bcell hb1
  obtain ⟨z1a, z1b⟩ : W.heap.size < w1.heap.size ∧ W.heap.size + 1 < w1.heap.size := by have := hb1.size; simp at this; omega
  go_wp2_with fail
  rw [HQ.out]
  refine (cut_any r hr (by omega) _ (by omega) (by omega) _).mono ?_; rintro e w2 ⟨rfl, hb2⟩; obtain ⟨hc2, hf2⟩ := bcell hb2
  obtain ⟨z2a, z2b⟩ : W.heap.size < w2.heap.size ∧ W.heap.size + 1 < w2.heap.size := by have := hb2.size; omega
  go_wp2_with fail
  refine bodyPost_ret (v := .tuple #[.agg #[.int .u8 r, .int .u64 (low r q : Nat)], .int .i64 0]) (by simp [results, Try.results66, go_sem, hc2, hc1, z1b]) rfl ⟨rfl, ?_⟩
  have hb := bel_call (bel_call (bel_alloc (bel_alloc (Below.refl _ _) _) _) hb1) hb2
  exact (hb.setCell (by simp) _).setCell (by simp) _

theorem extend_ok (o w n r : Nat) (ho : o = 23 ∨ o = 24) (ha : mayB w n = true) (hr : w ≤ r) (hl : r ≤ 64) (W : World) :
    Calls Try.prog 67 #[.int .u8 o, .agg #[.int .u8 w, .int .u64 n], .int .i64 r] W fun e W' => e = .returned (.tuple #[.agg #[.int .u8 r, .int .u64 (low r (numE o w n) : Nat)], .int .i64 0]) ∧ Below W.heap.size W W' := by
  obtain ⟨hw1, hw2, hn⟩ := mayB_true ha
  have hn6 : n < 18446744073709551616 := Nat.lt_of_lt_of_le hn (pow_le64 hw2)
  have hq := numE_lt 24 w hn6
  have HA := Lib.hid ha
  clear ha
  rcases ho with rfl | rfl
  · go_enter Try.func67, Try.ntmps67
    go_wp2_with fail
    refine (may_any w n _).mono ?_; rw [HA.out]; rintro e w1 ⟨rfl, hb1⟩; obtain ⟨hc1, hf1⟩ := bcell hb1
    obtain ⟨z1a, z1b⟩ : W.heap.size < w1.heap.size ∧ W.heap.size + 1 < w1.heap.size := by have := hb1.size; simp at this; omega
    go_wp2_with fail
    refine (cut_any r (by omega) hl _ (by omega) (by omega) _).mono ?_; rintro e w2 ⟨rfl, hb2⟩; obtain ⟨hc2, hf2⟩ := bcell hb2
    obtain ⟨z2a, z2b⟩ : W.heap.size < w2.heap.size ∧ W.heap.size + 1 < w2.heap.size := by have := hb2.size; omega
    go_wp2_with fail
    refine bodyPost_ret (v := .tuple #[.agg #[.int .u8 r, .int .u64 (low r n : Nat)], .int .i64 0]) (by simp [results, Try.results67, go_sem, hc2, hc1, z1b]) rfl ⟨rfl, ?_⟩
    have hb := bel_call (bel_call (bel_alloc (bel_alloc (Below.refl _ _) _) _) hb1) hb2
    exact (hb.setCell (by simp) _).setCell (by simp) _
  · go_enter Try.func67, Try.ntmps67
    go_wp2_with fail
    refine (may_any w n _).mono ?_; rw [HA.out]; rintro e w1 ⟨rfl, hb1⟩; obtain ⟨hc1, hf1⟩ := bcell hb1
    obtain ⟨z1a, z1b⟩ : W.heap.size < w1.heap.size ∧ W.heap.size + 1 < w1.heap.size := by have := hb1.size; simp at this; omega
    go_wp2_with fail
    refine (worth_any w n hw1 hw2 hn _).mono ?_; rintro e w2 ⟨rfl, hb2⟩; obtain ⟨hc2, hf2⟩ := bcell hb2
    obtain ⟨z2a, z2b⟩ : W.heap.size < w2.heap.size ∧ W.heap.size + 1 < w2.heap.size := by have := hb2.size; omega
    go_wp2_with fail
    rw [sext64]
    refine (cut_any r (by omega) hl _ (by omega) (by omega) _).mono ?_; rintro e w3 ⟨rfl, hb3⟩; obtain ⟨hc3, hf3⟩ := bcell hb3
    obtain ⟨z3a, z3b⟩ : W.heap.size < w3.heap.size ∧ W.heap.size + 1 < w3.heap.size := by have := hb3.size; omega
    go_wp2_with fail
    refine bodyPost_ret (v := .tuple #[.agg #[.int .u8 r, .int .u64 (low r (numE 24 w n) : Nat)], .int .i64 0]) (by simp [results, Try.results67, go_sem, hc3, hc2, hc1, z2b, z1b]) rfl ⟨rfl, ?_⟩
    have hb := bel_call (bel_call (bel_call (bel_alloc (bel_alloc (Below.refl _ _) _) _) hb1) hb2) hb3
    exact (hb.setCell (by simp) _).setCell (by simp) _
end Bv
end Go.Proofs.Ytigjbngedbbdbaa

namespace Go.Proofs.Ytigjbngedbbdbaa
open Go.RowKit
namespace Bv
/-- Block p holds the cells x and y. -/
def At (w : World) (p : Nat) (x y : Value) : Prop := w.cell? ⟨p, 0, none⟩ = some x ∧ w.cell? ⟨p, 1, none⟩ = some y
theorem At.lt {w : World} {p : Nat} {x y : Value} (h : At w p x y) : p < w.heap.size := World.block_lt_of_cell? w _ h.1
theorem At.keep {w w' : World} {p : Nat} {x y : Value} (h : At w p x y) (hb : Below w.heap.size w w') : At w' p x y :=
  ⟨(hb.cell (p := ⟨p, 0, none⟩) h.lt).trans h.1, (hb.cell (p := ⟨p, 1, none⟩) h.lt).trans h.2⟩
theorem At.alloc {w : World} {p : Nat} {x y : Value} (h : At w p x y) (o : Obj) : At (w.alloc o) p x y :=
  ⟨(World.cell?_alloc_lt w o _ h.lt).trans h.1, (World.cell?_alloc_lt w o _ h.lt).trans h.2⟩
theorem At.new (w : World) (x y : Value) (t : TypeId) : At (w.alloc (.cells #[x, y] t)) w.heap.size x y := by
  constructor <;> simp [go_sem]
theorem At.drew {w : World} {p : Nat} {x y : Value} (h : At w p x y) : At w.drew p x y := h
theorem At.drewN {w : World} {p : Nat} {x y : Value} (h : At w p x y) (n : Nat) : At (w.drewN n) p x y := h
/-- Over a new block and a call. -/
theorem At.go {w w' : World} {p : Nat} {x y : Value} {o : Obj} (h : At w p x y) (hb : Below (w.alloc o).heap.size (w.alloc o) w') : At w' p x y := (h.alloc o).keep hb
theorem At.made {w w' : World} {x y : Value} {t : TypeId} (hb : Below (w.alloc (.cells #[x, y] t)).heap.size (w.alloc (.cells #[x, y] t)) w') : At w' w.heap.size x y := (At.new w x y t).keep hb
theorem bel_go {W w w' : World} {o : Obj} (h : Below W.heap.size W w) (k : Below (w.alloc o).heap.size (w.alloc o) w') : Below W.heap.size W w' := bel_call (bel_alloc h o) k
end Bv
end Go.Proofs.Ytigjbngedbbdbaa

namespace Go.Proofs.Ytigjbngedbbdbaa
open Go.RowKit
namespace Bv
set_option maxHeartbeats 1000000
set_option maxRecDepth 100000

theorem may_yes {w n : Nat} (h : mayB w n = true) (W : World) :
    Calls Try.prog 50 #[.agg #[.int .u8 w, .int .u64 n]] W fun e W' => e = .returned (.bool true) ∧ Below W.heap.size W W' := by
  have := may_any w n W; rw [h] at this; exact this
theorem may_no {w n : Nat} (h : mayB w n = false) (W : World) :
    Calls Try.prog 50 #[.agg #[.int .u8 w, .int .u64 n]] W fun e W' => e = .returned (.bool false) ∧ Below W.heap.size W W' := by
  have := may_any w n W; rw [h] at this; exact this

end Bv
end Go.Proofs.Ytigjbngedbbdbaa
