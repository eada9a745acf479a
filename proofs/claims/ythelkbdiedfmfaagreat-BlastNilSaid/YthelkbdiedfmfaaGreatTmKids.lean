/-
  How many kids an operator has, as layer term tells it: a fact on one call.
-/
import Derived.Test.YthelkbdiedfmfaaGreatTmKey
import Derived.Test.YthelkbdiedfmfaaGreatBvMid
namespace Go.Proofs.YthelkbdiedfmfaaGreat
open Go.RowKit Bv
namespace Tm
set_option maxHeartbeats 400000
set_option maxRecDepth 100000

theorem kids_3 (W : World) : Calls Tryz.prog 74 #[.int .u8 3] W fun e W' => e = .returned (.int .i64 1) ∧ W = W' := by
  go_enter Tryz.func74, Tryz.ntmps74
  go_wp2_with fail
  repeat' (first | ((with_reducible refine wp_exit ?_); (repeat (first | (with_reducible refine ex_then ?_) | (with_reducible refine ex_near ?_) | (refine ex_far (by decide) ?_))); (with_reducible refine ex_go ?_)) | go_values | go_skip | go_guarded | go_step | go_upon)
  go_ret
  exact ⟨rfl, rfl⟩

theorem kids_4 (W : World) : Calls Tryz.prog 74 #[.int .u8 4] W fun e W' => e = .returned (.int .i64 1) ∧ W = W' := by
  go_enter Tryz.func74, Tryz.ntmps74
  go_wp2_with fail
  repeat' (first | ((with_reducible refine wp_exit ?_); (repeat (first | (with_reducible refine ex_then ?_) | (with_reducible refine ex_near ?_) | (refine ex_far (by decide) ?_))); (with_reducible refine ex_go ?_)) | go_values | go_skip | go_guarded | go_step | go_upon)
  go_ret
  exact ⟨rfl, rfl⟩

theorem kids_5 (W : World) : Calls Tryz.prog 74 #[.int .u8 5] W fun e W' => e = .returned (.int .i64 2) ∧ W = W' := by
  go_enter Tryz.func74, Tryz.ntmps74
  go_wp2_with fail
  repeat' (first | ((with_reducible refine wp_exit ?_); (repeat (first | (with_reducible refine ex_then ?_) | (with_reducible refine ex_near ?_) | (refine ex_far (by decide) ?_))); (with_reducible refine ex_go ?_)) | go_values | go_skip | go_guarded | go_step | go_upon)
  go_ret
  exact ⟨rfl, rfl⟩

theorem kids_6 (W : World) : Calls Tryz.prog 74 #[.int .u8 6] W fun e W' => e = .returned (.int .i64 2) ∧ W = W' := by
  go_enter Tryz.func74, Tryz.ntmps74
  go_wp2_with fail
  repeat' (first | ((with_reducible refine wp_exit ?_); (repeat (first | (with_reducible refine ex_then ?_) | (with_reducible refine ex_near ?_) | (refine ex_far (by decide) ?_))); (with_reducible refine ex_go ?_)) | go_values | go_skip | go_guarded | go_step | go_upon)
  go_ret
  exact ⟨rfl, rfl⟩

theorem kids_7 (W : World) : Calls Tryz.prog 74 #[.int .u8 7] W fun e W' => e = .returned (.int .i64 2) ∧ W = W' := by
  go_enter Tryz.func74, Tryz.ntmps74
  go_wp2_with fail
  repeat' (first | ((with_reducible refine wp_exit ?_); (repeat (first | (with_reducible refine ex_then ?_) | (with_reducible refine ex_near ?_) | (refine ex_far (by decide) ?_))); (with_reducible refine ex_go ?_)) | go_values | go_skip | go_guarded | go_step | go_upon)
  go_ret
  exact ⟨rfl, rfl⟩

theorem kids_8 (W : World) : Calls Tryz.prog 74 #[.int .u8 8] W fun e W' => e = .returned (.int .i64 2) ∧ W = W' := by
  go_enter Tryz.func74, Tryz.ntmps74
  go_wp2_with fail
  repeat' (first | ((with_reducible refine wp_exit ?_); (repeat (first | (with_reducible refine ex_then ?_) | (with_reducible refine ex_near ?_) | (refine ex_far (by decide) ?_))); (with_reducible refine ex_go ?_)) | go_values | go_skip | go_guarded | go_step | go_upon)
  go_ret
  exact ⟨rfl, rfl⟩

theorem kids_9 (W : World) : Calls Tryz.prog 74 #[.int .u8 9] W fun e W' => e = .returned (.int .i64 2) ∧ W = W' := by
  go_enter Tryz.func74, Tryz.ntmps74
  go_wp2_with fail
  repeat' (first | ((with_reducible refine wp_exit ?_); (repeat (first | (with_reducible refine ex_then ?_) | (with_reducible refine ex_near ?_) | (refine ex_far (by decide) ?_))); (with_reducible refine ex_go ?_)) | go_values | go_skip | go_guarded | go_step | go_upon)
  go_ret
  exact ⟨rfl, rfl⟩

theorem kids_10 (W : World) : Calls Tryz.prog 74 #[.int .u8 10] W fun e W' => e = .returned (.int .i64 2) ∧ W = W' := by
  go_enter Tryz.func74, Tryz.ntmps74
  go_wp2_with fail
  repeat' (first | ((with_reducible refine wp_exit ?_); (repeat (first | (with_reducible refine ex_then ?_) | (with_reducible refine ex_near ?_) | (refine ex_far (by decide) ?_))); (with_reducible refine ex_go ?_)) | go_values | go_skip | go_guarded | go_step | go_upon)
  go_ret
  exact ⟨rfl, rfl⟩

theorem kids_11 (W : World) : Calls Tryz.prog 74 #[.int .u8 11] W fun e W' => e = .returned (.int .i64 2) ∧ W = W' := by
  go_enter Tryz.func74, Tryz.ntmps74
  go_wp2_with fail
  repeat' (first | ((with_reducible refine wp_exit ?_); (repeat (first | (with_reducible refine ex_then ?_) | (with_reducible refine ex_near ?_) | (refine ex_far (by decide) ?_))); (with_reducible refine ex_go ?_)) | go_values | go_skip | go_guarded | go_step | go_upon)
  go_ret
  exact ⟨rfl, rfl⟩

theorem kids_12 (W : World) : Calls Tryz.prog 74 #[.int .u8 12] W fun e W' => e = .returned (.int .i64 2) ∧ W = W' := by
  go_enter Tryz.func74, Tryz.ntmps74
  go_wp2_with fail
  repeat' (first | ((with_reducible refine wp_exit ?_); (repeat (first | (with_reducible refine ex_then ?_) | (with_reducible refine ex_near ?_) | (refine ex_far (by decide) ?_))); (with_reducible refine ex_go ?_)) | go_values | go_skip | go_guarded | go_step | go_upon)
  go_ret
  exact ⟨rfl, rfl⟩

theorem kids_13 (W : World) : Calls Tryz.prog 74 #[.int .u8 13] W fun e W' => e = .returned (.int .i64 2) ∧ W = W' := by
  go_enter Tryz.func74, Tryz.ntmps74
  go_wp2_with fail
  repeat' (first | ((with_reducible refine wp_exit ?_); (repeat (first | (with_reducible refine ex_then ?_) | (with_reducible refine ex_near ?_) | (refine ex_far (by decide) ?_))); (with_reducible refine ex_go ?_)) | go_values | go_skip | go_guarded | go_step | go_upon)
  go_ret
  exact ⟨rfl, rfl⟩

theorem kids_14 (W : World) : Calls Tryz.prog 74 #[.int .u8 14] W fun e W' => e = .returned (.int .i64 2) ∧ W = W' := by
  go_enter Tryz.func74, Tryz.ntmps74
  go_wp2_with fail
  repeat' (first | ((with_reducible refine wp_exit ?_); (repeat (first | (with_reducible refine ex_then ?_) | (with_reducible refine ex_near ?_) | (refine ex_far (by decide) ?_))); (with_reducible refine ex_go ?_)) | go_values | go_skip | go_guarded | go_step | go_upon)
  go_ret
  exact ⟨rfl, rfl⟩

theorem kids_15 (W : World) : Calls Tryz.prog 74 #[.int .u8 15] W fun e W' => e = .returned (.int .i64 2) ∧ W = W' := by
  go_enter Tryz.func74, Tryz.ntmps74
  go_wp2_with fail
  repeat' (first | ((with_reducible refine wp_exit ?_); (repeat (first | (with_reducible refine ex_then ?_) | (with_reducible refine ex_near ?_) | (refine ex_far (by decide) ?_))); (with_reducible refine ex_go ?_)) | go_values | go_skip | go_guarded | go_step | go_upon)
  go_ret
  exact ⟨rfl, rfl⟩

theorem kids_16 (W : World) : Calls Tryz.prog 74 #[.int .u8 16] W fun e W' => e = .returned (.int .i64 2) ∧ W = W' := by
  go_enter Tryz.func74, Tryz.ntmps74
  go_wp2_with fail
  repeat' (first | ((with_reducible refine wp_exit ?_); (repeat (first | (with_reducible refine ex_then ?_) | (with_reducible refine ex_near ?_) | (refine ex_far (by decide) ?_))); (with_reducible refine ex_go ?_)) | go_values | go_skip | go_guarded | go_step | go_upon)
  go_ret
  exact ⟨rfl, rfl⟩

theorem kids_17 (W : World) : Calls Tryz.prog 74 #[.int .u8 17] W fun e W' => e = .returned (.int .i64 2) ∧ W = W' := by
  go_enter Tryz.func74, Tryz.ntmps74
  go_wp2_with fail
  repeat' (first | ((with_reducible refine wp_exit ?_); (repeat (first | (with_reducible refine ex_then ?_) | (with_reducible refine ex_near ?_) | (refine ex_far (by decide) ?_))); (with_reducible refine ex_go ?_)) | go_values | go_skip | go_guarded | go_step | go_upon)
  go_ret
  exact ⟨rfl, rfl⟩

theorem kids_18 (W : World) : Calls Tryz.prog 74 #[.int .u8 18] W fun e W' => e = .returned (.int .i64 2) ∧ W = W' := by
  go_enter Tryz.func74, Tryz.ntmps74
  go_wp2_with fail
  repeat' (first | ((with_reducible refine wp_exit ?_); (repeat (first | (with_reducible refine ex_then ?_) | (with_reducible refine ex_near ?_) | (refine ex_far (by decide) ?_))); (with_reducible refine ex_go ?_)) | go_values | go_skip | go_guarded | go_step | go_upon)
  go_ret
  exact ⟨rfl, rfl⟩

theorem kids_19 (W : World) : Calls Tryz.prog 74 #[.int .u8 19] W fun e W' => e = .returned (.int .i64 2) ∧ W = W' := by
  go_enter Tryz.func74, Tryz.ntmps74
  go_wp2_with fail
  repeat' (first | ((with_reducible refine wp_exit ?_); (repeat (first | (with_reducible refine ex_then ?_) | (with_reducible refine ex_near ?_) | (refine ex_far (by decide) ?_))); (with_reducible refine ex_go ?_)) | go_values | go_skip | go_guarded | go_step | go_upon)
  go_ret
  exact ⟨rfl, rfl⟩

theorem kids_20 (W : World) : Calls Tryz.prog 74 #[.int .u8 20] W fun e W' => e = .returned (.int .i64 2) ∧ W = W' := by
  go_enter Tryz.func74, Tryz.ntmps74
  go_wp2_with fail
  repeat' (first | ((with_reducible refine wp_exit ?_); (repeat (first | (with_reducible refine ex_then ?_) | (with_reducible refine ex_near ?_) | (refine ex_far (by decide) ?_))); (with_reducible refine ex_go ?_)) | go_values | go_skip | go_guarded | go_step | go_upon)
  go_ret
  exact ⟨rfl, rfl⟩

theorem kids_21 (W : World) : Calls Tryz.prog 74 #[.int .u8 21] W fun e W' => e = .returned (.int .i64 2) ∧ W = W' := by
  go_enter Tryz.func74, Tryz.ntmps74
  go_wp2_with fail
  repeat' (first | ((with_reducible refine wp_exit ?_); (repeat (first | (with_reducible refine ex_then ?_) | (with_reducible refine ex_near ?_) | (refine ex_far (by decide) ?_))); (with_reducible refine ex_go ?_)) | go_values | go_skip | go_guarded | go_step | go_upon)
  go_ret
  exact ⟨rfl, rfl⟩

theorem kids_22 (W : World) : Calls Tryz.prog 74 #[.int .u8 22] W fun e W' => e = .returned (.int .i64 1) ∧ W = W' := by
  go_enter Tryz.func74, Tryz.ntmps74
  go_wp2_with fail
  repeat' (first | ((with_reducible refine wp_exit ?_); (repeat (first | (with_reducible refine ex_then ?_) | (with_reducible refine ex_near ?_) | (refine ex_far (by decide) ?_))); (with_reducible refine ex_go ?_)) | go_values | go_skip | go_guarded | go_step | go_upon)
  go_ret
  exact ⟨rfl, rfl⟩

theorem kids_23 (W : World) : Calls Tryz.prog 74 #[.int .u8 23] W fun e W' => e = .returned (.int .i64 1) ∧ W = W' := by
  go_enter Tryz.func74, Tryz.ntmps74
  go_wp2_with fail
  repeat' (first | ((with_reducible refine wp_exit ?_); (repeat (first | (with_reducible refine ex_then ?_) | (with_reducible refine ex_near ?_) | (refine ex_far (by decide) ?_))); (with_reducible refine ex_go ?_)) | go_values | go_skip | go_guarded | go_step | go_upon)
  go_ret
  exact ⟨rfl, rfl⟩

theorem kids_24 (W : World) : Calls Tryz.prog 74 #[.int .u8 24] W fun e W' => e = .returned (.int .i64 1) ∧ W = W' := by
  go_enter Tryz.func74, Tryz.ntmps74
  go_wp2_with fail
  repeat' (first | ((with_reducible refine wp_exit ?_); (repeat (first | (with_reducible refine ex_then ?_) | (with_reducible refine ex_near ?_) | (refine ex_far (by decide) ?_))); (with_reducible refine ex_go ?_)) | go_values | go_skip | go_guarded | go_step | go_upon)
  go_ret
  exact ⟨rfl, rfl⟩

theorem kids_25 (W : World) : Calls Tryz.prog 74 #[.int .u8 25] W fun e W' => e = .returned (.int .i64 3) ∧ W = W' := by
  go_enter Tryz.func74, Tryz.ntmps74
  go_wp2_with fail
  repeat' (first | ((with_reducible refine wp_exit ?_); (repeat (first | (with_reducible refine ex_then ?_) | (with_reducible refine ex_near ?_) | (refine ex_far (by decide) ?_))); (with_reducible refine ex_go ?_)) | go_values | go_skip | go_guarded | go_step | go_upon)
  go_ret
  exact ⟨rfl, rfl⟩

theorem kids_no (o : Nat) (h : o < 3 ∨ 25 < o) (W : World) : Calls Tryz.prog 74 #[.int .u8 o] W fun e W' => e = .returned (.int .i64 0) ∧ W = W' := by
  have d3 : ((o : Int) == 3) = false := by simp; omega
  have d4 : ((o : Int) == 4) = false := by simp; omega
  have d5 : ((o : Int) == 5) = false := by simp; omega
  have d6 : ((o : Int) == 6) = false := by simp; omega
  have d7 : ((o : Int) == 7) = false := by simp; omega
  have d8 : ((o : Int) == 8) = false := by simp; omega
  have d9 : ((o : Int) == 9) = false := by simp; omega
  have d10 : ((o : Int) == 10) = false := by simp; omega
  have d11 : ((o : Int) == 11) = false := by simp; omega
  have d12 : ((o : Int) == 12) = false := by simp; omega
  have d13 : ((o : Int) == 13) = false := by simp; omega
  have d14 : ((o : Int) == 14) = false := by simp; omega
  have d15 : ((o : Int) == 15) = false := by simp; omega
  have d16 : ((o : Int) == 16) = false := by simp; omega
  have d17 : ((o : Int) == 17) = false := by simp; omega
  have d18 : ((o : Int) == 18) = false := by simp; omega
  have d19 : ((o : Int) == 19) = false := by simp; omega
  have d20 : ((o : Int) == 20) = false := by simp; omega
  have d21 : ((o : Int) == 21) = false := by simp; omega
  have d22 : ((o : Int) == 22) = false := by simp; omega
  have d23 : ((o : Int) == 23) = false := by simp; omega
  have d24 : ((o : Int) == 24) = false := by simp; omega
  have d25 : ((o : Int) == 25) = false := by simp; omega
  go_enter Tryz.func74, Tryz.ntmps74
  go_wp2_with fail
  repeat' (first | ((with_reducible refine wp_exit ?_); (repeat (first | (with_reducible refine ex_then ?_) | (with_reducible refine ex_near ?_) | (refine ex_far (by decide) ?_))); (with_reducible refine ex_go ?_)) | go_values | go_skip | go_guarded | go_step | go_upon)
  go_ret
  exact ⟨rfl, rfl⟩

theorem kids_any (o : Nat) (W : World) : Calls Tryz.prog 74 #[.int .u8 o] W fun e W' => e = .returned (.int .i64 ((kc o : Nat) : Int)) ∧ W = W' := by
  by_cases h : o < 3 ∨ 25 < o
  · rw [show kc o = 0 by unfold kc; rw [if_neg (by omega), if_neg (by omega), if_neg (by omega)]]
    exact kids_no o h W
  by_cases h3 : o = 3
  · subst h3; exact kids_3 W
  by_cases h4 : o = 4
  · subst h4; exact kids_4 W
  by_cases h5 : o = 5
  · subst h5; exact kids_5 W
  by_cases h6 : o = 6
  · subst h6; exact kids_6 W
  by_cases h7 : o = 7
  · subst h7; exact kids_7 W
  by_cases h8 : o = 8
  · subst h8; exact kids_8 W
  by_cases h9 : o = 9
  · subst h9; exact kids_9 W
  by_cases h10 : o = 10
  · subst h10; exact kids_10 W
  by_cases h11 : o = 11
  · subst h11; exact kids_11 W
  by_cases h12 : o = 12
  · subst h12; exact kids_12 W
  by_cases h13 : o = 13
  · subst h13; exact kids_13 W
  by_cases h14 : o = 14
  · subst h14; exact kids_14 W
  by_cases h15 : o = 15
  · subst h15; exact kids_15 W
  by_cases h16 : o = 16
  · subst h16; exact kids_16 W
  by_cases h17 : o = 17
  · subst h17; exact kids_17 W
  by_cases h18 : o = 18
  · subst h18; exact kids_18 W
  by_cases h19 : o = 19
  · subst h19; exact kids_19 W
  by_cases h20 : o = 20
  · subst h20; exact kids_20 W
  by_cases h21 : o = 21
  · subst h21; exact kids_21 W
  by_cases h22 : o = 22
  · subst h22; exact kids_22 W
  by_cases h23 : o = 23
  · subst h23; exact kids_23 W
  by_cases h24 : o = 24
  · subst h24; exact kids_24 W
  obtain rfl : o = 25 := by omega
  exact kids_25 W
end Tm
end Go.Proofs.YthelkbdiedfmfaaGreat
