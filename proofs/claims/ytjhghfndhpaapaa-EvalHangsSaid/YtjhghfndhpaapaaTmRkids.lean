/-
  How many kids an operator has, as the document's answer tells it: a fact on one call.
-/
import Derived.Test.YtjhghfndhpaapaaTmP1
import Derived.Test.YtjhghfndhpaapaaBvP2
namespace Go.Proofs.Ytjhghfndhpaapaa
open Go.RowKit Bv
namespace Tm
set_option maxHeartbeats 400000
set_option maxRecDepth 100000

theorem rkids_1 (W : World) : Calls Try.prog 32 #[.int .u8 1] W fun e W' => e = .returned (.int .i64 0) ∧ W = W' := by
  go_enter Try.func32, Try.ntmps32
  go_wp2_with fail
  go_ret
  exact ⟨rfl, rfl⟩

theorem rkids_2 (W : World) : Calls Try.prog 32 #[.int .u8 2] W fun e W' => e = .returned (.int .i64 0) ∧ W = W' := by
  go_enter Try.func32, Try.ntmps32
  go_wp2_with fail
  go_ret
  exact ⟨rfl, rfl⟩

theorem rkids_3 (W : World) : Calls Try.prog 32 #[.int .u8 3] W fun e W' => e = .returned (.int .i64 1) ∧ W = W' := by
  go_enter Try.func32, Try.ntmps32
  go_wp2_with fail
  go_ret
  exact ⟨rfl, rfl⟩

theorem rkids_4 (W : World) : Calls Try.prog 32 #[.int .u8 4] W fun e W' => e = .returned (.int .i64 1) ∧ W = W' := by
  go_enter Try.func32, Try.ntmps32
  go_wp2_with fail
  go_ret
  exact ⟨rfl, rfl⟩

theorem rkids_5 (W : World) : Calls Try.prog 32 #[.int .u8 5] W fun e W' => e = .returned (.int .i64 2) ∧ W = W' := by
  go_enter Try.func32, Try.ntmps32
  go_wp2_with fail
  go_ret
  exact ⟨rfl, rfl⟩

theorem rkids_6 (W : World) : Calls Try.prog 32 #[.int .u8 6] W fun e W' => e = .returned (.int .i64 2) ∧ W = W' := by
  go_enter Try.func32, Try.ntmps32
  go_wp2_with fail
  go_ret
  exact ⟨rfl, rfl⟩

theorem rkids_7 (W : World) : Calls Try.prog 32 #[.int .u8 7] W fun e W' => e = .returned (.int .i64 2) ∧ W = W' := by
  go_enter Try.func32, Try.ntmps32
  go_wp2_with fail
  go_ret
  exact ⟨rfl, rfl⟩

theorem rkids_8 (W : World) : Calls Try.prog 32 #[.int .u8 8] W fun e W' => e = .returned (.int .i64 2) ∧ W = W' := by
  go_enter Try.func32, Try.ntmps32
  go_wp2_with fail
  go_ret
  exact ⟨rfl, rfl⟩

theorem rkids_9 (W : World) : Calls Try.prog 32 #[.int .u8 9] W fun e W' => e = .returned (.int .i64 2) ∧ W = W' := by
  go_enter Try.func32, Try.ntmps32
  go_wp2_with fail
  go_ret
  exact ⟨rfl, rfl⟩

theorem rkids_10 (W : World) : Calls Try.prog 32 #[.int .u8 10] W fun e W' => e = .returned (.int .i64 2) ∧ W = W' := by
  go_enter Try.func32, Try.ntmps32
  go_wp2_with fail
  go_ret
  exact ⟨rfl, rfl⟩

theorem rkids_11 (W : World) : Calls Try.prog 32 #[.int .u8 11] W fun e W' => e = .returned (.int .i64 2) ∧ W = W' := by
  go_enter Try.func32, Try.ntmps32
  go_wp2_with fail
  go_ret
  exact ⟨rfl, rfl⟩

theorem rkids_12 (W : World) : Calls Try.prog 32 #[.int .u8 12] W fun e W' => e = .returned (.int .i64 2) ∧ W = W' := by
  go_enter Try.func32, Try.ntmps32
  go_wp2_with fail
  go_ret
  exact ⟨rfl, rfl⟩

theorem rkids_13 (W : World) : Calls Try.prog 32 #[.int .u8 13] W fun e W' => e = .returned (.int .i64 2) ∧ W = W' := by
  go_enter Try.func32, Try.ntmps32
  go_wp2_with fail
  go_ret
  exact ⟨rfl, rfl⟩

theorem rkids_14 (W : World) : Calls Try.prog 32 #[.int .u8 14] W fun e W' => e = .returned (.int .i64 2) ∧ W = W' := by
  go_enter Try.func32, Try.ntmps32
  go_wp2_with fail
  go_ret
  exact ⟨rfl, rfl⟩

theorem rkids_15 (W : World) : Calls Try.prog 32 #[.int .u8 15] W fun e W' => e = .returned (.int .i64 2) ∧ W = W' := by
  go_enter Try.func32, Try.ntmps32
  go_wp2_with fail
  go_ret
  exact ⟨rfl, rfl⟩

theorem rkids_16 (W : World) : Calls Try.prog 32 #[.int .u8 16] W fun e W' => e = .returned (.int .i64 2) ∧ W = W' := by
  go_enter Try.func32, Try.ntmps32
  go_wp2_with fail
  go_ret
  exact ⟨rfl, rfl⟩

theorem rkids_17 (W : World) : Calls Try.prog 32 #[.int .u8 17] W fun e W' => e = .returned (.int .i64 2) ∧ W = W' := by
  go_enter Try.func32, Try.ntmps32
  go_wp2_with fail
  go_ret
  exact ⟨rfl, rfl⟩

theorem rkids_18 (W : World) : Calls Try.prog 32 #[.int .u8 18] W fun e W' => e = .returned (.int .i64 2) ∧ W = W' := by
  go_enter Try.func32, Try.ntmps32
  go_wp2_with fail
  go_ret
  exact ⟨rfl, rfl⟩

theorem rkids_19 (W : World) : Calls Try.prog 32 #[.int .u8 19] W fun e W' => e = .returned (.int .i64 2) ∧ W = W' := by
  go_enter Try.func32, Try.ntmps32
  go_wp2_with fail
  go_ret
  exact ⟨rfl, rfl⟩

theorem rkids_20 (W : World) : Calls Try.prog 32 #[.int .u8 20] W fun e W' => e = .returned (.int .i64 2) ∧ W = W' := by
  go_enter Try.func32, Try.ntmps32
  go_wp2_with fail
  go_ret
  exact ⟨rfl, rfl⟩

theorem rkids_21 (W : World) : Calls Try.prog 32 #[.int .u8 21] W fun e W' => e = .returned (.int .i64 2) ∧ W = W' := by
  go_enter Try.func32, Try.ntmps32
  go_wp2_with fail
  go_ret
  exact ⟨rfl, rfl⟩

theorem rkids_22 (W : World) : Calls Try.prog 32 #[.int .u8 22] W fun e W' => e = .returned (.int .i64 1) ∧ W = W' := by
  go_enter Try.func32, Try.ntmps32
  go_wp2_with fail
  go_ret
  exact ⟨rfl, rfl⟩

theorem rkids_23 (W : World) : Calls Try.prog 32 #[.int .u8 23] W fun e W' => e = .returned (.int .i64 1) ∧ W = W' := by
  go_enter Try.func32, Try.ntmps32
  go_wp2_with fail
  go_ret
  exact ⟨rfl, rfl⟩

theorem rkids_24 (W : World) : Calls Try.prog 32 #[.int .u8 24] W fun e W' => e = .returned (.int .i64 1) ∧ W = W' := by
  go_enter Try.func32, Try.ntmps32
  go_wp2_with fail
  go_ret
  exact ⟨rfl, rfl⟩

theorem rkids_25 (W : World) : Calls Try.prog 32 #[.int .u8 25] W fun e W' => e = .returned (.int .i64 3) ∧ W = W' := by
  go_enter Try.func32, Try.ntmps32
  go_wp2_with fail
  go_ret
  exact ⟨rfl, rfl⟩

theorem rkids_no0 (o : Nat) (h : o = 0) (W : World) : Calls Try.prog 32 #[.int .u8 o] W fun e W' => e = .returned (.int .i64 (-1)) ∧ W = W' := by
  have d1 : ((o : Int) == 1) = false := by simp; omega
  have d2 : ((o : Int) == 2) = false := by simp; omega
  have d3 : ((o : Int) == 3) = false := by simp; omega
  have d4 : ((o : Int) == 4) = false := by simp; omega
  have d22 : ((o : Int) == 22) = false := by simp; omega
  have d23 : ((o : Int) == 23) = false := by simp; omega
  have d24 : ((o : Int) == 24) = false := by simp; omega
  have d25 : ((o : Int) == 25) = false := by simp; omega
  have g5 : decide ((5 : Int) ≤ (o : Int)) = false := decide_eq_false (by omega)
  go_enter Try.func32, Try.ntmps32
  go_wp2_with fail
  go_ret
  exact ⟨rfl, rfl⟩

theorem rkids_no26 (o : Nat) (h : 25 < o) (W : World) : Calls Try.prog 32 #[.int .u8 o] W fun e W' => e = .returned (.int .i64 (-1)) ∧ W = W' := by
  have d1 : ((o : Int) == 1) = false := by simp; omega
  have d2 : ((o : Int) == 2) = false := by simp; omega
  have d3 : ((o : Int) == 3) = false := by simp; omega
  have d4 : ((o : Int) == 4) = false := by simp; omega
  have d22 : ((o : Int) == 22) = false := by simp; omega
  have d23 : ((o : Int) == 23) = false := by simp; omega
  have d24 : ((o : Int) == 24) = false := by simp; omega
  have d25 : ((o : Int) == 25) = false := by simp; omega
  have g5 : decide ((5 : Int) ≤ (o : Int)) = true := decide_eq_true (by omega)
  have g21 : decide ((o : Int) ≤ 21) = false := decide_eq_false (by omega)
  go_enter Try.func32, Try.ntmps32
  go_wp2_with fail
  go_ret
  exact ⟨rfl, rfl⟩

theorem rkids_any (o : Nat) (W : World) : Calls Try.prog 32 #[.int .u8 o] W fun e W' => e = .returned (.int .i64 (rk o)) ∧ W = W' := by
  by_cases h0 : o = 0
  · rw [show rk o = -1 by subst h0; rfl]; exact rkids_no0 o h0 W
  by_cases h26 : 25 < o
  · rw [show rk o = -1 by unfold rk; rw [if_neg (by omega), if_neg (by omega), if_neg (by omega), if_neg (by omega)]]; exact rkids_no26 o h26 W
  by_cases h101 : o = 1
  · subst h101; exact rkids_1 W
  by_cases h102 : o = 2
  · subst h102; exact rkids_2 W
  by_cases h103 : o = 3
  · subst h103; exact rkids_3 W
  by_cases h104 : o = 4
  · subst h104; exact rkids_4 W
  by_cases h105 : o = 5
  · subst h105; exact rkids_5 W
  by_cases h106 : o = 6
  · subst h106; exact rkids_6 W
  by_cases h107 : o = 7
  · subst h107; exact rkids_7 W
  by_cases h108 : o = 8
  · subst h108; exact rkids_8 W
  by_cases h109 : o = 9
  · subst h109; exact rkids_9 W
  by_cases h110 : o = 10
  · subst h110; exact rkids_10 W
  by_cases h111 : o = 11
  · subst h111; exact rkids_11 W
  by_cases h112 : o = 12
  · subst h112; exact rkids_12 W
  by_cases h113 : o = 13
  · subst h113; exact rkids_13 W
  by_cases h114 : o = 14
  · subst h114; exact rkids_14 W
  by_cases h115 : o = 15
  · subst h115; exact rkids_15 W
  by_cases h116 : o = 16
  · subst h116; exact rkids_16 W
  by_cases h117 : o = 17
  · subst h117; exact rkids_17 W
  by_cases h118 : o = 18
  · subst h118; exact rkids_18 W
  by_cases h119 : o = 19
  · subst h119; exact rkids_19 W
  by_cases h120 : o = 20
  · subst h120; exact rkids_20 W
  by_cases h121 : o = 21
  · subst h121; exact rkids_21 W
  by_cases h122 : o = 22
  · subst h122; exact rkids_22 W
  by_cases h123 : o = 23
  · subst h123; exact rkids_23 W
  by_cases h124 : o = 24
  · subst h124; exact rkids_24 W
  obtain rfl : o = 25 := by omega
  exact rkids_25 W
end Tm
end Go.Proofs.Ytjhghfndhpaapaa
