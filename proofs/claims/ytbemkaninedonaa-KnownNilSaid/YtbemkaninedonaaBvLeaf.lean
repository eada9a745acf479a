/-
  What the small functions of layer bv and of its reference return, each as a fact on one call: they return, and what was in memory stays.
-/
import Derived.Test.YtbemkaninedonaaProg
import Derived.Test.YtbemkaninedonaaBvMath
import Derived.WalkKit
import Derived.Outline
import Derived.Deep.QuietTactic
import Derived.BigQuiet
import Derived.Below
import Derived.WalkSmall
namespace Go.Proofs.Ytbemkaninedonaa
open Go.RowKit
namespace Bv
set_option maxHeartbeats 400000

theorem ret_u64 {a b : Int} (h : a = b) : Ending.returned (.int .u64 a) = .returned (.int .u64 b) := by rw [h]
theorem ret_i64 {a b : Int} (h : a = b) : Ending.returned (.int .i64 a) = .returned (.int .i64 b) := by rw [h]
theorem ret_bool {a b : Bool} (h : a = b) : Ending.returned (.bool a) = .returned (.bool b) := by rw [h]

theorem mask_any (w : Nat) (h1 : 1 ≤ w) (h2 : w ≤ 64) (W : World) :
    Calls Try.prog 60 #[.int .u8 w] W fun e W' => e = .returned (.int .u64 ((2 ^ w - 1 : Nat) : Int)) ∧ W = W' := by
  go_enter Try.func60, Try.ntmps60
  go_wp2
  go_ret
  exact ⟨ret_u64 (mask_div_int h2), rfl⟩

theorem rmask_any (w : Nat) (h2 : w ≤ 64) (W : World) :
    Calls Try.prog 11 #[.int .u8 w] W fun e W' => e = .returned (.int .u64 ((2 ^ w - 1 : Nat) : Int)) ∧ W = W' := by
  by_cases h : w < 64
  · go_enter Try.func11, Try.ntmps11
    go_wp2
    go_ret
    exact ⟨ret_u64 (rmask64 h), rfl⟩
  · obtain rfl : w = 64 := by omega
    go_enter Try.func11, Try.ntmps11
    go_wp2
    go_ret
    exact ⟨ret_u64 (by decide), rfl⟩

theorem bit_any (b : Bool) (W : World) :
    Calls Try.prog 73 #[.bool b] W fun e W' => e = .returned (.int .u64 ((b.toNat : Nat) : Int)) ∧ W = W' := by
  cases b
  all_goals
    go_enter Try.func73, Try.ntmps73
    go_wp2
    go_ret
    exact ⟨rfl, rfl⟩

theorem flag_any (b : Bool) (W : World) :
    Calls Try.prog 58 #[.bool b] W fun e W' => e = .returned (.agg #[.int .u8 1, .int .u64 ((b.toNat : Nat) : Int)]) ∧ Below W.heap.size W W' := by
  cases b
  all_goals
    go_enter Try.func58, Try.ntmps58
    go_wp2
    exact bodyPost_ret (v := .agg #[.int .u8 1, .int .u64 _]) (by simp [results, Try.results58, go_sem]) rfl ⟨rfl, (Below.refl _ _).alloc (Nat.le_refl _) _⟩

theorem cut_any (w : Nat) (h1 : 1 ≤ w) (h2 : w ≤ 64) (n : Int) (hn0 : 0 ≤ n) (hn : n < 18446744073709551616) (W : World) :
    Calls Try.prog 68 #[.int .u8 w, .int .u64 n] W fun e W' => e = .returned (.agg #[.int .u8 w, .int .u64 ((low w n.toNat : Nat) : Int)]) ∧ Below W.heap.size W W' := by
  go_enter Try.func68, Try.ntmps68
  go_wp2_with (go_at_call 60; refine (mask_any _ h1 h2 _).mono ?_; rintro e w' ⟨rfl, rfl⟩)
  exact bodyPost_ret (v := .agg #[.int .u8 w, .int .u64 ((low w n.toNat : Nat) : Int)]) (by simp [results, Try.results68, go_sem, and64 n hn0 hn h2]) rfl ⟨rfl, (Below.refl _ _).alloc (Nat.le_refl _) _⟩

theorem rcut_any (w : Nat) (h2 : w ≤ 64) (n : Int) (hn0 : 0 ≤ n) (hn : n < 18446744073709551616) (W : World) :
    Calls Try.prog 40 #[.int .u8 w, .int .u64 n] W fun e W' => e = .returned (.agg #[.int .u8 w, .int .u64 ((low w n.toNat : Nat) : Int)]) ∧ Below W.heap.size W W' := by
  go_enter Try.func40, Try.ntmps40
  go_wp2_with (go_at_call 11; refine (rmask_any _ h2 _).mono ?_; rintro e w' ⟨rfl, rfl⟩)
  exact bodyPost_ret (v := .agg #[.int .u8 w, .int .u64 ((low w n.toNat : Nat) : Int)]) (by simp [results, Try.results40, go_sem, and64 n hn0 hn h2]) rfl ⟨rfl, (Below.refl _ _).alloc (Nat.le_refl _) _⟩

theorem worth_any (w n : Nat) (h1 : 1 ≤ w) (h2 : w ≤ 64) (hn : n < 2 ^ w) (W : World) :
    Calls Try.prog 69 #[.agg #[.int .u8 w, .int .u64 n]] W fun e W' => e = .returned (.int .i64 (wo w n)) ∧ Below W.heap.size W W' := by
  go_enter Try.func69, Try.ntmps69
  go_wp2
  go_ret
  exact ⟨ret_i64 (by unfold wrap64; rw [← IntKind.wrap_i64]; simp only [IntKind.wrap_u64]; exact worth_shift h1 h2 hn), (Below.refl _ _).alloc (Nat.le_refl _) _⟩

theorem rbit_any (w n : Nat) (hn : n < 18446744073709551616) (i : Int) (hi : 0 ≤ i) (hi2 : i < 9223372036854775808) (W : World) :
    Calls Try.prog 67 #[.agg #[.int .u8 w, .int .u64 n], .int .i64 i] W fun e W' => e = .returned (.bool (n.testBit i.toNat)) ∧ Below W.heap.size W W' := by
  go_enter Try.func67, Try.ntmps67
  go_wp2
  go_ret
  exact ⟨ret_bool (bit64 hn hi), (Below.refl _ _).alloc (Nat.le_refl _) _⟩

theorem rsign_any (w n : Nat) (h1 : 1 ≤ w) (h2 : w ≤ 64) (hn : n < 2 ^ w) (W : World) :
    Calls Try.prog 66 #[.agg #[.int .u8 w, .int .u64 n]] W fun e W' => e = .returned (.bool (decide (2 ^ (w - 1) ≤ n))) ∧ Below W.heap.size W W' := by
  have hl := pow_le64 h2
  go_enter Try.func66, Try.ntmps66
  go_wp2_with (go_at_call 67; refine (rbit_any w n (by omega) _ (by omega) (by omega) _).mono ?_; rintro e w1 ⟨rfl, hb⟩)
  go_ret
  exact ⟨ret_bool (by rw [← sign_iff h1 hn]), ((Below.refl _ _).alloc (Nat.le_refl _) _).trans (hb.mono (by simp))⟩

theorem may_any (w n : Nat) (W : World) :
    Calls Try.prog 48 #[.agg #[.int .u8 w, .int .u64 n]] W fun e W' => e = .returned (.bool (mayB w n)) ∧ Below W.heap.size W W' := by
  by_cases h1 : 1 ≤ w
  · have d1 : decide ((1 : Int) ≤ (w : Int)) = true := by simp; omega
    by_cases h2 : w ≤ 64
    · have d2 : decide ((w : Int) ≤ (64 : Int)) = true := by simp; omega
      go_enter Try.func48, Try.ntmps48
      go_wp2
      go_quiet ((go_at_call 60; exact Calls.quiet_of_same ((mask_any w h1 h2 _).mono fun _ _ h => ⟨h.1, h.2.symm⟩)))
      go_wp2
      go_ret
      exact ⟨ret_bool (decide_eq_decide.2 ⟨fun h => ⟨h1, h2, by have := pow_pos' w; omega⟩, fun h => by have := h.2.2; omega⟩), below_drewN ((Below.refl _ _).alloc (Nat.le_refl _) _) _⟩
    · have d2 : decide ((w : Int) ≤ (64 : Int)) = false := by simp; omega
      go_enter Try.func48, Try.ntmps48
      go_wp2
      go_quiet (fail)
      go_wp2
      go_ret
      exact ⟨ret_bool (by unfold mayB; simp; omega), below_drewN ((Below.refl _ _).alloc (Nat.le_refl _) _) _⟩
  · have d1 : decide ((1 : Int) ≤ (w : Int)) = false := by simp; omega
    go_enter Try.func48, Try.ntmps48
    go_wp2
    go_quiet (fail)
    go_wp2
    go_ret
    exact ⟨ret_bool (by unfold mayB; simp; omega), below_drewN ((Below.refl _ _).alloc (Nat.le_refl _) _) _⟩

theorem rmay_any (w n : Nat) (hn : n < 18446744073709551616) (W : World) :
    Calls Try.prog 51 #[.agg #[.int .u8 w, .int .u64 n]] W fun e W' => e = .returned (.bool (mayB w n)) ∧ Below W.heap.size W W' := by
  by_cases h1 : 1 ≤ w
  · have d1 : decide ((1 : Int) ≤ (w : Int)) = true := by simp; omega
    by_cases h2 : w ≤ 64
    · have d2 : decide ((w : Int) ≤ (64 : Int)) = true := by simp; omega
      by_cases h3 : w = 64
      · have d3 : ((w : Int) == 64) = true := by simp; omega
        go_enter Try.func51, Try.ntmps51
        go_wp2
        go_ret
        exact ⟨ret_bool (by unfold mayB; subst h3; simp; omega), (Below.refl _ _).alloc (Nat.le_refl _) _⟩
      · have d3 : ((w : Int) == 64) = false := by simp; omega
        go_enter Try.func51, Try.ntmps51
        go_wp2
        go_ret
        exact ⟨ret_bool (may_shr h1 h2), (Below.refl _ _).alloc (Nat.le_refl _) _⟩
    · have d2 : decide ((w : Int) ≤ (64 : Int)) = false := by simp; omega
      go_enter Try.func51, Try.ntmps51
      go_wp2
      go_ret
      exact ⟨ret_bool (by unfold mayB; simp; omega), (Below.refl _ _).alloc (Nat.le_refl _) _⟩
  · have d1 : decide ((1 : Int) ≤ (w : Int)) = false := by simp; omega
    go_enter Try.func51, Try.ntmps51
    go_wp2
    go_ret
    exact ⟨ret_bool (by unfold mayB; simp; omega), (Below.refl _ _).alloc (Nat.le_refl _) _⟩
end Bv
end Go.Proofs.Ytbemkaninedonaa
