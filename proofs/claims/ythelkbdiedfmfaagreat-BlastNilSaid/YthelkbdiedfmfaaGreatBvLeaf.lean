/-
  What the small functions of layer bv and of its reference return, each as a fact on one call: they return, and what was in memory stays.
-/
import Derived.Test.YthelkbdiedfmfaaGreatProg
import Derived.Test.YthelkbdiedfmfaaGreatBvMath
import Derived.WalkKit
import Derived.Outline
import Derived.Deep.QuietTactic
import Derived.BigQuiet
import Derived.Below
import Derived.WalkSmall
namespace Go.Proofs.YthelkbdiedfmfaaGreat
open Go.RowKit
namespace Bv
set_option maxHeartbeats 400000

theorem ret_u64 {a b : Int} (h : a = b) : Ending.returned (.int .u64 a) = .returned (.int .u64 b) := by rw [h]
theorem ret_i64 {a b : Int} (h : a = b) : Ending.returned (.int .i64 a) = .returned (.int .i64 b) := by rw [h]
theorem ret_bool {a b : Bool} (h : a = b) : Ending.returned (.bool a) = .returned (.bool b) := by rw [h]

theorem mask_any (w : Nat) (h1 : 1 ≤ w) (h2 : w ≤ 64) (W : World) :
    Calls Tryz.prog 85 #[.int .u8 w] W fun e W' => e = .returned (.int .u64 ((2 ^ w - 1 : Nat) : Int)) ∧ W = W' := by
  go_enter Tryz.func85, Tryz.ntmps85
  go_wp2
  go_ret
  exact ⟨ret_u64 (mask_div_int h2), rfl⟩

theorem bit_any (b : Bool) (W : World) :
    Calls Tryz.prog 106 #[.bool b] W fun e W' => e = .returned (.int .u64 ((b.toNat : Nat) : Int)) ∧ W = W' := by
  cases b
  all_goals
    go_enter Tryz.func106, Tryz.ntmps106
    go_wp2
    go_ret
    exact ⟨rfl, rfl⟩

theorem cut_any (w : Nat) (h1 : 1 ≤ w) (h2 : w ≤ 64) (n : Int) (hn0 : 0 ≤ n) (hn : n < 18446744073709551616) (W : World) :
    Calls Tryz.prog 93 #[.int .u8 w, .int .u64 n] W fun e W' => e = .returned (.agg #[.int .u8 w, .int .u64 ((low w n.toNat : Nat) : Int)]) ∧ Below W.heap.size W W' := by
  go_enter Tryz.func93, Tryz.ntmps93
  go_wp2_with (go_at_call 85; refine (mask_any _ h1 h2 _).mono ?_; rintro e w' ⟨rfl, rfl⟩)
  exact bodyPost_ret (v := .agg #[.int .u8 w, .int .u64 ((low w n.toNat : Nat) : Int)]) (by simp [results, Tryz.results93, go_sem, and64 n hn0 hn h2]) rfl ⟨rfl, (Below.refl _ _).alloc (Nat.le_refl _) _⟩

theorem worth_any (w n : Nat) (h1 : 1 ≤ w) (h2 : w ≤ 64) (hn : n < 2 ^ w) (W : World) :
    Calls Tryz.prog 94 #[.agg #[.int .u8 w, .int .u64 n]] W fun e W' => e = .returned (.int .i64 (wo w n)) ∧ Below W.heap.size W W' := by
  go_enter Tryz.func94, Tryz.ntmps94
  go_wp2
  go_ret
  exact ⟨ret_i64 (by unfold wrap64; rw [← IntKind.wrap_i64]; simp only [IntKind.wrap_u64]; exact worth_shift h1 h2 hn), (Below.refl _ _).alloc (Nat.le_refl _) _⟩

theorem may_any (w n : Nat) (W : World) :
    Calls Tryz.prog 75 #[.agg #[.int .u8 w, .int .u64 n]] W fun e W' => e = .returned (.bool (mayB w n)) ∧ Below W.heap.size W W' := by
  by_cases h1 : 1 ≤ w
  · have d1 : decide ((1 : Int) ≤ (w : Int)) = true := by simp; omega
    by_cases h2 : w ≤ 64
    · have d2 : decide ((w : Int) ≤ (64 : Int)) = true := by simp; omega
      go_enter Tryz.func75, Tryz.ntmps75
      go_wp2
      go_quiet ((go_at_call 85; exact Calls.quiet_of_same ((mask_any w h1 h2 _).mono fun _ _ h => ⟨h.1, h.2.symm⟩)))
      go_wp2
      go_ret
      exact ⟨ret_bool (decide_eq_decide.2 ⟨fun h => ⟨h1, h2, by have := pow_pos' w; omega⟩, fun h => by have := h.2.2; omega⟩), below_drewN ((Below.refl _ _).alloc (Nat.le_refl _) _) _⟩
    · have d2 : decide ((w : Int) ≤ (64 : Int)) = false := by simp; omega
      go_enter Tryz.func75, Tryz.ntmps75
      go_wp2
      go_quiet (fail)
      go_wp2
      go_ret
      exact ⟨ret_bool (by unfold mayB; simp; omega), below_drewN ((Below.refl _ _).alloc (Nat.le_refl _) _) _⟩
  · have d1 : decide ((1 : Int) ≤ (w : Int)) = false := by simp; omega
    go_enter Tryz.func75, Tryz.ntmps75
    go_wp2
    go_quiet (fail)
    go_wp2
    go_ret
    exact ⟨ret_bool (by unfold mayB; simp; omega), below_drewN ((Below.refl _ _).alloc (Nat.le_refl _) _) _⟩

end Bv
end Go.Proofs.YthelkbdiedfmfaaGreat
