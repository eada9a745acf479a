/-
  The statements' own small check of examples returns true.
-/
import Derived.Test.YtiogadjjacbjlaaBvBin
import Derived.Test.YtiogadjjacbjlaaBvUn
import Derived.Test.YtiogadjjacbjlaaBvAt
namespace Go.Proofs.Ytiogadjjacbjlaa
open Go.RowKit
namespace Bv
set_option maxHeartbeats 400000

theorem bin_at (o w v n m r k : Nat) (ha : mayB w n = true) (hb : mayB v m = true) (hr : widthB o w v = r) (hk : low r (numB o w v n m) = k) (h0 : ¬ r = 0) (W : World) :
    Calls Try.prog 9 #[.int .u8 o, .agg #[.int .u8 w, .int .u64 n], .agg #[.int .u8 v, .int .u64 m]] W fun e W' => e = .returned (.tuple #[.agg #[.int .u8 r, .int .u64 k], .int .i64 0]) ∧ Below W.heap.size W W' := by
  subst hr; subst hk
  exact binary_ok o w v n m ha hb h0 W


section
variable (W : World)
theorem wk1 : Calls Try.prog 9 #[.int .u8 13, .agg #[.int .u8 4, .int .u64 8], .agg #[.int .u8 4, .int .u64 15]] W fun e W' => e = .returned (.tuple #[.agg #[.int .u8 4, .int .u64 8], .int .i64 0]) ∧ Below W.heap.size W W' :=
  bin_at 13 4 4 8 15 4 8 (by decide) (by decide) (by decide) (by decide) (by decide) W
theorem wk2 : Calls Try.prog 9 #[.int .u8 11, .agg #[.int .u8 8, .int .u64 7], .agg #[.int .u8 8, .int .u64 0]] W fun e W' => e = .returned (.tuple #[.agg #[.int .u8 8, .int .u64 255], .int .i64 0]) ∧ Below W.heap.size W W' :=
  bin_at 11 8 8 7 0 8 255 (by decide) (by decide) (by decide) (by decide) (by decide) W
theorem wk3 : Calls Try.prog 9 #[.int .u8 17, .agg #[.int .u8 4, .int .u64 8], .agg #[.int .u8 4, .int .u64 9]] W fun e W' => e = .returned (.tuple #[.agg #[.int .u8 4, .int .u64 15], .int .i64 0]) ∧ Below W.heap.size W W' :=
  bin_at 17 4 4 8 9 4 15 (by decide) (by decide) (by decide) (by decide) (by decide) W
theorem wk4 : Calls Try.prog 9 #[.int .u8 21, .agg #[.int .u8 4, .int .u64 1], .agg #[.int .u8 4, .int .u64 2]] W fun e W' => e = .returned (.tuple #[.agg #[.int .u8 8, .int .u64 18], .int .i64 0]) ∧ Below W.heap.size W W' :=
  bin_at 21 4 4 1 2 8 18 (by decide) (by decide) (by decide) (by decide) (by decide) W
theorem wk5 : Calls Try.prog 18 #[.int .u8 24, .agg #[.int .u8 4, .int .u64 9], .int .i64 8] W fun e W' => e = .returned (.tuple #[.agg #[.int .u8 8, .int .u64 249], .int .i64 0]) ∧ Below W.heap.size W W' := by
  have h := extend_ok 24 4 9 8 (.inr rfl) (by decide) (by decide) (by decide) W
  rw [show low 8 (numE 24 4 9) = 249 from by decide] at h
  exact h
theorem wk6 : Calls Try.prog 9 #[.int .u8 8, .agg #[.int .u8 4, .int .u64 1], .agg #[.int .u8 5, .int .u64 1]] W fun e W' => e = .returned (.tuple #[.agg #[.int .u8 0, .int .u64 0], .int .i64 2]) ∧ Below W.heap.size W W' :=
  binary_bad 8 4 5 1 1 (.inr (.inr (by decide))) W
theorem wk7 : Calls Try.prog 13 #[.agg #[.int .u8 4, .int .u64 9]] W fun e W' => e = .returned (.int .i64 (-7)) ∧ Below W.heap.size W W' := by
  have h := bworth_any 4 9 W
  rw [show (if mayB 4 9 = true then wo 4 9 else 0) = -7 from by decide] at h
  exact h
end

theorem works_any (W : World) :
    Calls Try.prog 15 #[] W fun e W' => e = .returned (.bool true) ∧ Below W.heap.size W W' := by
  go_enter Try.func15, Try.ntmps15
  go_wp2_with fail
  refine (wk1 _).mono ?_; rintro e w1 ⟨rfl, hb1⟩
  go_wp2_with fail
  refine (wk2 _).mono ?_; rintro e w2 ⟨rfl, hb2⟩
  have k1 := At.made hb2
  go_wp2_with fail
  refine (wk3 _).mono ?_; rintro e w3 ⟨rfl, hb3⟩
  replace k1 := k1.go hb3
  have k2 := At.made hb3
  go_wp2_with fail
  refine (wk4 _).mono ?_; rintro e w4 ⟨rfl, hb4⟩
  replace k1 := k1.go hb4
  replace k2 := k2.go hb4
  have k3 := At.made hb4
  go_wp2_with fail
  refine (wk5 _).mono ?_; rintro e w5 ⟨rfl, hb5⟩
  replace k1 := k1.go hb5
  replace k2 := k2.go hb5
  replace k3 := k3.go hb5
  have k4 := At.made hb5
  go_wp2_with fail
  refine (wk6 _).mono ?_; rintro e w6 ⟨rfl, hb6⟩
  replace k1 := k1.go hb6
  replace k2 := k2.go hb6
  replace k3 := k3.go hb6
  replace k4 := k4.go hb6
  have k5 := At.made hb6
  have l1 := k1.lt
  have l2 := k2.lt
  have l3 := k3.lt
  have l4 := k4.lt
  have l5 := k5.lt
  unfold At at k1 k2 k3 k4 k5
  go_wp2_with fail
  refine (wk7 _).mono ?_; rintro e w7 ⟨rfl, hb7⟩
  go_wp2_with fail
  go_ret
  exact ⟨rfl, bel_go (bel_go (bel_go (bel_go (bel_go (bel_go (bel_call (Below.refl _ _) hb1) hb2) hb3) hb4) hb5) hb6) hb7⟩
end Bv
end Go.Proofs.Ytiogadjjacbjlaa
