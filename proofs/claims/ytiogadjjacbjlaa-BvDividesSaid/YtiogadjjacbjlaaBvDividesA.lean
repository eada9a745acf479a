/-
  The statement on quotients and rests, as a fact on the call.
-/
import Derived.Test.YtiogadjjacbjlaaBvFitsA
import Derived.Test.YtiogadjjacbjlaaBvMathD
import Derived.LoopN
namespace Go.Proofs.Ytiogadjjacbjlaa
open Go.RowKit
namespace Bv
set_option maxHeartbeats 1000000
set_option maxRecDepth 100000

theorem div_bad1 (w v n m : Nat) (HA : Hid (mayB w n = false)) (W : World) :
    Calls Try.prog 5 #[.agg #[.int .u8 w, .int .u64 n], .agg #[.int .u8 v, .int .u64 m]] W fun e W' => e = .returned (.bool true) ∧ Below W.heap.size W W' := by
  go_enter Try.func5, Try.ntmps5
  go_wp2_with fail
  refine (may_no HA.out _).mono ?_; rintro e w1 ⟨rfl, hb1⟩
  have ka : At w1 (W.heap.size) (.int .u8 w) (.int .u64 n) := by have h0 := (((At.new _ _ _ _).alloc _)).keep hb1; simpa using h0
  have la := ka.lt
  have oa := ka
  unfold At at oa
  have kb : At w1 (W.heap.size + 1) (.int .u8 v) (.int .u64 m) := by have h0 := ((At.new _ _ _ _)).keep hb1; simpa using h0
  have lb := kb.lt
  have ob := kb
  unfold At at ob
  go_wp2_with fail
  refine (works_any _).mono ?_; rintro e w2 ⟨rfl, hb2⟩
  replace ka := ka.keep hb2
  replace la := ka.lt
  replace oa := ka
  unfold At at oa
  replace kb := kb.keep hb2
  replace lb := kb.lt
  replace ob := kb
  unfold At at ob
  go_wp2_with fail
  go_ret
  exact ⟨rfl, (bel_call (bel_call (bel_alloc (bel_alloc (Below.refl _ _) _) _) hb1) hb2)⟩

theorem div_bad2 (w v n m : Nat) (HA : Hid (mayB w n = true)) (HB : Hid (mayB v m = false)) (W : World) :
    Calls Try.prog 5 #[.agg #[.int .u8 w, .int .u64 n], .agg #[.int .u8 v, .int .u64 m]] W fun e W' => e = .returned (.bool true) ∧ Below W.heap.size W W' := by
  go_enter Try.func5, Try.ntmps5
  go_wp2_with fail
  refine (may_yes HA.out _).mono ?_; rintro e w1 ⟨rfl, hb1⟩
  have ka : At w1 (W.heap.size) (.int .u8 w) (.int .u64 n) := by have h0 := (((At.new _ _ _ _).alloc _)).keep hb1; simpa using h0
  have la := ka.lt
  have oa := ka
  unfold At at oa
  have kb : At w1 (W.heap.size + 1) (.int .u8 v) (.int .u64 m) := by have h0 := ((At.new _ _ _ _)).keep hb1; simpa using h0
  have lb := kb.lt
  have ob := kb
  unfold At at ob
  go_wp2_with fail
  refine (may_no HB.out _).mono ?_; rintro e w2 ⟨rfl, hb2⟩
  replace ka := ka.keep hb2
  replace la := ka.lt
  replace oa := ka
  unfold At at oa
  replace kb := kb.keep hb2
  replace lb := kb.lt
  replace ob := kb
  unfold At at ob
  go_wp2_with fail
  refine (works_any _).mono ?_; rintro e w3 ⟨rfl, hb3⟩
  replace ka := ka.keep hb3
  replace la := ka.lt
  replace oa := ka
  unfold At at oa
  replace kb := kb.keep hb3
  replace lb := kb.lt
  replace ob := kb
  unfold At at ob
  go_wp2_with fail
  go_ret
  exact ⟨rfl, (bel_call (bel_call (bel_call (bel_alloc (bel_alloc (Below.refl _ _) _) _) hb1) hb2) hb3)⟩

theorem div_bad3 (w v n m : Nat) (HA : Hid (mayB w n = true)) (HB : Hid (mayB v m = true)) (hvw : ((w : Int) != (v : Int)) = true) (W : World) :
    Calls Try.prog 5 #[.agg #[.int .u8 w, .int .u64 n], .agg #[.int .u8 v, .int .u64 m]] W fun e W' => e = .returned (.bool true) ∧ Below W.heap.size W W' := by
  go_enter Try.func5, Try.ntmps5
  go_wp2_with fail
  refine (may_yes HA.out _).mono ?_; rintro e w1 ⟨rfl, hb1⟩
  have ka : At w1 (W.heap.size) (.int .u8 w) (.int .u64 n) := by have h0 := (((At.new _ _ _ _).alloc _)).keep hb1; simpa using h0
  have la := ka.lt
  have oa := ka
  unfold At at oa
  have kb : At w1 (W.heap.size + 1) (.int .u8 v) (.int .u64 m) := by have h0 := ((At.new _ _ _ _)).keep hb1; simpa using h0
  have lb := kb.lt
  have ob := kb
  unfold At at ob
  go_wp2_with fail
  refine (may_yes HB.out _).mono ?_; rintro e w2 ⟨rfl, hb2⟩
  replace ka := ka.keep hb2
  replace la := ka.lt
  replace oa := ka
  unfold At at oa
  replace kb := kb.keep hb2
  replace lb := kb.lt
  replace ob := kb
  unfold At at ob
  go_wp2_with fail
  refine (works_any _).mono ?_; rintro e w3 ⟨rfl, hb3⟩
  replace ka := ka.keep hb3
  replace la := ka.lt
  replace oa := ka
  unfold At at oa
  replace kb := kb.keep hb3
  replace lb := kb.lt
  replace ob := kb
  unfold At at ob
  go_wp2_with fail
  go_ret
  exact ⟨rfl, (bel_call (bel_call (bel_call (bel_alloc (bel_alloc (Below.refl _ _) _) _) hb1) hb2) hb3)⟩

theorem div_bad4 (w v n m : Nat) (HA : Hid (mayB w n = true)) (HB : Hid (mayB v m = true)) (hvw : ((w : Int) != (v : Int)) = false) (h0 : ((m : Int) == 0) = true) (W : World) :
    Calls Try.prog 5 #[.agg #[.int .u8 w, .int .u64 n], .agg #[.int .u8 v, .int .u64 m]] W fun e W' => e = .returned (.bool true) ∧ Below W.heap.size W W' := by
  go_enter Try.func5, Try.ntmps5
  go_wp2_with fail
  refine (may_yes HA.out _).mono ?_; rintro e w1 ⟨rfl, hb1⟩
  have ka : At w1 (W.heap.size) (.int .u8 w) (.int .u64 n) := by have h0 := (((At.new _ _ _ _).alloc _)).keep hb1; simpa using h0
  have la := ka.lt
  have oa := ka
  unfold At at oa
  have kb : At w1 (W.heap.size + 1) (.int .u8 v) (.int .u64 m) := by have h0 := ((At.new _ _ _ _)).keep hb1; simpa using h0
  have lb := kb.lt
  have ob := kb
  unfold At at ob
  go_wp2_with fail
  refine (may_yes HB.out _).mono ?_; rintro e w2 ⟨rfl, hb2⟩
  replace ka := ka.keep hb2
  replace la := ka.lt
  replace oa := ka
  unfold At at oa
  replace kb := kb.keep hb2
  replace lb := kb.lt
  replace ob := kb
  unfold At at ob
  go_wp2_with fail
  refine (works_any _).mono ?_; rintro e w3 ⟨rfl, hb3⟩
  replace ka := ka.keep hb3
  replace la := ka.lt
  replace oa := ka
  unfold At at oa
  replace kb := kb.keep hb3
  replace lb := kb.lt
  replace ob := kb
  unfold At at ob
  go_wp2_with fail
  go_ret
  exact ⟨rfl, (bel_call (bel_call (bel_call (bel_alloc (bel_alloc (Below.refl _ _) _) _) hb1) hb2) hb3)⟩

theorem div_ok (w v n m q1 r1 p1 q2 r2 p2 : Nat)
    (HA : Hid (mayB w n = true)) (HB : Hid (mayB v m = true)) (hvw : ((w : Int) != (v : Int)) = false) (h0 : ((m : Int) == 0) = false)
    (H1 : Hid (∀ W : World, Calls Try.prog 9 #[.int .u8 11, .agg #[.int .u8 w, .int .u64 n], .agg #[.int .u8 v, .int .u64 m]] W fun e W' => e = .returned (.tuple #[.agg #[.int .u8 w, .int .u64 q1], .int .i64 0]) ∧ Below W.heap.size W W'))
    (H2 : Hid (∀ W : World, Calls Try.prog 9 #[.int .u8 12, .agg #[.int .u8 w, .int .u64 n], .agg #[.int .u8 v, .int .u64 m]] W fun e W' => e = .returned (.tuple #[.agg #[.int .u8 w, .int .u64 r1], .int .i64 0]) ∧ Below W.heap.size W W'))
    (H3 : Hid (∀ W : World, Calls Try.prog 9 #[.int .u8 10, .agg #[.int .u8 w, .int .u64 q1], .agg #[.int .u8 v, .int .u64 m]] W fun e W' => e = .returned (.tuple #[.agg #[.int .u8 w, .int .u64 p1], .int .i64 0]) ∧ Below W.heap.size W W'))
    (H4 : Hid (∀ W : World, Calls Try.prog 9 #[.int .u8 8, .agg #[.int .u8 w, .int .u64 p1], .agg #[.int .u8 w, .int .u64 r1]] W fun e W' => e = .returned (.tuple #[.agg #[.int .u8 w, .int .u64 n], .int .i64 0]) ∧ Below W.heap.size W W'))
    (H5 : Hid (∀ W : World, Calls Try.prog 9 #[.int .u8 19, .agg #[.int .u8 w, .int .u64 r1], .agg #[.int .u8 v, .int .u64 m]] W fun e W' => e = .returned (.tuple #[.agg #[.int .u8 1, .int .u64 1], .int .i64 0]) ∧ Below W.heap.size W W'))
    (H6 : Hid (∀ W : World, Calls Try.prog 9 #[.int .u8 13, .agg #[.int .u8 w, .int .u64 n], .agg #[.int .u8 v, .int .u64 m]] W fun e W' => e = .returned (.tuple #[.agg #[.int .u8 w, .int .u64 q2], .int .i64 0]) ∧ Below W.heap.size W W'))
    (H7 : Hid (∀ W : World, Calls Try.prog 9 #[.int .u8 14, .agg #[.int .u8 w, .int .u64 n], .agg #[.int .u8 v, .int .u64 m]] W fun e W' => e = .returned (.tuple #[.agg #[.int .u8 w, .int .u64 r2], .int .i64 0]) ∧ Below W.heap.size W W'))
    (H8 : Hid (∀ W : World, Calls Try.prog 9 #[.int .u8 10, .agg #[.int .u8 w, .int .u64 q2], .agg #[.int .u8 v, .int .u64 m]] W fun e W' => e = .returned (.tuple #[.agg #[.int .u8 w, .int .u64 p2], .int .i64 0]) ∧ Below W.heap.size W W'))
    (H9 : Hid (∀ W : World, Calls Try.prog 9 #[.int .u8 8, .agg #[.int .u8 w, .int .u64 p2], .agg #[.int .u8 w, .int .u64 r2]] W fun e W' => e = .returned (.tuple #[.agg #[.int .u8 w, .int .u64 n], .int .i64 0]) ∧ Below W.heap.size W W')) (W : World) :
    Calls Try.prog 5 #[.agg #[.int .u8 w, .int .u64 n], .agg #[.int .u8 v, .int .u64 m]] W fun e W' => e = .returned (.bool true) ∧ Below W.heap.size W W' := by
  go_enter Try.func5, Try.ntmps5
  go_wp2_with fail
  refine (may_yes HA.out _).mono ?_; rintro e w1 ⟨rfl, hb1⟩
  have ka : At w1 (W.heap.size) (.int .u8 w) (.int .u64 n) := by have h0 := (((At.new _ _ _ _).alloc _)).keep hb1; simpa using h0
  have la := ka.lt
  have oa := ka
  unfold At at oa
  have kb : At w1 (W.heap.size + 1) (.int .u8 v) (.int .u64 m) := by have h0 := ((At.new _ _ _ _)).keep hb1; simpa using h0
  have lb := kb.lt
  have ob := kb
  unfold At at ob
  go_wp2_with fail
  refine (may_yes HB.out _).mono ?_; rintro e w2 ⟨rfl, hb2⟩
  replace ka := ka.keep hb2
  replace la := ka.lt
  replace oa := ka
  unfold At at oa
  replace kb := kb.keep hb2
  replace lb := kb.lt
  replace ob := kb
  unfold At at ob
  go_wp2_with fail
  refine wp_loop_rounds 3 ?_; rw [rounds_succ]
  go_wp2_with fail
  refine (H1.out _).mono ?_; rintro e w3 ⟨rfl, hb3⟩
  replace ka := ka.keep hb3
  replace la := ka.lt
  replace oa := ka
  unfold At at oa
  replace kb := kb.keep hb3
  replace lb := kb.lt
  replace ob := kb
  unfold At at ob
  go_wp2_with fail
  refine (H2.out _).mono ?_; rintro e w4 ⟨rfl, hb4⟩
  replace ka := ka.go hb4
  replace la := ka.lt
  replace oa := ka
  unfold At at oa
  replace kb := kb.go hb4
  replace lb := kb.lt
  replace ob := kb
  unfold At at ob
  have kq := At.made hb4
  have lq := kq.lt
  have oq := kq
  unfold At at oq
  go_wp2_with fail
  refine (H3.out _).mono ?_; rintro e w5 ⟨rfl, hb5⟩
  replace ka := ka.go hb5
  replace la := ka.lt
  replace oa := ka
  unfold At at oa
  replace kb := kb.go hb5
  replace lb := kb.lt
  replace ob := kb
  unfold At at ob
  replace kq := kq.go hb5
  replace lq := kq.lt
  replace oq := kq
  unfold At at oq
  have kr := At.made hb5
  have lr := kr.lt
  have or := kr
  unfold At at or
  go_wp2_with fail
  refine (H4.out _).mono ?_; rintro e w6 ⟨rfl, hb6⟩
  replace ka := ka.go hb6
  replace la := ka.lt
  replace oa := ka
  unfold At at oa
  replace kb := kb.go hb6
  replace lb := kb.lt
  replace ob := kb
  unfold At at ob
  replace kq := kq.go hb6
  replace lq := kq.lt
  replace oq := kq
  unfold At at oq
  replace kr := kr.go hb6
  replace lr := kr.lt
  replace or := kr
  unfold At at or
  have kp := At.made hb6
  have lp := kp.lt
  have op := kp
  unfold At at op
  go_wp2_with fail
  refine (H5.out _).mono ?_; rintro e w7 ⟨rfl, hb7⟩
  replace ka := ka.go hb7
  replace la := ka.lt
  replace oa := ka
  unfold At at oa
  replace kb := kb.go hb7
  replace lb := kb.lt
  replace ob := kb
  unfold At at ob
  replace kq := kq.go hb7
  replace lq := kq.lt
  replace oq := kq
  unfold At at oq
  replace kr := kr.go hb7
  replace lr := kr.lt
  replace or := kr
  unfold At at or
  replace kp := kp.go hb7
  replace lp := kp.lt
  replace op := kp
  unfold At at op
  have ks := At.made hb7
  have ls := ks.lt
  have os := ks
  unfold At at os
  go_wp2_with fail
  rw [rounds_succ]
  go_wp2_with fail
  refine (H6.out _).mono ?_; rintro e w8 ⟨rfl, hb8⟩
  replace ka := ka.go hb8
  replace la := ka.lt
  replace oa := ka
  unfold At at oa
  replace kb := kb.go hb8
  replace lb := kb.lt
  replace ob := kb
  unfold At at ob
  replace kq := kq.go hb8
  replace lq := kq.lt
  replace oq := kq
  unfold At at oq
  replace kr := kr.go hb8
  replace lr := kr.lt
  replace or := kr
  unfold At at or
  replace kp := kp.go hb8
  replace lp := kp.lt
  replace op := kp
  unfold At at op
  replace ks := ks.go hb8
  replace ls := ks.lt
  replace os := ks
  unfold At at os
  have kl := At.made hb8
  have ll := kl.lt
  have ol := kl
  unfold At at ol
  go_wp2_with fail
  clear kq lq oq
  clear kr lr or
  clear kp lp op
  clear ks ls os
  refine (H7.out _).mono ?_; rintro e w9 ⟨rfl, hb9⟩
  replace ka := ka.go hb9
  replace la := ka.lt
  replace oa := ka
  unfold At at oa
  replace kb := kb.go hb9
  replace lb := kb.lt
  replace ob := kb
  unfold At at ob
  replace kl := kl.go hb9
  replace ll := kl.lt
  replace ol := kl
  unfold At at ol
  have kq2 := At.made hb9
  have lq2 := kq2.lt
  have oq2 := kq2
  unfold At at oq2
  go_wp2_with fail
  refine (H8.out _).mono ?_; rintro e w10 ⟨rfl, hb10⟩
  replace ka := ka.go hb10
  replace la := ka.lt
  replace oa := ka
  unfold At at oa
  replace kb := kb.go hb10
  replace lb := kb.lt
  replace ob := kb
  unfold At at ob
  replace kl := kl.go hb10
  replace ll := kl.lt
  replace ol := kl
  unfold At at ol
  replace kq2 := kq2.go hb10
  replace lq2 := kq2.lt
  replace oq2 := kq2
  unfold At at oq2
  have kr2 := At.made hb10
  have lr2 := kr2.lt
  have or2 := kr2
  unfold At at or2
  go_wp2_with fail
  refine (H9.out _).mono ?_; rintro e w11 ⟨rfl, hb11⟩
  replace ka := ka.go hb11
  replace la := ka.lt
  replace oa := ka
  unfold At at oa
  replace kb := kb.go hb11
  replace lb := kb.lt
  replace ob := kb
  unfold At at ob
  replace kl := kl.go hb11
  replace ll := kl.lt
  replace ol := kl
  unfold At at ol
  replace kq2 := kq2.go hb11
  replace lq2 := kq2.lt
  replace oq2 := kq2
  unfold At at oq2
  replace kr2 := kr2.go hb11
  replace lr2 := kr2.lt
  replace or2 := kr2
  unfold At at or2
  have kp2 := At.made hb11
  have lp2 := kp2.lt
  have op2 := kp2
  unfold At at op2
  go_wp2_with fail
  rw [rounds_succ]
  go_wp2_with fail
  refine (works_any _).mono ?_; rintro e w12 ⟨rfl, hb12⟩
  replace ka := ka.go hb12
  replace la := ka.lt
  replace oa := ka
  unfold At at oa
  replace kb := kb.go hb12
  replace lb := kb.lt
  replace ob := kb
  unfold At at ob
  replace kl := kl.go hb12
  replace ll := kl.lt
  replace ol := kl
  unfold At at ol
  replace kq2 := kq2.go hb12
  replace lq2 := kq2.lt
  replace oq2 := kq2
  unfold At at oq2
  replace kr2 := kr2.go hb12
  replace lr2 := kr2.lt
  replace or2 := kr2
  unfold At at or2
  replace kp2 := kp2.go hb12
  replace lp2 := kp2.lt
  replace op2 := kp2
  unfold At at op2
  have ks2 := At.made hb12
  have ls2 := ks2.lt
  have os2 := ks2
  unfold At at os2
  go_wp2_with fail
  go_ret
  exact ⟨rfl, (bel_go (bel_go (bel_go (bel_go (bel_go (bel_go (bel_go (bel_go (bel_go (bel_call (bel_call (bel_call (bel_alloc (bel_alloc (Below.refl _ _) _) _) hb1) hb2) hb3) hb4) hb5) hb6) hb7) hb8) hb9) hb10) hb11) hb12)⟩

end Bv
end Go.Proofs.Ytiogadjjacbjlaa
