/-
  The statement on parts, wider ones and choices, as a fact on the call.
-/
import Derived.Test.YtiogadjjacbjlaaBvWorks
namespace Go.Proofs.Ytiogadjjacbjlaa
open Go.RowKit
namespace Bv
set_option maxHeartbeats 400000
set_option maxRecDepth 100000

theorem parts_ok (o w n v m cw cn x1 y1 x2 y2 x3 y3 : Nat) (l r e1 e2 e3 : Int)
    (H1 : Hid (∀ W : World, Calls Try.prog 16 #[.agg #[.int .u8 w, .int .u64 n], .int .i64 l, .int .i64 r] W fun e W' => e = .returned (.tuple #[.agg #[.int .u8 x1, .int .u64 y1], .int .i64 e1]) ∧ Below W.heap.size W W'))
    (H2 : Hid (∀ W : World, Calls Try.prog 17 #[.agg #[.int .u8 w, .int .u64 n], .int .i64 l, .int .i64 r] W fun e W' => e = .returned (.tuple #[.agg #[.int .u8 x1, .int .u64 y1], .int .i64 e1]) ∧ Below W.heap.size W W'))
    (H3 : Hid (∀ W : World, Calls Try.prog 18 #[.int .u8 o, .agg #[.int .u8 w, .int .u64 n], .int .i64 r] W fun e W' => e = .returned (.tuple #[.agg #[.int .u8 x2, .int .u64 y2], .int .i64 e2]) ∧ Below W.heap.size W W'))
    (H4 : Hid (∀ W : World, Calls Try.prog 19 #[.int .u8 o, .agg #[.int .u8 w, .int .u64 n], .int .i64 r] W fun e W' => e = .returned (.tuple #[.agg #[.int .u8 x2, .int .u64 y2], .int .i64 e2]) ∧ Below W.heap.size W W'))
    (H5 : Hid (∀ W : World, Calls Try.prog 20 #[.agg #[.int .u8 cw, .int .u64 cn], .agg #[.int .u8 w, .int .u64 n], .agg #[.int .u8 v, .int .u64 m]] W fun e W' => e = .returned (.tuple #[.agg #[.int .u8 x3, .int .u64 y3], .int .i64 e3]) ∧ Below W.heap.size W W'))
    (H6 : Hid (∀ W : World, Calls Try.prog 21 #[.agg #[.int .u8 cw, .int .u64 cn], .agg #[.int .u8 w, .int .u64 n], .agg #[.int .u8 v, .int .u64 m]] W fun e W' => e = .returned (.tuple #[.agg #[.int .u8 x3, .int .u64 y3], .int .i64 e3]) ∧ Below W.heap.size W W')) (W : World) :
    Calls Try.prog 4 #[.int .u8 o, .agg #[.int .u8 w, .int .u64 n], .agg #[.int .u8 v, .int .u64 m], .agg #[.int .u8 cw, .int .u64 cn], .int .i64 l, .int .i64 r] W fun e W' => e = .returned (.bool true) ∧ Below W.heap.size W W' := by
  go_enter Try.func4, Try.ntmps4
  go_wp2_with fail
  refine (H1.out _).mono ?_; rintro e w1 ⟨rfl, hb1⟩
  have ka : At w1 (W.heap.size) (.int .u8 w) (.int .u64 n) := by have h0 := ((((At.new _ _ _ _).alloc _).alloc _)).keep hb1; simpa using h0
  have la := ka.lt
  have oa := ka
  unfold At at oa
  have kb : At w1 (W.heap.size + 1) (.int .u8 v) (.int .u64 m) := by have h0 := (((At.new _ _ _ _).alloc _)).keep hb1; simpa using h0
  have lb := kb.lt
  have ob := kb
  unfold At at ob
  have kc : At w1 (W.heap.size + 1 + 1) (.int .u8 cw) (.int .u64 cn) := by have h0 := ((At.new _ _ _ _)).keep hb1; simpa using h0
  have lc := kc.lt
  have oc := kc
  unfold At at oc
  go_wp2_with fail
  refine (H2.out _).mono ?_; rintro e w2 ⟨rfl, hb2⟩
  replace ka := ka.go hb2
  replace la := ka.lt
  replace oa := ka
  unfold At at oa
  replace kb := kb.go hb2
  replace lb := kb.lt
  replace ob := kb
  unfold At at ob
  replace kc := kc.go hb2
  replace lc := kc.lt
  replace oc := kc
  unfold At at oc
  have kx := At.made hb2
  have lx := kx.lt
  have ox := kx
  unfold At at ox
  go_wp2_with fail
  refine (H3.out _).mono ?_; rintro e w3 ⟨rfl, hb3⟩
  replace ka := ka.go hb3
  replace la := ka.lt
  replace oa := ka
  unfold At at oa
  replace kb := kb.go hb3
  replace lb := kb.lt
  replace ob := kb
  unfold At at ob
  replace kc := kc.go hb3
  replace lc := kc.lt
  replace oc := kc
  unfold At at oc
  replace kx := kx.go hb3
  replace lx := kx.lt
  replace ox := kx
  unfold At at ox
  have ky := At.made hb3
  have ly := ky.lt
  have oy := ky
  unfold At at oy
  go_wp2_with fail
  refine (H4.out _).mono ?_; rintro e w4 ⟨rfl, hb4⟩
  replace ka := ka.go hb4
  replace la := ka.lt
  replace oa := ka
  unfold At at oa
  replace kb := kb.go hb4
  replace lb := kb.lt
  replace ob := kb
  unfold At at ob
  replace kc := kc.go hb4
  replace lc := kc.lt
  replace oc := kc
  unfold At at oc
  replace kx := kx.go hb4
  replace lx := kx.lt
  replace ox := kx
  unfold At at ox
  replace ky := ky.go hb4
  replace ly := ky.lt
  replace oy := ky
  unfold At at oy
  have kp := At.made hb4
  have lp := kp.lt
  have op := kp
  unfold At at op
  go_wp2_with fail
  refine (H5.out _).mono ?_; rintro e w5 ⟨rfl, hb5⟩
  replace ka := ka.go hb5
  replace la := ka.lt
  replace oa := ka
  unfold At at oa
  replace kb := kb.go hb5
  replace lb := kb.lt
  replace ob := kb
  unfold At at ob
  replace kc := kc.go hb5
  replace lc := kc.lt
  replace oc := kc
  unfold At at oc
  replace kx := kx.go hb5
  replace lx := kx.lt
  replace ox := kx
  unfold At at ox
  replace ky := ky.go hb5
  replace ly := ky.lt
  replace oy := ky
  unfold At at oy
  replace kp := kp.go hb5
  replace lp := kp.lt
  replace op := kp
  unfold At at op
  have kq := At.made hb5
  have lq := kq.lt
  have oq := kq
  unfold At at oq
  go_wp2_with fail
  refine (H6.out _).mono ?_; rintro e w6 ⟨rfl, hb6⟩
  replace ka := ka.go hb6
  replace la := ka.lt
  replace oa := ka
  unfold At at oa
  replace kb := kb.go hb6
  replace lb := kb.lt
  replace ob := kb
  unfold At at ob
  replace kc := kc.go hb6
  replace lc := kc.lt
  replace oc := kc
  unfold At at oc
  replace kx := kx.go hb6
  replace lx := kx.lt
  replace ox := kx
  unfold At at ox
  replace ky := ky.go hb6
  replace ly := ky.lt
  replace oy := ky
  unfold At at oy
  replace kp := kp.go hb6
  replace lp := kp.lt
  replace op := kp
  unfold At at op
  replace kq := kq.go hb6
  replace lq := kq.lt
  replace oq := kq
  unfold At at oq
  have ku := At.made hb6
  have lu := ku.lt
  have ou := ku
  unfold At at ou
  go_wp2_with fail
  refine (works_any _).mono ?_; rintro e w7 ⟨rfl, hb7⟩
  replace ka := ka.go hb7
  replace la := ka.lt
  replace oa := ka
  unfold At at oa
  replace kb := kb.go hb7
  replace lb := kb.lt
  replace ob := kb
  unfold At at ob
  replace kc := kc.go hb7
  replace lc := kc.lt
  replace oc := kc
  unfold At at oc
  replace kx := kx.go hb7
  replace lx := kx.lt
  replace ox := kx
  unfold At at ox
  replace ky := ky.go hb7
  replace ly := ky.lt
  replace oy := ky
  unfold At at oy
  replace kp := kp.go hb7
  replace lp := kp.lt
  replace op := kp
  unfold At at op
  replace kq := kq.go hb7
  replace lq := kq.lt
  replace oq := kq
  unfold At at oq
  replace ku := ku.go hb7
  replace lu := ku.lt
  replace ou := ku
  unfold At at ou
  have kvv := At.made hb7
  have lvv := kvv.lt
  have ovv := kvv
  unfold At at ovv
  go_wp2_with fail
  go_ret
  exact ⟨rfl, (bel_go (bel_go (bel_go (bel_go (bel_go (bel_go (bel_call (bel_alloc (bel_alloc (bel_alloc (Below.refl _ _) _) _) _) hb1) hb2) hb3) hb4) hb5) hb6) hb7)⟩

end Bv
end Go.Proofs.Ytiogadjjacbjlaa
