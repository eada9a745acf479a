/-
  The statement on what fits together, as a fact on the call.
-/
import Derived.Test.YtiogadjjacbjlaaBvWorks
import Derived.Test.YtiogadjjacbjlaaBvMathC
import Derived.Deep.RegionHeld3
namespace Go.Proofs.Ytiogadjjacbjlaa
open Go.RowKit
namespace Bv
set_option maxHeartbeats 1000000
set_option maxRecDepth 100000

theorem may_yes {w n : Nat} (h : mayB w n = true) (W : World) :
    Calls Try.prog 11 #[.agg #[.int .u8 w, .int .u64 n]] W fun e W' => e = .returned (.bool true) ∧ Below W.heap.size W W' := by
  have := may_any w n W; rw [h] at this; exact this
theorem may_no {w n : Nat} (h : mayB w n = false) (W : World) :
    Calls Try.prog 11 #[.agg #[.int .u8 w, .int .u64 n]] W fun e W' => e = .returned (.bool false) ∧ Below W.heap.size W W' := by
  have := may_any w n W; rw [h] at this; exact this

theorem fits_bad1 (w v n m : Nat) (HA : Hid (mayB w n = false)) (W : World) :
    Calls Try.prog 6 #[.agg #[.int .u8 w, .int .u64 n], .agg #[.int .u8 v, .int .u64 m]] W fun e W' => e = .returned (.bool true) ∧ Below W.heap.size W W' := by
  go_enter Try.func6, Try.ntmps6
  go_wp2_with fail
  refine (may_no HA.out _).mono ?_; rintro e w1 ⟨rfl, hb1⟩
  have ka : At w1 (W.heap.size) (.int .u8 w) (.int .u64 n) := by have h0 := (((At.new _ _ _ _).alloc _)).keep hb1; simpa using h0
  have la := ka.lt
  have oa := ka
  unfold At at oa
  have kb : At w1 (W.heap.size + 1) (.int .u8 v) (.int .u64 m) := by have h0 := ((At.new _ _ _ _)).keep hb1; simpa using h0
  have lb := kb.lt
  have ob := kb
  unfold At at ob
  go_wp2_with fail
  refine (works_any _).mono ?_; rintro e w2 ⟨rfl, hb2⟩
  replace ka := ka.keep hb2
  replace la := ka.lt
  replace oa := ka
  unfold At at oa
  replace kb := kb.keep hb2
  replace lb := kb.lt
  replace ob := kb
  unfold At at ob
  go_wp2_with fail
  go_ret
  exact ⟨rfl, (bel_call (bel_call (bel_alloc (bel_alloc (Below.refl _ _) _) _) hb1) hb2)⟩

theorem fits_bad2 (w v n m : Nat) (HA : Hid (mayB w n = true)) (HB : Hid (mayB v m = false)) (W : World) :
    Calls Try.prog 6 #[.agg #[.int .u8 w, .int .u64 n], .agg #[.int .u8 v, .int .u64 m]] W fun e W' => e = .returned (.bool true) ∧ Below W.heap.size W W' := by
  go_enter Try.func6, Try.ntmps6
  go_wp2_with fail
  refine (may_yes HA.out _).mono ?_; rintro e w1 ⟨rfl, hb1⟩
  have ka : At w1 (W.heap.size) (.int .u8 w) (.int .u64 n) := by have h0 := (((At.new _ _ _ _).alloc _)).keep hb1; simpa using h0
  have la := ka.lt
  have oa := ka
  unfold At at oa
  have kb : At w1 (W.heap.size + 1) (.int .u8 v) (.int .u64 m) := by have h0 := ((At.new _ _ _ _)).keep hb1; simpa using h0
  have lb := kb.lt
  have ob := kb
  unfold At at ob
  go_wp2_with fail
  refine (may_no HB.out _).mono ?_; rintro e w2 ⟨rfl, hb2⟩
  replace ka := ka.keep hb2
  replace la := ka.lt
  replace oa := ka
  unfold At at oa
  replace kb := kb.keep hb2
  replace lb := kb.lt
  replace ob := kb
  unfold At at ob
  go_wp2_with fail
  refine (works_any _).mono ?_; rintro e w3 ⟨rfl, hb3⟩
  replace ka := ka.keep hb3
  replace la := ka.lt
  replace oa := ka
  unfold At at oa
  replace kb := kb.keep hb3
  replace lb := kb.lt
  replace ob := kb
  unfold At at ob
  go_wp2_with fail
  go_ret
  exact ⟨rfl, (bel_call (bel_call (bel_call (bel_alloc (bel_alloc (Below.refl _ _) _) _) hb1) hb2) hb3)⟩

theorem fits_ff (w v n m nt ng se : Nat) (x : Int)
    (h2 : w ≤ 64) (_h2v : v ≤ 64)
    (HA : Hid (mayB w n = true))
    (HB : Hid (mayB v m = true))
    (H1 : Hid (∀ W : World, Calls Try.prog 7 #[.int .u8 3, .agg #[.int .u8 w, .int .u64 n]] W fun e W' => e = .returned (.tuple #[.agg #[.int .u8 w, .int .u64 nt], .int .i64 0]) ∧ Below W.heap.size W W'))
    (H2 : Hid (∀ W : World, Calls Try.prog 7 #[.int .u8 4, .agg #[.int .u8 w, .int .u64 n]] W fun e W' => e = .returned (.tuple #[.agg #[.int .u8 w, .int .u64 ng], .int .i64 0]) ∧ Below W.heap.size W W'))
    (H3 : Hid (∀ W : World, Calls Try.prog 9 #[.int .u8 8, .agg #[.int .u8 w, .int .u64 nt], .agg #[.int .u8 w, .int .u64 1]] W fun e W' => e = .returned (.tuple #[.agg #[.int .u8 w, .int .u64 ng], .int .i64 0]) ∧ Below W.heap.size W W'))
    (H4 : Hid (∀ W : World, Calls Try.prog 9 #[.int .u8 21, .agg #[.int .u8 w, .int .u64 n], .agg #[.int .u8 v, .int .u64 m]] W fun e W' => e = .returned (.tuple #[.agg #[.int .u8 0, .int .u64 0], .int .i64 2]) ∧ Below W.heap.size W W'))
    (H7 : Hid (∀ W : World, Calls Try.prog 18 #[.int .u8 23, .agg #[.int .u8 w, .int .u64 n], .int .i64 64] W fun e W' => e = .returned (.tuple #[.agg #[.int .u8 64, .int .u64 n], .int .i64 0]) ∧ Below W.heap.size W W'))
    (H8 : Hid (∀ W : World, Calls Try.prog 18 #[.int .u8 24, .agg #[.int .u8 w, .int .u64 n], .int .i64 64] W fun e W' => e = .returned (.tuple #[.agg #[.int .u8 64, .int .u64 se], .int .i64 0]) ∧ Below W.heap.size W W'))
    (H9 : Hid (∀ W : World, Calls Try.prog 16 #[.agg #[.int .u8 64, .int .u64 n], .int .i64 0, .int .i64 w] W fun e W' => e = .returned (.tuple #[.agg #[.int .u8 w, .int .u64 n], .int .i64 0]) ∧ Below W.heap.size W W'))
    (H10 : Hid (∀ W : World, Calls Try.prog 16 #[.agg #[.int .u8 64, .int .u64 se], .int .i64 0, .int .i64 w] W fun e W' => e = .returned (.tuple #[.agg #[.int .u8 w, .int .u64 n], .int .i64 0]) ∧ Below W.heap.size W W'))
    (H11 : Hid (∀ W : World, Calls Try.prog 13 #[.agg #[.int .u8 w, .int .u64 n]] W fun e W' => e = .returned (.int .i64 x) ∧ Below W.heap.size W W'))
    (hse : (IntKind.i64.wrap (se : Int) != x) = false)
    (hvw : ((w : Int) != (v : Int)) = true) (W : World) :
    Calls Try.prog 6 #[.agg #[.int .u8 w, .int .u64 n], .agg #[.int .u8 v, .int .u64 m]] W fun e W' => e = .returned (.bool true) ∧ Below W.heap.size W W' := by
  go_enter Try.func6, Try.ntmps6
  go_wp2_with fail
  refine (may_yes HA.out _).mono ?_; rintro e w1 ⟨rfl, hb1⟩
  have ka : At w1 (W.heap.size) (.int .u8 w) (.int .u64 n) := by have h0 := (((At.new _ _ _ _).alloc _)).keep hb1; simpa using h0
  have la := ka.lt
  have oa := ka
  unfold At at oa
  have kb : At w1 (W.heap.size + 1) (.int .u8 v) (.int .u64 m) := by have h0 := ((At.new _ _ _ _)).keep hb1; simpa using h0
  have lb := kb.lt
  have ob := kb
  unfold At at ob
  go_wp2_with fail
  refine (may_yes HB.out _).mono ?_; rintro e w2 ⟨rfl, hb2⟩
  replace ka := ka.keep hb2
  replace la := ka.lt
  replace oa := ka
  unfold At at oa
  replace kb := kb.keep hb2
  replace lb := kb.lt
  replace ob := kb
  unfold At at ob
  go_wp2_with fail
  refine (H1.out _).mono ?_; rintro e w3 ⟨rfl, hb3⟩
  replace ka := ka.keep hb3
  replace la := ka.lt
  replace oa := ka
  unfold At at oa
  replace kb := kb.keep hb3
  replace lb := kb.lt
  replace ob := kb
  unfold At at ob
  go_wp2_with fail
  refine (H2.out _).mono ?_; rintro e w4 ⟨rfl, hb4⟩
  replace ka := ka.go hb4
  replace la := ka.lt
  replace oa := ka
  unfold At at oa
  replace kb := kb.go hb4
  replace lb := kb.lt
  replace ob := kb
  unfold At at ob
  have kn := At.made hb4
  have ln := kn.lt
  have on := kn
  unfold At at on
  go_wp2_with fail
  refine (H3.out _).mono ?_; rintro e w5 ⟨rfl, hb5⟩
  replace ka := ka.go hb5
  replace la := ka.lt
  replace oa := ka
  unfold At at oa
  replace kb := kb.go hb5
  replace lb := kb.lt
  replace ob := kb
  unfold At at ob
  replace kn := kn.go hb5
  replace ln := kn.lt
  replace on := kn
  unfold At at on
  have km := At.made hb5
  have lm := km.lt
  have om := km
  unfold At at om
  go_wp2_with fail
  refine (H4.out _).mono ?_; rintro e w6 ⟨rfl, hb6⟩
  replace ka := ka.go hb6
  replace la := ka.lt
  replace oa := ka
  unfold At at oa
  replace kb := kb.go hb6
  replace lb := kb.lt
  replace ob := kb
  unfold At at ob
  replace kn := kn.go hb6
  replace ln := kn.lt
  replace on := kn
  unfold At at on
  replace km := km.go hb6
  replace lm := km.lt
  replace om := km
  unfold At at om
  have kp := At.made hb6
  have lp := kp.lt
  have op := kp
  unfold At at op
  go_wp2_with fail
  refine (H7.out _).mono ?_; rintro e w7 ⟨rfl, hb7⟩
  replace ka := ka.go hb7
  replace la := ka.lt
  replace oa := ka
  unfold At at oa
  replace kb := kb.go hb7
  replace lb := kb.lt
  replace ob := kb
  unfold At at ob
  replace kn := kn.go hb7
  replace ln := kn.lt
  replace on := kn
  unfold At at on
  replace km := km.go hb7
  replace lm := km.lt
  replace om := km
  unfold At at om
  replace kp := kp.go hb7
  replace lp := kp.lt
  replace op := kp
  unfold At at op
  have kc := At.made hb7
  have lc := kc.lt
  have oc := kc
  unfold At at oc
  go_wp2_with fail
  clear kn ln on
  clear km lm om
  clear kp lp op
  refine (H8.out _).mono ?_; rintro e w8 ⟨rfl, hb8⟩
  replace ka := ka.go hb8
  replace la := ka.lt
  replace oa := ka
  unfold At at oa
  replace kb := kb.go hb8
  replace lb := kb.lt
  replace ob := kb
  unfold At at ob
  replace kc := kc.go hb8
  replace lc := kc.lt
  replace oc := kc
  unfold At at oc
  have kz := At.made hb8
  have lz := kz.lt
  have oz := kz
  unfold At at oz
  go_wp2_with fail
  clear kc lc oc
  refine (H9.out _).mono ?_; rintro e w9 ⟨rfl, hb9⟩
  replace ka := ka.go hb9
  replace la := ka.lt
  replace oa := ka
  unfold At at oa
  replace kb := kb.go hb9
  replace lb := kb.lt
  replace ob := kb
  unfold At at ob
  replace kz := kz.go hb9
  replace lz := kz.lt
  replace oz := kz
  unfold At at oz
  have ks := At.made hb9
  have ls := ks.lt
  have os := ks
  unfold At at os
  go_wp2_with fail
  refine (H10.out _).mono ?_; rintro e w10 ⟨rfl, hb10⟩
  replace ka := ka.go hb10
  replace la := ka.lt
  replace oa := ka
  unfold At at oa
  replace kb := kb.go hb10
  replace lb := kb.lt
  replace ob := kb
  unfold At at ob
  replace kz := kz.go hb10
  replace lz := kz.lt
  replace oz := kz
  unfold At at oz
  replace ks := ks.go hb10
  replace ls := ks.lt
  replace os := ks
  unfold At at os
  have ku := At.made hb10
  have lu := ku.lt
  have ou := ku
  unfold At at ou
  go_wp2_with fail
  go_region_held3 (fun w' => w'.cell? ⟨W.heap.size, 0, none⟩ = some (.int .u8 w) ∧ w'.cell? ⟨W.heap.size, 1, none⟩ = some (.int .u64 n) ∧ w'.cell? ⟨w7.heap.size, 0, none⟩ = some (.int .u8 64) ∧ w'.cell? ⟨w7.heap.size, 1, none⟩ = some (.int .u64 n) ∧ w'.cell? ⟨w8.heap.size, 0, none⟩ = some (.int .u8 64) ∧ w'.cell? ⟨w8.heap.size, 1, none⟩ = some (.int .u64 se) ∧ w'.cell? ⟨w9.heap.size, 0, none⟩ = some (.int .u8 w) ∧ w'.cell? ⟨w9.heap.size, 1, none⟩ = some (.int .u64 n) ∧ w'.cell? ⟨w10.heap.size, 0, none⟩ = some (.int .u8 w) ∧ w'.cell? ⟨w10.heap.size, 1, none⟩ = some (.int .u64 n))
    (first | exact ⟨(ka.alloc _).drew.1, (ka.alloc _).drew.2, (kz.alloc _).drew.1, (kz.alloc _).drew.2, (ks.alloc _).drew.1, (ks.alloc _).drew.2, (ku.alloc _).drew.1, (ku.alloc _).drew.2, (At.new _ _ _ _).drew.1, (At.new _ _ _ _).drew.2⟩ | exact ⟨((ka.alloc _).drew.keep hbw).1, ((ka.alloc _).drew.keep hbw).2, ((kz.alloc _).drew.keep hbw).1, ((kz.alloc _).drew.keep hbw).2, ((ks.alloc _).drew.keep hbw).1, ((ks.alloc _).drew.keep hbw).2, ((ku.alloc _).drew.keep hbw).1, ((ku.alloc _).drew.keep hbw).2, ((At.new _ _ _ _).drew.keep hbw).1, ((At.new _ _ _ _).drew.keep hbw).2⟩)
    (first | (go_at_call 13; refine (H11.out _).mono ?_; rintro e ww ⟨rfl, hbw⟩))
  replace ka := (ka.alloc _).drew.keep hbw
  replace la := ka.lt
  replace oa := ka
  unfold At at oa
  replace kb := (kb.alloc _).drew.keep hbw
  replace lb := kb.lt
  replace ob := kb
  unfold At at ob
  have hbel := bel_call (bel_alloc (bel_go (bel_go (bel_go (bel_go (bel_go (bel_go (bel_go (bel_call (bel_call (bel_call (bel_alloc (bel_alloc (Below.refl _ _) _) _) hb1) hb2) hb3) hb4) hb5) hb6) hb7) hb8) hb9) hb10) _).drew hbw
  clear kz lz oz ks ls os ku lu ou
  go_wp2_with fail
  refine (works_any _).mono ?_; rintro e w11 ⟨rfl, hb11⟩
  replace ka := ka.keep hb11
  replace la := ka.lt
  replace oa := ka
  unfold At at oa
  replace kb := kb.keep hb11
  replace lb := kb.lt
  replace ob := kb
  unfold At at ob
  go_wp2_with fail
  go_ret
  exact ⟨rfl, (bel_call hbel hb11)⟩

end Bv
end Go.Proofs.Ytiogadjjacbjlaa
