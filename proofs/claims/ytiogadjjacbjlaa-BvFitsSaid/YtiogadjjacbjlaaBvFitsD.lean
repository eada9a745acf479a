/-
  The statement on what fits together, as a fact on the call.
-/
import Derived.Test.YtiogadjjacbjlaaBvFitsA
import Derived.Test.YtiogadjjacbjlaaBvMathC
import Derived.Deep.RegionHeld3
namespace Go.Proofs.Ytiogadjjacbjlaa
open Go.RowKit
namespace Bv
set_option maxHeartbeats 1000000
set_option maxRecDepth 100000

theorem fits_cs (w v n m nt ng c r se l g q d t : Nat) (x : Int)
    (h2 : w ≤ 64) (_h2v : v ≤ 64)
    (HA : Hid (mayB w n = true))
    (HB : Hid (mayB v m = true))
    (H1 : Hid (∀ W : World, Calls Try.prog 7 #[.int .u8 3, .agg #[.int .u8 w, .int .u64 n]] W fun e W' => e = .returned (.tuple #[.agg #[.int .u8 w, .int .u64 nt], .int .i64 0]) ∧ Below W.heap.size W W'))
    (H2 : Hid (∀ W : World, Calls Try.prog 7 #[.int .u8 4, .agg #[.int .u8 w, .int .u64 n]] W fun e W' => e = .returned (.tuple #[.agg #[.int .u8 w, .int .u64 ng], .int .i64 0]) ∧ Below W.heap.size W W'))
    (H3 : Hid (∀ W : World, Calls Try.prog 9 #[.int .u8 8, .agg #[.int .u8 w, .int .u64 nt], .agg #[.int .u8 w, .int .u64 1]] W fun e W' => e = .returned (.tuple #[.agg #[.int .u8 w, .int .u64 ng], .int .i64 0]) ∧ Below W.heap.size W W'))
    (H4 : Hid (∀ W : World, Calls Try.prog 9 #[.int .u8 21, .agg #[.int .u8 w, .int .u64 n], .agg #[.int .u8 v, .int .u64 m]] W fun e W' => e = .returned (.tuple #[.agg #[.int .u8 r, .int .u64 c], .int .i64 0]) ∧ Below W.heap.size W W'))
    (H5 : Hid (∀ W : World, Calls Try.prog 16 #[.agg #[.int .u8 r, .int .u64 c], .int .i64 0, .int .i64 v] W fun e W' => e = .returned (.tuple #[.agg #[.int .u8 v, .int .u64 m], .int .i64 0]) ∧ Below W.heap.size W W'))
    (H6 : Hid (∀ W : World, Calls Try.prog 16 #[.agg #[.int .u8 r, .int .u64 c], .int .i64 v, .int .i64 w] W fun e W' => e = .returned (.tuple #[.agg #[.int .u8 w, .int .u64 n], .int .i64 0]) ∧ Below W.heap.size W W'))
    (H7 : Hid (∀ W : World, Calls Try.prog 18 #[.int .u8 23, .agg #[.int .u8 w, .int .u64 n], .int .i64 64] W fun e W' => e = .returned (.tuple #[.agg #[.int .u8 64, .int .u64 n], .int .i64 0]) ∧ Below W.heap.size W W'))
    (H8 : Hid (∀ W : World, Calls Try.prog 18 #[.int .u8 24, .agg #[.int .u8 w, .int .u64 n], .int .i64 64] W fun e W' => e = .returned (.tuple #[.agg #[.int .u8 64, .int .u64 se], .int .i64 0]) ∧ Below W.heap.size W W'))
    (H9 : Hid (∀ W : World, Calls Try.prog 16 #[.agg #[.int .u8 64, .int .u64 n], .int .i64 0, .int .i64 w] W fun e W' => e = .returned (.tuple #[.agg #[.int .u8 w, .int .u64 n], .int .i64 0]) ∧ Below W.heap.size W W'))
    (H10 : Hid (∀ W : World, Calls Try.prog 16 #[.agg #[.int .u8 64, .int .u64 se], .int .i64 0, .int .i64 w] W fun e W' => e = .returned (.tuple #[.agg #[.int .u8 w, .int .u64 n], .int .i64 0]) ∧ Below W.heap.size W W'))
    (H11 : Hid (∀ W : World, Calls Try.prog 13 #[.agg #[.int .u8 w, .int .u64 n]] W fun e W' => e = .returned (.int .i64 x) ∧ Below W.heap.size W W'))
    (hse : (IntKind.i64.wrap (se : Int) != x) = false)
    (H12 : Hid (∀ W : World, Calls Try.prog 9 #[.int .u8 19, .agg #[.int .u8 w, .int .u64 n], .agg #[.int .u8 v, .int .u64 m]] W fun e W' => e = .returned (.tuple #[.agg #[.int .u8 1, .int .u64 l], .int .i64 0]) ∧ Below W.heap.size W W'))
    (H13 : Hid (∀ W : World, Calls Try.prog 9 #[.int .u8 19, .agg #[.int .u8 v, .int .u64 m], .agg #[.int .u8 w, .int .u64 n]] W fun e W' => e = .returned (.tuple #[.agg #[.int .u8 1, .int .u64 g], .int .i64 0]) ∧ Below W.heap.size W W'))
    (H14 : Hid (∀ W : World, Calls Try.prog 9 #[.int .u8 18, .agg #[.int .u8 w, .int .u64 n], .agg #[.int .u8 v, .int .u64 m]] W fun e W' => e = .returned (.tuple #[.agg #[.int .u8 1, .int .u64 q], .int .i64 0]) ∧ Below W.heap.size W W'))
    (H15 : Hid (∀ W : World, Calls Try.prog 9 #[.int .u8 9, .agg #[.int .u8 w, .int .u64 n], .agg #[.int .u8 v, .int .u64 m]] W fun e W' => e = .returned (.tuple #[.agg #[.int .u8 w, .int .u64 d], .int .i64 0]) ∧ Below W.heap.size W W'))
    (H16 : Hid (∀ W : World, Calls Try.prog 7 #[.int .u8 4, .agg #[.int .u8 v, .int .u64 m]] W fun e W' => e = .returned (.tuple #[.agg #[.int .u8 v, .int .u64 t], .int .i64 0]) ∧ Below W.heap.size W W'))
    (H17 : Hid (∀ W : World, Calls Try.prog 9 #[.int .u8 8, .agg #[.int .u8 w, .int .u64 n], .agg #[.int .u8 v, .int .u64 t]] W fun e W' => e = .returned (.tuple #[.agg #[.int .u8 w, .int .u64 d], .int .i64 0]) ∧ Below W.heap.size W W'))
    (hvw : ((w : Int) != (v : Int)) = false) (hl1 : l ≤ 1) (hg1 : g ≤ 1) (hq1 : q ≤ 1) (hsum : ((l : Int) + (g : Int) + (q : Int) == 1) = true) (W : World) :
    Calls Try.prog 6 #[.agg #[.int .u8 w, .int .u64 n], .agg #[.int .u8 v, .int .u64 m]] W fun e W' => e = .returned (.bool true) ∧ Below W.heap.size W W' := by
  go_enter Try.func6, Try.ntmps6
  go_wp2_with fail
  refine (may_yes HA.out _).mono ?_; rintro e w1 ⟨rfl, hb1⟩
  have ka : At w1 (W.heap.size) (.int .u8 w) (.int .u64 n) := by have h0 := (((At.new _ _ _ _).alloc _)).keep hb1; simpa using h0
  have la := ka.lt
  have oa := ka
  unfold At at oa
  have kb : At w1 (W.heap.size + 1) (.int .u8 v) (.int .u64 m) := by have h0 := ((At.new _ _ _ _)).keep hb1; simpa using h0
  have lb := kb.lt
  have ob := kb
  unfold At at ob
  go_wp2_with fail
  refine (may_yes HB.out _).mono ?_; rintro e w2 ⟨rfl, hb2⟩
  replace ka := ka.keep hb2
  replace la := ka.lt
  replace oa := ka
  unfold At at oa
  replace kb := kb.keep hb2
  replace lb := kb.lt
  replace ob := kb
  unfold At at ob
  go_wp2_with fail
  refine (H1.out _).mono ?_; rintro e w3 ⟨rfl, hb3⟩
  replace ka := ka.keep hb3
  replace la := ka.lt
  replace oa := ka
  unfold At at oa
  replace kb := kb.keep hb3
  replace lb := kb.lt
  replace ob := kb
  unfold At at ob
  go_wp2_with fail
  refine (H2.out _).mono ?_; rintro e w4 ⟨rfl, hb4⟩
  replace ka := ka.go hb4
  replace la := ka.lt
  replace oa := ka
  unfold At at oa
  replace kb := kb.go hb4
  replace lb := kb.lt
  replace ob := kb
  unfold At at ob
  have kn := At.made hb4
  have ln := kn.lt
  have on := kn
  unfold At at on
  go_wp2_with fail
  refine (H3.out _).mono ?_; rintro e w5 ⟨rfl, hb5⟩
  replace ka := ka.go hb5
  replace la := ka.lt
  replace oa := ka
  unfold At at oa
  replace kb := kb.go hb5
  replace lb := kb.lt
  replace ob := kb
  unfold At at ob
  replace kn := kn.go hb5
  replace ln := kn.lt
  replace on := kn
  unfold At at on
  have km := At.made hb5
  have lm := km.lt
  have om := km
  unfold At at om
  go_wp2_with fail
  refine (H4.out _).mono ?_; rintro e w6 ⟨rfl, hb6⟩
  replace ka := ka.go hb6
  replace la := ka.lt
  replace oa := ka
  unfold At at oa
  replace kb := kb.go hb6
  replace lb := kb.lt
  replace ob := kb
  unfold At at ob
  replace kn := kn.go hb6
  replace ln := kn.lt
  replace on := kn
  unfold At at on
  replace km := km.go hb6
  replace lm := km.lt
  replace om := km
  unfold At at om
  have kp := At.made hb6
  have lp := kp.lt
  have op := kp
  unfold At at op
  go_wp2_with fail
  refine (H5.out _).mono ?_; rintro e w7 ⟨rfl, hb7⟩
  replace ka := ka.go hb7
  replace la := ka.lt
  replace oa := ka
  unfold At at oa
  replace kb := kb.go hb7
  replace lb := kb.lt
  replace ob := kb
  unfold At at ob
  replace kn := kn.go hb7
  replace ln := kn.lt
  replace on := kn
  unfold At at on
  replace km := km.go hb7
  replace lm := km.lt
  replace om := km
  unfold At at om
  replace kp := kp.go hb7
  replace lp := kp.lt
  replace op := kp
  unfold At at op
  have kc := At.made hb7
  have lc := kc.lt
  have oc := kc
  unfold At at oc
  go_wp2_with fail
  refine (H6.out _).mono ?_; rintro e w8 ⟨rfl, hb8⟩
  replace ka := ka.go hb8
  replace la := ka.lt
  replace oa := ka
  unfold At at oa
  replace kb := kb.go hb8
  replace lb := kb.lt
  replace ob := kb
  unfold At at ob
  replace kn := kn.go hb8
  replace ln := kn.lt
  replace on := kn
  unfold At at on
  replace km := km.go hb8
  replace lm := km.lt
  replace om := km
  unfold At at om
  replace kp := kp.go hb8
  replace lp := kp.lt
  replace op := kp
  unfold At at op
  replace kc := kc.go hb8
  replace lc := kc.lt
  replace oc := kc
  unfold At at oc
  have kxx := At.made hb8
  have lxx := kxx.lt
  have oxx := kxx
  unfold At at oxx
  go_wp2_with fail
  refine (H7.out _).mono ?_; rintro e w9 ⟨rfl, hb9⟩
  replace ka := ka.go hb9
  replace la := ka.lt
  replace oa := ka
  unfold At at oa
  replace kb := kb.go hb9
  replace lb := kb.lt
  replace ob := kb
  unfold At at ob
  replace kn := kn.go hb9
  replace ln := kn.lt
  replace on := kn
  unfold At at on
  replace km := km.go hb9
  replace lm := km.lt
  replace om := km
  unfold At at om
  replace kp := kp.go hb9
  replace lp := kp.lt
  replace op := kp
  unfold At at op
  replace kc := kc.go hb9
  replace lc := kc.lt
  replace oc := kc
  unfold At at oc
  replace kxx := kxx.go hb9
  replace lxx := kxx.lt
  replace oxx := kxx
  unfold At at oxx
  have kyy := At.made hb9
  have lyy := kyy.lt
  have oyy := kyy
  unfold At at oyy
  go_wp2_with fail
  clear kn ln on
  clear km lm om
  clear kp lp op
  clear kc lc oc
  clear kxx lxx oxx
  refine (H8.out _).mono ?_; rintro e w10 ⟨rfl, hb10⟩
  replace ka := ka.go hb10
  replace la := ka.lt
  replace oa := ka
  unfold At at oa
  replace kb := kb.go hb10
  replace lb := kb.lt
  replace ob := kb
  unfold At at ob
  replace kyy := kyy.go hb10
  replace lyy := kyy.lt
  replace oyy := kyy
  unfold At at oyy
  have kz := At.made hb10
  have lz := kz.lt
  have oz := kz
  unfold At at oz
  go_wp2_with fail
  clear kyy lyy oyy
  refine (H9.out _).mono ?_; rintro e w11 ⟨rfl, hb11⟩
  replace ka := ka.go hb11
  replace la := ka.lt
  replace oa := ka
  unfold At at oa
  replace kb := kb.go hb11
  replace lb := kb.lt
  replace ob := kb
  unfold At at ob
  replace kz := kz.go hb11
  replace lz := kz.lt
  replace oz := kz
  unfold At at oz
  have ks := At.made hb11
  have ls := ks.lt
  have os := ks
  unfold At at os
  go_wp2_with fail
  refine (H10.out _).mono ?_; rintro e w12 ⟨rfl, hb12⟩
  replace ka := ka.go hb12
  replace la := ka.lt
  replace oa := ka
  unfold At at oa
  replace kb := kb.go hb12
  replace lb := kb.lt
  replace ob := kb
  unfold At at ob
  replace kz := kz.go hb12
  replace lz := kz.lt
  replace oz := kz
  unfold At at oz
  replace ks := ks.go hb12
  replace ls := ks.lt
  replace os := ks
  unfold At at os
  have ku := At.made hb12
  have lu := ku.lt
  have ou := ku
  unfold At at ou
  go_wp2_with fail
  go_region_held3 (fun w' => w'.cell? ⟨W.heap.size, 0, none⟩ = some (.int .u8 w) ∧ w'.cell? ⟨W.heap.size, 1, none⟩ = some (.int .u64 n) ∧ w'.cell? ⟨w9.heap.size, 0, none⟩ = some (.int .u8 64) ∧ w'.cell? ⟨w9.heap.size, 1, none⟩ = some (.int .u64 n) ∧ w'.cell? ⟨w10.heap.size, 0, none⟩ = some (.int .u8 64) ∧ w'.cell? ⟨w10.heap.size, 1, none⟩ = some (.int .u64 se) ∧ w'.cell? ⟨w11.heap.size, 0, none⟩ = some (.int .u8 w) ∧ w'.cell? ⟨w11.heap.size, 1, none⟩ = some (.int .u64 n) ∧ w'.cell? ⟨w12.heap.size, 0, none⟩ = some (.int .u8 w) ∧ w'.cell? ⟨w12.heap.size, 1, none⟩ = some (.int .u64 n))
    (first | exact ⟨(ka.alloc _).drew.1, (ka.alloc _).drew.2, (kz.alloc _).drew.1, (kz.alloc _).drew.2, (ks.alloc _).drew.1, (ks.alloc _).drew.2, (ku.alloc _).drew.1, (ku.alloc _).drew.2, (At.new _ _ _ _).drew.1, (At.new _ _ _ _).drew.2⟩ | exact ⟨((ka.alloc _).drew.keep hbw).1, ((ka.alloc _).drew.keep hbw).2, ((kz.alloc _).drew.keep hbw).1, ((kz.alloc _).drew.keep hbw).2, ((ks.alloc _).drew.keep hbw).1, ((ks.alloc _).drew.keep hbw).2, ((ku.alloc _).drew.keep hbw).1, ((ku.alloc _).drew.keep hbw).2, ((At.new _ _ _ _).drew.keep hbw).1, ((At.new _ _ _ _).drew.keep hbw).2⟩)
    (first | (go_at_call 13; refine (H11.out _).mono ?_; rintro e ww ⟨rfl, hbw⟩))
  replace ka := (ka.alloc _).drew.keep hbw
  replace la := ka.lt
  replace oa := ka
  unfold At at oa
  replace kb := (kb.alloc _).drew.keep hbw
  replace lb := kb.lt
  replace ob := kb
  unfold At at ob
  have hbel := bel_call (bel_alloc (bel_go (bel_go (bel_go (bel_go (bel_go (bel_go (bel_go (bel_go (bel_go (bel_call (bel_call (bel_call (bel_alloc (bel_alloc (Below.refl _ _) _) _) hb1) hb2) hb3) hb4) hb5) hb6) hb7) hb8) hb9) hb10) hb11) hb12) _).drew hbw
  clear kz lz oz ks ls os ku lu ou
  go_wp2_with fail
  refine (H12.out _).mono ?_; rintro e w13 ⟨rfl, hb13⟩
  replace ka := ka.keep hb13
  replace la := ka.lt
  replace oa := ka
  unfold At at oa
  replace kb := kb.keep hb13
  replace lb := kb.lt
  replace ob := kb
  unfold At at ob
  go_wp2_with fail
  refine (H13.out _).mono ?_; rintro e w14 ⟨rfl, hb14⟩
  replace ka := ka.go hb14
  replace la := ka.lt
  replace oa := ka
  unfold At at oa
  replace kb := kb.go hb14
  replace lb := kb.lt
  replace ob := kb
  unfold At at ob
  have kvl := At.made hb14
  have lvl := kvl.lt
  have ovl := kvl
  unfold At at ovl
  go_wp2_with fail
  refine (H14.out _).mono ?_; rintro e w15 ⟨rfl, hb15⟩
  replace ka := ka.go hb15
  replace la := ka.lt
  replace oa := ka
  unfold At at oa
  replace kb := kb.go hb15
  replace lb := kb.lt
  replace ob := kb
  unfold At at ob
  replace kvl := kvl.go hb15
  replace lvl := kvl.lt
  replace ovl := kvl
  unfold At at ovl
  have kvg := At.made hb15
  have lvg := kvg.lt
  have ovg := kvg
  unfold At at ovg
  go_wp2_with fail
  refine (H15.out _).mono ?_; rintro e w16 ⟨rfl, hb16⟩
  replace ka := ka.go hb16
  replace la := ka.lt
  replace oa := ka
  unfold At at oa
  replace kb := kb.go hb16
  replace lb := kb.lt
  replace ob := kb
  unfold At at ob
  replace kvl := kvl.go hb16
  replace lvl := kvl.lt
  replace ovl := kvl
  unfold At at ovl
  replace kvg := kvg.go hb16
  replace lvg := kvg.lt
  replace ovg := kvg
  unfold At at ovg
  have kvq := At.made hb16
  have lvq := kvq.lt
  have ovq := kvq
  unfold At at ovq
  go_wp2_with fail
  refine (H16.out _).mono ?_; rintro e w17 ⟨rfl, hb17⟩
  replace ka := ka.go hb17
  replace la := ka.lt
  replace oa := ka
  unfold At at oa
  replace kb := kb.go hb17
  replace lb := kb.lt
  replace ob := kb
  unfold At at ob
  replace kvl := kvl.go hb17
  replace lvl := kvl.lt
  replace ovl := kvl
  unfold At at ovl
  replace kvg := kvg.go hb17
  replace lvg := kvg.lt
  replace ovg := kvg
  unfold At at ovg
  replace kvq := kvq.go hb17
  replace lvq := kvq.lt
  replace ovq := kvq
  unfold At at ovq
  have kvd := At.made hb17
  have lvd := kvd.lt
  have ovd := kvd
  unfold At at ovd
  go_wp2_with fail
  refine (H17.out _).mono ?_; rintro e w18 ⟨rfl, hb18⟩
  replace ka := ka.go hb18
  replace la := ka.lt
  replace oa := ka
  unfold At at oa
  replace kb := kb.go hb18
  replace lb := kb.lt
  replace ob := kb
  unfold At at ob
  replace kvl := kvl.go hb18
  replace lvl := kvl.lt
  replace ovl := kvl
  unfold At at ovl
  replace kvg := kvg.go hb18
  replace lvg := kvg.lt
  replace ovg := kvg
  unfold At at ovg
  replace kvq := kvq.go hb18
  replace lvq := kvq.lt
  replace ovq := kvq
  unfold At at ovq
  replace kvd := kvd.go hb18
  replace lvd := kvd.lt
  replace ovd := kvd
  unfold At at ovd
  have kvt := At.made hb18
  have lvt := kvt.lt
  have ovt := kvt
  unfold At at ovt
  go_wp2_with fail
  refine (works_any _).mono ?_; rintro e w19 ⟨rfl, hb19⟩
  replace ka := ka.go hb19
  replace la := ka.lt
  replace oa := ka
  unfold At at oa
  replace kb := kb.go hb19
  replace lb := kb.lt
  replace ob := kb
  unfold At at ob
  replace kvl := kvl.go hb19
  replace lvl := kvl.lt
  replace ovl := kvl
  unfold At at ovl
  replace kvg := kvg.go hb19
  replace lvg := kvg.lt
  replace ovg := kvg
  unfold At at ovg
  replace kvq := kvq.go hb19
  replace lvq := kvq.lt
  replace ovq := kvq
  unfold At at ovq
  replace kvd := kvd.go hb19
  replace lvd := kvd.lt
  replace ovd := kvd
  unfold At at ovd
  replace kvt := kvt.go hb19
  replace lvt := kvt.lt
  replace ovt := kvt
  unfold At at ovt
  have kvw := At.made hb19
  have lvw := kvw.lt
  have ovw := kvw
  unfold At at ovw
  go_wp2_with fail
  go_ret
  exact ⟨rfl, (bel_go (bel_go (bel_go (bel_go (bel_go (bel_go (bel_call hbel hb13) hb14) hb15) hb16) hb17) hb18) hb19)⟩

end Bv
end Go.Proofs.Ytiogadjjacbjlaa
