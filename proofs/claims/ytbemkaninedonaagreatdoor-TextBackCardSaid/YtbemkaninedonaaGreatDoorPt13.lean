/-
What the reference's quotient and rest by worths return.
What the reference's quotient and rest by worths return where the second is 0.
Plain facts: what shifts, orders and quotients by worths are, bit by bit and by signs.
Plain facts: quotients and rests by worths, by signs.
-/
import Derived.Test.YtbemkaninedonaaGreatDoorPt12
import Derived.Deep.RegionHeld3
import Derived.Test.YtbemkaninedonaaGreatDoorPt10
namespace Go.Proofs.YtbemkaninedonaaGreatDoor
open Go.RowKit
namespace Bv
set_option maxHeartbeats 12000000
set_option maxRecDepth 100000

theorem rsigned_11 (w n v m : Nat) (hw : w ≤ 64) (hv : v ≤ 64) (hn : n < 18446744073709551616) (hm : m < 18446744073709551616) (hy0 : 0 < (low v (18446744073709551616 - m))) (hx6 : (low w (18446744073709551616 - n)) < 18446744073709551616) (hy6 : (low v (18446744073709551616 - m)) < 18446744073709551616) (h0 : ((m : Int) == 0) = false)
    (HS : Hid (∀ W : World, Calls Tryz.prog 74 #[.agg #[.int .u8 w, .int .u64 n]] W fun e W' => e = .returned (.bool true) ∧ Below W.heap.size W W'))
    (HT : Hid (∀ W : World, Calls Tryz.prog 74 #[.agg #[.int .u8 v, .int .u64 m]] W fun e W' => e = .returned (.bool true) ∧ Below W.heap.size W W')) (W : World) :
    Calls Tryz.prog 60 #[.agg #[.int .u8 w, .int .u64 n], .agg #[.int .u8 v, .int .u64 m]] W fun e W' => e = .returned (.tuple #[.agg #[.int .u8 w, .int .u64 ((low w (dq (low w (18446744073709551616 - n)) (low v (18446744073709551616 - m)) 0)) : Nat)], .agg #[.int .u8 w, .int .u64 ((low w (18446744073709551616 - (low w (dr (low w (18446744073709551616 - n)) (low v (18446744073709551616 - m)) 0)))) : Nat)]]) ∧ Below W.heap.size W W' := by
  go_enter Tryz.func60, Tryz.ntmps60
  go_upto_region 3 with fail
  go_cut [6, 7] (fun s6 s7 wx => ∃ g h : Nat, s6 = .pointer (some ⟨g, 0, none⟩) ∧ s7 = .pointer (some ⟨h, 0, none⟩) ∧ g ≠ h ∧ W.heap.size + 3 < g ∧ W.heap.size + 3 < h ∧ Own W.heap.size wx g (.int .u8 w) (.int .u64 n) ∧ Own W.heap.size wx h (.int .u8 v) (.int .u64 m) ∧ At wx W.heap.size (.int .u8 w) (.int .u64 n) ∧ At wx (W.heap.size + 1) (.int .u8 v) (.int .u64 m) ∧ Own W.heap.size wx (W.heap.size + 1 + 1) (.int .u8 0) (.int .u64 0) ∧ Own W.heap.size wx (W.heap.size + 1 + 1 + 1) (.int .u8 0) (.int .u64 0) ∧ Below W.heap.size W wx)
  case first =>
    go_region
    all_goals
      go_wp2_with fail
      go_meet
      refine ⟨_, _, rfl, rfl, by omega, by omega, by omega, ⟨⟨?_, ?_⟩, ⟨?_, ?_⟩, by omega⟩, ⟨⟨?_, ?_⟩, ⟨?_, ?_⟩, by omega⟩, ⟨?_, ?_⟩, ⟨?_, ?_⟩, ⟨⟨?_, ?_⟩, ⟨?_, ?_⟩, by omega⟩, ⟨⟨?_, ?_⟩, ⟨?_, ?_⟩, by omega⟩, ?_⟩
      all_goals first | (simp [go_sem]; done) | skip
      exact Below.drew (bel_alloc (bel_alloc (bel_alloc (bel_alloc (bel_alloc (bel_alloc (Below.refl _ _) _) _) _) _) _) _)
  case rest =>
    obtain ⟨g, h, rfl, rfl, hgh, hg3, hh3, kg, kh, ka, kb, kr, ks, hbel⟩ := hcut
    have nx0 : ¬ W.heap.size = g := by omega
    have ny0 : ¬ g = W.heap.size := by omega
    have nx1 : ¬ W.heap.size = h := by omega
    have ny1 : ¬ h = W.heap.size := by omega
    have nx2 : ¬ W.heap.size + 1 = g := by omega
    have ny2 : ¬ g = W.heap.size + 1 := by omega
    have nx3 : ¬ W.heap.size + 1 = h := by omega
    have ny3 : ¬ h = W.heap.size + 1 := by omega
    have nx4 : ¬ W.heap.size + 1 + 1 = g := by omega
    have ny4 : ¬ g = W.heap.size + 1 + 1 := by omega
    have nx5 : ¬ W.heap.size + 1 + 1 = h := by omega
    have ny5 : ¬ h = W.heap.size + 1 + 1 := by omega
    have nx6 : ¬ W.heap.size + 1 + 1 + 1 = g := by omega
    have ny6 : ¬ g = W.heap.size + 1 + 1 + 1 := by omega
    have nx7 : ¬ W.heap.size + 1 + 1 + 1 = h := by omega
    have ny7 : ¬ h = W.heap.size + 1 + 1 + 1 := by omega
    have nx8 : ¬ g = h := by omega
    have ny8 : ¬ h = g := by omega
    have oa := ka
    unfold At at oa
    have la := ka.lt
    have ob := kb
    unfold At at ob
    have lb := kb.lt
    have og := kg.at_
    unfold At at og
    have lg := kg.lt
    have fg := kg.fz
    unfold Fz at fg
    have oh := kh.at_
    unfold At at oh
    have lh := kh.lt
    have fh := kh.fz
    unfold Fz at fh
    have or := kr.at_
    unfold At at or
    have lr := kr.lt
    have fr := kr.fz
    unfold Fz at fr
    have os := ks.at_
    unfold At at os
    have ls := ks.lt
    have fs := ks.fz
    unfold Fz at fs
    go_wp2_with fail
    refine (HS.out _).mono ?_; rintro e w1 ⟨rfl, hb1⟩
    clear oa la ob lb og lg fg oh lh fh or lr fr os ls fs
    replace ka := ka.keep hb1
    replace kb := kb.keep hb1
    replace kg := kg.keep hb1
    replace kh := kh.keep hb1
    replace kr := kr.keep hb1
    replace ks := ks.keep hb1
    replace hbel := bel_call hbel hb1
    have oa := ka
    unfold At at oa
    have la := ka.lt
    have ob := kb
    unfold At at ob
    have lb := kb.lt
    have og := kg.at_
    unfold At at og
    have lg := kg.lt
    have fg := kg.fz
    unfold Fz at fg
    have oh := kh.at_
    unfold At at oh
    have lh := kh.lt
    have fh := kh.fz
    unfold Fz at fh
    have or := kr.at_
    unfold At at or
    have lr := kr.lt
    have fr := kr.fz
    unfold Fz at fr
    have os := ks.at_
    unfold At at os
    have ls := ks.lt
    have fs := ks.fz
    unfold Fz at fs
    trace "call 1"
    go_wp2_with fail
    refine (rneg_any w n hw hn _).mono ?_; rintro e w2 ⟨rfl, hb2⟩
    clear oa la ob lb og lg fg oh lh fh or lr fr os ls fs
    replace ka := ka.keep hb2
    replace kb := kb.keep hb2
    replace kg := kg.keep hb2
    replace kh := kh.keep hb2
    replace kr := kr.keep hb2
    replace ks := ks.keep hb2
    replace hbel := bel_call hbel hb2
    have oa := ka
    unfold At at oa
    have la := ka.lt
    have ob := kb
    unfold At at ob
    have lb := kb.lt
    have og := kg.at_
    unfold At at og
    have lg := kg.lt
    have fg := kg.fz
    unfold Fz at fg
    have oh := kh.at_
    unfold At at oh
    have lh := kh.lt
    have fh := kh.fz
    unfold Fz at fh
    have or := kr.at_
    unfold At at or
    have lr := kr.lt
    have fr := kr.fz
    unfold Fz at fr
    have os := ks.at_
    unfold At at os
    have ls := ks.lt
    have fs := ks.fz
    unfold Fz at fs
    trace "call 2"
    go_wp2_with fail
    clear oa la ob lb og lg fg oh lh fh or lr fr os ls fs
    replace ka := ka.far (p := g) (x' := .int .u8 w) (y' := .int .u64 ((low w (18446744073709551616 - n)) : Nat)) (by omega)
    replace kb := kb.far (p := g) (x' := .int .u8 w) (y' := .int .u64 ((low w (18446744073709551616 - n)) : Nat)) (by omega)
    replace kh := kh.far (p := g) (x' := .int .u8 w) (y' := .int .u64 ((low w (18446744073709551616 - n)) : Nat)) (by omega)
    replace kr := kr.far (p := g) (x' := .int .u8 w) (y' := .int .u64 ((low w (18446744073709551616 - n)) : Nat)) (by omega)
    replace ks := ks.far (p := g) (x' := .int .u8 w) (y' := .int .u64 ((low w (18446744073709551616 - n)) : Nat)) (by omega)
    replace hbel := bel_set (x' := .int .u8 w) (y' := .int .u64 ((low w (18446744073709551616 - n)) : Nat)) hbel kg.le
    replace kg := kg.set (x' := .int .u8 w) (y' := .int .u64 ((low w (18446744073709551616 - n)) : Nat))
    have oa := ka
    unfold At at oa
    have la := ka.lt
    have ob := kb
    unfold At at ob
    have lb := kb.lt
    have og := kg.at_
    unfold At at og
    have lg := kg.lt
    have fg := kg.fz
    unfold Fz at fg
    have oh := kh.at_
    unfold At at oh
    have lh := kh.lt
    have fh := kh.fz
    unfold Fz at fh
    have or := kr.at_
    unfold At at or
    have lr := kr.lt
    have fr := kr.fz
    unfold Fz at fr
    have os := ks.at_
    unfold At at os
    have ls := ks.lt
    have fs := ks.fz
    unfold Fz at fs
    refine (HT.out _).mono ?_; rintro e w3 ⟨rfl, hb3⟩
    clear oa la ob lb og lg fg oh lh fh or lr fr os ls fs
    replace ka := ka.keep hb3
    replace kb := kb.keep hb3
    replace kg := kg.keep hb3
    replace kh := kh.keep hb3
    replace kr := kr.keep hb3
    replace ks := ks.keep hb3
    replace hbel := bel_call hbel hb3
    have oa := ka
    unfold At at oa
    have la := ka.lt
    have ob := kb
    unfold At at ob
    have lb := kb.lt
    have og := kg.at_
    unfold At at og
    have lg := kg.lt
    have fg := kg.fz
    unfold Fz at fg
    have oh := kh.at_
    unfold At at oh
    have lh := kh.lt
    have fh := kh.fz
    unfold Fz at fh
    have or := kr.at_
    unfold At at or
    have lr := kr.lt
    have fr := kr.fz
    unfold Fz at fr
    have os := ks.at_
    unfold At at os
    have ls := ks.lt
    have fs := ks.fz
    unfold Fz at fs
    trace "call 3"
    go_wp2_with fail
    refine (rneg_any v m hv hm _).mono ?_; rintro e w4 ⟨rfl, hb4⟩
    clear oa la ob lb og lg fg oh lh fh or lr fr os ls fs
    replace ka := ka.keep hb4
    replace kb := kb.keep hb4
    replace kg := kg.keep hb4
    replace kh := kh.keep hb4
    replace kr := kr.keep hb4
    replace ks := ks.keep hb4
    replace hbel := bel_call hbel hb4
    have oa := ka
    unfold At at oa
    have la := ka.lt
    have ob := kb
    unfold At at ob
    have lb := kb.lt
    have og := kg.at_
    unfold At at og
    have lg := kg.lt
    have fg := kg.fz
    unfold Fz at fg
    have oh := kh.at_
    unfold At at oh
    have lh := kh.lt
    have fh := kh.fz
    unfold Fz at fh
    have or := kr.at_
    unfold At at or
    have lr := kr.lt
    have fr := kr.fz
    unfold Fz at fr
    have os := ks.at_
    unfold At at os
    have ls := ks.lt
    have fs := ks.fz
    unfold Fz at fs
    trace "call 4"
    go_wp2_with fail
    clear oa la ob lb og lg fg oh lh fh or lr fr os ls fs
    replace ka := ka.far (p := h) (x' := .int .u8 v) (y' := .int .u64 ((low v (18446744073709551616 - m)) : Nat)) (by omega)
    replace kb := kb.far (p := h) (x' := .int .u8 v) (y' := .int .u64 ((low v (18446744073709551616 - m)) : Nat)) (by omega)
    replace kg := kg.far (p := h) (x' := .int .u8 v) (y' := .int .u64 ((low v (18446744073709551616 - m)) : Nat)) (by omega)
    replace kr := kr.far (p := h) (x' := .int .u8 v) (y' := .int .u64 ((low v (18446744073709551616 - m)) : Nat)) (by omega)
    replace ks := ks.far (p := h) (x' := .int .u8 v) (y' := .int .u64 ((low v (18446744073709551616 - m)) : Nat)) (by omega)
    replace hbel := bel_set (x' := .int .u8 v) (y' := .int .u64 ((low v (18446744073709551616 - m)) : Nat)) hbel kh.le
    replace kh := kh.set (x' := .int .u8 v) (y' := .int .u64 ((low v (18446744073709551616 - m)) : Nat))
    generalize (w4.setCell ⟨h, 0, none⟩ (.int .u8 v)).setCell ⟨h, 1, none⟩ (.int .u64 ((low v (18446744073709551616 - m)) : Nat)) = wq at *
    have oa := ka
    unfold At at oa
    have la := ka.lt
    have ob := kb
    unfold At at ob
    have lb := kb.lt
    have og := kg.at_
    unfold At at og
    have lg := kg.lt
    have fg := kg.fz
    unfold Fz at fg
    have oh := kh.at_
    unfold At at oh
    have lh := kh.lt
    have fh := kh.fz
    unfold Fz at fh
    have or := kr.at_
    unfold At at or
    have lr := kr.lt
    have fr := kr.fz
    unfold Fz at fr
    have os := ks.at_
    unfold At at os
    have ls := ks.lt
    have fs := ks.fz
    unfold Fz at fs
    refine (rdivide_any (low w (18446744073709551616 - n)) (low v (18446744073709551616 - m)) hx6 hy6 hy0 _).mono ?_; rintro e wd ⟨rfl, rfl⟩
    go_upto_region 9 with fail
    have KA := Lib.hid ka; have KB := Lib.hid kb; have KR := Lib.hid kr; have KS := Lib.hid ks; have BEL := Lib.hid hbel
    clear ka kb kr ks hbel kg kh og lg fg oh lh fh ob or os fr fs lb nx0 ny0 nx1 ny1 nx2 ny2 nx3 ny3 nx4 ny4 nx5 ny5 nx6 ny6 nx7 ny7 nx8 ny8
    have ha0 := KA.out.drew.1
    have ha1 := KA.out.1
    have hdf : ∀ (X : World) (a : Addr), X.drew.frozen? a = X.frozen? a := fun _ _ => rfl
    have hdc : ∀ (X : World) (a : Addr), X.drew.cell? a = X.cell? a := fun _ _ => rfl
    have hds : ∀ (X : World), X.drew.heap.size = X.heap.size := fun _ => rfl
    have hr3 := KS.out.lt; (try simp at hr3)
    clear lr ls
    have hq6 : dq (low w (18446744073709551616 - n)) (low v (18446744073709551616 - m)) 0 < 18446744073709551616 := Nat.lt_of_le_of_lt (dq_le _ _ _) hx6
    have hr6 : dr (low w (18446744073709551616 - n)) (low v (18446744073709551616 - m)) 0 < 18446744073709551616 := Nat.lt_trans (dr_lt _ _ hy0) hy6
    go_cut [10, 11] (fun s10 s11 wx => ∃ i j : Nat, s10 = .pointer (some ⟨i, 0, none⟩) ∧ s11 = .pointer (some ⟨j, 0, none⟩) ∧ i ≠ j ∧ W.heap.size + 3 < i ∧ W.heap.size + 3 < j ∧ Own W.heap.size wx i (.int .u8 w) (.int .u64 (low w (dq (low w (18446744073709551616 - n)) (low v (18446744073709551616 - m)) 0) : Nat)) ∧ Own W.heap.size wx j (.int .u8 w) (.int .u64 (low w (dr (low w (18446744073709551616 - n)) (low v (18446744073709551616 - m)) 0) : Nat)) ∧ At wx W.heap.size (.int .u8 w) (.int .u64 n) ∧ At wx (W.heap.size + 1) (.int .u8 v) (.int .u64 m) ∧ Own W.heap.size wx (W.heap.size + 1 + 1) (.int .u8 0) (.int .u64 0) ∧ Own W.heap.size wx (W.heap.size + 1 + 1 + 1) (.int .u8 0) (.int .u64 0) ∧ Below W.heap.size W wx)
    case first =>
      have lr := KR.out.lt; have ls := KS.out.lt
      have or := KR.out.at_; have os := KS.out.at_; have fr := KR.out.fz; have fs := KS.out.fz
      unfold At at or os; unfold Fz at fr fs
      go_region_held3 (fun w' => w'.cell? ⟨W.heap.size, 0, none⟩ = some (.int .u8 w))
        (first | (with_reducible assumption) | ((try dsimp only); (repeat (first | (with_reducible refine cell_drew ?_) | (with_reducible refine Eq.trans (World.cell?_alloc_lt _ _ _ ?_) ?_; (first | (with_reducible assumption) | (simp; done) | (simp; omega) | omega)) | (with_reducible refine Eq.trans (World.cell?_setCell_far _ _ _ _ ?_) ?_; (first | (simp; done) | (simp; omega) | omega)))); (with_reducible assumption)))
        (first | (go_at_call 55; (first | (with_reducible refine (rcut_exact w hw (dq (low w (18446744073709551616 - n)) (low v (18446744073709551616 - m)) 0) hq6 _).mono ?_) | (with_reducible refine (rcut_exact w hw (dr (low w (18446744073709551616 - n)) (low v (18446744073709551616 - m)) 0) hr6 _).mono ?_)); rintro e wx ⟨rfl, rfl⟩))
      all_goals
        go_wp2_with fail
        go_meet
        refine ⟨_, _, rfl, rfl, by omega, by omega, by omega, ⟨⟨?_, ?_⟩, ⟨?_, ?_⟩, by omega⟩, ⟨⟨?_, ?_⟩, ⟨?_, ?_⟩, by omega⟩, ?_, ?_, ?_, ?_, ?_⟩
        all_goals first | (simp [go_sem]; done) | skip
        all_goals (repeat (first | (with_reducible exact BEL.out) | (with_reducible exact KA.out) | (with_reducible exact KB.out) | (with_reducible exact KR.out) | (with_reducible exact KS.out) | (with_reducible refine Own.drew ?_) | (with_reducible refine Own.alloc ?_ _) | (with_reducible refine Below.drew ?_) | (with_reducible refine bel_alloc ?_ _) | (with_reducible refine At.drew ?_) | (with_reducible refine At.alloc ?_ _)))
    case rest =>
      obtain ⟨i, j, rfl, rfl, hij, hi3, hj3, ki, kj, ka, kb, kr, ks, hbel⟩ := hcut
      have nx0 : ¬ W.heap.size = i := by omega
      have ny0 : ¬ i = W.heap.size := by omega
      have nx1 : ¬ W.heap.size = j := by omega
      have ny1 : ¬ j = W.heap.size := by omega
      have nx2 : ¬ W.heap.size + 1 = i := by omega
      have ny2 : ¬ i = W.heap.size + 1 := by omega
      have nx3 : ¬ W.heap.size + 1 = j := by omega
      have ny3 : ¬ j = W.heap.size + 1 := by omega
      have nx4 : ¬ W.heap.size + 1 + 1 = i := by omega
      have ny4 : ¬ i = W.heap.size + 1 + 1 := by omega
      have nx5 : ¬ W.heap.size + 1 + 1 = j := by omega
      have ny5 : ¬ j = W.heap.size + 1 + 1 := by omega
      have nx6 : ¬ W.heap.size + 1 + 1 + 1 = i := by omega
      have ny6 : ¬ i = W.heap.size + 1 + 1 + 1 := by omega
      have nx7 : ¬ W.heap.size + 1 + 1 + 1 = j := by omega
      have ny7 : ¬ j = W.heap.size + 1 + 1 + 1 := by omega
      have nx8 : ¬ i = j := by omega
      have ny8 : ¬ j = i := by omega
      have oa := ka
      unfold At at oa
      have la := ka.lt
      have ob := kb
      unfold At at ob
      have lb := kb.lt
      have oi := ki.at_
      unfold At at oi
      have li := ki.lt
      have fi := ki.fz
      unfold Fz at fi
      have oj := kj.at_
      unfold At at oj
      have lj := kj.lt
      have fj := kj.fz
      unfold Fz at fj
      have or := kr.at_
      unfold At at or
      have lr := kr.lt
      have fr := kr.fz
      unfold Fz at fr
      have os := ks.at_
      unfold At at os
      have ls := ks.lt
      have fs := ks.fz
      unfold Fz at fs
      go_wp2_with fail
      go_region_held3 (fun w' => w'.cell? ⟨W.heap.size, 0, none⟩ = some (.int .u8 w) ∧ w'.cell? ⟨W.heap.size, 1, none⟩ = some (.int .u64 n) ∧ w'.cell? ⟨W.heap.size + 1, 0, none⟩ = some (.int .u8 v) ∧ w'.cell? ⟨W.heap.size + 1, 1, none⟩ = some (.int .u64 m))
        (first | exact ⟨ka.drew.1, ka.drew.2, kb.drew.1, kb.drew.2⟩ | ((try dsimp only); (try go_split_ands); refine ⟨?_, ?_, ?_, ?_⟩ <;> (refine cell_keep2 hb8 ?_; with_reducible assumption)) | ((try dsimp only); (try go_split_ands); refine ⟨?_, ?_, ?_, ?_⟩ <;> (refine cell_keep2 hb7 ?_; with_reducible assumption)))
        (first | (go_at_call 74; (first | ((with_reducible refine (HS.out _).mono ?_); rintro e w7 ⟨rfl, hb7⟩) | ((with_reducible refine (HT.out _).mono ?_); rintro e w8 ⟨rfl, hb8⟩))))
      clear oa la ob lb oi li fi oj lj fj or lr fr os ls fs
      replace ka := (ka.drew.keep hb7).keep hb8
      replace kb := (kb.drew.keep hb7).keep hb8
      replace ki := (ki.drew.keep hb7).keep hb8
      replace kj := (kj.drew.keep hb7).keep hb8
      replace kr := (kr.drew.keep hb7).keep hb8
      replace ks := (ks.drew.keep hb7).keep hb8
      replace hbel := bel_call (bel_call hbel.drew hb7) hb8
      have oa := ka
      unfold At at oa
      have la := ka.lt
      have ob := kb
      unfold At at ob
      have lb := kb.lt
      have oi := ki.at_
      unfold At at oi
      have li := ki.lt
      have fi := ki.fz
      unfold Fz at fi
      have oj := kj.at_
      unfold At at oj
      have lj := kj.lt
      have fj := kj.fz
      unfold Fz at fj
      have or := kr.at_
      unfold At at or
      have lr := kr.lt
      have fr := kr.fz
      unfold Fz at fr
      have os := ks.at_
      unfold At at os
      have ls := ks.lt
      have fs := ks.fz
      unfold Fz at fs
      go_wp2_with fail
      refine (HS.out _).mono ?_; rintro e w9 ⟨rfl, hb9⟩
      clear oa la ob lb oi li fi oj lj fj or lr fr os ls fs
      replace ka := ka.keep hb9
      replace kb := kb.keep hb9
      replace ki := ki.keep hb9
      replace kj := kj.keep hb9
      replace kr := kr.keep hb9
      replace ks := ks.keep hb9
      replace hbel := bel_call hbel hb9
      have oa := ka
      unfold At at oa
      have la := ka.lt
      have ob := kb
      unfold At at ob
      have lb := kb.lt
      have oi := ki.at_
      unfold At at oi
      have li := ki.lt
      have fi := ki.fz
      unfold Fz at fi
      have oj := kj.at_
      unfold At at oj
      have lj := kj.lt
      have fj := kj.fz
      unfold Fz at fj
      have or := kr.at_
      unfold At at or
      have lr := kr.lt
      have fr := kr.fz
      unfold Fz at fr
      have os := ks.at_
      unfold At at os
      have ls := ks.lt
      have fs := ks.fz
      unfold Fz at fs
      trace "call 9"
      go_wp2_with fail
      refine (rneg_any w (low w (dr (low w (18446744073709551616 - n)) (low v (18446744073709551616 - m)) 0)) hw (Nat.lt_of_lt_of_le (low_lt w _) (pow_le64 hw)) _).mono ?_; rintro e w10 ⟨rfl, hb10⟩
      clear oa la ob lb oi li fi oj lj fj or lr fr os ls fs
      replace ka := ka.keep hb10
      replace kb := kb.keep hb10
      replace ki := ki.keep hb10
      replace kj := kj.keep hb10
      replace kr := kr.keep hb10
      replace ks := ks.keep hb10
      replace hbel := bel_call hbel hb10
      have oa := ka
      unfold At at oa
      have la := ka.lt
      have ob := kb
      unfold At at ob
      have lb := kb.lt
      have oi := ki.at_
      unfold At at oi
      have li := ki.lt
      have fi := ki.fz
      unfold Fz at fi
      have oj := kj.at_
      unfold At at oj
      have lj := kj.lt
      have fj := kj.fz
      unfold Fz at fj
      have or := kr.at_
      unfold At at or
      have lr := kr.lt
      have fr := kr.fz
      unfold Fz at fr
      have os := ks.at_
      unfold At at os
      have ls := ks.lt
      have fs := ks.fz
      unfold Fz at fs
      trace "call 10"
      go_wp2_with fail
      clear oa la ob lb oi li fi oj lj fj or lr fr os ls fs
      replace ka := ka.far (p := j) (x' := .int .u8 w) (y' := .int .u64 ((low w (18446744073709551616 - (low w (dr (low w (18446744073709551616 - n)) (low v (18446744073709551616 - m)) 0)))) : Nat)) (by omega)
      replace kb := kb.far (p := j) (x' := .int .u8 w) (y' := .int .u64 ((low w (18446744073709551616 - (low w (dr (low w (18446744073709551616 - n)) (low v (18446744073709551616 - m)) 0)))) : Nat)) (by omega)
      replace ki := ki.far (p := j) (x' := .int .u8 w) (y' := .int .u64 ((low w (18446744073709551616 - (low w (dr (low w (18446744073709551616 - n)) (low v (18446744073709551616 - m)) 0)))) : Nat)) (by omega)
      replace kr := kr.far (p := j) (x' := .int .u8 w) (y' := .int .u64 ((low w (18446744073709551616 - (low w (dr (low w (18446744073709551616 - n)) (low v (18446744073709551616 - m)) 0)))) : Nat)) (by omega)
      replace ks := ks.far (p := j) (x' := .int .u8 w) (y' := .int .u64 ((low w (18446744073709551616 - (low w (dr (low w (18446744073709551616 - n)) (low v (18446744073709551616 - m)) 0)))) : Nat)) (by omega)
      replace hbel := bel_set (x' := .int .u8 w) (y' := .int .u64 ((low w (18446744073709551616 - (low w (dr (low w (18446744073709551616 - n)) (low v (18446744073709551616 - m)) 0)))) : Nat)) hbel kj.le
      replace kj := kj.set (x' := .int .u8 w) (y' := .int .u64 ((low w (18446744073709551616 - (low w (dr (low w (18446744073709551616 - n)) (low v (18446744073709551616 - m)) 0)))) : Nat))
      have oa := ka
      unfold At at oa
      have la := ka.lt
      have ob := kb
      unfold At at ob
      have lb := kb.lt
      have oi := ki.at_
      unfold At at oi
      have li := ki.lt
      have fi := ki.fz
      unfold Fz at fi
      have oj := kj.at_
      unfold At at oj
      have lj := kj.lt
      have fj := kj.fz
      unfold Fz at fj
      have or := kr.at_
      unfold At at or
      have lr := kr.lt
      have fr := kr.fz
      unfold Fz at fr
      have os := ks.at_
      unfold At at os
      have ls := ks.lt
      have fs := ks.fz
      unfold Fz at fs
      go_region
      all_goals go_wp2_with fail
      all_goals
        refine bodyPost_ret (v := .tuple #[.agg #[.int .u8 w, .int .u64 ((low w (dq (low w (18446744073709551616 - n)) (low v (18446744073709551616 - m)) 0)) : Nat)], .agg #[.int .u8 w, .int .u64 ((low w (18446744073709551616 - (low w (dr (low w (18446744073709551616 - n)) (low v (18446744073709551616 - m)) 0)))) : Nat)]]) (by simp [results, Tryz.results60, go_sem, or, os]) rfl ⟨rfl, ?_⟩
        repeat (first | (with_reducible exact hbel) | (with_reducible refine Below.drew ?_) | (with_reducible refine Below.setCell ?_ (by first | (simp; done) | (simp; omega) | omega) _))
end Bv
end Go.Proofs.YtbemkaninedonaaGreatDoor

namespace Go.Proofs.YtbemkaninedonaaGreatDoor
open Go.RowKit
namespace Bv
set_option maxHeartbeats 2000000
set_option maxRecDepth 100000

theorem rsigned_0 (w n v : Nat) (hw : w ≤ 64) (W : World) :
    Calls Tryz.prog 60 #[.agg #[.int .u8 w, .int .u64 n], .agg #[.int .u8 v, .int .u64 0]] W fun e W' => e = .returned (.tuple #[.agg #[.int .u8 w, .int .u64 (low w 18446744073709551615 : Nat)], .agg #[.int .u8 w, .int .u64 n]]) ∧ Below W.heap.size W W' := by
  go_enter Tryz.func60, Tryz.ntmps60
  go_wp2_with fail
  go_region_with (first | (go_at_call 55; refine (rcut_exact w hw 18446744073709551615 (by decide) _).mono ?_; rintro e wx ⟨rfl, rfl⟩))
  all_goals go_wp2_with fail
  all_goals
    refine bodyPost_ret (v := .tuple #[.agg #[.int .u8 w, .int .u64 (low w 18446744073709551615 : Nat)], .agg #[.int .u8 w, .int .u64 n]]) (by simp [results, Tryz.results60, go_sem]) rfl ⟨rfl, ?_⟩
    repeat (first | (with_reducible exact Below.refl _ _) | (with_reducible refine Below.drew ?_) | (with_reducible refine bel_alloc ?_ _) | (with_reducible refine Below.setCell ?_ (by first | (simp; done) | (simp; omega) | omega) _))
end Bv
end Go.Proofs.YtbemkaninedonaaGreatDoor

namespace Go.Proofs.YtbemkaninedonaaGreatDoor
open Go.RowKit
namespace Bv

theorem low_bit (w x k : Nat) (hk : k < w) : (low w x).testBit k = x.testBit k := by
  unfold low; rw [Nat.testBit_mod_two_pow]; simp [hk]
theorem mod64_bit (x k : Nat) (hk : k < 64) : (x % 18446744073709551616).testBit k = x.testBit k := by
  have : (18446744073709551616 : Nat) = 2 ^ 64 := by decide
  rw [this, Nat.testBit_mod_two_pow]; simp [hk]
theorem high_bit {w n k : Nat} (hn : n < 2 ^ w) (hk : w ≤ k) : n.testBit k = false :=
  Nat.testBit_lt_two_pow (Nat.lt_of_lt_of_le hn (Nat.pow_le_pow_right (by decide) hk))

theorem shl_bits {w v n m : Nat} (h2 : w ≤ 64) {k : Nat} (hk : k < w) :
    (low w (numB 15 w v n m)).testBit k = (decide (m ≤ k) && n.testBit (k - m)) := by
  rw [low_bit _ _ _ hk]
  show (n * 2 ^ min m 64 % 18446744073709551616).testBit k = _
  rw [mod64_bit _ _ (by omega), Nat.testBit_mul_two_pow]
  by_cases h : m ≤ k
  · rw [Nat.min_eq_left (by omega)]
  · have : ¬ min m 64 ≤ k := by omega
    simp [h, this]
theorem lshr_bits {w v n m : Nat} (h2 : w ≤ 64) (hn : n < 2 ^ w) {k : Nat} (hk : k < w) :
    (low w (numB 16 w v n m)).testBit k = (decide (m < w ∧ k + m < w) && n.testBit (k + m)) := by
  rw [low_bit _ _ _ hk]
  show (n / 2 ^ min m 64).testBit k = _
  rw [Nat.testBit_div_two_pow]
  by_cases h : k + m < w
  · rw [Nat.min_eq_left (by omega)]
    have : m < w := by omega
    simp [h, this]
  · have e : n.testBit (k + min m 64) = false := high_bit hn (by omega)
    simp [h, e]

theorem xor_low {i r : Nat} (h : r < 2 ^ i) : r ^^^ 2 ^ i = r + 2 ^ i := by
  have e : r ^^^ 2 ^ i = 2 ^ i ||| r := by
    apply Nat.eq_of_testBit_eq
    intro j
    rw [Nat.testBit_xor, Nat.testBit_or, Nat.testBit_two_pow]
    by_cases hj : i = j
    · subst hj
      have : r.testBit i = false := Nat.testBit_lt_two_pow h
      simp [this]
    · simp [hj]
  have e2 := Nat.two_pow_add_eq_or_of_lt h 1
  rw [Nat.mul_one] at e2
  rw [e, ← e2, Nat.add_comm]
theorem xor_top {w n : Nat} (h1 : 1 ≤ w) (hn : n < 2 ^ w) : n ^^^ 2 ^ (w - 1) = if 2 ^ (w - 1) ≤ n then n - 2 ^ (w - 1) else n + 2 ^ (w - 1) := by
  have hh := pow_half h1
  split
  · have hr : n - 2 ^ (w - 1) < 2 ^ (w - 1) := by omega
    have e := xor_low hr
    have e2 : n = n - 2 ^ (w - 1) + 2 ^ (w - 1) := by omega
    conv => lhs; rw [e2, ← e, Nat.xor_assoc, Nat.xor_self, Nat.xor_zero]
  · exact xor_low (by omega)
theorem slt_is {w n m : Nat} (h1 : 1 ≤ w) (hn : n < 2 ^ w) (hm : m < 2 ^ w) :
    decide (n ^^^ 2 ^ (w - 1) < m ^^^ 2 ^ (w - 1)) = (if decide (2 ^ (w - 1) ≤ n) = decide (2 ^ (w - 1) ≤ m) then decide (n < m) else decide (2 ^ (w - 1) ≤ n)) := by
  have hh := pow_half h1
  rw [xor_top h1 hn, xor_top h1 hm]
  by_cases a : 2 ^ (w - 1) ≤ n <;> by_cases b : 2 ^ (w - 1) ≤ m <;> simp [a, b] <;> omega

/-- Shifted down with the sign. -/
theorem ashr_low {w v n m : Nat} (h2 : w ≤ 64) : ((low w (numB 17 w v n m) : Nat) : Int) = (wo w n / 2 ^ min m 64) % ((2 ^ w : Nat) : Int) := by
  show ((low w ((wo w n / 2 ^ min m 64) % 18446744073709551616).toNat : Nat) : Int) = _
  exact low_int h2 _
theorem ashr_neg {w n s : Nat} (hn : n < 2 ^ w) (hs : s ≤ w) :
    (((n : Int) - ((2 ^ w : Nat) : Int)) / 2 ^ s) % ((2 ^ w : Nat) : Int) = (((2 ^ s - 1) * 2 ^ (w - s) + n / 2 ^ s : Nat) : Int) := by
  have hp := pow_pos' s
  have hq := pow_pos' (w - s)
  have hw : 2 ^ w = 2 ^ (w - s) * 2 ^ s := by rw [← Nat.pow_add]; congr 1; omega
  have hlt : n / 2 ^ s < 2 ^ (w - s) := by rw [Nat.div_lt_iff_lt_mul hp, ← hw]; exact hn
  have e1 : ((2 : Int) ^ s) = ((2 ^ s : Nat) : Int) := by simp
  rw [e1, hw]
  generalize 2 ^ s = a at *
  generalize 2 ^ (w - s) = b at *
  have e2 : ((n : Int) - ((b * a : Nat) : Int)) / (a : Int) = ((n / a : Nat) : Int) - (b : Int) := by
    rw [Int.natCast_mul, Int.sub_eq_add_neg, ← Int.neg_mul, Int.add_mul_ediv_right _ _ (by omega), Int.natCast_ediv]; omega
  rw [e2]
  clear e2
  generalize n / a = t at *
  have hb : (a - 1) * b + b = b * a := by
    rw [← Nat.succ_mul, Nat.mul_comm]; congr 1; omega
  have e3 : (t : Int) - (b : Int) + ((b * a : Nat) : Int) = (((a - 1) * b + t : Nat) : Int) := by
    rw [← hb]
    generalize (a - 1) * b = z
    omega
  rw [← Int.add_emod_right, e3]
  rw [← hb]
  generalize (a - 1) * b = z
  exact Int.emod_eq_of_lt (by omega) (by omega)
theorem ashr_far {w n s : Nat} (hn : n < 2 ^ w) (hs : w ≤ s) :
    (((n : Int) - ((2 ^ w : Nat) : Int)) / 2 ^ s) % ((2 ^ w : Nat) : Int) = ((2 ^ w - 1 : Nat) : Int) := by
  have hp := pow_pos' w
  have hle : 2 ^ w ≤ 2 ^ s := Nat.pow_le_pow_right (by decide) hs
  have e1 : ((2 : Int) ^ s) = ((2 ^ s : Nat) : Int) := by simp
  rw [e1]
  generalize 2 ^ s = a at *
  generalize 2 ^ w = b at *
  have e2 : ((n : Int) - (b : Int)) / (a : Int) = -1 := by
    rw [Int.ediv_eq_iff_of_pos (by omega)]; omega
  rw [e2, ← Int.add_emod_right, show (-1 : Int) + (b : Int) = ((b - 1 : Nat) : Int) by omega]
  exact Int.emod_eq_of_lt (by omega) (by omega)
theorem ones_bit (s j : Nat) : (2 ^ s - 1).testBit j = decide (j < s) := Nat.testBit_two_pow_sub_one s j
theorem ashr_bits {w v n m : Nat} (h1 : 1 ≤ w) (h2 : w ≤ 64) (hn : n < 2 ^ w) {k : Nat} (hk : k < w) :
    (low w (numB 17 w v n m)).testBit k = if m < w ∧ k + m < w then n.testBit (k + m) else decide (2 ^ (w - 1) ≤ n) := by
  have hT := ashr_low (w := w) (v := v) (n := n) (m := m) h2
  by_cases hs : 2 ^ (w - 1) ≤ n
  · rw [wo_neg hs] at hT
    by_cases hm : min m 64 ≤ w
    · rw [ashr_neg hn hm] at hT
      have e := Int.ofNat_inj.1 hT
      rw [e]
      have hlt : n / 2 ^ min m 64 < 2 ^ (w - min m 64) := by
        rw [Nat.div_lt_iff_lt_mul (pow_pos' _), ← Nat.pow_add, show w - min m 64 + min m 64 = w by omega]; exact hn
      rw [← or_join hlt, Nat.testBit_or, Nat.testBit_mul_two_pow, Nat.testBit_div_two_pow, ones_bit]
      by_cases hc : m < w ∧ k + m < w
      · rw [if_pos hc, Nat.min_eq_left (by omega)]
        have : ¬ w - m ≤ k := by omega
        simp [this]
      · rw [if_neg hc]
        have a : w - min m 64 ≤ k := by omega
        have b : k - (w - min m 64) < min m 64 := by omega
        simp [a, b, hs]
    · rw [ashr_far hn (by omega)] at hT
      have e := Int.ofNat_inj.1 hT
      rw [e, ones_bit, if_neg (by omega)]
      simp [hk, hs]
  · rw [wo_pos (by omega)] at hT
    have e0 : (n : Int) / 2 ^ min m 64 = ((n / 2 ^ min m 64 : Nat) : Int) := by simp
    rw [e0, Int.emod_eq_of_lt (Int.natCast_nonneg _) (Int.ofNat_lt.2 (Nat.lt_of_le_of_lt (Nat.div_le_self _ _) hn))] at hT
    have e := Int.ofNat_inj.1 hT
    rw [e, Nat.testBit_div_two_pow]
    by_cases hc : m < w ∧ k + m < w
    · rw [if_pos hc, Nat.min_eq_left (by omega)]
    · rw [if_neg hc]
      have hn' : n < 2 ^ (w - 1) := by omega
      have e : n.testBit (k + min m 64) = false := high_bit hn' (by omega)
      simp [e, hs]
end Bv
end Go.Proofs.YtbemkaninedonaaGreatDoor

namespace Go.Proofs.YtbemkaninedonaaGreatDoor
open Go.RowKit
namespace Bv

theorem neg_low {w n : Nat} (h1 : 1 ≤ w) (h2 : w ≤ 64) (hn : n < 2 ^ w) (hs : 2 ^ (w - 1) ≤ n) : low w (18446744073709551616 - n) = 2 ^ w - n := by
  have hp := pow_pos' (w - 1)
  have hh := pow_half h1
  have hl := pow_le64 h2
  have hsp := pow_split h2
  have e : 18446744073709551616 - n = (2 ^ w - n) + 2 ^ w * (2 ^ (64 - w) - 1) := by
    rw [Nat.mul_sub, hsp, Nat.mul_one]; omega
  unfold low
  rw [e, Nat.add_mul_mod_self_left, Nat.mod_eq_of_lt (by omega)]
/-- The worth's size. -/
def ab (w n : Nat) (s : Bool) : Nat := if s = true then low w (18446744073709551616 - n) else n
theorem wo_ab {w n : Nat} (h1 : 1 ≤ w) (h2 : w ≤ 64) (hn : n < 2 ^ w) : wo w n = if decide (2 ^ (w - 1) ≤ n) = true then -(ab w n true : Int) else (ab w n false : Int) := by
  by_cases hs : 2 ^ (w - 1) ≤ n
  · rw [wo_neg hs]
    simp only [hs, decide_true, if_true, ab]
    rw [neg_low h1 h2 hn hs]; omega
  · rw [wo_pos (by omega)]
    simp [hs, ab]
theorem neg_int {w : Nat} (h2 : w ≤ 64) (q : Nat) : ((low w (18446744073709551616 - low w q) : Nat) : Int) = (-(q : Int)) % ((2 ^ w : Nat) : Int) := by
  have hl := pow_le64 h2
  have hq := low_lt w q
  have hsp := pow_split h2
  rw [low_cast, Int.natCast_sub (by omega), low_cast w q, Int.sub_emod, Int.emod_emod_of_dvd _ (Int.dvd_refl _), ← Int.sub_emod]
  rw [show ((18446744073709551616 : Nat) : Int) - (q : Int) = -(q : Int) + ((2 ^ w : Nat) : Int) * ((2 ^ (64 - w) : Nat) : Int) by rw [← Int.natCast_mul, hsp]; omega]
  rw [Int.add_mul_emod_self_left]

/-- Quotient and rest by worths, out of those of the sizes. -/
theorem signed_is {w n m : Nat} (h1 : 1 ≤ w) (h2 : w ≤ 64) (hn : n < 2 ^ w) (hm : m < 2 ^ w) (h : ¬ m = 0) (sa sb : Bool) (ha : decide (2 ^ (w - 1) ≤ n) = sa) (hb : decide (2 ^ (w - 1) ≤ m) = sb) :
    (if sa = sb then low w (ab w n sa / ab w m sb) else low w (18446744073709551616 - low w (ab w n sa / ab w m sb))) = low w (numB 13 w w n m) ∧
    (if sa = true then low w (18446744073709551616 - low w (ab w n sa % ab w m sb)) else low w (ab w n sa % ab w m sb)) = low w (numB 14 w w n m) := by
  have e13 : numB 13 w w n m = ((wo w n).tdiv (wo w m) % 18446744073709551616).toNat := by show (if m = 0 then _ else _) = _; rw [if_neg h]
  have e14 : numB 14 w w n m = ((wo w n).tmod (wo w m) % 18446744073709551616).toNat := by show (if m = 0 then _ else _) = _; rw [if_neg h]
  have wn := wo_ab h1 h2 hn
  have wm := wo_ab h1 h2 hm
  have hm0 := wo_ne (v := w) hm h
  rw [ha] at wn
  rw [hb] at wm
  rw [e13, e14]
  generalize wo w n = a at *
  generalize wo w m = b at *
  constructor
  all_goals
    apply Int.ofNat_inj.1
    rw [low_int h2]
    cases sa <;> cases sb <;> simp only [Bool.false_eq_true, if_false, if_true, reduceCtorEq] at wn wm ⊢
    all_goals
      subst wn wm
      first
      | rw [neg_int h2]
      | rw [low_cast]
      first
      | (simp [Int.neg_tdiv, Int.tdiv_neg]; done)
      | (simp [Int.neg_tmod, Int.tmod_neg]; rw [Int.tmod_eq_emod_of_nonneg (Int.natCast_nonneg _)])
end Bv
end Go.Proofs.YtbemkaninedonaaGreatDoor
