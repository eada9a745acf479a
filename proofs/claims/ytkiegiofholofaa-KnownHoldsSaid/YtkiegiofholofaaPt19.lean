/-
What the reference's quotient and rest by worths return.
What the reference's quotient and rest by worths return where the second is 0.
Plain facts: quotients and rests by worths, by signs.
What the document's own answer for layer bv makes of vectors that may be, each as a fact on one call: the vector.
-/
import Derived.Test.YtkiegiofholofaaPt18
import Derived.Deep.RegionHeld3
import Derived.Test.YtkiegiofholofaaPt02
import Derived.Test.YtkiegiofholofaaBvRefB
import Derived.Test.YtkiegiofholofaaPt17
import Derived.Test.YtkiegiofholofaaBvRbinC
import Derived.Test.YtkiegiofholofaaBvSg10
namespace Go.Proofs.Ytkiegiofholofaa
open Go.RowKit
namespace Bv
set_option maxHeartbeats 12000000
set_option maxRecDepth 100000

theorem rsigned_11 (w n v m : Nat) (hw : w ≤ 64) (hv : v ≤ 64) (hn : n < 18446744073709551616) (hm : m < 18446744073709551616) (hy0 : 0 < (low v (18446744073709551616 - m))) (hx6 : (low w (18446744073709551616 - n)) < 18446744073709551616) (hy6 : (low v (18446744073709551616 - m)) < 18446744073709551616) (h0 : ((m : Int) == 0) = false)
    (HS : Hid (∀ W : World, Calls Try.prog 66 #[.agg #[.int .u8 w, .int .u64 n]] W fun e W' => e = .returned (.bool true) ∧ Below W.heap.size W W'))
    (HT : Hid (∀ W : World, Calls Try.prog 66 #[.agg #[.int .u8 v, .int .u64 m]] W fun e W' => e = .returned (.bool true) ∧ Below W.heap.size W W')) (W : World) :
    Calls Try.prog 56 #[.agg #[.int .u8 w, .int .u64 n], .agg #[.int .u8 v, .int .u64 m]] W fun e W' => e = .returned (.tuple #[.agg #[.int .u8 w, .int .u64 ((low w (dq (low w (18446744073709551616 - n)) (low v (18446744073709551616 - m)) 0)) : Nat)], .agg #[.int .u8 w, .int .u64 ((low w (18446744073709551616 - (low w (dr (low w (18446744073709551616 - n)) (low v (18446744073709551616 - m)) 0)))) : Nat)]]) ∧ Below W.heap.size W W' := by
  go_enter Try.func56, Try.ntmps56
  go_upto_region 3 with fail
  go_cut [6, 7] (fun s6 s7 wx => ∃ g h : Nat, s6 = .pointer (some ⟨g, 0, none⟩) ∧ s7 = .pointer (some ⟨h, 0, none⟩) ∧ g ≠ h ∧ W.heap.size + 3 < g ∧ W.heap.size + 3 < h ∧ Own W.heap.size wx g (.int .u8 w) (.int .u64 n) ∧ Own W.heap.size wx h (.int .u8 v) (.int .u64 m) ∧ At wx W.heap.size (.int .u8 w) (.int .u64 n) ∧ At wx (W.heap.size + 1) (.int .u8 v) (.int .u64 m) ∧ Own W.heap.size wx (W.heap.size + 1 + 1) (.int .u8 0) (.int .u64 0) ∧ Own W.heap.size wx (W.heap.size + 1 + 1 + 1) (.int .u8 0) (.int .u64 0) ∧ Below W.heap.size W wx)
  case first =>
    go_region
    all_goals
      go_wp2_with fail
      go_meet
      refine ⟨_, _, rfl, rfl, by omega, by omega, by omega, ⟨⟨?_, ?_⟩, ⟨?_, ?_⟩, by omega⟩, ⟨⟨?_, ?_⟩, ⟨?_, ?_⟩, by omega⟩, ⟨?_, ?_⟩, ⟨?_, ?_⟩, ⟨⟨?_, ?_⟩, ⟨?_, ?_⟩, by omega⟩, ⟨⟨?_, ?_⟩, ⟨?_, ?_⟩, by omega⟩, ?_⟩
      all_goals first | (simp [go_sem]; done) | skip
      exact Below.drew (bel_alloc (bel_alloc (bel_alloc (bel_alloc (bel_alloc (bel_alloc (Below.refl _ _) _) _) _) _) _) _)
  case rest =>
    obtain ⟨g, h, rfl, rfl, hgh, hg3, hh3, kg, kh, ka, kb, kr, ks, hbel⟩ := hcut
    have nx0 : ¬ W.heap.size = g := by omega
    have ny0 : ¬ g = W.heap.size := by omega
    have nx1 : ¬ W.heap.size = h := by omega
    have ny1 : ¬ h = W.heap.size := by omega
    have nx2 : ¬ W.heap.size + 1 = g := by omega
    have ny2 : ¬ g = W.heap.size + 1 := by omega
    have nx3 : ¬ W.heap.size + 1 = h := by omega
    have ny3 : ¬ h = W.heap.size + 1 := by omega
    have nx4 : ¬ W.heap.size + 1 + 1 = g := by omega
    have ny4 : ¬ g = W.heap.size + 1 + 1 := by omega
    have nx5 : ¬ W.heap.size + 1 + 1 = h := by omega
    have ny5 : ¬ h = W.heap.size + 1 + 1 := by omega
    have nx6 : ¬ W.heap.size + 1 + 1 + 1 = g := by omega
    have ny6 : ¬ g = W.heap.size + 1 + 1 + 1 := by omega
    have nx7 : ¬ W.heap.size + 1 + 1 + 1 = h := by omega
    have ny7 : ¬ h = W.heap.size + 1 + 1 + 1 := by omega
    have nx8 : ¬ g = h := by omega
    have ny8 : ¬ h = g := by omega
    have oa := ka
    unfold At at oa
    have la := ka.lt
    have ob := kb
    unfold At at ob
    have lb := kb.lt
    have og := kg.at_
    unfold At at og
    have lg := kg.lt
    have fg := kg.fz
    unfold Fz at fg
    have oh := kh.at_
    unfold At at oh
    have lh := kh.lt
    have fh := kh.fz
    unfold Fz at fh
    have or := kr.at_
    unfold At at or
    have lr := kr.lt
    have fr := kr.fz
    unfold Fz at fr
    have os := ks.at_
    unfold At at os
    have ls := ks.lt
    have fs := ks.fz
    unfold Fz at fs
    go_wp2_with fail
    refine (HS.out _).mono ?_; rintro e w1 ⟨rfl, hb1⟩
    clear oa la ob lb og lg fg oh lh fh or lr fr os ls fs
    replace ka := ka.keep hb1
    replace kb := kb.keep hb1
    replace kg := kg.keep hb1
    replace kh := kh.keep hb1
    replace kr := kr.keep hb1
    replace ks := ks.keep hb1
    replace hbel := bel_call hbel hb1
    have oa := ka
    unfold At at oa
    have la := ka.lt
    have ob := kb
    unfold At at ob
    have lb := kb.lt
    have og := kg.at_
    unfold At at og
    have lg := kg.lt
    have fg := kg.fz
    unfold Fz at fg
    have oh := kh.at_
    unfold At at oh
    have lh := kh.lt
    have fh := kh.fz
    unfold Fz at fh
    have or := kr.at_
    unfold At at or
    have lr := kr.lt
    have fr := kr.fz
    unfold Fz at fr
    have os := ks.at_
    unfold At at os
    have ls := ks.lt
    have fs := ks.fz
    unfold Fz at fs
    trace "call 1"
    go_wp2_with fail
    refine (rneg_any w n hw hn _).mono ?_; rintro e w2 ⟨rfl, hb2⟩
    clear oa la ob lb og lg fg oh lh fh or lr fr os ls fs
    replace ka := ka.keep hb2
    replace kb := kb.keep hb2
    replace kg := kg.keep hb2
    replace kh := kh.keep hb2
    replace kr := kr.keep hb2
    replace ks := ks.keep hb2
    replace hbel := bel_call hbel hb2
    have oa := ka
    unfold At at oa
    have la := ka.lt
    have ob := kb
    unfold At at ob
    have lb := kb.lt
    have og := kg.at_
    unfold At at og
    have lg := kg.lt
    have fg := kg.fz
    unfold Fz at fg
    have oh := kh.at_
    unfold At at oh
    have lh := kh.lt
    have fh := kh.fz
    unfold Fz at fh
    have or := kr.at_
    unfold At at or
    have lr := kr.lt
    have fr := kr.fz
    unfold Fz at fr
    have os := ks.at_
    unfold At at os
    have ls := ks.lt
    have fs := ks.fz
    unfold Fz at fs
    trace "call 2"
    go_wp2_with fail
    clear oa la ob lb og lg fg oh lh fh or lr fr os ls fs
    replace ka := ka.far (p := g) (x' := .int .u8 w) (y' := .int .u64 ((low w (18446744073709551616 - n)) : Nat)) (by omega)
    replace kb := kb.far (p := g) (x' := .int .u8 w) (y' := .int .u64 ((low w (18446744073709551616 - n)) : Nat)) (by omega)
    replace kh := kh.far (p := g) (x' := .int .u8 w) (y' := .int .u64 ((low w (18446744073709551616 - n)) : Nat)) (by omega)
    replace kr := kr.far (p := g) (x' := .int .u8 w) (y' := .int .u64 ((low w (18446744073709551616 - n)) : Nat)) (by omega)
    replace ks := ks.far (p := g) (x' := .int .u8 w) (y' := .int .u64 ((low w (18446744073709551616 - n)) : Nat)) (by omega)
    replace hbel := bel_set (x' := .int .u8 w) (y' := .int .u64 ((low w (18446744073709551616 - n)) : Nat)) hbel kg.le
    replace kg := kg.set (x' := .int .u8 w) (y' := .int .u64 ((low w (18446744073709551616 - n)) : Nat))
    have oa := ka
    unfold At at oa
    have la := ka.lt
    have ob := kb
    unfold At at ob
    have lb := kb.lt
    have og := kg.at_
    unfold At at og
    have lg := kg.lt
    have fg := kg.fz
    unfold Fz at fg
    have oh := kh.at_
    unfold At at oh
    have lh := kh.lt
    have fh := kh.fz
    unfold Fz at fh
    have or := kr.at_
    unfold At at or
    have lr := kr.lt
    have fr := kr.fz
    unfold Fz at fr
    have os := ks.at_
    unfold At at os
    have ls := ks.lt
    have fs := ks.fz
    unfold Fz at fs
    refine (HT.out _).mono ?_; rintro e w3 ⟨rfl, hb3⟩
    clear oa la ob lb og lg fg oh lh fh or lr fr os ls fs
    replace ka := ka.keep hb3
    replace kb := kb.keep hb3
    replace kg := kg.keep hb3
    replace kh := kh.keep hb3
    replace kr := kr.keep hb3
    replace ks := ks.keep hb3
    replace hbel := bel_call hbel hb3
    have oa := ka
    unfold At at oa
    have la := ka.lt
    have ob := kb
    unfold At at ob
    have lb := kb.lt
    have og := kg.at_
    unfold At at og
    have lg := kg.lt
    have fg := kg.fz
    unfold Fz at fg
    have oh := kh.at_
    unfold At at oh
    have lh := kh.lt
    have fh := kh.fz
    unfold Fz at fh
    have or := kr.at_
    unfold At at or
    have lr := kr.lt
    have fr := kr.fz
    unfold Fz at fr
    have os := ks.at_
    unfold At at os
    have ls := ks.lt
    have fs := ks.fz
    unfold Fz at fs
    trace "call 3"
    go_wp2_with fail
    refine (rneg_any v m hv hm _).mono ?_; rintro e w4 ⟨rfl, hb4⟩
    clear oa la ob lb og lg fg oh lh fh or lr fr os ls fs
    replace ka := ka.keep hb4
    replace kb := kb.keep hb4
    replace kg := kg.keep hb4
    replace kh := kh.keep hb4
    replace kr := kr.keep hb4
    replace ks := ks.keep hb4
    replace hbel := bel_call hbel hb4
    have oa := ka
    unfold At at oa
    have la := ka.lt
    have ob := kb
    unfold At at ob
    have lb := kb.lt
    have og := kg.at_
    unfold At at og
    have lg := kg.lt
    have fg := kg.fz
    unfold Fz at fg
    have oh := kh.at_
    unfold At at oh
    have lh := kh.lt
    have fh := kh.fz
    unfold Fz at fh
    have or := kr.at_
    unfold At at or
    have lr := kr.lt
    have fr := kr.fz
    unfold Fz at fr
    have os := ks.at_
    unfold At at os
    have ls := ks.lt
    have fs := ks.fz
    unfold Fz at fs
    trace "call 4"
    go_wp2_with fail
    clear oa la ob lb og lg fg oh lh fh or lr fr os ls fs
    replace ka := ka.far (p := h) (x' := .int .u8 v) (y' := .int .u64 ((low v (18446744073709551616 - m)) : Nat)) (by omega)
    replace kb := kb.far (p := h) (x' := .int .u8 v) (y' := .int .u64 ((low v (18446744073709551616 - m)) : Nat)) (by omega)
    replace kg := kg.far (p := h) (x' := .int .u8 v) (y' := .int .u64 ((low v (18446744073709551616 - m)) : Nat)) (by omega)
    replace kr := kr.far (p := h) (x' := .int .u8 v) (y' := .int .u64 ((low v (18446744073709551616 - m)) : Nat)) (by omega)
    replace ks := ks.far (p := h) (x' := .int .u8 v) (y' := .int .u64 ((low v (18446744073709551616 - m)) : Nat)) (by omega)
    replace hbel := bel_set (x' := .int .u8 v) (y' := .int .u64 ((low v (18446744073709551616 - m)) : Nat)) hbel kh.le
    replace kh := kh.set (x' := .int .u8 v) (y' := .int .u64 ((low v (18446744073709551616 - m)) : Nat))
    generalize (w4.setCell ⟨h, 0, none⟩ (.int .u8 v)).setCell ⟨h, 1, none⟩ (.int .u64 ((low v (18446744073709551616 - m)) : Nat)) = wq at *
    have oa := ka
    unfold At at oa
    have la := ka.lt
    have ob := kb
    unfold At at ob
    have lb := kb.lt
    have og := kg.at_
    unfold At at og
    have lg := kg.lt
    have fg := kg.fz
    unfold Fz at fg
    have oh := kh.at_
    unfold At at oh
    have lh := kh.lt
    have fh := kh.fz
    unfold Fz at fh
    have or := kr.at_
    unfold At at or
    have lr := kr.lt
    have fr := kr.fz
    unfold Fz at fr
    have os := ks.at_
    unfold At at os
    have ls := ks.lt
    have fs := ks.fz
    unfold Fz at fs
    refine (rdivide_any (low w (18446744073709551616 - n)) (low v (18446744073709551616 - m)) hx6 hy6 hy0 _).mono ?_; rintro e wd ⟨rfl, rfl⟩
    go_upto_region 9 with fail
    have KA := Lib.hid ka; have KB := Lib.hid kb; have KR := Lib.hid kr; have KS := Lib.hid ks; have BEL := Lib.hid hbel
    clear ka kb kr ks hbel kg kh og lg fg oh lh fh ob or os fr fs lb nx0 ny0 nx1 ny1 nx2 ny2 nx3 ny3 nx4 ny4 nx5 ny5 nx6 ny6 nx7 ny7 nx8 ny8
    have ha0 := KA.out.drew.1
    have ha1 := KA.out.1
    have hdf : ∀ (X : World) (a : Addr), X.drew.frozen? a = X.frozen? a := fun _ _ => rfl
    have hdc : ∀ (X : World) (a : Addr), X.drew.cell? a = X.cell? a := fun _ _ => rfl
    have hds : ∀ (X : World), X.drew.heap.size = X.heap.size := fun _ => rfl
    have hr3 := KS.out.lt; (try simp at hr3)
    clear lr ls
    have hq6 : dq (low w (18446744073709551616 - n)) (low v (18446744073709551616 - m)) 0 < 18446744073709551616 := Nat.lt_of_le_of_lt (dq_le _ _ _) hx6
    have hr6 : dr (low w (18446744073709551616 - n)) (low v (18446744073709551616 - m)) 0 < 18446744073709551616 := Nat.lt_trans (dr_lt _ _ hy0) hy6
    go_cut [10, 11] (fun s10 s11 wx => ∃ i j : Nat, s10 = .pointer (some ⟨i, 0, none⟩) ∧ s11 = .pointer (some ⟨j, 0, none⟩) ∧ i ≠ j ∧ W.heap.size + 3 < i ∧ W.heap.size + 3 < j ∧ Own W.heap.size wx i (.int .u8 w) (.int .u64 (low w (dq (low w (18446744073709551616 - n)) (low v (18446744073709551616 - m)) 0) : Nat)) ∧ Own W.heap.size wx j (.int .u8 w) (.int .u64 (low w (dr (low w (18446744073709551616 - n)) (low v (18446744073709551616 - m)) 0) : Nat)) ∧ At wx W.heap.size (.int .u8 w) (.int .u64 n) ∧ At wx (W.heap.size + 1) (.int .u8 v) (.int .u64 m) ∧ Own W.heap.size wx (W.heap.size + 1 + 1) (.int .u8 0) (.int .u64 0) ∧ Own W.heap.size wx (W.heap.size + 1 + 1 + 1) (.int .u8 0) (.int .u64 0) ∧ Below W.heap.size W wx)
    case first =>
      have lr := KR.out.lt; have ls := KS.out.lt
      have or := KR.out.at_; have os := KS.out.at_; have fr := KR.out.fz; have fs := KS.out.fz
      unfold At at or os; unfold Fz at fr fs
      go_region_held3 (fun w' => w'.cell? ⟨W.heap.size, 0, none⟩ = some (.int .u8 w))
        (first | (with_reducible assumption) | ((try dsimp only); (repeat (first | (with_reducible refine cell_drew ?_) | (with_reducible refine Eq.trans (World.cell?_alloc_lt _ _ _ ?_) ?_; (first | (with_reducible assumption) | (simp; done) | (simp; omega) | omega)) | (with_reducible refine Eq.trans (World.cell?_setCell_far _ _ _ _ ?_) ?_; (first | (simp; done) | (simp; omega) | omega)))); (with_reducible assumption)))
        (first | (go_at_call 40; (first | (with_reducible refine (rcut_exact w hw (dq (low w (18446744073709551616 - n)) (low v (18446744073709551616 - m)) 0) hq6 _).mono ?_) | (with_reducible refine (rcut_exact w hw (dr (low w (18446744073709551616 - n)) (low v (18446744073709551616 - m)) 0) hr6 _).mono ?_)); rintro e wx ⟨rfl, rfl⟩))
      all_goals
        go_wp2_with fail
        go_meet
        refine ⟨_, _, rfl, rfl, by omega, by omega, by omega, ⟨⟨?_, ?_⟩, ⟨?_, ?_⟩, by omega⟩, ⟨⟨?_, ?_⟩, ⟨?_, ?_⟩, by omega⟩, ?_, ?_, ?_, ?_, ?_⟩
        all_goals first | (simp [go_sem]; done) | skip
        all_goals (repeat (first | (with_reducible exact BEL.out) | (with_reducible exact KA.out) | (with_reducible exact KB.out) | (with_reducible exact KR.out) | (with_reducible exact KS.out) | (with_reducible refine Own.drew ?_) | (with_reducible refine Own.alloc ?_ _) | (with_reducible refine Below.drew ?_) | (with_reducible refine bel_alloc ?_ _) | (with_reducible refine At.drew ?_) | (with_reducible refine At.alloc ?_ _)))
    case rest =>
      obtain ⟨i, j, rfl, rfl, hij, hi3, hj3, ki, kj, ka, kb, kr, ks, hbel⟩ := hcut
      have nx0 : ¬ W.heap.size = i := by omega
      have ny0 : ¬ i = W.heap.size := by omega
      have nx1 : ¬ W.heap.size = j := by omega
      have ny1 : ¬ j = W.heap.size := by omega
      have nx2 : ¬ W.heap.size + 1 = i := by omega
      have ny2 : ¬ i = W.heap.size + 1 := by omega
      have nx3 : ¬ W.heap.size + 1 = j := by omega
      have ny3 : ¬ j = W.heap.size + 1 := by omega
      have nx4 : ¬ W.heap.size + 1 + 1 = i := by omega
      have ny4 : ¬ i = W.heap.size + 1 + 1 := by omega
      have nx5 : ¬ W.heap.size + 1 + 1 = j := by omega
      have ny5 : ¬ j = W.heap.size + 1 + 1 := by omega
      have nx6 : ¬ W.heap.size + 1 + 1 + 1 = i := by omega
      have ny6 : ¬ i = W.heap.size + 1 + 1 + 1 := by omega
      have nx7 : ¬ W.heap.size + 1 + 1 + 1 = j := by omega
      have ny7 : ¬ j = W.heap.size + 1 + 1 + 1 := by omega
      have nx8 : ¬ i = j := by omega
      have ny8 : ¬ j = i := by omega
      have oa := ka
      unfold At at oa
      have la := ka.lt
      have ob := kb
      unfold At at ob
      have lb := kb.lt
      have oi := ki.at_
      unfold At at oi
      have li := ki.lt
      have fi := ki.fz
      unfold Fz at fi
      have oj := kj.at_
      unfold At at oj
      have lj := kj.lt
      have fj := kj.fz
      unfold Fz at fj
      have or := kr.at_
      unfold At at or
      have lr := kr.lt
      have fr := kr.fz
      unfold Fz at fr
      have os := ks.at_
      unfold At at os
      have ls := ks.lt
      have fs := ks.fz
      unfold Fz at fs
      go_wp2_with fail
      go_region_held3 (fun w' => w'.cell? ⟨W.heap.size, 0, none⟩ = some (.int .u8 w) ∧ w'.cell? ⟨W.heap.size, 1, none⟩ = some (.int .u64 n) ∧ w'.cell? ⟨W.heap.size + 1, 0, none⟩ = some (.int .u8 v) ∧ w'.cell? ⟨W.heap.size + 1, 1, none⟩ = some (.int .u64 m))
        (first | exact ⟨ka.drew.1, ka.drew.2, kb.drew.1, kb.drew.2⟩ | ((try dsimp only); (try go_split_ands); refine ⟨?_, ?_, ?_, ?_⟩ <;> (refine cell_keep2 hb8 ?_; with_reducible assumption)) | ((try dsimp only); (try go_split_ands); refine ⟨?_, ?_, ?_, ?_⟩ <;> (refine cell_keep2 hb7 ?_; with_reducible assumption)))
        (first | (go_at_call 66; (first | ((with_reducible refine (HS.out _).mono ?_); rintro e w7 ⟨rfl, hb7⟩) | ((with_reducible refine (HT.out _).mono ?_); rintro e w8 ⟨rfl, hb8⟩))))
      clear oa la ob lb oi li fi oj lj fj or lr fr os ls fs
      replace ka := (ka.drew.keep hb7).keep hb8
      replace kb := (kb.drew.keep hb7).keep hb8
      replace ki := (ki.drew.keep hb7).keep hb8
      replace kj := (kj.drew.keep hb7).keep hb8
      replace kr := (kr.drew.keep hb7).keep hb8
      replace ks := (ks.drew.keep hb7).keep hb8
      replace hbel := bel_call (bel_call hbel.drew hb7) hb8
      have oa := ka
      unfold At at oa
      have la := ka.lt
      have ob := kb
      unfold At at ob
      have lb := kb.lt
      have oi := ki.at_
      unfold At at oi
      have li := ki.lt
      have fi := ki.fz
      unfold Fz at fi
      have oj := kj.at_
      unfold At at oj
      have lj := kj.lt
      have fj := kj.fz
      unfold Fz at fj
      have or := kr.at_
      unfold At at or
      have lr := kr.lt
      have fr := kr.fz
      unfold Fz at fr
      have os := ks.at_
      unfold At at os
      have ls := ks.lt
      have fs := ks.fz
      unfold Fz at fs
      go_wp2_with fail
      refine (HS.out _).mono ?_; rintro e w9 ⟨rfl, hb9⟩
      clear oa la ob lb oi li fi oj lj fj or lr fr os ls fs
      replace ka := ka.keep hb9
      replace kb := kb.keep hb9
      replace ki := ki.keep hb9
      replace kj := kj.keep hb9
      replace kr := kr.keep hb9
      replace ks := ks.keep hb9
      replace hbel := bel_call hbel hb9
      have oa := ka
      unfold At at oa
      have la := ka.lt
      have ob := kb
      unfold At at ob
      have lb := kb.lt
      have oi := ki.at_
      unfold At at oi
      have li := ki.lt
      have fi := ki.fz
      unfold Fz at fi
      have oj := kj.at_
      unfold At at oj
      have lj := kj.lt
      have fj := kj.fz
      unfold Fz at fj
      have or := kr.at_
      unfold At at or
      have lr := kr.lt
      have fr := kr.fz
      unfold Fz at fr
      have os := ks.at_
      unfold At at os
      have ls := ks.lt
      have fs := ks.fz
      unfold Fz at fs
      trace "call 9"
      go_wp2_with fail
      refine (rneg_any w (low w (dr (low w (18446744073709551616 - n)) (low v (18446744073709551616 - m)) 0)) hw (Nat.lt_of_lt_of_le (low_lt w _) (pow_le64 hw)) _).mono ?_; rintro e w10 ⟨rfl, hb10⟩
      clear oa la ob lb oi li fi oj lj fj or lr fr os ls fs
      replace ka := ka.keep hb10
      replace kb := kb.keep hb10
      replace ki := ki.keep hb10
      replace kj := kj.keep hb10
      replace kr := kr.keep hb10
      replace ks := ks.keep hb10
      replace hbel := bel_call hbel hb10
      have oa := ka
      unfold At at oa
      have la := ka.lt
      have ob := kb
      unfold At at ob
      have lb := kb.lt
      have oi := ki.at_
      unfold At at oi
      have li := ki.lt
      have fi := ki.fz
      unfold Fz at fi
      have oj := kj.at_
      unfold At at oj
      have lj := kj.lt
      have fj := kj.fz
      unfold Fz at fj
      have or := kr.at_
      unfold At at or
      have lr := kr.lt
      have fr := kr.fz
      unfold Fz at fr
      have os := ks.at_
      unfold At at os
      have ls := ks.lt
      have fs := ks.fz
      unfold Fz at fs
      trace "call 10"
      go_wp2_with fail
      clear oa la ob lb oi li fi oj lj fj or lr fr os ls fs
      replace ka := ka.far (p := j) (x' := .int .u8 w) (y' := .int .u64 ((low w (18446744073709551616 - (low w (dr (low w (18446744073709551616 - n)) (low v (18446744073709551616 - m)) 0)))) : Nat)) (by omega)
      replace kb := kb.far (p := j) (x' := .int .u8 w) (y' := .int .u64 ((low w (18446744073709551616 - (low w (dr (low w (18446744073709551616 - n)) (low v (18446744073709551616 - m)) 0)))) : Nat)) (by omega)
      replace ki := ki.far (p := j) (x' := .int .u8 w) (y' := .int .u64 ((low w (18446744073709551616 - (low w (dr (low w (18446744073709551616 - n)) (low v (18446744073709551616 - m)) 0)))) : Nat)) (by omega)
      replace kr := kr.far (p := j) (x' := .int .u8 w) (y' := .int .u64 ((low w (18446744073709551616 - (low w (dr (low w (18446744073709551616 - n)) (low v (18446744073709551616 - m)) 0)))) : Nat)) (by omega)
      replace ks := ks.far (p := j) (x' := .int .u8 w) (y' := .int .u64 ((low w (18446744073709551616 - (low w (dr (low w (18446744073709551616 - n)) (low v (18446744073709551616 - m)) 0)))) : Nat)) (by omega)
      replace hbel := bel_set (x' := .int .u8 w) (y' := .int .u64 ((low w (18446744073709551616 - (low w (dr (low w (18446744073709551616 - n)) (low v (18446744073709551616 - m)) 0)))) : Nat)) hbel kj.le
      replace kj := kj.set (x' := .int .u8 w) (y' := .int .u64 ((low w (18446744073709551616 - (low w (dr (low w (18446744073709551616 - n)) (low v (18446744073709551616 - m)) 0)))) : Nat))
      have oa := ka
      unfold At at oa
      have la := ka.lt
      have ob := kb
      unfold At at ob
      have lb := kb.lt
      have oi := ki.at_
      unfold At at oi
      have li := ki.lt
      have fi := ki.fz
      unfold Fz at fi
      have oj := kj.at_
      unfold At at oj
      have lj := kj.lt
      have fj := kj.fz
      unfold Fz at fj
      have or := kr.at_
      unfold At at or
      have lr := kr.lt
      have fr := kr.fz
      unfold Fz at fr
      have os := ks.at_
      unfold At at os
      have ls := ks.lt
      have fs := ks.fz
      unfold Fz at fs
      go_region
      all_goals go_wp2_with fail
      all_goals
        refine bodyPost_ret (v := .tuple #[.agg #[.int .u8 w, .int .u64 ((low w (dq (low w (18446744073709551616 - n)) (low v (18446744073709551616 - m)) 0)) : Nat)], .agg #[.int .u8 w, .int .u64 ((low w (18446744073709551616 - (low w (dr (low w (18446744073709551616 - n)) (low v (18446744073709551616 - m)) 0)))) : Nat)]]) (by simp [results, Try.results56, go_sem, or, os]) rfl ⟨rfl, ?_⟩
        repeat (first | (with_reducible exact hbel) | (with_reducible refine Below.drew ?_) | (with_reducible refine Below.setCell ?_ (by first | (simp; done) | (simp; omega) | omega) _))
end Bv
end Go.Proofs.Ytkiegiofholofaa

namespace Go.Proofs.Ytkiegiofholofaa
open Go.RowKit
namespace Bv
set_option maxHeartbeats 2000000
set_option maxRecDepth 100000

theorem rsigned_0 (w n v : Nat) (hw : w ≤ 64) (W : World) :
    Calls Try.prog 56 #[.agg #[.int .u8 w, .int .u64 n], .agg #[.int .u8 v, .int .u64 0]] W fun e W' => e = .returned (.tuple #[.agg #[.int .u8 w, .int .u64 (low w 18446744073709551615 : Nat)], .agg #[.int .u8 w, .int .u64 n]]) ∧ Below W.heap.size W W' := by
  go_enter Try.func56, Try.ntmps56
  go_wp2_with fail
  go_region_with (first | (go_at_call 40; refine (rcut_exact w hw 18446744073709551615 (by decide) _).mono ?_; rintro e wx ⟨rfl, rfl⟩))
  all_goals go_wp2_with fail
  all_goals
    refine bodyPost_ret (v := .tuple #[.agg #[.int .u8 w, .int .u64 (low w 18446744073709551615 : Nat)], .agg #[.int .u8 w, .int .u64 n]]) (by simp [results, Try.results56, go_sem]) rfl ⟨rfl, ?_⟩
    repeat (first | (with_reducible exact Below.refl _ _) | (with_reducible refine Below.drew ?_) | (with_reducible refine bel_alloc ?_ _) | (with_reducible refine Below.setCell ?_ (by first | (simp; done) | (simp; omega) | omega) _))
end Bv
end Go.Proofs.Ytkiegiofholofaa

namespace Go.Proofs.Ytkiegiofholofaa
open Go.RowKit
namespace Bv

theorem neg_low {w n : Nat} (h1 : 1 ≤ w) (h2 : w ≤ 64) (hn : n < 2 ^ w) (hs : 2 ^ (w - 1) ≤ n) : low w (18446744073709551616 - n) = 2 ^ w - n := by
  have hp := pow_pos' (w - 1)
  have hh := pow_half h1
  have hl := pow_le64 h2
  have hsp := pow_split h2
  have e : 18446744073709551616 - n = (2 ^ w - n) + 2 ^ w * (2 ^ (64 - w) - 1) := by
    rw [Nat.mul_sub, hsp, Nat.mul_one]; omega
  unfold low
  rw [e, Nat.add_mul_mod_self_left, Nat.mod_eq_of_lt (by omega)]
/-- The worth's size. -/
def ab (w n : Nat) (s : Bool) : Nat := if s = true then low w (18446744073709551616 - n) else n
theorem wo_ab {w n : Nat} (h1 : 1 ≤ w) (h2 : w ≤ 64) (hn : n < 2 ^ w) : wo w n = if decide (2 ^ (w - 1) ≤ n) = true then -(ab w n true : Int) else (ab w n false : Int) := by
  by_cases hs : 2 ^ (w - 1) ≤ n
  · rw [wo_neg hs]
    simp only [hs, decide_true, if_true, ab]
    rw [neg_low h1 h2 hn hs]; omega
  · rw [wo_pos (by omega)]
    simp [hs, ab]
theorem neg_int {w : Nat} (h2 : w ≤ 64) (q : Nat) : ((low w (18446744073709551616 - low w q) : Nat) : Int) = (-(q : Int)) % ((2 ^ w : Nat) : Int) := by
  have hl := pow_le64 h2
  have hq := low_lt w q
  have hsp := pow_split h2
  rw [low_cast, Int.natCast_sub (by omega), low_cast w q, Int.sub_emod, Int.emod_emod_of_dvd _ (Int.dvd_refl _), ← Int.sub_emod]
  rw [show ((18446744073709551616 : Nat) : Int) - (q : Int) = -(q : Int) + ((2 ^ w : Nat) : Int) * ((2 ^ (64 - w) : Nat) : Int) by rw [← Int.natCast_mul, hsp]; omega]
  rw [Int.add_mul_emod_self_left]

/-- Quotient and rest by worths, out of those of the sizes. -/
theorem signed_is {w n m : Nat} (h1 : 1 ≤ w) (h2 : w ≤ 64) (hn : n < 2 ^ w) (hm : m < 2 ^ w) (h : ¬ m = 0) (sa sb : Bool) (ha : decide (2 ^ (w - 1) ≤ n) = sa) (hb : decide (2 ^ (w - 1) ≤ m) = sb) :
    (if sa = sb then low w (ab w n sa / ab w m sb) else low w (18446744073709551616 - low w (ab w n sa / ab w m sb))) = low w (numB 13 w w n m) ∧
    (if sa = true then low w (18446744073709551616 - low w (ab w n sa % ab w m sb)) else low w (ab w n sa % ab w m sb)) = low w (numB 14 w w n m) := by
  have e13 : numB 13 w w n m = ((wo w n).tdiv (wo w m) % 18446744073709551616).toNat := by show (if m = 0 then _ else _) = _; rw [if_neg h]
  have e14 : numB 14 w w n m = ((wo w n).tmod (wo w m) % 18446744073709551616).toNat := by show (if m = 0 then _ else _) = _; rw [if_neg h]
  have wn := wo_ab h1 h2 hn
  have wm := wo_ab h1 h2 hm
  have hm0 := wo_ne (v := w) hm h
  rw [ha] at wn
  rw [hb] at wm
  rw [e13, e14]
  generalize wo w n = a at *
  generalize wo w m = b at *
  constructor
  all_goals
    apply Int.ofNat_inj.1
    rw [low_int h2]
    cases sa <;> cases sb <;> simp only [Bool.false_eq_true, if_false, if_true, reduceCtorEq] at wn wm ⊢
    all_goals
      subst wn wm
      first
      | rw [neg_int h2]
      | rw [low_cast]
      first
      | (simp [Int.neg_tdiv, Int.tdiv_neg]; done)
      | (simp [Int.neg_tmod, Int.tmod_neg]; rw [Int.tmod_eq_emod_of_nonneg (Int.natCast_nonneg _)])
end Bv
end Go.Proofs.Ytkiegiofholofaa

namespace Go.Proofs.Ytkiegiofholofaa
open Go.RowKit
namespace Bv
theorem num21_eq {w v n m : Nat} (hr : w + v ≤ 64) (hn : n < 2 ^ w) (hm : m < 2 ^ v) : numB 21 w v n m = n * 2 ^ v + m := by
  have hl := pow_le64 hr
  have hlt := concat_lt hn hm
  show n * 2 ^ v % 18446744073709551616 ||| m = _
  rw [Nat.mod_eq_of_lt (by omega), or_join hm]

theorem sg_any (w n m : Nat) (h1 : 1 ≤ w) (h2 : w ≤ 64) (hn : n < 2 ^ w) (hm : m < 2 ^ w) (W : World) :
    Calls Try.prog 56 #[.agg #[.int .u8 w, .int .u64 n], .agg #[.int .u8 w, .int .u64 m]] W fun e W' => e = .returned (.tuple #[.agg #[.int .u8 w, .int .u64 (low w (numB 13 w w n m) : Nat)], .agg #[.int .u8 w, .int .u64 (low w (numB 14 w w n m) : Nat)]]) ∧ Below W.heap.size W W' := by
  have hn6 := Nat.lt_of_lt_of_le hn (pow_le64 h2)
  have hm6 := Nat.lt_of_lt_of_le hm (pow_le64 h2)
  by_cases h0 : m = 0
  · subst h0
    have h := rsigned_0 w n w h2 W
    rw [show low w (numB 14 w w n 0) = n from low_self hn]
    exact h
  have hb0 : ((m : Int) == 0) = false := by simp; omega
  have key := signed_is h1 h2 hn hm h0 _ _ rfl rfl
  have hp := pow_half h1
  have hl := pow_le64 h2
  have lt6 : ∀ z, low w z < 18446744073709551616 := fun z => Nat.lt_of_lt_of_le (low_lt w z) hl
  cases hs : decide (2 ^ (w - 1) ≤ n) <;> cases ht : decide (2 ^ (w - 1) ≤ m)
  all_goals
    have HS := Lib.hid (rsign_is h1 h2 hn hs)
    have HT := Lib.hid (rsign_is h1 h2 hm ht)
    rw [hs, ht] at key
    simp only [ab, Bool.false_eq_true, if_false, if_true, reduceCtorEq] at key
    rw [← key.1, ← key.2]
  · have h := rsigned_00 w n w m h2 h2 hn6 hm6 (by omega) hn6 hm6 hb0 HS HT W
    rw [dq_end, dr_end] at h
    exact h
  · have hy : 0 < low w (18446744073709551616 - m) := by rw [neg_low h1 h2 hm (of_decide_eq_true ht)]; omega
    have h := rsigned_01 w n w m h2 h2 hn6 hm6 hy hn6 (lt6 _) hb0 HS HT W
    rw [dq_end, dr_end] at h
    exact h
  · have h := rsigned_10 w n w m h2 h2 hn6 hm6 (by omega) (lt6 _) hm6 hb0 HS HT W
    rw [dq_end, dr_end] at h
    exact h
  · have hy : 0 < low w (18446744073709551616 - m) := by rw [neg_low h1 h2 hm (of_decide_eq_true ht)]; omega
    have h := rsigned_11 w n w m h2 h2 hn6 hm6 hy (lt6 _) (lt6 _) hb0 HS HT W
    rw [dq_end, dr_end] at h
    exact h

theorem wself {o w : Nat} (h1 : 5 ≤ o) (h2 : o ≤ 17) : widthB o w w = w := by unfold widthB; rw [if_pos ⟨h1, h2⟩, if_pos rfl]
theorem wone {o w : Nat} (h1 : 18 ≤ o) (h2 : o ≤ 20) : widthB o w w = 1 := by unfold widthB; rw [if_neg (by omega), if_pos ⟨h1, h2⟩, if_pos rfl]
theorem wcat {v w : Nat} (h : v + w ≤ 64) : widthB 21 v w = v + w := by unfold widthB; simp [h]
theorem wcat0 {v w : Nat} (h : ¬ v + w ≤ 64) : widthB 21 v w = 0 := by unfold widthB; simp [h]
theorem wne {o v w : Nat} (h : ¬ o = 21) (hvw : ¬ v = w) : widthB o v w = 0 := by unfold widthB; simp [h, hvw]
theorem wno {o v w : Nat} (h : o < 5 ∨ 21 < o) : widthB o v w = 0 := by
  unfold widthB; rw [if_neg (by omega), if_neg (by omega), if_neg (by omega)]
theorem low_one (b : Bool) : low 1 b.toNat = b.toNat := by cases b <;> rfl


/-- Of two vectors of one width. -/
theorem rv_same (o w n m : Nat) (h5 : 5 ≤ o) (h20 : o ≤ 20) (ha : mayB w n = true) (hb : mayB w m = true) (W : World) :
    Calls Try.prog 44 #[.int .u8 o, .agg #[.int .u8 w, .int .u64 n], .agg #[.int .u8 w, .int .u64 m]] W fun e W' => e = .returned (.tuple #[.agg #[.int .u8 (widthB o w w : Nat), .int .u64 (low (widthB o w w) (numB o w w n m) : Nat)], .int .i64 0]) ∧ Below W.heap.size W W' := by
  have HA := Lib.hid ha
  have HB := Lib.hid hb
  obtain ⟨hw1, hw2, hn⟩ := mayB_true ha
  obtain ⟨_, _, hm⟩ := mayB_true hb
  have hn6 := Nat.lt_of_lt_of_le hn (pow_le64 hw2)
  have hm6 := Nat.lt_of_lt_of_le hm (pow_le64 hw2)
  have d : ((w : Int) != (w : Int)) = false := by simp
  have w0 : ¬ w = 0 := by omega
  obtain rfl | rfl | rfl | rfl | rfl | rfl | rfl | rfl | rfl | rfl | rfl | rfl | rfl | rfl | rfl | rfl : o = 5 ∨ o = 6 ∨ o = 7 ∨ o = 8 ∨ o = 9 ∨ o = 10 ∨ o = 11 ∨ o = 12 ∨ o = 13 ∨ o = 14 ∨ o = 15 ∨ o = 16 ∨ o = 17 ∨ o = 18 ∨ o = 19 ∨ o = 20 := by omega
  · rw [wself (by decide) (by decide)]
    exact rbin_5 w n w m hn6 hm6 HA HB d hw2 W
  · rw [wself (by decide) (by decide)]
    exact rbin_6 w n w m hn6 hm6 HA HB d hw2 W
  · rw [wself (by decide) (by decide)]
    exact rbin_7 w n w m hn6 hm6 HA HB d hw2 W
  · rw [wself (by decide) (by decide)]
    exact rbin_8 w n w m hn6 hm6 HA HB d hw2 W
  · rw [wself (by decide) (by decide)]
    exact rbin_9 w n w m hn6 hm6 HA HB d hw2 W
  · rw [wself (by decide) (by decide)]
    refine rbin_10 w n w m hn6 hm6 HA HB d _ (Lib.hid fun W => ?_) W
    have h := rtimes_any w n w m hw2 hm6 W
    rw [tm_end hm hw2, ← low10 w w n m hw2] at h
    exact h
  · by_cases h0 : m = 0
    · subst h0
      rw [wself (by decide) (by decide)]
      exact rbin_11_0 w n w 0 hn6 hm6 HA HB d hw2 (by simp) W
    · rw [wself (by decide) (by decide)]
      have h := rbin_11_1 w n w m hn6 hm6 HA HB d hw2 (by omega) (by simp; omega) W
      rw [dq_end, ← num11_eq (w := w) (v := w) h0] at h
      exact h
  · by_cases h0 : m = 0
    · subst h0
      rw [wself (by decide) (by decide), show low w (numB 12 w w n 0) = n from low_self hn]
      exact rbin_12_0 w n w 0 hn6 hm6 HA HB d (by simp) W
    · rw [wself (by decide) (by decide)]
      have h := rbin_12_1 w n w m hn6 hm6 HA HB d hw2 (by omega) (by simp; omega) W
      rw [dr_end, ← num12_eq (w := w) (v := w) h0] at h
      exact h
  · rw [wself (by decide) (by decide)]
    exact rbin_13 w n w m hn6 hm6 HA HB d _ _ (Lib.hid (sg_any w n m hw1 hw2 hn hm)) W
  · rw [wself (by decide) (by decide)]
    exact rbin_14 w n w m hn6 hm6 HA HB d _ _ (Lib.hid (sg_any w n m hw1 hw2 hn hm)) W
  · rw [wself (by decide) (by decide)]
    refine rbin_15 w n w m hn6 hm6 HA HB d _ (Lib.hid fun W => ?_) W
    have h := rshift_15 w n w m (low w (numB 15 w w n m)) hw2 hn6 hm6 (Lib.hid fun k hk => shl_bits hw2 hk) W
    rw [sh_end (low_lt w _), low_low] at h
    exact h
  · rw [wself (by decide) (by decide)]
    refine rbin_16 w n w m hn6 hm6 HA HB d _ (Lib.hid fun W => ?_) W
    have h := rshift_16 w n w m (low w (numB 16 w w n m)) hw2 hn6 hm6 (Lib.hid fun k hk => lshr_bits hw2 hn hk) W
    rw [sh_end (low_lt w _), low_low] at h
    exact h
  · rw [wself (by decide) (by decide)]
    refine rbin_17 w n w m hn6 hm6 HA HB d _ (Lib.hid fun W => ?_) W
    have h := rshift_17 w n w m (low w (numB 17 w w n m)) hw2 hn6 hm6 (decide (2 ^ (w - 1) ≤ n)) (Lib.hid (rsign_any w n hw1 hw2 hn)) (Lib.hid fun k hk => ashr_bits hw1 hw2 hn hk) W
    rw [sh_end (low_lt w _), low_low] at h
    exact h
  · rw [wone (by decide) (by decide), show low 1 (numB 18 w w n m) = (n == m).toNat from low_one _]
    have h := rbin_18 w n w m hn6 hm6 HA HB d W
    rw [show ((n : Int) == (m : Int)) = (n == m) from Bool.eq_iff_iff.2 (by simp [Int.ofNat_inj])] at h
    exact h
  · rw [wone (by decide) (by decide), show low 1 (numB 19 w w n m) = (decide (n < m)).toNat from low_one _]
    have h := rbin_19 w n w m hn6 hm6 HA HB d W
    rw [show decide ((n : Int) < (m : Int)) = decide (n < m) by simp] at h
    exact h
  · rw [wone (by decide) (by decide), show low 1 (numB 20 w w n m) = (decide (n ^^^ 2 ^ (w - 1) < m ^^^ 2 ^ (w - 1))).toNat from low_one _]
    rw [slt_is hw1 hn hm]
    exact rbin_20 w n w m hn6 hm6 HA HB d _ (Lib.hid (rless_any w n w m _ _ (Lib.hid (rsign_any w n hw1 hw2 hn)) (Lib.hid (rsign_any w m hw1 hw2 hm)))) W

theorem rv_binary (o w v n m : Nat) (ha : mayB w n = true) (hb : mayB v m = true) (hr : ¬ widthB o w v = 0) (W : World) :
    Calls Try.prog 44 #[.int .u8 o, .agg #[.int .u8 w, .int .u64 n], .agg #[.int .u8 v, .int .u64 m]] W fun e W' => e = .returned (.tuple #[.agg #[.int .u8 (widthB o w v : Nat), .int .u64 (low (widthB o w v) (numB o w v n m) : Nat)], .int .i64 0]) ∧ Below W.heap.size W W' := by
  by_cases h21 : o = 21
  · subst h21
    have hs : w + v ≤ 64 := by
      by_cases h : w + v ≤ 64
      · exact h
      · exact absurd (wcat0 h) hr
    obtain ⟨hw1, hw2, hn⟩ := mayB_true ha
    obtain ⟨hv1, hv2, hm⟩ := mayB_true hb
    have h := rbin_21 w n v m (Nat.lt_of_lt_of_le hn (pow_le64 hw2)) (Nat.lt_of_lt_of_le hm (pow_le64 hv2)) (Lib.hid ha) (Lib.hid hb) hw2 hv2 hs W
    rw [wcat hs, show low (w + v) (numB 21 w v n m) = numB 21 w v n m by rw [num21_eq hs hn hm]; exact low_self (concat_lt hn hm)]
    simp only [← Int.natCast_add] at h
    exact h
  · have ho := widthB_op hr
    by_cases hwv : w = v
    · subst hwv
      exact rv_same o w n m ho.1 (by omega) ha hb W
    · exact absurd (wne h21 hwv) hr
theorem rv_unary (o w n : Nat) (ho : o = 3 ∨ o = 4) (ha : mayB w n = true) (W : World) :
    Calls Try.prog 43 #[.int .u8 o, .agg #[.int .u8 w, .int .u64 n]] W fun e W' => e = .returned (.tuple #[.agg #[.int .u8 w, .int .u64 (low w (numU o n) : Nat)], .int .i64 0]) ∧ Below W.heap.size W W' := by
  obtain ⟨hw1, hw2, hn⟩ := mayB_true ha
  have hn6 := Nat.lt_of_lt_of_le hn (pow_le64 hw2)
  rcases ho with e | e
  · subst e; exact runary_3 w n hn6 (Lib.hid ha) hw2 W
  · subst e
    rw [lowU4 w n hw2]
    exact runary_4 w n hn6 (Lib.hid ha) hw2 W
theorem rv_extract (w n l r : Nat) (ha : mayB w n = true) (hr : 1 ≤ r) (hl : l + r ≤ w) (W : World) :
    Calls Try.prog 41 #[.agg #[.int .u8 w, .int .u64 n], .int .i64 l, .int .i64 r] W fun e W' => e = .returned (.tuple #[.agg #[.int .u8 r, .int .u64 (low r (n / 2 ^ l) : Nat)], .int .i64 0]) ∧ Below W.heap.size W W' := by
  obtain ⟨hw1, hw2, hn⟩ := mayB_true ha
  exact rextract_ok w n l r (Nat.lt_of_lt_of_le hn (pow_le64 hw2)) (Lib.hid ha) hw2 hr hl W
theorem rv_extend (o w n r : Nat) (ho : o = 23 ∨ o = 24) (ha : mayB w n = true) (hr : w ≤ r) (hl : r ≤ 64) (W : World) :
    Calls Try.prog 42 #[.int .u8 o, .agg #[.int .u8 w, .int .u64 n], .int .i64 r] W fun e W' => e = .returned (.tuple #[.agg #[.int .u8 r, .int .u64 (low r (numE o w n) : Nat)], .int .i64 0]) ∧ Below W.heap.size W W' := by
  obtain ⟨hw1, hw2, hn⟩ := mayB_true ha
  have hn6 := Nat.lt_of_lt_of_le hn (pow_le64 hw2)
  rcases ho with e | e
  · subst e; exact rextend_23_ok w n r hn6 (Lib.hid ha) hw2 hr hl W
  · subst e; exact rextend_24_ok w n r hn6 (Lib.hid ha) hw2 hr hl W
theorem rv_ite (cn w n m : Nat) (hc : mayB 1 cn = true) (ha : mayB w n = true) (hb : mayB w m = true) (W : World) :
    Calls Try.prog 45 #[.agg #[.int .u8 ((1 : Nat) : Int), .int .u64 cn], .agg #[.int .u8 w, .int .u64 n], .agg #[.int .u8 w, .int .u64 m]] W fun e W' => e = .returned (.tuple #[.agg #[.int .u8 w, .int .u64 ((if cn = 1 then n else m : Nat) : Int)], .int .i64 0]) ∧ Below W.heap.size W W' := by
  obtain ⟨_, hc2, hcn⟩ := mayB_true hc
  obtain ⟨hw1, hw2, hn⟩ := mayB_true ha
  obtain ⟨_, _, hm⟩ := mayB_true hb
  have hc6 := Nat.lt_of_lt_of_le hcn (pow_le64 hc2)
  have hn6 := Nat.lt_of_lt_of_le hn (pow_le64 hw2)
  have hm6 := Nat.lt_of_lt_of_le hm (pow_le64 hw2)
  by_cases h : cn = 1
  · rw [if_pos h]
    exact rite_a 1 cn w n w m hc6 hn6 hm6 (Lib.hid hc) (Lib.hid ha) (Lib.hid hb) (by simp) (by simp) (by simp; omega) W
  · rw [if_neg h]
    exact rite_b 1 cn w n w m hc6 hn6 hm6 (Lib.hid hc) (Lib.hid ha) (Lib.hid hb) (by simp) (by simp) (by simp; omega) W

end Bv
end Go.Proofs.Ytkiegiofholofaa
