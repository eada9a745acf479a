/-
What the reference's quotient and rest by worths return.
What the reference's quotient and rest by worths return.
What the reference's quotient and rest by worths return where the second is 0.
-/
import Derived.Test.YtigjbngedbbdbaaPt17
import Derived.Deep.RegionHeld3
namespace Go.Proofs.Ytigjbngedbbdbaa
open Go.RowKit
namespace Bv
set_option maxHeartbeats 12000000
set_option maxRecDepth 100000

theorem rsigned_10 (w n v m : Nat) (hw : w ≤ 64) (_hv : v ≤ 64) (hn : n < 18446744073709551616) (_hm : m < 18446744073709551616) (hy0 : 0 < m) (hx6 : (low w (18446744073709551616 - n)) < 18446744073709551616) (hy6 : m < 18446744073709551616) (h0 : ((m : Int) == 0) = false)
    (HS : Hid (∀ W : World, Calls Try.prog 81 #[.agg #[.int .u8 w, .int .u64 n]] W fun e W' => e = .returned (.bool true) ∧ Below W.heap.size W W'))
    (HT : Hid (∀ W : World, Calls Try.prog 81 #[.agg #[.int .u8 v, .int .u64 m]] W fun e W' => e = .returned (.bool false) ∧ Below W.heap.size W W')) (W : World) :
    Calls Try.prog 60 #[.agg #[.int .u8 w, .int .u64 n], .agg #[.int .u8 v, .int .u64 m]] W fun e W' => e = .returned (.tuple #[.agg #[.int .u8 w, .int .u64 ((low w (18446744073709551616 - (low w (dq (low w (18446744073709551616 - n)) m 0)))) : Nat)], .agg #[.int .u8 w, .int .u64 ((low w (18446744073709551616 - (low w (dr (low w (18446744073709551616 - n)) m 0)))) : Nat)]]) ∧ Below W.heap.size W W' := by
  go_enter Try.func60, Try.ntmps60
  go_upto_region 3 with fail
  go_cut [6, 7] (fun s6 s7 wx => ∃ g h : Nat, s6 = .pointer (some ⟨g, 0, none⟩) ∧ s7 = .pointer (some ⟨h, 0, none⟩) ∧ g ≠ h ∧ W.heap.size + 3 < g ∧ W.heap.size + 3 < h ∧ Own W.heap.size wx g (.int .u8 w) (.int .u64 n) ∧ Own W.heap.size wx h (.int .u8 v) (.int .u64 m) ∧ At wx W.heap.size (.int .u8 w) (.int .u64 n) ∧ At wx (W.heap.size + 1) (.int .u8 v) (.int .u64 m) ∧ Own W.heap.size wx (W.heap.size + 1 + 1) (.int .u8 0) (.int .u64 0) ∧ Own W.heap.size wx (W.heap.size + 1 + 1 + 1) (.int .u8 0) (.int .u64 0) ∧ Below W.heap.size W wx)
  case first =>
    go_region
    all_goals
      go_wp2_with fail
      go_meet
      refine ⟨_, _, rfl, rfl, by omega, by omega, by omega, ⟨⟨?_, ?_⟩, ⟨?_, ?_⟩, by omega⟩, ⟨⟨?_, ?_⟩, ⟨?_, ?_⟩, by omega⟩, ⟨?_, ?_⟩, ⟨?_, ?_⟩, ⟨⟨?_, ?_⟩, ⟨?_, ?_⟩, by omega⟩, ⟨⟨?_, ?_⟩, ⟨?_, ?_⟩, by omega⟩, ?_⟩
      all_goals first | (simp [go_sem]; done) | skip
      exact Below.drew (bel_alloc (bel_alloc (bel_alloc (bel_alloc (bel_alloc (bel_alloc (Below.refl _ _) _) _) _) _) _) _)
  case rest =>
    obtain ⟨g, h, rfl, rfl, hgh, hg3, hh3, kg, kh, ka, kb, kr, ks, hbel⟩ := hcut
    have nx0 : ¬ W.heap.size = g := by omega
    have ny0 : ¬ g = W.heap.size := by omega
    have nx1 : ¬ W.heap.size = h := by omega
    have ny1 : ¬ h = W.heap.size := by omega
    have nx2 : ¬ W.heap.size + 1 = g := by omega
    have ny2 : ¬ g = W.heap.size + 1 := by omega
    have nx3 : ¬ W.heap.size + 1 = h := by omega
    have ny3 : ¬ h = W.heap.size + 1 := by omega
    have nx4 : ¬ W.heap.size + 1 + 1 = g := by omega
    have ny4 : ¬ g = W.heap.size + 1 + 1 := by omega
    have nx5 : ¬ W.heap.size + 1 + 1 = h := by omega
    have ny5 : ¬ h = W.heap.size + 1 + 1 := by omega
    have nx6 : ¬ W.heap.size + 1 + 1 + 1 = g := by omega
    have ny6 : ¬ g = W.heap.size + 1 + 1 + 1 := by omega
    have nx7 : ¬ W.heap.size + 1 + 1 + 1 = h := by omega
    have ny7 : ¬ h = W.heap.size + 1 + 1 + 1 := by omega
    have nx8 : ¬ g = h := by omega
    have ny8 : ¬ h = g := by omega
    have oa := ka
    unfold At at oa
    have la := ka.lt
    have ob := kb
    unfold At at ob
    have lb := kb.lt
    have og := kg.at_
    unfold At at og
    have lg := kg.lt
    have fg := kg.fz
    unfold Fz at fg
    have oh := kh.at_
    unfold At at oh
    have lh := kh.lt
    have fh := kh.fz
    unfold Fz at fh
    have or := kr.at_
    unfold At at or
    have lr := kr.lt
    have fr := kr.fz
    unfold Fz at fr
    have os := ks.at_
    unfold At at os
    have ls := ks.lt
    have fs := ks.fz
    unfold Fz at fs
    go_wp2_with fail
    refine (HS.out _).mono ?_; rintro e w1 ⟨rfl, hb1⟩
    clear oa la ob lb og lg fg oh lh fh or lr fr os ls fs
    replace ka := ka.keep hb1
    replace kb := kb.keep hb1
    replace kg := kg.keep hb1
    replace kh := kh.keep hb1
    replace kr := kr.keep hb1
    replace ks := ks.keep hb1
    replace hbel := bel_call hbel hb1
    have oa := ka
    unfold At at oa
    have la := ka.lt
    have ob := kb
    unfold At at ob
    have lb := kb.lt
    have og := kg.at_
    unfold At at og
    have lg := kg.lt
    have fg := kg.fz
    unfold Fz at fg
    have oh := kh.at_
    unfold At at oh
    have lh := kh.lt
    have fh := kh.fz
    unfold Fz at fh
    have or := kr.at_
    unfold At at or
    have lr := kr.lt
    have fr := kr.fz
    unfold Fz at fr
    have os := ks.at_
    unfold At at os
    have ls := ks.lt
    have fs := ks.fz
    unfold Fz at fs
    trace "call 1"
    go_wp2_with fail
    refine (rneg_any w n hw hn _).mono ?_; rintro e w2 ⟨rfl, hb2⟩
    clear oa la ob lb og lg fg oh lh fh or lr fr os ls fs
    replace ka := ka.keep hb2
    replace kb := kb.keep hb2
    replace kg := kg.keep hb2
    replace kh := kh.keep hb2
    replace kr := kr.keep hb2
    replace ks := ks.keep hb2
    replace hbel := bel_call hbel hb2
    have oa := ka
    unfold At at oa
    have la := ka.lt
    have ob := kb
    unfold At at ob
    have lb := kb.lt
    have og := kg.at_
    unfold At at og
    have lg := kg.lt
    have fg := kg.fz
    unfold Fz at fg
    have oh := kh.at_
    unfold At at oh
    have lh := kh.lt
    have fh := kh.fz
    unfold Fz at fh
    have or := kr.at_
    unfold At at or
    have lr := kr.lt
    have fr := kr.fz
    unfold Fz at fr
    have os := ks.at_
    unfold At at os
    have ls := ks.lt
    have fs := ks.fz
    unfold Fz at fs
    trace "call 2"
    go_wp2_with fail
    clear oa la ob lb og lg fg oh lh fh or lr fr os ls fs
    replace ka := ka.far (p := g) (x' := .int .u8 w) (y' := .int .u64 ((low w (18446744073709551616 - n)) : Nat)) (by omega)
    replace kb := kb.far (p := g) (x' := .int .u8 w) (y' := .int .u64 ((low w (18446744073709551616 - n)) : Nat)) (by omega)
    replace kh := kh.far (p := g) (x' := .int .u8 w) (y' := .int .u64 ((low w (18446744073709551616 - n)) : Nat)) (by omega)
    replace kr := kr.far (p := g) (x' := .int .u8 w) (y' := .int .u64 ((low w (18446744073709551616 - n)) : Nat)) (by omega)
    replace ks := ks.far (p := g) (x' := .int .u8 w) (y' := .int .u64 ((low w (18446744073709551616 - n)) : Nat)) (by omega)
    replace hbel := bel_set (x' := .int .u8 w) (y' := .int .u64 ((low w (18446744073709551616 - n)) : Nat)) hbel kg.le
    replace kg := kg.set (x' := .int .u8 w) (y' := .int .u64 ((low w (18446744073709551616 - n)) : Nat))
    have oa := ka
    unfold At at oa
    have la := ka.lt
    have ob := kb
    unfold At at ob
    have lb := kb.lt
    have og := kg.at_
    unfold At at og
    have lg := kg.lt
    have fg := kg.fz
    unfold Fz at fg
    have oh := kh.at_
    unfold At at oh
    have lh := kh.lt
    have fh := kh.fz
    unfold Fz at fh
    have or := kr.at_
    unfold At at or
    have lr := kr.lt
    have fr := kr.fz
    unfold Fz at fr
    have os := ks.at_
    unfold At at os
    have ls := ks.lt
    have fs := ks.fz
    unfold Fz at fs
    refine (HT.out _).mono ?_; rintro e w3 ⟨rfl, hb3⟩
    clear oa la ob lb og lg fg oh lh fh or lr fr os ls fs
    replace ka := ka.keep hb3
    replace kb := kb.keep hb3
    replace kg := kg.keep hb3
    replace kh := kh.keep hb3
    replace kr := kr.keep hb3
    replace ks := ks.keep hb3
    replace hbel := bel_call hbel hb3
    have oa := ka
    unfold At at oa
    have la := ka.lt
    have ob := kb
    unfold At at ob
    have lb := kb.lt
    have og := kg.at_
    unfold At at og
    have lg := kg.lt
    have fg := kg.fz
    unfold Fz at fg
    have oh := kh.at_
    unfold At at oh
    have lh := kh.lt
    have fh := kh.fz
    unfold Fz at fh
    have or := kr.at_
    unfold At at or
    have lr := kr.lt
    have fr := kr.fz
    unfold Fz at fr
    have os := ks.at_
    unfold At at os
    have ls := ks.lt
    have fs := ks.fz
    unfold Fz at fs
    trace "call 3"
    go_wp2_with fail
    refine (rdivide_any (low w (18446744073709551616 - n)) m hx6 hy6 hy0 _).mono ?_; rintro e wd ⟨rfl, rfl⟩
    go_upto_region 9 with fail
    have KA := Lib.hid ka; have KB := Lib.hid kb; have KR := Lib.hid kr; have KS := Lib.hid ks; have BEL := Lib.hid hbel
    clear ka kb kr ks hbel kg kh og lg fg oh lh fh ob or os fr fs lb nx0 ny0 nx1 ny1 nx2 ny2 nx3 ny3 nx4 ny4 nx5 ny5 nx6 ny6 nx7 ny7 nx8 ny8
    have ha0 := KA.out.drew.1
    have ha1 := KA.out.1
    have hdf : ∀ (X : World) (a : Addr), X.drew.frozen? a = X.frozen? a := fun _ _ => rfl
    have hdc : ∀ (X : World) (a : Addr), X.drew.cell? a = X.cell? a := fun _ _ => rfl
    have hds : ∀ (X : World), X.drew.heap.size = X.heap.size := fun _ => rfl
    have hr3 := KS.out.lt; (try simp at hr3)
    clear lr ls
    have hq6 : dq (low w (18446744073709551616 - n)) m 0 < 18446744073709551616 := Nat.lt_of_le_of_lt (dq_le _ _ _) hx6
    have hr6 : dr (low w (18446744073709551616 - n)) m 0 < 18446744073709551616 := Nat.lt_trans (dr_lt _ _ hy0) hy6
    go_cut [10, 11] (fun s10 s11 wx => ∃ i j : Nat, s10 = .pointer (some ⟨i, 0, none⟩) ∧ s11 = .pointer (some ⟨j, 0, none⟩) ∧ i ≠ j ∧ W.heap.size + 3 < i ∧ W.heap.size + 3 < j ∧ Own W.heap.size wx i (.int .u8 w) (.int .u64 (low w (dq (low w (18446744073709551616 - n)) m 0) : Nat)) ∧ Own W.heap.size wx j (.int .u8 w) (.int .u64 (low w (dr (low w (18446744073709551616 - n)) m 0) : Nat)) ∧ At wx W.heap.size (.int .u8 w) (.int .u64 n) ∧ At wx (W.heap.size + 1) (.int .u8 v) (.int .u64 m) ∧ Own W.heap.size wx (W.heap.size + 1 + 1) (.int .u8 0) (.int .u64 0) ∧ Own W.heap.size wx (W.heap.size + 1 + 1 + 1) (.int .u8 0) (.int .u64 0) ∧ Below W.heap.size W wx)
    case first =>
      have lr := KR.out.lt; have ls := KS.out.lt
      have or := KR.out.at_; have os := KS.out.at_; have fr := KR.out.fz; have fs := KS.out.fz
      unfold At at or os; unfold Fz at fr fs
      go_region_held3 (fun w' => w'.cell? ⟨W.heap.size, 0, none⟩ = some (.int .u8 w))
        (first | (with_reducible assumption) | ((try dsimp only); (repeat (first | (with_reducible refine cell_drew ?_) | (with_reducible refine Eq.trans (World.cell?_alloc_lt _ _ _ ?_) ?_; (first | (with_reducible assumption) | (simp; done) | (simp; omega) | omega)) | (with_reducible refine Eq.trans (World.cell?_setCell_far _ _ _ _ ?_) ?_; (first | (simp; done) | (simp; omega) | omega)))); (with_reducible assumption)))
        (first | (go_at_call 42; (first | (with_reducible refine (rcut_exact w hw (dq (low w (18446744073709551616 - n)) m 0) hq6 _).mono ?_) | (with_reducible refine (rcut_exact w hw (dr (low w (18446744073709551616 - n)) m 0) hr6 _).mono ?_)); rintro e wx ⟨rfl, rfl⟩))
      all_goals
        go_wp2_with fail
        go_meet
        refine ⟨_, _, rfl, rfl, by omega, by omega, by omega, ⟨⟨?_, ?_⟩, ⟨?_, ?_⟩, by omega⟩, ⟨⟨?_, ?_⟩, ⟨?_, ?_⟩, by omega⟩, ?_, ?_, ?_, ?_, ?_⟩
        all_goals first | (simp [go_sem]; done) | skip
        all_goals (repeat (first | (with_reducible exact BEL.out) | (with_reducible exact KA.out) | (with_reducible exact KB.out) | (with_reducible exact KR.out) | (with_reducible exact KS.out) | (with_reducible refine Own.drew ?_) | (with_reducible refine Own.alloc ?_ _) | (with_reducible refine Below.drew ?_) | (with_reducible refine bel_alloc ?_ _) | (with_reducible refine At.drew ?_) | (with_reducible refine At.alloc ?_ _)))
    case rest =>
      obtain ⟨i, j, rfl, rfl, hij, hi3, hj3, ki, kj, ka, kb, kr, ks, hbel⟩ := hcut
      have nx0 : ¬ W.heap.size = i := by omega
      have ny0 : ¬ i = W.heap.size := by omega
      have nx1 : ¬ W.heap.size = j := by omega
      have ny1 : ¬ j = W.heap.size := by omega
      have nx2 : ¬ W.heap.size + 1 = i := by omega
      have ny2 : ¬ i = W.heap.size + 1 := by omega
      have nx3 : ¬ W.heap.size + 1 = j := by omega
      have ny3 : ¬ j = W.heap.size + 1 := by omega
      have nx4 : ¬ W.heap.size + 1 + 1 = i := by omega
      have ny4 : ¬ i = W.heap.size + 1 + 1 := by omega
      have nx5 : ¬ W.heap.size + 1 + 1 = j := by omega
      have ny5 : ¬ j = W.heap.size + 1 + 1 := by omega
      have nx6 : ¬ W.heap.size + 1 + 1 + 1 = i := by omega
      have ny6 : ¬ i = W.heap.size + 1 + 1 + 1 := by omega
      have nx7 : ¬ W.heap.size + 1 + 1 + 1 = j := by omega
      have ny7 : ¬ j = W.heap.size + 1 + 1 + 1 := by omega
      have nx8 : ¬ i = j := by omega
      have ny8 : ¬ j = i := by omega
      have oa := ka
      unfold At at oa
      have la := ka.lt
      have ob := kb
      unfold At at ob
      have lb := kb.lt
      have oi := ki.at_
      unfold At at oi
      have li := ki.lt
      have fi := ki.fz
      unfold Fz at fi
      have oj := kj.at_
      unfold At at oj
      have lj := kj.lt
      have fj := kj.fz
      unfold Fz at fj
      have or := kr.at_
      unfold At at or
      have lr := kr.lt
      have fr := kr.fz
      unfold Fz at fr
      have os := ks.at_
      unfold At at os
      have ls := ks.lt
      have fs := ks.fz
      unfold Fz at fs
      go_wp2_with fail
      go_region_held3 (fun w' => w'.cell? ⟨W.heap.size, 0, none⟩ = some (.int .u8 w) ∧ w'.cell? ⟨W.heap.size, 1, none⟩ = some (.int .u64 n) ∧ w'.cell? ⟨W.heap.size + 1, 0, none⟩ = some (.int .u8 v) ∧ w'.cell? ⟨W.heap.size + 1, 1, none⟩ = some (.int .u64 m))
        (first | exact ⟨ka.drew.1, ka.drew.2, kb.drew.1, kb.drew.2⟩ | ((try dsimp only); (try go_split_ands); refine ⟨?_, ?_, ?_, ?_⟩ <;> (refine cell_keep2 hb8 ?_; with_reducible assumption)) | ((try dsimp only); (try go_split_ands); refine ⟨?_, ?_, ?_, ?_⟩ <;> (refine cell_keep2 hb7 ?_; with_reducible assumption)))
        (first | (go_at_call 81; (first | ((with_reducible refine (HS.out _).mono ?_); rintro e w7 ⟨rfl, hb7⟩) | ((with_reducible refine (HT.out _).mono ?_); rintro e w8 ⟨rfl, hb8⟩))))
      clear oa la ob lb oi li fi oj lj fj or lr fr os ls fs
      replace ka := (ka.drew.keep hb7).keep hb8
      replace kb := (kb.drew.keep hb7).keep hb8
      replace ki := (ki.drew.keep hb7).keep hb8
      replace kj := (kj.drew.keep hb7).keep hb8
      replace kr := (kr.drew.keep hb7).keep hb8
      replace ks := (ks.drew.keep hb7).keep hb8
      replace hbel := bel_call (bel_call hbel.drew hb7) hb8
      have oa := ka
      unfold At at oa
      have la := ka.lt
      have ob := kb
      unfold At at ob
      have lb := kb.lt
      have oi := ki.at_
      unfold At at oi
      have li := ki.lt
      have fi := ki.fz
      unfold Fz at fi
      have oj := kj.at_
      unfold At at oj
      have lj := kj.lt
      have fj := kj.fz
      unfold Fz at fj
      have or := kr.at_
      unfold At at or
      have lr := kr.lt
      have fr := kr.fz
      unfold Fz at fr
      have os := ks.at_
      unfold At at os
      have ls := ks.lt
      have fs := ks.fz
      unfold Fz at fs
      go_wp2_with fail
      refine (rneg_any w (low w (dq (low w (18446744073709551616 - n)) m 0)) hw (Nat.lt_of_lt_of_le (low_lt w _) (pow_le64 hw)) _).mono ?_; rintro e w9 ⟨rfl, hb9⟩
      clear oa la ob lb oi li fi oj lj fj or lr fr os ls fs
      replace ka := ka.keep hb9
      replace kb := kb.keep hb9
      replace ki := ki.keep hb9
      replace kj := kj.keep hb9
      replace kr := kr.keep hb9
      replace ks := ks.keep hb9
      replace hbel := bel_call hbel hb9
      have oa := ka
      unfold At at oa
      have la := ka.lt
      have ob := kb
      unfold At at ob
      have lb := kb.lt
      have oi := ki.at_
      unfold At at oi
      have li := ki.lt
      have fi := ki.fz
      unfold Fz at fi
      have oj := kj.at_
      unfold At at oj
      have lj := kj.lt
      have fj := kj.fz
      unfold Fz at fj
      have or := kr.at_
      unfold At at or
      have lr := kr.lt
      have fr := kr.fz
      unfold Fz at fr
      have os := ks.at_
      unfold At at os
      have ls := ks.lt
      have fs := ks.fz
      unfold Fz at fs
      trace "call 9"
      go_wp2_with fail
      clear oa la ob lb oi li fi oj lj fj or lr fr os ls fs
      replace ka := ka.far (p := i) (x' := .int .u8 w) (y' := .int .u64 ((low w (18446744073709551616 - (low w (dq (low w (18446744073709551616 - n)) m 0)))) : Nat)) (by omega)
      replace kb := kb.far (p := i) (x' := .int .u8 w) (y' := .int .u64 ((low w (18446744073709551616 - (low w (dq (low w (18446744073709551616 - n)) m 0)))) : Nat)) (by omega)
      replace kj := kj.far (p := i) (x' := .int .u8 w) (y' := .int .u64 ((low w (18446744073709551616 - (low w (dq (low w (18446744073709551616 - n)) m 0)))) : Nat)) (by omega)
      replace kr := kr.far (p := i) (x' := .int .u8 w) (y' := .int .u64 ((low w (18446744073709551616 - (low w (dq (low w (18446744073709551616 - n)) m 0)))) : Nat)) (by omega)
      replace ks := ks.far (p := i) (x' := .int .u8 w) (y' := .int .u64 ((low w (18446744073709551616 - (low w (dq (low w (18446744073709551616 - n)) m 0)))) : Nat)) (by omega)
      replace hbel := bel_set (x' := .int .u8 w) (y' := .int .u64 ((low w (18446744073709551616 - (low w (dq (low w (18446744073709551616 - n)) m 0)))) : Nat)) hbel ki.le
      replace ki := ki.set (x' := .int .u8 w) (y' := .int .u64 ((low w (18446744073709551616 - (low w (dq (low w (18446744073709551616 - n)) m 0)))) : Nat))
      have oa := ka
      unfold At at oa
      have la := ka.lt
      have ob := kb
      unfold At at ob
      have lb := kb.lt
      have oi := ki.at_
      unfold At at oi
      have li := ki.lt
      have fi := ki.fz
      unfold Fz at fi
      have oj := kj.at_
      unfold At at oj
      have lj := kj.lt
      have fj := kj.fz
      unfold Fz at fj
      have or := kr.at_
      unfold At at or
      have lr := kr.lt
      have fr := kr.fz
      unfold Fz at fr
      have os := ks.at_
      unfold At at os
      have ls := ks.lt
      have fs := ks.fz
      unfold Fz at fs
      refine (HS.out _).mono ?_; rintro e w10 ⟨rfl, hb10⟩
      clear oa la ob lb oi li fi oj lj fj or lr fr os ls fs
      replace ka := ka.keep hb10
      replace kb := kb.keep hb10
      replace ki := ki.keep hb10
      replace kj := kj.keep hb10
      replace kr := kr.keep hb10
      replace ks := ks.keep hb10
      replace hbel := bel_call hbel hb10
      have oa := ka
      unfold At at oa
      have la := ka.lt
      have ob := kb
      unfold At at ob
      have lb := kb.lt
      have oi := ki.at_
      unfold At at oi
      have li := ki.lt
      have fi := ki.fz
      unfold Fz at fi
      have oj := kj.at_
      unfold At at oj
      have lj := kj.lt
      have fj := kj.fz
      unfold Fz at fj
      have or := kr.at_
      unfold At at or
      have lr := kr.lt
      have fr := kr.fz
      unfold Fz at fr
      have os := ks.at_
      unfold At at os
      have ls := ks.lt
      have fs := ks.fz
      unfold Fz at fs
      trace "call 10"
      go_wp2_with fail
      refine (rneg_any w (low w (dr (low w (18446744073709551616 - n)) m 0)) hw (Nat.lt_of_lt_of_le (low_lt w _) (pow_le64 hw)) _).mono ?_; rintro e w11 ⟨rfl, hb11⟩
      clear oa la ob lb oi li fi oj lj fj or lr fr os ls fs
      replace ka := ka.keep hb11
      replace kb := kb.keep hb11
      replace ki := ki.keep hb11
      replace kj := kj.keep hb11
      replace kr := kr.keep hb11
      replace ks := ks.keep hb11
      replace hbel := bel_call hbel hb11
      have oa := ka
      unfold At at oa
      have la := ka.lt
      have ob := kb
      unfold At at ob
      have lb := kb.lt
      have oi := ki.at_
      unfold At at oi
      have li := ki.lt
      have fi := ki.fz
      unfold Fz at fi
      have oj := kj.at_
      unfold At at oj
      have lj := kj.lt
      have fj := kj.fz
      unfold Fz at fj
      have or := kr.at_
      unfold At at or
      have lr := kr.lt
      have fr := kr.fz
      unfold Fz at fr
      have os := ks.at_
      unfold At at os
      have ls := ks.lt
      have fs := ks.fz
      unfold Fz at fs
      trace "call 11"
      go_wp2_with fail
      clear oa la ob lb oi li fi oj lj fj or lr fr os ls fs
      replace ka := ka.far (p := j) (x' := .int .u8 w) (y' := .int .u64 ((low w (18446744073709551616 - (low w (dr (low w (18446744073709551616 - n)) m 0)))) : Nat)) (by omega)
      replace kb := kb.far (p := j) (x' := .int .u8 w) (y' := .int .u64 ((low w (18446744073709551616 - (low w (dr (low w (18446744073709551616 - n)) m 0)))) : Nat)) (by omega)
      replace ki := ki.far (p := j) (x' := .int .u8 w) (y' := .int .u64 ((low w (18446744073709551616 - (low w (dr (low w (18446744073709551616 - n)) m 0)))) : Nat)) (by omega)
      replace kr := kr.far (p := j) (x' := .int .u8 w) (y' := .int .u64 ((low w (18446744073709551616 - (low w (dr (low w (18446744073709551616 - n)) m 0)))) : Nat)) (by omega)
      replace ks := ks.far (p := j) (x' := .int .u8 w) (y' := .int .u64 ((low w (18446744073709551616 - (low w (dr (low w (18446744073709551616 - n)) m 0)))) : Nat)) (by omega)
      replace hbel := bel_set (x' := .int .u8 w) (y' := .int .u64 ((low w (18446744073709551616 - (low w (dr (low w (18446744073709551616 - n)) m 0)))) : Nat)) hbel kj.le
      replace kj := kj.set (x' := .int .u8 w) (y' := .int .u64 ((low w (18446744073709551616 - (low w (dr (low w (18446744073709551616 - n)) m 0)))) : Nat))
      have oa := ka
      unfold At at oa
      have la := ka.lt
      have ob := kb
      unfold At at ob
      have lb := kb.lt
      have oi := ki.at_
      unfold At at oi
      have li := ki.lt
      have fi := ki.fz
      unfold Fz at fi
      have oj := kj.at_
      unfold At at oj
      have lj := kj.lt
      have fj := kj.fz
      unfold Fz at fj
      have or := kr.at_
      unfold At at or
      have lr := kr.lt
      have fr := kr.fz
      unfold Fz at fr
      have os := ks.at_
      unfold At at os
      have ls := ks.lt
      have fs := ks.fz
      unfold Fz at fs
      go_region
      all_goals go_wp2_with fail
      all_goals
        refine bodyPost_ret (v := .tuple #[.agg #[.int .u8 w, .int .u64 ((low w (18446744073709551616 - (low w (dq (low w (18446744073709551616 - n)) m 0)))) : Nat)], .agg #[.int .u8 w, .int .u64 ((low w (18446744073709551616 - (low w (dr (low w (18446744073709551616 - n)) m 0)))) : Nat)]]) (by simp [results, Try.results60, go_sem, or, os]) rfl ⟨rfl, ?_⟩
        repeat (first | (with_reducible exact hbel) | (with_reducible refine Below.drew ?_) | (with_reducible refine Below.setCell ?_ (by first | (simp; done) | (simp; omega) | omega) _))
end Bv
end Go.Proofs.Ytigjbngedbbdbaa

namespace Go.Proofs.Ytigjbngedbbdbaa
open Go.RowKit
namespace Bv
set_option maxHeartbeats 12000000
set_option maxRecDepth 100000

theorem rsigned_11 (w n v m : Nat) (hw : w ≤ 64) (hv : v ≤ 64) (hn : n < 18446744073709551616) (hm : m < 18446744073709551616) (hy0 : 0 < (low v (18446744073709551616 - m))) (hx6 : (low w (18446744073709551616 - n)) < 18446744073709551616) (hy6 : (low v (18446744073709551616 - m)) < 18446744073709551616) (h0 : ((m : Int) == 0) = false)
    (HS : Hid (∀ W : World, Calls Try.prog 81 #[.agg #[.int .u8 w, .int .u64 n]] W fun e W' => e = .returned (.bool true) ∧ Below W.heap.size W W'))
    (HT : Hid (∀ W : World, Calls Try.prog 81 #[.agg #[.int .u8 v, .int .u64 m]] W fun e W' => e = .returned (.bool true) ∧ Below W.heap.size W W')) (W : World) :
    Calls Try.prog 60 #[.agg #[.int .u8 w, .int .u64 n], .agg #[.int .u8 v, .int .u64 m]] W fun e W' => e = .returned (.tuple #[.agg #[.int .u8 w, .int .u64 ((low w (dq (low w (18446744073709551616 - n)) (low v (18446744073709551616 - m)) 0)) : Nat)], .agg #[.int .u8 w, .int .u64 ((low w (18446744073709551616 - (low w (dr (low w (18446744073709551616 - n)) (low v (18446744073709551616 - m)) 0)))) : Nat)]]) ∧ Below W.heap.size W W' := by
  go_enter Try.func60, Try.ntmps60
  go_upto_region 3 with fail
  go_cut [6, 7] (fun s6 s7 wx => ∃ g h : Nat, s6 = .pointer (some ⟨g, 0, none⟩) ∧ s7 = .pointer (some ⟨h, 0, none⟩) ∧ g ≠ h ∧ W.heap.size + 3 < g ∧ W.heap.size + 3 < h ∧ Own W.heap.size wx g (.int .u8 w) (.int .u64 n) ∧ Own W.heap.size wx h (.int .u8 v) (.int .u64 m) ∧ At wx W.heap.size (.int .u8 w) (.int .u64 n) ∧ At wx (W.heap.size + 1) (.int .u8 v) (.int .u64 m) ∧ Own W.heap.size wx (W.heap.size + 1 + 1) (.int .u8 0) (.int .u64 0) ∧ Own W.heap.size wx (W.heap.size + 1 + 1 + 1) (.int .u8 0) (.int .u64 0) ∧ Below W.heap.size W wx)
  case first =>
    go_region
    all_goals
      go_wp2_with fail
      go_meet
      refine ⟨_, _, rfl, rfl, by omega, by omega, by omega, ⟨⟨?_, ?_⟩, ⟨?_, ?_⟩, by omega⟩, ⟨⟨?_, ?_⟩, ⟨?_, ?_⟩, by omega⟩, ⟨?_, ?_⟩, ⟨?_, ?_⟩, ⟨⟨?_, ?_⟩, ⟨?_, ?_⟩, by omega⟩, ⟨⟨?_, ?_⟩, ⟨?_, ?_⟩, by omega⟩, ?_⟩
      all_goals first | (simp [go_sem]; done) | skip
      exact Below.drew (bel_alloc (bel_alloc (bel_alloc (bel_alloc (bel_alloc (bel_alloc (Below.refl _ _) _) _) _) _) _) _)
  case rest =>
    obtain ⟨g, h, rfl, rfl, hgh, hg3, hh3, kg, kh, ka, kb, kr, ks, hbel⟩ := hcut
    have nx0 : ¬ W.heap.size = g := by omega
    have ny0 : ¬ g = W.heap.size := by omega
    have nx1 : ¬ W.heap.size = h := by omega
    have ny1 : ¬ h = W.heap.size := by omega
    have nx2 : ¬ W.heap.size + 1 = g := by omega
    have ny2 : ¬ g = W.heap.size + 1 := by omega
    have nx3 : ¬ W.heap.size + 1 = h := by omega
    have ny3 : ¬ h = W.heap.size + 1 := by omega
    have nx4 : ¬ W.heap.size + 1 + 1 = g := by omega
    have ny4 : ¬ g = W.heap.size + 1 + 1 := by omega
    have nx5 : ¬ W.heap.size + 1 + 1 = h := by omega
    have ny5 : ¬ h = W.heap.size + 1 + 1 := by omega
    have nx6 : ¬ W.heap.size + 1 + 1 + 1 = g := by omega
    have ny6 : ¬ g = W.heap.size + 1 + 1 + 1 := by omega
    have nx7 : ¬ W.heap.size + 1 + 1 + 1 = h := by omega
    have ny7 : ¬ h = W.heap.size + 1 + 1 + 1 := by omega
    have nx8 : ¬ g = h := by omega
    have ny8 : ¬ h = g := by omega
    have oa := ka
    unfold At at oa
    have la := ka.lt
    have ob := kb
    unfold At at ob
    have lb := kb.lt
    have og := kg.at_
    unfold At at og
    have lg := kg.lt
    have fg := kg.fz
    unfold Fz at fg
    have oh := kh.at_
    unfold At at oh
    have lh := kh.lt
    have fh := kh.fz
    unfold Fz at fh
    have or := kr.at_
    unfold At at or
    have lr := kr.lt
    have fr := kr.fz
    unfold Fz at fr
    have os := ks.at_
    unfold At at os
    have ls := ks.lt
    have fs := ks.fz
    unfold Fz at fs
    go_wp2_with fail
    refine (HS.out _).mono ?_; rintro e w1 ⟨rfl, hb1⟩
    clear oa la ob lb og lg fg oh lh fh or lr fr os ls fs
    replace ka := ka.keep hb1
    replace kb := kb.keep hb1
    replace kg := kg.keep hb1
    replace kh := kh.keep hb1
    replace kr := kr.keep hb1
    replace ks := ks.keep hb1
    replace hbel := bel_call hbel hb1
    have oa := ka
    unfold At at oa
    have la := ka.lt
    have ob := kb
    unfold At at ob
    have lb := kb.lt
    have og := kg.at_
    unfold At at og
    have lg := kg.lt
    have fg := kg.fz
    unfold Fz at fg
    have oh := kh.at_
    unfold At at oh
    have lh := kh.lt
    have fh := kh.fz
    unfold Fz at fh
    have or := kr.at_
    unfold At at or
    have lr := kr.lt
    have fr := kr.fz
    unfold Fz at fr
    have os := ks.at_
    unfold At at os
    have ls := ks.lt
    have fs := ks.fz
    unfold Fz at fs
    trace "call 1"
    go_wp2_with fail
    refine (rneg_any w n hw hn _).mono ?_; rintro e w2 ⟨rfl, hb2⟩
    clear oa la ob lb og lg fg oh lh fh or lr fr os ls fs
    replace ka := ka.keep hb2
    replace kb := kb.keep hb2
    replace kg := kg.keep hb2
    replace kh := kh.keep hb2
    replace kr := kr.keep hb2
    replace ks := ks.keep hb2
    replace hbel := bel_call hbel hb2
    have oa := ka
    unfold At at oa
    have la := ka.lt
    have ob := kb
    unfold At at ob
    have lb := kb.lt
    have og := kg.at_
    unfold At at og
    have lg := kg.lt
    have fg := kg.fz
    unfold Fz at fg
    have oh := kh.at_
    unfold At at oh
    have lh := kh.lt
    have fh := kh.fz
    unfold Fz at fh
    have or := kr.at_
    unfold At at or
    have lr := kr.lt
    have fr := kr.fz
    unfold Fz at fr
    have os := ks.at_
    unfold At at os
    have ls := ks.lt
    have fs := ks.fz
    unfold Fz at fs
    trace "call 2"
    go_wp2_with fail
    clear oa la ob lb og lg fg oh lh fh or lr fr os ls fs
    replace ka := ka.far (p := g) (x' := .int .u8 w) (y' := .int .u64 ((low w (18446744073709551616 - n)) : Nat)) (by omega)
    replace kb := kb.far (p := g) (x' := .int .u8 w) (y' := .int .u64 ((low w (18446744073709551616 - n)) : Nat)) (by omega)
    replace kh := kh.far (p := g) (x' := .int .u8 w) (y' := .int .u64 ((low w (18446744073709551616 - n)) : Nat)) (by omega)
    replace kr := kr.far (p := g) (x' := .int .u8 w) (y' := .int .u64 ((low w (18446744073709551616 - n)) : Nat)) (by omega)
    replace ks := ks.far (p := g) (x' := .int .u8 w) (y' := .int .u64 ((low w (18446744073709551616 - n)) : Nat)) (by omega)
    replace hbel := bel_set (x' := .int .u8 w) (y' := .int .u64 ((low w (18446744073709551616 - n)) : Nat)) hbel kg.le
    replace kg := kg.set (x' := .int .u8 w) (y' := .int .u64 ((low w (18446744073709551616 - n)) : Nat))
    have oa := ka
    unfold At at oa
    have la := ka.lt
    have ob := kb
    unfold At at ob
    have lb := kb.lt
    have og := kg.at_
    unfold At at og
    have lg := kg.lt
    have fg := kg.fz
    unfold Fz at fg
    have oh := kh.at_
    unfold At at oh
    have lh := kh.lt
    have fh := kh.fz
    unfold Fz at fh
    have or := kr.at_
    unfold At at or
    have lr := kr.lt
    have fr := kr.fz
    unfold Fz at fr
    have os := ks.at_
    unfold At at os
    have ls := ks.lt
    have fs := ks.fz
    unfold Fz at fs
    refine (HT.out _).mono ?_; rintro e w3 ⟨rfl, hb3⟩
    clear oa la ob lb og lg fg oh lh fh or lr fr os ls fs
    replace ka := ka.keep hb3
    replace kb := kb.keep hb3
    replace kg := kg.keep hb3
    replace kh := kh.keep hb3
    replace kr := kr.keep hb3
    replace ks := ks.keep hb3
    replace hbel := bel_call hbel hb3
    have oa := ka
    unfold At at oa
    have la := ka.lt
    have ob := kb
    unfold At at ob
    have lb := kb.lt
    have og := kg.at_
    unfold At at og
    have lg := kg.lt
    have fg := kg.fz
    unfold Fz at fg
    have oh := kh.at_
    unfold At at oh
    have lh := kh.lt
    have fh := kh.fz
    unfold Fz at fh
    have or := kr.at_
    unfold At at or
    have lr := kr.lt
    have fr := kr.fz
    unfold Fz at fr
    have os := ks.at_
    unfold At at os
    have ls := ks.lt
    have fs := ks.fz
    unfold Fz at fs
    trace "call 3"
    go_wp2_with fail
    refine (rneg_any v m hv hm _).mono ?_; rintro e w4 ⟨rfl, hb4⟩
    clear oa la ob lb og lg fg oh lh fh or lr fr os ls fs
    replace ka := ka.keep hb4
    replace kb := kb.keep hb4
    replace kg := kg.keep hb4
    replace kh := kh.keep hb4
    replace kr := kr.keep hb4
    replace ks := ks.keep hb4
    replace hbel := bel_call hbel hb4
    have oa := ka
    unfold At at oa
    have la := ka.lt
    have ob := kb
    unfold At at ob
    have lb := kb.lt
    have og := kg.at_
    unfold At at og
    have lg := kg.lt
    have fg := kg.fz
    unfold Fz at fg
    have oh := kh.at_
    unfold At at oh
    have lh := kh.lt
    have fh := kh.fz
    unfold Fz at fh
    have or := kr.at_
    unfold At at or
    have lr := kr.lt
    have fr := kr.fz
    unfold Fz at fr
    have os := ks.at_
    unfold At at os
    have ls := ks.lt
    have fs := ks.fz
    unfold Fz at fs
    trace "call 4"
    go_wp2_with fail
    clear oa la ob lb og lg fg oh lh fh or lr fr os ls fs
    replace ka := ka.far (p := h) (x' := .int .u8 v) (y' := .int .u64 ((low v (18446744073709551616 - m)) : Nat)) (by omega)
    replace kb := kb.far (p := h) (x' := .int .u8 v) (y' := .int .u64 ((low v (18446744073709551616 - m)) : Nat)) (by omega)
    replace kg := kg.far (p := h) (x' := .int .u8 v) (y' := .int .u64 ((low v (18446744073709551616 - m)) : Nat)) (by omega)
    replace kr := kr.far (p := h) (x' := .int .u8 v) (y' := .int .u64 ((low v (18446744073709551616 - m)) : Nat)) (by omega)
    replace ks := ks.far (p := h) (x' := .int .u8 v) (y' := .int .u64 ((low v (18446744073709551616 - m)) : Nat)) (by omega)
    replace hbel := bel_set (x' := .int .u8 v) (y' := .int .u64 ((low v (18446744073709551616 - m)) : Nat)) hbel kh.le
    replace kh := kh.set (x' := .int .u8 v) (y' := .int .u64 ((low v (18446744073709551616 - m)) : Nat))
    generalize (w4.setCell ⟨h, 0, none⟩ (.int .u8 v)).setCell ⟨h, 1, none⟩ (.int .u64 ((low v (18446744073709551616 - m)) : Nat)) = wq at *
    have oa := ka
    unfold At at oa
    have la := ka.lt
    have ob := kb
    unfold At at ob
    have lb := kb.lt
    have og := kg.at_
    unfold At at og
    have lg := kg.lt
    have fg := kg.fz
    unfold Fz at fg
    have oh := kh.at_
    unfold At at oh
    have lh := kh.lt
    have fh := kh.fz
    unfold Fz at fh
    have or := kr.at_
    unfold At at or
    have lr := kr.lt
    have fr := kr.fz
    unfold Fz at fr
    have os := ks.at_
    unfold At at os
    have ls := ks.lt
    have fs := ks.fz
    unfold Fz at fs
    refine (rdivide_any (low w (18446744073709551616 - n)) (low v (18446744073709551616 - m)) hx6 hy6 hy0 _).mono ?_; rintro e wd ⟨rfl, rfl⟩
    go_upto_region 9 with fail
    have KA := Lib.hid ka; have KB := Lib.hid kb; have KR := Lib.hid kr; have KS := Lib.hid ks; have BEL := Lib.hid hbel
    clear ka kb kr ks hbel kg kh og lg fg oh lh fh ob or os fr fs lb nx0 ny0 nx1 ny1 nx2 ny2 nx3 ny3 nx4 ny4 nx5 ny5 nx6 ny6 nx7 ny7 nx8 ny8
    have ha0 := KA.out.drew.1
    have ha1 := KA.out.1
    have hdf : ∀ (X : World) (a : Addr), X.drew.frozen? a = X.frozen? a := fun _ _ => rfl
    have hdc : ∀ (X : World) (a : Addr), X.drew.cell? a = X.cell? a := fun _ _ => rfl
    have hds : ∀ (X : World), X.drew.heap.size = X.heap.size := fun _ => rfl
    have hr3 := KS.out.lt; (try simp at hr3)
    clear lr ls
    have hq6 : dq (low w (18446744073709551616 - n)) (low v (18446744073709551616 - m)) 0 < 18446744073709551616 := Nat.lt_of_le_of_lt (dq_le _ _ _) hx6
    have hr6 : dr (low w (18446744073709551616 - n)) (low v (18446744073709551616 - m)) 0 < 18446744073709551616 := Nat.lt_trans (dr_lt _ _ hy0) hy6
    go_cut [10, 11] (fun s10 s11 wx => ∃ i j : Nat, s10 = .pointer (some ⟨i, 0, none⟩) ∧ s11 = .pointer (some ⟨j, 0, none⟩) ∧ i ≠ j ∧ W.heap.size + 3 < i ∧ W.heap.size + 3 < j ∧ Own W.heap.size wx i (.int .u8 w) (.int .u64 (low w (dq (low w (18446744073709551616 - n)) (low v (18446744073709551616 - m)) 0) : Nat)) ∧ Own W.heap.size wx j (.int .u8 w) (.int .u64 (low w (dr (low w (18446744073709551616 - n)) (low v (18446744073709551616 - m)) 0) : Nat)) ∧ At wx W.heap.size (.int .u8 w) (.int .u64 n) ∧ At wx (W.heap.size + 1) (.int .u8 v) (.int .u64 m) ∧ Own W.heap.size wx (W.heap.size + 1 + 1) (.int .u8 0) (.int .u64 0) ∧ Own W.heap.size wx (W.heap.size + 1 + 1 + 1) (.int .u8 0) (.int .u64 0) ∧ Below W.heap.size W wx)
    case first =>
      have lr := KR.out.lt; have ls := KS.out.lt
      have or := KR.out.at_; have os := KS.out.at_; have fr := KR.out.fz; have fs := KS.out.fz
      unfold At at or os; unfold Fz at fr fs
      go_region_held3 (fun w' => w'.cell? ⟨W.heap.size, 0, none⟩ = some (.int .u8 w))
        (first | (with_reducible assumption) | ((try dsimp only); (repeat (first | (with_reducible refine cell_drew ?_) | (with_reducible refine Eq.trans (World.cell?_alloc_lt _ _ _ ?_) ?_; (first | (with_reducible assumption) | (simp; done) | (simp; omega) | omega)) | (with_reducible refine Eq.trans (World.cell?_setCell_far _ _ _ _ ?_) ?_; (first | (simp; done) | (simp; omega) | omega)))); (with_reducible assumption)))
        (first | (go_at_call 42; (first | (with_reducible refine (rcut_exact w hw (dq (low w (18446744073709551616 - n)) (low v (18446744073709551616 - m)) 0) hq6 _).mono ?_) | (with_reducible refine (rcut_exact w hw (dr (low w (18446744073709551616 - n)) (low v (18446744073709551616 - m)) 0) hr6 _).mono ?_)); rintro e wx ⟨rfl, rfl⟩))
      all_goals
        go_wp2_with fail
        go_meet
        refine ⟨_, _, rfl, rfl, by omega, by omega, by omega, ⟨⟨?_, ?_⟩, ⟨?_, ?_⟩, by omega⟩, ⟨⟨?_, ?_⟩, ⟨?_, ?_⟩, by omega⟩, ?_, ?_, ?_, ?_, ?_⟩
        all_goals first | (simp [go_sem]; done) | skip
        all_goals (repeat (first | (with_reducible exact BEL.out) | (with_reducible exact KA.out) | (with_reducible exact KB.out) | (with_reducible exact KR.out) | (with_reducible exact KS.out) | (with_reducible refine Own.drew ?_) | (with_reducible refine Own.alloc ?_ _) | (with_reducible refine Below.drew ?_) | (with_reducible refine bel_alloc ?_ _) | (with_reducible refine At.drew ?_) | (with_reducible refine At.alloc ?_ _)))
    case rest =>
      obtain ⟨i, j, rfl, rfl, hij, hi3, hj3, ki, kj, ka, kb, kr, ks, hbel⟩ := hcut
      have nx0 : ¬ W.heap.size = i := by omega
      have ny0 : ¬ i = W.heap.size := by omega
      have nx1 : ¬ W.heap.size = j := by omega
      have ny1 : ¬ j = W.heap.size := by omega
      have nx2 : ¬ W.heap.size + 1 = i := by omega
      have ny2 : ¬ i = W.heap.size + 1 := by omega
      have nx3 : ¬ W.heap.size + 1 = j := by omega
      have ny3 : ¬ j = W.heap.size + 1 := by omega
      have nx4 : ¬ W.heap.size + 1 + 1 = i := by omega
      have ny4 : ¬ i = W.heap.size + 1 + 1 := by omega
      have nx5 : ¬ W.heap.size + 1 + 1 = j := by omega
      have ny5 : ¬ j = W.heap.size + 1 + 1 := by omega
      have nx6 : ¬ W.heap.size + 1 + 1 + 1 = i := by omega
      have ny6 : ¬ i = W.heap.size + 1 + 1 + 1 := by omega
      have nx7 : ¬ W.heap.size + 1 + 1 + 1 = j := by omega
      have ny7 : ¬ j = W.heap.size + 1 + 1 + 1 := by omega
      have nx8 : ¬ i = j := by omega
      have ny8 : ¬ j = i := by omega
      have oa := ka
      unfold At at oa
      have la := ka.lt
      have ob := kb
      unfold At at ob
      have lb := kb.lt
      have oi := ki.at_
      unfold At at oi
      have li := ki.lt
      have fi := ki.fz
      unfold Fz at fi
      have oj := kj.at_
      unfold At at oj
      have lj := kj.lt
      have fj := kj.fz
      unfold Fz at fj
      have or := kr.at_
      unfold At at or
      have lr := kr.lt
      have fr := kr.fz
      unfold Fz at fr
      have os := ks.at_
      unfold At at os
      have ls := ks.lt
      have fs := ks.fz
      unfold Fz at fs
      go_wp2_with fail
      go_region_held3 (fun w' => w'.cell? ⟨W.heap.size, 0, none⟩ = some (.int .u8 w) ∧ w'.cell? ⟨W.heap.size, 1, none⟩ = some (.int .u64 n) ∧ w'.cell? ⟨W.heap.size + 1, 0, none⟩ = some (.int .u8 v) ∧ w'.cell? ⟨W.heap.size + 1, 1, none⟩ = some (.int .u64 m))
        (first | exact ⟨ka.drew.1, ka.drew.2, kb.drew.1, kb.drew.2⟩ | ((try dsimp only); (try go_split_ands); refine ⟨?_, ?_, ?_, ?_⟩ <;> (refine cell_keep2 hb8 ?_; with_reducible assumption)) | ((try dsimp only); (try go_split_ands); refine ⟨?_, ?_, ?_, ?_⟩ <;> (refine cell_keep2 hb7 ?_; with_reducible assumption)))
        (first | (go_at_call 81; (first | ((with_reducible refine (HS.out _).mono ?_); rintro e w7 ⟨rfl, hb7⟩) | ((with_reducible refine (HT.out _).mono ?_); rintro e w8 ⟨rfl, hb8⟩))))
      clear oa la ob lb oi li fi oj lj fj or lr fr os ls fs
      replace ka := (ka.drew.keep hb7).keep hb8
      replace kb := (kb.drew.keep hb7).keep hb8
      replace ki := (ki.drew.keep hb7).keep hb8
      replace kj := (kj.drew.keep hb7).keep hb8
      replace kr := (kr.drew.keep hb7).keep hb8
      replace ks := (ks.drew.keep hb7).keep hb8
      replace hbel := bel_call (bel_call hbel.drew hb7) hb8
      have oa := ka
      unfold At at oa
      have la := ka.lt
      have ob := kb
      unfold At at ob
      have lb := kb.lt
      have oi := ki.at_
      unfold At at oi
      have li := ki.lt
      have fi := ki.fz
      unfold Fz at fi
      have oj := kj.at_
      unfold At at oj
      have lj := kj.lt
      have fj := kj.fz
      unfold Fz at fj
      have or := kr.at_
      unfold At at or
      have lr := kr.lt
      have fr := kr.fz
      unfold Fz at fr
      have os := ks.at_
      unfold At at os
      have ls := ks.lt
      have fs := ks.fz
      unfold Fz at fs
      go_wp2_with fail
      refine (HS.out _).mono ?_; rintro e w9 ⟨rfl, hb9⟩
      clear oa la ob lb oi li fi oj lj fj or lr fr os ls fs
      replace ka := ka.keep hb9
      replace kb := kb.keep hb9
      replace ki := ki.keep hb9
      replace kj := kj.keep hb9
      replace kr := kr.keep hb9
      replace ks := ks.keep hb9
      replace hbel := bel_call hbel hb9
      have oa := ka
      unfold At at oa
      have la := ka.lt
      have ob := kb
      unfold At at ob
      have lb := kb.lt
      have oi := ki.at_
      unfold At at oi
      have li := ki.lt
      have fi := ki.fz
      unfold Fz at fi
      have oj := kj.at_
      unfold At at oj
      have lj := kj.lt
      have fj := kj.fz
      unfold Fz at fj
      have or := kr.at_
      unfold At at or
      have lr := kr.lt
      have fr := kr.fz
      unfold Fz at fr
      have os := ks.at_
      unfold At at os
      have ls := ks.lt
      have fs := ks.fz
      unfold Fz at fs
      trace "call 9"
      go_wp2_with fail
      refine (rneg_any w (low w (dr (low w (18446744073709551616 - n)) (low v (18446744073709551616 - m)) 0)) hw (Nat.lt_of_lt_of_le (low_lt w _) (pow_le64 hw)) _).mono ?_; rintro e w10 ⟨rfl, hb10⟩
      clear oa la ob lb oi li fi oj lj fj or lr fr os ls fs
      replace ka := ka.keep hb10
      replace kb := kb.keep hb10
      replace ki := ki.keep hb10
      replace kj := kj.keep hb10
      replace kr := kr.keep hb10
      replace ks := ks.keep hb10
      replace hbel := bel_call hbel hb10
      have oa := ka
      unfold At at oa
      have la := ka.lt
      have ob := kb
      unfold At at ob
      have lb := kb.lt
      have oi := ki.at_
      unfold At at oi
      have li := ki.lt
      have fi := ki.fz
      unfold Fz at fi
      have oj := kj.at_
      unfold At at oj
      have lj := kj.lt
      have fj := kj.fz
      unfold Fz at fj
      have or := kr.at_
      unfold At at or
      have lr := kr.lt
      have fr := kr.fz
      unfold Fz at fr
      have os := ks.at_
      unfold At at os
      have ls := ks.lt
      have fs := ks.fz
      unfold Fz at fs
      trace "call 10"
      go_wp2_with fail
      clear oa la ob lb oi li fi oj lj fj or lr fr os ls fs
      replace ka := ka.far (p := j) (x' := .int .u8 w) (y' := .int .u64 ((low w (18446744073709551616 - (low w (dr (low w (18446744073709551616 - n)) (low v (18446744073709551616 - m)) 0)))) : Nat)) (by omega)
      replace kb := kb.far (p := j) (x' := .int .u8 w) (y' := .int .u64 ((low w (18446744073709551616 - (low w (dr (low w (18446744073709551616 - n)) (low v (18446744073709551616 - m)) 0)))) : Nat)) (by omega)
      replace ki := ki.far (p := j) (x' := .int .u8 w) (y' := .int .u64 ((low w (18446744073709551616 - (low w (dr (low w (18446744073709551616 - n)) (low v (18446744073709551616 - m)) 0)))) : Nat)) (by omega)
      replace kr := kr.far (p := j) (x' := .int .u8 w) (y' := .int .u64 ((low w (18446744073709551616 - (low w (dr (low w (18446744073709551616 - n)) (low v (18446744073709551616 - m)) 0)))) : Nat)) (by omega)
      replace ks := ks.far (p := j) (x' := .int .u8 w) (y' := .int .u64 ((low w (18446744073709551616 - (low w (dr (low w (18446744073709551616 - n)) (low v (18446744073709551616 - m)) 0)))) : Nat)) (by omega)
      replace hbel := bel_set (x' := .int .u8 w) (y' := .int .u64 ((low w (18446744073709551616 - (low w (dr (low w (18446744073709551616 - n)) (low v (18446744073709551616 - m)) 0)))) : Nat)) hbel kj.le
      replace kj := kj.set (x' := .int .u8 w) (y' := .int .u64 ((low w (18446744073709551616 - (low w (dr (low w (18446744073709551616 - n)) (low v (18446744073709551616 - m)) 0)))) : Nat))
      have oa := ka
      unfold At at oa
      have la := ka.lt
      have ob := kb
      unfold At at ob
      have lb := kb.lt
      have oi := ki.at_
      unfold At at oi
      have li := ki.lt
      have fi := ki.fz
      unfold Fz at fi
      have oj := kj.at_
      unfold At at oj
      have lj := kj.lt
      have fj := kj.fz
      unfold Fz at fj
      have or := kr.at_
      unfold At at or
      have lr := kr.lt
      have fr := kr.fz
      unfold Fz at fr
      have os := ks.at_
      unfold At at os
      have ls := ks.lt
      have fs := ks.fz
      unfold Fz at fs
      go_region
      all_goals go_wp2_with fail
      all_goals
        refine bodyPost_ret (v := .tuple #[.agg #[.int .u8 w, .int .u64 ((low w (dq (low w (18446744073709551616 - n)) (low v (18446744073709551616 - m)) 0)) : Nat)], .agg #[.int .u8 w, .int .u64 ((low w (18446744073709551616 - (low w (dr (low w (18446744073709551616 - n)) (low v (18446744073709551616 - m)) 0)))) : Nat)]]) (by simp [results, Try.results60, go_sem, or, os]) rfl ⟨rfl, ?_⟩
        repeat (first | (with_reducible exact hbel) | (with_reducible refine Below.drew ?_) | (with_reducible refine Below.setCell ?_ (by first | (simp; done) | (simp; omega) | omega) _))
end Bv
end Go.Proofs.Ytigjbngedbbdbaa

namespace Go.Proofs.Ytigjbngedbbdbaa
open Go.RowKit
namespace Bv
set_option maxHeartbeats 2000000
set_option maxRecDepth 100000

theorem rsigned_0 (w n v : Nat) (hw : w ≤ 64) (W : World) :
    Calls Try.prog 60 #[.agg #[.int .u8 w, .int .u64 n], .agg #[.int .u8 v, .int .u64 0]] W fun e W' => e = .returned (.tuple #[.agg #[.int .u8 w, .int .u64 (low w 18446744073709551615 : Nat)], .agg #[.int .u8 w, .int .u64 n]]) ∧ Below W.heap.size W W' := by
  go_enter Try.func60, Try.ntmps60
  go_wp2_with fail
  go_region_with (first | (go_at_call 42; refine (rcut_exact w hw 18446744073709551615 (by decide) _).mono ?_; rintro e wx ⟨rfl, rfl⟩))
  all_goals go_wp2_with fail
  all_goals
    refine bodyPost_ret (v := .tuple #[.agg #[.int .u8 w, .int .u64 (low w 18446744073709551615 : Nat)], .agg #[.int .u8 w, .int .u64 n]]) (by simp [results, Try.results60, go_sem]) rfl ⟨rfl, ?_⟩
    repeat (first | (with_reducible exact Below.refl _ _) | (with_reducible refine Below.drew ?_) | (with_reducible refine bel_alloc ?_ _) | (with_reducible refine Below.setCell ?_ (by first | (simp; done) | (simp; omega) | omega) _))
end Bv
end Go.Proofs.Ytigjbngedbbdbaa
