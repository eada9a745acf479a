/-
  The program's heap: Bump.
-/
import Derived.Test.YtdajnmlpghgeeaaHpSink
import Derived.Test.YtdajnmlpghgeeaaHpCnt
namespace Go.Proofs.Ytdajnmlpghgeeaa
open Go.RowKit
namespace Hp
set_option maxHeartbeats 1600000
set_option maxRecDepth 100000

/-- The program's heap as it is between two calls. -/
structure HAt (w : World) (p sb tb qb n m : Nat) (S T P : Nat → Nat) : Prop where
  h : PHp w p sb tb qb n m S T P
  fit : Fit n m T P
  ord : Ord S T m 1
theorem HAt.drewN {w : World} {p sb tb qb n m : Nat} {S T P : Nat → Nat} (h : HAt w p sb tb qb n m S T P) (k : Nat) : HAt (w.drewN k) p sb tb qb n m S T P := ⟨h.h.drewN k, h.fit, h.ord⟩
theorem bump_no {W : World} {p sb tb qb n m : Nat} {S T P : Nat → Nat} (h : HAt W p sb tb qb n m S T P) {v : Int} (hv : isV n v = false) (y : Nat) : Calls Try.prog 18 #[.pointer (some ⟨p, 0, none⟩), .int .i64 v, .float .f64 y] W fun e w => e = .returned (.int .i64 2) ∧ w = W := by
  have HN := Lib.hid (isone_any h.h.c1)
  have HT := Lib.hid (isvar_any h.h v)
  rw [hv] at HT
  clear h hv
  go_enter Try.func18, Try.ntmps18
  go_wp2_with fail
  refine HN.out.mono ?_
  rintro e w ⟨rfl, rfl⟩
  go_wp2_with fail
  refine HT.out.mono ?_
  rintro e w ⟨rfl, rfl⟩
  go_wp2_with fail
  go_ret
  exact ⟨rfl, rfl⟩
/-- What Bump has done. -/
def BumpF (W : World) (p sb tb qb n m : Nat) (S P : Nat → Nat) (v y : Nat) (e : Ending) (w : World) : Prop :=
  e = .returned (.int .i64 0) ∧ ∃ (r : Nat) (T Q : Nat → Nat), mayBe (FloatKind.f64.format.add (S v) y) r ∧ HAt w p sb tb qb n m (upd S v r) T Q ∧ SameIn P Q ∧ Only [p, sb, tb, qb] W w
/-- A sum of scores, drawn where it is none. -/
theorem sum_run (b y : Nat) (W : World) : ∃ (r k : Nat), mayBe (FloatKind.f64.format.add b y) r ∧ (binOp .add 32 (.float .f64 b) (.float .f64 y)).run Try.prog W = .ok (.float .f64 r) (W.drewN k) := by
  cases h9 : FloatKind.f64.format.add b y with
  | some r => exact ⟨r, 0, .inl rfl, run_float_arith W .add _ .f64 b y r h9⟩
  | none =>
    refine ⟨(Question.nanBits .f64 b y).cut (W.tape W.drawn (.nanBits .f64 b y)), 1, .inr ⟨rfl, nan_key _ _ _⟩, ?_⟩
    simp [binOp, Op.floatArith, h9, Question.forced]
    rfl
theorem prod_run (b y : Nat) (W : World) : ∃ (r k : Nat), mayBe (FloatKind.f64.format.mul b y) r ∧ (binOp .mul 32 (.float .f64 b) (.float .f64 y)).run Try.prog W = .ok (.float .f64 r) (W.drewN k) := by
  cases h9 : FloatKind.f64.format.mul b y with
  | some r => exact ⟨r, 0, .inl rfl, run_float_arith W .mul _ .f64 b y r h9⟩
  | none =>
    refine ⟨(Question.nanBits .f64 b y).cut (W.tape W.drawn (.nanBits .f64 b y)), 1, .inr ⟨rfl, nan_key _ _ _⟩, ?_⟩
    simp [binOp, Op.floatArith, h9, Question.forced]
    rfl
theorem bump_yes {W : World} {p sb tb qb n m : Nat} {S T P : Nat → Nat} (h : HAt W p sb tb qb n m S T P) {v : Nat} (h1 : 1 ≤ v) (h2 : v ≤ n) (y : Nat) : Calls Try.prog 18 #[.pointer (some ⟨p, 0, none⟩), .int .i64 ((v : Nat) : Int), .float .f64 y] W (BumpF W p sb tb qb n m S P v y) := by
  have HN := Lib.hid (isone_any h.h.c1)
  have HT := Lib.hid (isvar_any h.h ((v : Nat) : Int))
  rw [isV_of h1 h2] at HT
  have c0 := h.h.c0
  have hs := h.h.s v h2
  have fs := h.h.fs v
  have hle := h.h.le
  have v0 : (0 : Int) ≤ ((v : Nat) : Int) := by omega
  have v1 : ((v : Nat) : Int) < ((n : Nat) : Int) + 1 := by omega
  have hst := store_float
  obtain ⟨r, k, hm, hrun⟩ := sum_run (S v) y W
  have HM := Lib.hid hm
  have HH := Lib.hid h
  have h3 := (h.h.drewN k).setS (i := v) (x := r) h2
  have c2 := h3.c2
  have hq := h3.q v h2
  have HHAS := Lib.hid (has_any h3 ((v : Nat) : Int))
  have H3 := Lib.hid h3
  have hin : inF n P ((v : Nat) : Int) = decide (P v ≠ 0) := by
    unfold inF
    rw [isV_of h1 h2, Int.toNat_natCast]; rfl
  rw [hin] at HHAS
  clear h hm h3 hin
  obtain ⟨b, hb⟩ : ∃ b, b = S v := ⟨_, rfl⟩
  rw [← hb] at hs hrun
  by_cases hp : P v = 0
  · rw [show decide (P v ≠ 0) = false from decide_eq_false (by omega)] at HHAS
    have HP := Lib.hid hp
    clear hp hb hq
    go_enter Try.func18, Try.ntmps18
    go_wp2_with fail
    refine HN.out.mono ?_
    rintro e w ⟨rfl, rfl⟩
    go_wp2_with fail
    refine HT.out.mono ?_
    rintro e w ⟨rfl, rfl⟩
    go_wp2_with fail
    refine HHAS.out.mono ?_
    rintro e w ⟨rfl, rfl⟩
    go_wp2_with fail
    go_ret
    exact ⟨rfl, r, T, P, HM.out, ⟨H3.out, HH.out.fit, HH.out.ord.out HH.out.fit h1 h2 HP.out⟩, SameIn.refl _, ((Only.refl _ _).drewN k).set (by simp) _⟩
  · rw [show decide (P v ≠ 0) = true from decide_eq_true hp] at HHAS
    have hi1 := (HH.out.fit.p v h1 h2).1
    have hi2 := (HH.out.fit.p v h1 h2).2.resolve_left hp
    obtain ⟨i, hi⟩ : ∃ i, i = P v := ⟨_, rfl⟩
    rw [← hi] at hq hi1 hi2 hp
    have HR := Lib.hid (rise_any (c := False) H3.out (i := i) (v := v) (by omega) hi1 hi2 h2 (by rw [upd_self hi.symm]; exact HH.out.fit) (by rw [← hi2]; exact HH.out.ord.up HH.out.fit (by omega) hi1))
    rw [upd_self hi.symm] at HR
    clear hi hb hi1 hi2 hp
    go_enter Try.func18, Try.ntmps18
    go_wp2_with fail
    refine HN.out.mono ?_
    rintro e w ⟨rfl, rfl⟩
    go_wp2_with fail
    refine HT.out.mono ?_
    rintro e w ⟨rfl, rfl⟩
    go_wp2_with fail
    refine HHAS.out.mono ?_
    rintro e w ⟨rfl, rfl⟩
    go_wp2_with fail
    refine HR.out.mono ?_
    rintro e w ⟨rfl, i2, T2, Q2, g, gf, gd, -, j1, j2, gt, gs, go⟩
    have d2 := g.c2
    have dq := g.q v h2
    have hpl : Q2 v = i2 := by rw [← gt]; exact (gf.t i2 j1 j2).2.2
    rw [hpl] at dq
    have HSK := Lib.hid (sink_any g (i := i2) (v := v) (lo := 1) (Nat.le_refl _) j1 j2 gt h2 (by rw [upd_self hpl]; exact gf) gd)
    rw [upd_self hpl] at HSK
    have GS := Lib.hid gs
    have GO := Lib.hid go
    clear g gf gd gt gs go hpl
    go_wp2_with fail
    refine HSK.out.mono ?_
    rintro e w ⟨rfl, T3, Q3, g, gf, gd, gs, go⟩
    have G3 : Hid (HAt w p sb tb qb n m (upd S v r) T3 Q3 ∧ SameIn Q2 Q3 ∧ Only [p, sb, tb, qb] _ w) := Lib.hid ⟨⟨g, gf, gd⟩, gs, go⟩
    clear g gf gd gs go
    go_wp2_with fail
    go_ret
    exact ⟨rfl, r, T3, Q3, HM.out, G3.out.1, GS.out.trans G3.out.2.1, ((((Only.refl _ _).drewN k).set (by simp) _).trans GO.out).trans G3.out.2.2⟩
end Hp
end Go.Proofs.Ytdajnmlpghgeeaa
