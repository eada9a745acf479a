/-
  The program's heap: Scale.
-/
import Derived.Test.YtdajnmlpghgeeaaHpBump
namespace Go.Proofs.Ytdajnmlpghgeeaa
open Go.RowKit
namespace Hp
set_option maxHeartbeats 1600000
set_option maxRecDepth 100000

/-- The scores below k scaled. -/
def ScaledF (n : Nat) (S : Nat → Nat) (y k : Nat) (U : Nat → Nat) : Prop := ∀ j, j ≤ n → if 1 ≤ j ∧ j < k then mayBe (FloatKind.f64.format.mul (S j) y) (U j) else U j = S j
theorem ScaledF.next {n : Nat} {S U : Nat → Nat} {y k r : Nat} (h : ScaledF n S y k U) (h1 : 1 ≤ k) (hk : k ≤ n) (hr : mayBe (FloatKind.f64.format.mul (U k) y) r) : ScaledF n S y (k + 1) (upd U k r) := by
  intro j hj
  by_cases e : j = k
  · subst e
    have := h j hj
    rw [if_neg (by omega)] at this
    rw [if_pos ⟨h1, by omega⟩, upd_at, ← this]; exact hr
  · rw [upd_ne e]
    have := h j hj
    by_cases c : 1 ≤ j ∧ j < k
    · rw [if_pos ⟨c.1, by omega⟩]; rw [if_pos c] at this; exact this
    · rw [if_neg (by omega)]; rw [if_neg c] at this; exact this
/-- What Scale has done. -/
def ScaleF (W : World) (p sb tb qb n m : Nat) (S P : Nat → Nat) (y : Nat) (e : Ending) (w : World) : Prop :=
  e = .returned (.int .i64 0) ∧ ∃ U T Q : Nat → Nat, ScaledF n S y (n + 1) U ∧ HAt w p sb tb qb n m U T Q ∧ SameIn P Q ∧ Only [p, sb, tb, qb] W w
theorem scale_any {W : World} {p sb tb qb n m : Nat} {S T P : Nat → Nat} (h : HAt W p sb tb qb n m S T P) (y : Nat) : Calls Try.prog 19 #[.pointer (some ⟨p, 0, none⟩), .float .f64 y] W (ScaleF W p sb tb qb n m S P y) := by
  have HN := Lib.hid (isone_any h.h.c1)
  have hle := h.h.le
  have hst := store_float
  have HH := Lib.hid h
  clear h
  go_enter Try.func19, Try.ntmps19
  go_wp2_with fail
  refine HN.out.mono ?_
  rintro e W ⟨rfl, rfl⟩
  go_wp2_with fail
  go_loopg [5] n (fun gk v5 wr => ∃ (k : Nat) (U : Nat → Nat), v5 = .int .i64 ((k : Nat) : Int) ∧ k + gk = n + 1 ∧ 1 ≤ k ∧ Hid (ScaledF n S y k U ∧ PHp wr p sb tb qb n m U T P ∧ Only [p, sb, tb, qb] W wr))
  case atStart => exact ⟨1, S, rfl, by omega, by omega, Lib.hid ⟨fun j hj => by rw [if_neg (by omega)], HH.out.h, Only.refl _ _⟩⟩
  case round =>
    obtain ⟨k, U, rfl, hkg, h1, HR⟩ := hrel
    have HK := Lib.hid hkg
    clear hkg
    have k0 : (0 : Int) ≤ ((k : Nat) : Int) := by omega
    have c0 := HR.out.2.1.c0
    by_cases hlt : k ≤ n
    · have d1 : decide (((k : Nat) : Int) < ((n : Nat) : Int) + 1) = true := decide_eq_true (by omega)
      have d2 : ((k : Nat) : Int) < ((n : Nat) : Int) + 1 := by omega
      have hs := HR.out.2.1.s k hlt
      have fs := HR.out.2.1.fs k
      have s1 := step_i (j := k) (by omega)
      obtain ⟨r, q, hm, hrun⟩ := prod_run (U k) y wr
      have HM := Lib.hid hm
      clear hm
      obtain ⟨b, hb⟩ : ∃ b, b = U k := ⟨_, rfl⟩
      rw [← hb] at hs hrun
      clear hb
      go_wp2_with fail
      go_roundg (gk - 1)
      case measure => have := HK.out; omega
      case rel => exact ⟨k + 1, upd U k r, rfl, by have := HK.out; omega, by omega, Lib.hid ⟨HR.out.1.next h1 hlt HM.out, (HR.out.2.1.drewN q).setS hlt, (HR.out.2.2.drewN q).set (by simp) _⟩⟩
    · have d1 : decide (((k : Nat) : Int) < ((n : Nat) : Int) + 1) = false := decide_eq_false (by omega)
      have d2 : ¬ ((k : Nat) : Int) < ((n : Nat) : Int) + 1 := by omega
      obtain rfl : k = n + 1 := by have := HK.out; omega
      have HLN := Lib.hid (len_any HR.out.2.1)
      have m0 : (0 : Int) ≤ ((m : Nat) : Int) := by omega
      go_wp2_with fail
      refine HLN.out.mono ?_
      rintro e wr ⟨rfl, rfl⟩
      obtain ⟨wA, hwA⟩ : ∃ wA, wA = wr := ⟨_, rfl⟩
      subst hwA
      obtain ⟨gA, hgA⟩ : ∃ gA, gA = gk := ⟨_, rfl⟩
      subst hgA
      go_wp2_with fail
      go_loopg [6] (m / 2) (fun gk v6 wr => ∃ (i : Nat) (T2 Q2 : Nat → Nat), v6 = .int .i64 ((i : Nat) : Int) ∧ i = gk ∧ i ≤ m ∧ Hid (PHp wr p sb tb qb n m U T2 Q2 ∧ Fit n m T2 Q2 ∧ Ord U T2 m (i + 1) ∧ SameIn P Q2 ∧ Only [p, sb, tb, qb] W wr))
      case atStart => exact ⟨m / 2, T, P, by go_num, rfl, by omega, Lib.hid ⟨HR.out.2.1, HH.out.fit, ord_none (by omega), SameIn.refl _, HR.out.2.2⟩⟩
      case round =>
        obtain ⟨i, T2, Q2, rfl, rfl, him, HG⟩ := hrel
        have i0 : (0 : Int) ≤ ((i : Nat) : Int) := by omega
        by_cases hi : 1 ≤ i
        · have d3 : decide (0 < ((i : Nat) : Int)) = true := decide_eq_true (by omega)
          have d4 : 0 < ((i : Nat) : Int) := by omega
          have s2 : wrap64 (((i : Nat) : Int) - 1) = ((i : Nat) : Int) - 1 := IntWalk.wrap64_in _ (by omega)
          have hpl := (HG.out.2.1.t i hi him).2.2
          have HSK := Lib.hid (sink_any HG.out.1 (i := i) (v := T2 i) (lo := i) hi (Nat.le_refl _) him rfl (HG.out.2.1.t i hi him).2.1 (by rw [upd_self hpl]; exact HG.out.2.1) (HG.out.2.2.1.dn hi))
          rw [upd_self hpl] at HSK
          clear hpl
          go_wp2_with fail
          refine HSK.out.mono ?_
          rintro e w ⟨rfl, T3, Q3, g, gf, gd, gs, go⟩
          have G3 : Hid (PHp w p sb tb qb n m U T3 Q3 ∧ Fit n m T3 Q3 ∧ Ord U T3 m i ∧ SameIn Q2 Q3 ∧ Only [p, sb, tb, qb] wr w) := Lib.hid ⟨g, gf, gd, gs, go⟩
          clear g gf gd gs go
          go_wp2_with fail
          go_roundg (i - 1)
          case measure => omega
          case rel => exact ⟨i - 1, T3, Q3, by go_num, rfl, by omega, Lib.hid ⟨G3.out.1, G3.out.2.1, by rw [show i - 1 + 1 = i by omega]; exact G3.out.2.2.1, HG.out.2.2.2.1.trans G3.out.2.2.2.1, HG.out.2.2.2.2.trans G3.out.2.2.2.2⟩⟩
        · have d3 : decide (0 < ((i : Nat) : Int)) = false := decide_eq_false (by omega)
          have d4 : ¬ 0 < ((i : Nat) : Int) := by omega
          obtain rfl : i = 0 := by omega
          go_wp2_with fail
          go_ret
          exact ⟨rfl, U, T2, Q2, HR.out.1, ⟨HG.out.1, HG.out.2.1, HG.out.2.2.1⟩, HG.out.2.2.2.1, HG.out.2.2.2.2⟩
end Hp
end Go.Proofs.Ytdajnmlpghgeeaa
