/-
  The program's heap: Pop.
-/
import Derived.Test.YtdajnmlpghgeeaaHpBump
namespace Go.Proofs.Ytdajnmlpghgeeaa
open Go.RowKit
namespace Hp
set_option maxHeartbeats 1600000
set_option maxRecDepth 100000

theorem pop_none {W : World} {p sb tb qb n : Nat} {S T P : Nat → Nat} (h : HAt W p sb tb qb n 0 S T P) : Calls Try.prog 20 #[.pointer (some ⟨p, 0, none⟩)] W fun e w => e = .returned (.tuple #[.int .i64 0, .int .i64 6]) ∧ w = W := by
  have HN := Lib.hid (isone_any h.h.c1)
  have HL := Lib.hid (len_any h.h)
  clear h
  go_enter Try.func20, Try.ntmps20
  go_wp2_with fail
  refine HN.out.mono ?_
  rintro e W ⟨rfl, rfl⟩
  go_wp2_with fail
  refine HL.out.mono ?_
  rintro e W ⟨rfl, rfl⟩
  go_wp2_with fail
  go_ret2
  exact ⟨rfl, rfl⟩
/-- What Pop has done. -/
def PopF (W : World) (p sb tb qb n m : Nat) (S P : Nat → Nat) (v : Nat) (e : Ending) (w : World) : Prop :=
  e = .returned (.tuple #[.int .i64 ((v : Nat) : Int), .int .i64 0]) ∧ ∃ T Q : Nat → Nat, HAt w p sb tb qb n m S T Q ∧ Q v = 0 ∧ (∀ u, 1 ≤ u → u ≤ n → u ≠ v → (P u = 0 ↔ Q u = 0)) ∧ Only [p, sb, tb, qb] W w
theorem pop_yes {W : World} {p sb tb qb n m : Nat} {S T P : Nat → Nat} (h : HAt W p sb tb qb n (m + 1) S T P) : Calls Try.prog 20 #[.pointer (some ⟨p, 0, none⟩)] W (PopF W p sb tb qb n m S P (T 1)) := by
  have HN := Lib.hid (isone_any h.h.c1)
  have HL := Lib.hid (len_any h.h)
  have hle := h.h.le
  have c1 := h.h.c1
  have t1 := h.h.t 1 (by omega)
  have tl := h.h.t (m + 1) (by omega)
  have hx := (h.fit.t 1 (by omega) (by omega)).2.1
  have hx1 := (h.fit.t 1 (by omega) (by omega)).1
  have hy := (h.fit.t (m + 1) (by omega) (by omega)).2.1
  have m0 : (0 : Int) ≤ ((m : Nat) : Int) := by omega
  have m1 : (((m : Nat) : Int) + 1 == 0) = false := by
    rw [beq_eq_false_iff_ne]; omega
  have HS := Lib.hid (set_any h.h (i := 1) (by omega) hy)
  have HFP := Lib.hid h.fit.pop
  have HOP := Lib.hid (h.ord.pop (x := T (m + 1)))
  have HSM : Hid (∀ Q : Nat → Nat, SameIn (upd (upd P (T (m + 1)) 1) (T 1) 0) Q → Q (T 1) = 0 ∧ ∀ u, 1 ≤ u → u ≤ n → u ≠ T 1 → (P u = 0 ↔ Q u = 0)) := Lib.hid (fun Q hQ => by
    refine ⟨(hQ _).1 (upd_at _ _ _), fun u _ _ hu => ?_⟩
    rw [← hQ u, upd_ne hu]
    by_cases e : u = T (m + 1)
    · subst e
      rw [upd_at, (h.fit.t (m + 1) (by omega) (by omega)).2.2]; omega
    · rw [upd_ne e])
  have HU : Hid (upd T 1 (T (m + 1)) 1 = T (m + 1)) := Lib.hid (upd_at _ _ _)
  have HV : 1 ≤ m → upd (upd P (T (m + 1)) 1) (T 1) 0 (T (m + 1)) = 1 := fun hm => by
    rw [upd_ne (h.fit.inj (by omega) (by omega) (by omega) (by omega) (by omega)), upd_at]
  have HVV := Lib.hid HV
  clear HV h
  generalize T (m + 1) = y at *
  generalize T 1 = x at *
  go_enter Try.func20, Try.ntmps20
  go_wp2_with fail
  refine HN.out.mono ?_
  rintro e W ⟨rfl, rfl⟩
  go_wp2_with fail
  refine HL.out.mono ?_
  rintro e W ⟨rfl, rfl⟩
  go_wp2_with fail
  refine HS.out.mono ?_
  rintro e w ⟨rfl, g, go⟩
  have q2 := g.c2
  have qv := g.q x hx
  have qf := g.fq x
  have g2 : PHp (w.setCell ⟨qb, x, none⟩ (.int .i64 0)) p sb tb qb n (m + 1) S (upd T 1 y) (upd (upd P y 1) x 0) := g.setQ (i := x) (x := 0) hx
  have b1 := g2.c1
  have bf := g2.fp 1
  have G3 := Lib.hid (g2.setM (k := m) (by omega))
  have GO := Lib.hid go
  have x0 : (0 : Int) ≤ ((x : Nat) : Int) := by omega
  have x1 : ((x : Nat) : Int) < ((n : Nat) : Int) + 1 := by omega
  clear g g2 go
  by_cases hm : 1 ≤ m
  · have HSK := Lib.hid (sink_any G3.out (i := 1) (v := y) (lo := 1) (Nat.le_refl _) (Nat.le_refl _) hm HU.out hy (by rw [upd_self (HVV.out hm)]; exact HFP.out) HOP.out)
    rw [upd_self (HVV.out hm)] at HSK
    have d1 : decide (1 < ((m : Nat) : Int) + 1) = true := decide_eq_true (by omega)
    have d2 : 1 < ((m : Nat) : Int) + 1 := by omega
    have d3 : decide (0 < ((m : Nat) : Int)) = true := decide_eq_true (by omega)
    go_wp2_with fail
    refine HSK.out.mono ?_
    rintro e w ⟨rfl, T3, Q3, g, gf, gd, gs, go⟩
    have G4 : Hid (HAt w p sb tb qb n m S T3 Q3 ∧ (Q3 x = 0 ∧ ∀ u, 1 ≤ u → u ≤ n → u ≠ x → (P u = 0 ↔ Q3 u = 0))) := Lib.hid ⟨⟨g, gf, gd⟩, HSM.out _ gs⟩
    have GG := Lib.hid go
    clear g gf gd gs go
    go_wp2_with fail
    go_ret2
    exact ⟨rfl, T3, Q3, G4.out.1, G4.out.2.1, G4.out.2.2, (((GO.out).set (by simp) _).set (by simp) _).trans GG.out⟩
  · have d1 : decide (1 < ((m : Nat) : Int) + 1) = false := decide_eq_false (by omega)
    have d2 : ¬ 1 < ((m : Nat) : Int) + 1 := by omega
    have d3 : decide (0 < ((m : Nat) : Int)) = false := decide_eq_false (by omega)
    go_wp2_with fail
    go_ret2
    exact ⟨rfl, _, _, ⟨G3.out, HFP.out, ord_none (by omega)⟩, (HSM.out _ (SameIn.refl _)).1, (HSM.out _ (SameIn.refl _)).2, ((GO.out).set (by simp) _).set (by simp) _⟩
end Hp
end Go.Proofs.Ytdajnmlpghgeeaa
