/-
  The program's heap: which comes ahead, what is one, Has, Score, Len.
-/
import Derived.Test.YtdajnmlpghgeeaaHpMem
import Derived.WalkSpells
namespace Go.Proofs.Ytdajnmlpghgeeaa
open Go.RowKit
namespace Hp
set_option maxHeartbeats 1600000
set_option maxRecDepth 100000

theorem ahead_any {W : World} {p sb tb qb n m : Nat} {S T P : Nat → Nat} (h : PHp W p sb tb qb n m S T P) {v u : Nat} (hv : v ≤ n) (hu : u ≤ n) : Calls Try.prog 35 #[.pointer (some ⟨p, 0, none⟩), .int .i64 ((v : Nat) : Int), .int .i64 ((u : Nat) : Int)] W fun e w => e = .returned (.bool (aheadF S v u)) ∧ ∃ q, w = W.drewN q := by
  have c0 := h.c0
  have hs1 := h.s v hv
  have hs2 := h.s u hu
  have hle := h.le
  have v0 : (0 : Int) ≤ ((v : Nat) : Int) := by omega
  have v1 : ((v : Nat) : Int) < ((n : Nat) : Int) + 1 := by omega
  have u0 : (0 : Int) ≤ ((u : Nat) : Int) := by omega
  have u1 : ((u : Nat) : Int) < ((n : Nat) : Int) + 1 := by omega
  have HA := Lib.hid (fun w => above_any (S v) (S u) w)
  have HB := Lib.hid (fun w => above_any (S u) (S v) w)
  unfold aheadF
  clear h
  generalize S v = x at *
  generalize S u = y at *
  cases ha : aboveF x y with
  | true =>
    rw [ha] at HA
    clear ha
    go_enter Try.func35, Try.ntmps35
    go_wp2_with fail
    go_quiet (fail)
    go_wp2_with fail
    refine (HA.out _).mono ?_
    rintro e w ⟨rfl, rfl⟩
    go_wp2_with fail
    go_ret
    exact ⟨rfl, _, rfl⟩
  | false =>
    rw [ha] at HA
    clear ha
    by_cases hvu : v < u
    · have d1 : decide (((v : Nat) : Int) < ((u : Nat) : Int)) = true := decide_eq_true (by omega)
      have d2 : ((v : Nat) : Int) < ((u : Nat) : Int) := by omega
      rw [decide_eq_true hvu]
      cases hb : aboveF y x with
      | true =>
        rw [hb] at HB
        clear hb
        go_enter Try.func35, Try.ntmps35
        go_wp2_with fail
        go_quiet (fail)
        go_wp2_with fail
        refine (HA.out _).mono ?_
        rintro e w ⟨rfl, rfl⟩
        go_wp2_with fail
        refine (HB.out _).mono ?_
        rintro e w ⟨rfl, rfl⟩
        go_wp2_with fail
        go_ret
        exact ⟨rfl, _, rfl⟩
      | false =>
        rw [hb] at HB
        clear hb
        go_enter Try.func35, Try.ntmps35
        go_wp2_with fail
        go_quiet (fail)
        go_wp2_with fail
        refine (HA.out _).mono ?_
        rintro e w ⟨rfl, rfl⟩
        go_wp2_with fail
        refine (HB.out _).mono ?_
        rintro e w ⟨rfl, rfl⟩
        go_wp2_with fail
        go_ret
        exact ⟨rfl, _, rfl⟩
    · have d1 : decide (((v : Nat) : Int) < ((u : Nat) : Int)) = false := decide_eq_false (by omega)
      have d2 : ¬ ((v : Nat) : Int) < ((u : Nat) : Int) := by omega
      rw [decide_eq_false hvu]
      go_enter Try.func35, Try.ntmps35
      go_wp2_with fail
      go_quiet (fail)
      go_wp2_with fail
      refine (HA.out _).mono ?_
      rintro e w ⟨rfl, rfl⟩
      go_wp2_with fail
      go_ret
      exact ⟨by simp, _, rfl⟩
theorem isone_any {W : World} {p : Nat} {a : Addr} {k l : Nat} (h : W.cell? ⟨p, 1, none⟩ = some (.slice (some a) k l)) : Calls Try.prog 29 #[.pointer (some ⟨p, 0, none⟩)] W fun e w => e = .returned (.bool false) ∧ w = W := by
  have hn := fun w : World => Lib.run_eql_slice_nil (P := Try.prog) w 47 3 (some a) k l 0 0 Try.underlying47
  go_enter Try.func29, Try.ntmps29
  go_wp2_with fail
  go_ret
  exact ⟨rfl, rfl⟩
theorem isnone_nil (W : World) : Calls Try.prog 29 #[.pointer none] W fun e w => e = .returned (.bool true) ∧ w = W := by
  go_enter Try.func29, Try.ntmps29
  go_wp2_with fail
  go_ret
  exact ⟨rfl, rfl⟩
theorem isnone_zero {W : World} {p : Nat} (h : W.cell? ⟨p, 1, none⟩ = some (.slice none 0 0)) : Calls Try.prog 29 #[.pointer (some ⟨p, 0, none⟩)] W fun e w => e = .returned (.bool true) ∧ w = W := by
  have hn := fun w : World => Lib.run_eql_slice_nil (P := Try.prog) w 47 3 none 0 0 0 0 Try.underlying47
  go_enter Try.func29, Try.ntmps29
  go_wp2_with fail
  go_ret
  exact ⟨rfl, rfl⟩
/-- Is it one of n variables? -/
def isV (n : Nat) (v : Int) : Bool := decide (1 ≤ v) && decide (v ≤ (n : Int))
theorem isV_at {n : Nat} {v : Int} (h : isV n v = true) : ∃ k : Nat, v = ((k : Nat) : Int) ∧ 1 ≤ k ∧ k ≤ n := by
  unfold isV at h
  simp at h
  exact ⟨v.toNat, by omega, by omega, by omega⟩
theorem isV_of {n k : Nat} (h1 : 1 ≤ k) (h2 : k ≤ n) : isV n ((k : Nat) : Int) = true := by
  unfold isV
  simp; omega
theorem isvar_any {W : World} {p sb tb qb n m : Nat} {S T P : Nat → Nat} (h : PHp W p sb tb qb n m S T P) (v : Int) : Calls Try.prog 30 #[.pointer (some ⟨p, 0, none⟩), .int .i64 v] W fun e w => e = .returned (.bool (isV n v)) ∧ w = W := by
  have c0 := h.c0
  have hle := h.le
  have HN := Lib.hid (isone_any h.c1)
  unfold isV
  clear h
  by_cases h1 : 0 < v
  · have e1 : decide (0 < v) = true := decide_eq_true h1
    have e2 : decide (1 ≤ v) = true := decide_eq_true (by omega)
    rw [e2]
    by_cases h3 : v ≤ (n : Int)
    · have e3 : decide (v < (n : Int) + 1) = true := decide_eq_true (by omega)
      have e4 : v < (n : Int) + 1 := by omega
      rw [decide_eq_true h3]
      go_enter Try.func30, Try.ntmps30
      go_wp2_with fail
      refine HN.out.mono ?_
      rintro e w ⟨rfl, rfl⟩
      go_wp2_with fail
      go_ret
      exact ⟨rfl, rfl⟩
    · have e3 : decide (v < (n : Int) + 1) = false := decide_eq_false (by omega)
      have e4 : ¬ v < (n : Int) + 1 := by omega
      rw [decide_eq_false h3]
      go_enter Try.func30, Try.ntmps30
      go_wp2_with fail
      refine HN.out.mono ?_
      rintro e w ⟨rfl, rfl⟩
      go_wp2_with fail
      go_ret
      exact ⟨rfl, rfl⟩
  · have e1 : decide (0 < v) = false := decide_eq_false h1
    have e2 : decide (1 ≤ v) = false := decide_eq_false (by omega)
    rw [e2]
    go_enter Try.func30, Try.ntmps30
    go_wp2_with fail
    refine HN.out.mono ?_
    rintro e w ⟨rfl, rfl⟩
    go_wp2_with fail
    go_ret
    exact ⟨rfl, rfl⟩
def inF (n : Nat) (P : Nat → Nat) (v : Int) : Bool := isV n v && decide (P v.toNat ≠ 0)
theorem has_any {W : World} {p sb tb qb n m : Nat} {S T P : Nat → Nat} (h : PHp W p sb tb qb n m S T P) (v : Int) : Calls Try.prog 13 #[.pointer (some ⟨p, 0, none⟩), .int .i64 v] W fun e w => e = .returned (.bool (inF n P v)) ∧ w = W := by
  have HT := Lib.hid (isvar_any h v)
  unfold inF
  cases ht : isV n v with
  | false =>
    rw [ht] at HT
    clear h ht
    go_enter Try.func13, Try.ntmps13
    go_wp2_with fail
    refine HT.out.mono ?_
    rintro e w ⟨rfl, rfl⟩
    go_wp2_with fail
    go_ret
    exact ⟨rfl, rfl⟩
  | true =>
    obtain ⟨k, rfl, hk1, hk2⟩ := isV_at ht
    rw [ht] at HT
    have hq := h.q k hk2
    have c2 := h.c2
    have hle := h.le
    have k0 : (0 : Int) ≤ ((k : Nat) : Int) := by omega
    have k1 : ((k : Nat) : Int) < ((n : Nat) : Int) + 1 := by omega
    rw [Int.toNat_natCast]
    clear h ht
    generalize P k = x at *
    by_cases hx : x = 0
    · subst hx
      go_enter Try.func13, Try.ntmps13
      go_wp2_with fail
      refine HT.out.mono ?_
      rintro e w ⟨rfl, rfl⟩
      go_wp2_with fail
      go_ret
      exact ⟨rfl, rfl⟩
    · have x0 : (0 : Int) < ((x : Nat) : Int) := by omega
      rw [decide_eq_true hx]
      go_enter Try.func13, Try.ntmps13
      go_wp2_with fail
      refine HT.out.mono ?_
      rintro e w ⟨rfl, rfl⟩
      go_wp2_with fail
      go_ret
      exact ⟨by simp; omega, rfl⟩
def scF (n : Nat) (S : Nat → Nat) (v : Int) : Nat := if isV n v = true then S v.toNat else 0
theorem score_any {W : World} {p sb tb qb n m : Nat} {S T P : Nat → Nat} (h : PHp W p sb tb qb n m S T P) (v : Int) : Calls Try.prog 16 #[.pointer (some ⟨p, 0, none⟩), .int .i64 v] W fun e w => e = .returned (.float .f64 (scF n S v)) ∧ w = W := by
  have HT := Lib.hid (isvar_any h v)
  unfold scF
  cases ht : isV n v with
  | false =>
    rw [ht] at HT
    clear h ht
    go_enter Try.func16, Try.ntmps16
    go_wp2_with fail
    refine HT.out.mono ?_
    rintro e w ⟨rfl, rfl⟩
    go_wp2_with fail
    go_ret
    exact ⟨by simp, rfl⟩
  | true =>
    obtain ⟨k, rfl, hk1, hk2⟩ := isV_at ht
    rw [ht] at HT
    have hq := h.s k hk2
    have c0 := h.c0
    have hle := h.le
    have k0 : (0 : Int) ≤ ((k : Nat) : Int) := by omega
    have k1 : ((k : Nat) : Int) < ((n : Nat) : Int) + 1 := by omega
    rw [Int.toNat_natCast]
    clear h ht
    generalize S k = x at *
    go_enter Try.func16, Try.ntmps16
    go_wp2_with fail
    refine HT.out.mono ?_
    rintro e w ⟨rfl, rfl⟩
    go_wp2_with fail
    go_ret
    exact ⟨by simp, rfl⟩
theorem len_any {W : World} {p sb tb qb n m : Nat} {S T P : Nat → Nat} (h : PHp W p sb tb qb n m S T P) : Calls Try.prog 11 #[.pointer (some ⟨p, 0, none⟩)] W fun e w => e = .returned (.int .i64 ((m : Nat) : Int)) ∧ w = W := by
  have HN := Lib.hid (isone_any h.c1)
  have c1 := h.c1
  have hle := h.le
  clear h
  go_enter Try.func11, Try.ntmps11
  go_wp2_with fail
  refine HN.out.mono ?_
  rintro e w ⟨rfl, rfl⟩
  go_wp2_with fail
  go_ret
  exact ⟨by congr 2, rfl⟩
end Hp
end Go.Proofs.Ytdajnmlpghgeeaa
