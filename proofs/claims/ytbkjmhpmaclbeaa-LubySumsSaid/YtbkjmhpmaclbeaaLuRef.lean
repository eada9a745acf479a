/-
  What the document's functions answer.
-/
import Derived.Test.YtbkjmhpmaclbeaaChecked
import Derived.Test.YtbkjmhpmaclbeaaLuMath
import Derived.Deep.LoopGhost
import Derived.BigQuiet
import Derived.Deep.QuietTactic
import Derived.BigGuard
import Derived.IntWalk
import Derived.Lib.Hide
import Derived.Lib.Walk
namespace Go.Proofs.Ytbkjmhpmaclbeaa
open Go.RowKit
namespace Lu
set_option maxHeartbeats 1600000
set_option maxRecDepth 100000

theorem pow_lt {k : Nat} (h : k ≤ 62) : 2 ^ k ≤ 4611686018427387904 := by
  have := Nat.pow_le_pow_right (n := 2) (by omega) h
  simpa using this
theorem rpower_any {k : Nat} (h : k ≤ 61) (W : World) : Calls Try.prog 15 #[.int .i64 ((k : Nat) : Int)] W fun e w => e = .returned (.int .i64 ((tw k : Nat) : Int)) ∧ W = w := by
  have hk0 : (0 : Int) ≤ ((k : Nat) : Int) := by omega
  go_enter Try.func15, Try.ntmps15
  go_wp2_with fail
  go_loopg [3, 4] k (fun gk v3 v4 wr => ∃ i p : Nat, v3 = .int .i64 ((p : Nat) : Int) ∧ v4 = .int .i64 ((i : Nat) : Int) ∧ i + gk = k ∧ Hid (p = tw i) ∧ W = wr)
  case atStart => exact ⟨0, 1, rfl, rfl, by omega, Lib.hid rfl, rfl⟩
  case round =>
    obtain ⟨i, p, rfl, rfl, hg, HP, rfl⟩ := hrel
    have HG := Lib.hid hg
    have i0 : (0 : Int) ≤ ((i : Nat) : Int) := by omega
    by_cases hlt : i < k
    · have g1 : decide (((i : Nat) : Int) < ((k : Nat) : Int)) = true := decide_eq_true (by omega)
      have g2 : ((i : Nat) : Int) < ((k : Nat) : Int) := by omega
      have hp : p ≤ 4611686018427387904 := by rw [HP.out]; exact pow_lt (by omega)
      have s1 : wrap64 (((i : Nat) : Int) + 1) = ((i : Nat) : Int) + 1 := IntWalk.wrap64_in _ (by omega)
      have hp2 : 2 * p ≤ 4611686018427387904 := by rw [HP.out]; unfold tw; rw [Nat.mul_comm, ← Nat.pow_succ]; exact pow_lt (by omega)
      have s2 : wrap64 (2 * ((p : Nat) : Int)) = 2 * ((p : Nat) : Int) := IntWalk.wrap64_in _ (by omega)
      clear hg
      go_wp2_with fail
      go_roundg (gk - 1)
      case measure => have := HG.out; omega
      case rel => exact ⟨i + 1, 2 * p, by go_num, rfl, by have := HG.out; omega, Lib.hid (by rw [HP.out]; unfold tw; rw [Nat.pow_succ]; omega), rfl⟩
    · have g1 : decide (((i : Nat) : Int) < ((k : Nat) : Int)) = false := decide_eq_false (by omega)
      have g2 : ¬ ((i : Nat) : Int) < ((k : Nat) : Int) := by omega
      obtain rfl : i = k := by omega
      clear hg
      go_wp2_with fail
      go_ret
      exact ⟨by rw [HP.out]; rfl, rfl⟩
theorem rluby_no {n : Int} (h : n < 1 ∨ 1099511627776 < n) (W : World) : Calls Try.prog 8 #[.int .i64 n] W fun e w => e = .returned (.tuple #[.int .i64 0, .int .i64 2]) ∧ W = w := by
  by_cases h0 : n < 1
  · have e0 : decide (n < 1) = true := decide_eq_true h0
    clear h
    go_enter Try.func8, Try.ntmps8
    go_wp2_with fail
    go_ret2
    exact ⟨rfl, rfl⟩
  · have e0 : decide (n < 1) = false := decide_eq_false h0
    have h1 : 1099511627776 < n := h.resolve_left h0
    have HP := Lib.hid (fun w => rpower_any (k := 40) (by omega) w)
    clear h
    go_enter Try.func8, Try.ntmps8
    go_wp2_with fail
    refine (HP.out _).mono ?_
    rintro e w ⟨rfl, rfl⟩
    have e1 : decide (((tw 40 : Nat) : Int) < n) = true := decide_eq_true (by rw [show tw 40 = 1099511627776 from rfl]; omega)
    have e2 : ((tw 40 : Nat) : Int) < n := by rw [show tw 40 = 1099511627776 from rfl]; omega
    go_wp2_with fail
    go_ret2
    exact ⟨rfl, rfl⟩
theorem tw_40 : tw 40 = 1099511627776 := rfl
theorem rluby_yes : ∀ (f n : Nat) (W : World), n ≤ f → 1 ≤ n → n ≤ 1099511627776 → Calls Try.prog 8 #[.int .i64 ((n : Nat) : Int)] W fun e w => e = .returned (.tuple #[.int .i64 ((lub n : Nat) : Int), .int .i64 0]) ∧ W = w
  | 0, n, W, h, h1, _ => by omega
  | f + 1, n, W, hf, h1, h2 => by
    have n0 : (0 : Int) ≤ ((n : Nat) : Int) := by omega
    have e0 : decide (((n : Nat) : Int) < 1) = false := decide_eq_false (by omega)
    have e1 : decide (((tw 40 : Nat) : Int) < ((n : Nat) : Int)) = false := decide_eq_false (by rw [tw_40]; omega)
    have e2 : ¬ ((tw 40 : Nat) : Int) < ((n : Nat) : Int) := by rw [tw_40]; omega
    have e3 : decide (tw 40 < n) = false := decide_eq_false (by rw [tw_40]; omega)
    have HP := Lib.hid (fun (k : Nat) (w : World) (h : k ≤ 61) => rpower_any h w)
    have HK1 := Lib.hid (k_pos h1)
    have HKL := Lib.hid (k_le (n := n))
    have HKT := Lib.hid (k_lt (n := n))
    have HK40 : Hid (kOf n ≤ 40) := Lib.hid (by
      by_cases c : kOf n ≤ 40
      · exact c
      · have a := Nat.pow_le_pow_right (n := 2) (by omega) (show 41 ≤ kOf n by omega)
        have b := k_le (n := n)
        have : (2 : Nat) ^ 41 = 2199023255552 := rfl
        omega)
    have HIH := Lib.hid (fun (m : Nat) (w : World) => rluby_yes f m w)
    go_enter Try.func8, Try.ntmps8
    go_wp2_with fail
    refine (HP.out 40 _ (by omega)).mono ?_
    rintro e w ⟨rfl, rfl⟩
    go_wp2_with fail
    go_loopg [4] (kOf n) (fun gk v4 wr => ∃ i : Nat, v4 = .int .i64 ((i : Nat) : Int) ∧ i + gk = kOf n ∧ W = wr)
    case atStart => exact ⟨0, rfl, by omega, rfl⟩
    case round =>
      obtain ⟨i, rfl, hg, rfl⟩ := hrel
      have HG := Lib.hid hg
      have i0 : (0 : Int) ≤ ((i : Nat) : Int) := by omega
      have hi40 : i ≤ 40 := by have := HK40.out; omega
      have s1 : wrap64 (((i : Nat) : Int) + 1) = ((i : Nat) : Int) + 1 := IntWalk.wrap64_in _ (by omega)
      have hpb : tw (i + 1) ≤ 2199023255552 := by
        unfold tw
        have a := Nat.pow_le_pow_right (n := 2) (by omega) (show i + 1 ≤ 41 by omega)
        exact a
      have hpp : 1 ≤ tw (i + 1) := Nat.two_pow_pos _
      have s2 : wrap64 (((tw (i + 1) : Nat) : Int) - 1) = ((tw (i + 1) : Nat) : Int) - 1 := IntWalk.wrap64_in _ (by omega)
      have HPI := Lib.hid (HP.out (i + 1) W (by omega))
      by_cases hlt : i < kOf n
      · have hle : tw (i + 1) ≤ n + 1 := by
          unfold tw
          exact Nat.le_trans (Nat.pow_le_pow_right (by omega) hlt) HKL.out
        have g1 : decide (((tw (i + 1) : Nat) : Int) - 1 ≤ ((n : Nat) : Int)) = true := decide_eq_true (by omega)
        have g2 : ((tw (i + 1) : Nat) : Int) - 1 ≤ ((n : Nat) : Int) := by omega
        obtain ⟨p, hp⟩ : ∃ p, p = tw (i + 1) := ⟨_, rfl⟩
        rw [← hp] at *
        have HLT := Lib.hid hlt
        clear hg hlt hp
        go_wp2_with fail
        refine HPI.out.mono ?_
        rintro e w ⟨rfl, rfl⟩
        go_wp2_with fail
        go_roundg (gk - 1)
        case measure => have := HG.out; have := HLT.out; omega
        case rel => exact ⟨i + 1, by go_num, by have := HG.out; have := HLT.out; omega, rfl⟩
      · obtain rfl : i = kOf n := by omega
        have hle : n + 1 < tw (kOf n + 1) := HKT.out
        have g1 : decide (((tw (kOf n + 1) : Nat) : Int) - 1 ≤ ((n : Nat) : Int)) = false := decide_eq_false (by omega)
        have g2 : ¬ ((tw (kOf n + 1) : Nat) : Int) - 1 ≤ ((n : Nat) : Int) := by omega
        have HPK := Lib.hid (HP.out (kOf n) W (by omega))
        have hk1 := HK1.out
        have HPM := Lib.hid (HP.out (kOf n - 1) W (by omega))
        rw [show ((kOf n - 1 : Nat) : Int) = ((kOf n : Nat) : Int) - 1 by omega] at HPM
        have hpk : tw (kOf n) ≤ n + 1 := HKL.out
        have hpk2 : 2 ≤ tw (kOf n) := two_le HK1.out
        have HTOP : Hid (2 ^ kOf n - 1 = n → lub n = tw (kOf n - 1)) := Lib.hid (fun e => lub_top h1 e)
        have HREST : Hid (2 ^ kOf n - 1 ≠ n → lub n = lub (n - (tw (kOf n) - 1))) := Lib.hid (fun e => lub_rest h1 e)
        have HTW : Hid (tw (kOf n) = 2 ^ kOf n) := Lib.hid rfl
        obtain ⟨p, hp⟩ : ∃ p, p = tw (kOf n + 1) := ⟨_, rfl⟩
        obtain ⟨r, hr⟩ : ∃ r, r = tw (kOf n) := ⟨_, rfl⟩
        obtain ⟨t, ht⟩ : ∃ t, t = tw (kOf n - 1) := ⟨_, rfl⟩
        obtain ⟨k, hk⟩ : ∃ k, k = kOf n := ⟨_, rfl⟩
        rw [← hp, ← hk] at HPI
        rw [← hp] at s2 hle hpp hpb g1 g2
        rw [← hr, ← hk] at HPK
        rw [← hr] at HREST HTW hpk hpk2
        rw [← ht, ← hk] at HPM
        rw [← ht] at HTOP
        rw [← hk] at HTOP HREST HTW s1 hk1 hi40 ⊢
        clear hg hlt hp hr ht hk
        by_cases he : r - 1 = n
        · have HL : Hid (lub n = t) := Lib.hid (HTOP.out (by rw [← HTW.out]; exact he))
          have g3 : (((r : Nat) : Int) - 1 == ((n : Nat) : Int)) = true := by rw [beq_iff_eq]; omega
          go_wp2_with fail
          refine HPI.out.mono ?_
          rintro e w ⟨rfl, rfl⟩
          go_wp2_with fail
          refine HPK.out.mono ?_
          rintro e w ⟨rfl, rfl⟩
          go_wp2_with fail
          refine HPM.out.mono ?_
          rintro e w ⟨rfl, rfl⟩
          go_wp2_with fail
          go_ret2
          exact ⟨by rw [HL.out]; rfl, rfl⟩
        · have HL : Hid (lub n = lub (n - (r - 1))) := Lib.hid (HREST.out (by rw [← HTW.out]; exact he))
          have g3 : (((r : Nat) : Int) - 1 == ((n : Nat) : Int)) = false := by rw [beq_eq_false_iff_ne]; omega
          have HI := Lib.hid (HIH.out (n - (r - 1)) W (by omega) (by omega) (by omega))
          rw [← HL.out, show ((n - (r - 1) : Nat) : Int) = ((n : Nat) : Int) - (((r : Nat) : Int) - 1) by omega] at HI
          clear he
          go_wp2_with fail
          refine HPI.out.mono ?_
          rintro e w ⟨rfl, rfl⟩
          go_wp2_with fail
          refine HPK.out.mono ?_
          rintro e w ⟨rfl, rfl⟩
          go_wp2_with fail
          refine HPK.out.mono ?_
          rintro e w ⟨rfl, rfl⟩
          go_wp2_with fail
          refine HI.out.mono ?_
          rintro e w ⟨rfl, rfl⟩
          go_wp2_with fail
          go_ret2
          exact ⟨rfl, rfl⟩
theorem rsum_no {n : Int} (h : n < 0 ∨ 1000000 < n) (W : World) : Calls Try.prog 13 #[.int .i64 n] W fun e w => e = .returned (.tuple #[.int .i64 0, .int .i64 2]) ∧ W = w := by
  by_cases h0 : n < 0
  · have e0 : decide (n < 0) = true := decide_eq_true h0
    clear h
    go_enter Try.func13, Try.ntmps13
    go_wp2_with fail
    go_ret2
    exact ⟨rfl, rfl⟩
  · have e0 : decide (n < 0) = false := decide_eq_false h0
    have h1 : 1000000 < n := h.resolve_left h0
    clear h
    go_enter Try.func13, Try.ntmps13
    go_wp2_with fail
    go_ret2
    exact ⟨rfl, rfl⟩
theorem rsum_yes {n : Nat} (h : n ≤ 1000000) (W : World) : Calls Try.prog 13 #[.int .i64 ((n : Nat) : Int)] W fun e w => e = .returned (.tuple #[.int .i64 ((sumL n : Nat) : Int), .int .i64 0]) ∧ W = w := by
  have n0 : (0 : Int) ≤ ((n : Nat) : Int) := by omega
  have e0 : decide (((n : Nat) : Int) < 0) = false := decide_eq_false (by omega)
  have e1 : decide (1000000 < ((n : Nat) : Int)) = false := decide_eq_false (by omega)
  go_enter Try.func13, Try.ntmps13
  go_wp2_with fail
  go_loopg [4, 5] n (fun gk v4 v5 wr => ∃ i s : Nat, v4 = .int .i64 ((s : Nat) : Int) ∧ v5 = .int .i64 ((i : Nat) : Int) ∧ i + gk = n + 1 ∧ 1 ≤ i ∧ Hid (s = sumL (i - 1)) ∧ W = wr)
  case atStart => exact ⟨1, 0, rfl, rfl, by omega, by omega, Lib.hid rfl, rfl⟩
  case round =>
    obtain ⟨i, s, rfl, rfl, hg, hi1, HS, rfl⟩ := hrel
    have HG := Lib.hid hg
    have i0 : (0 : Int) ≤ ((i : Nat) : Int) := by omega
    by_cases hlt : i ≤ n
    · have g1 : decide (((i : Nat) : Int) ≤ ((n : Nat) : Int)) = true := decide_eq_true (by omega)
      have g2 : ((i : Nat) : Int) ≤ ((n : Nat) : Int) := by omega
      have hsl : s ≤ 1000001000000 := by
        have a := sumL_le (i - 1)
        have b : (i - 1) * (i - 1 + 1) ≤ 1000000 * 1000001 := Nat.mul_le_mul (by omega) (by omega)
        rw [HS.out]; omega
      have hll := lub_le hi1
      have HLB := Lib.hid (rluby_yes i i W (Nat.le_refl _) hi1 (by omega))
      have HNX : Hid (s + lub i = sumL (i + 1 - 1)) := Lib.hid (by
        obtain ⟨j, rfl⟩ : ∃ j, i = j + 1 := ⟨i - 1, by omega⟩
        rw [HS.out]; rfl)
      have s1 : wrap64 (((i : Nat) : Int) + 1) = ((i : Nat) : Int) + 1 := IntWalk.wrap64_in _ (by omega)
      obtain ⟨x, hx⟩ : ∃ x, x = lub i := ⟨_, rfl⟩
      rw [← hx] at HLB hll HNX
      clear hg hx
      go_wp2_with fail
      refine HLB.out.mono ?_
      rintro e w ⟨rfl, rfl⟩
      go_wp2_with fail
      go_roundg (gk - 1)
      case measure => have := HG.out; omega
      case rel => exact ⟨i + 1, s + x, by go_num, by go_num, by have := HG.out; omega, by omega, HNX, rfl⟩
    · have g1 : decide (((i : Nat) : Int) ≤ ((n : Nat) : Int)) = false := decide_eq_false (by omega)
      have g2 : ¬ ((i : Nat) : Int) ≤ ((n : Nat) : Int) := by omega
      have HE : Hid (s = sumL n) := Lib.hid (by rw [HS.out]; congr 1; omega)
      clear hg
      go_wp2_with fail
      go_ret2
      exact ⟨by rw [HE.out]; rfl, rfl⟩
end Lu
end Go.Proofs.Ytbkjmhpmaclbeaa
