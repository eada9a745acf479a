/-
  Plain facts: what shifts, orders and quotients by worths are, bit by bit and by signs.
-/
import Derived.Test.YtbemkaninedonaaBvMathF
namespace Go.Proofs.Ytbemkaninedonaa
open Go.RowKit
namespace Bv

theorem low_bit (w x k : Nat) (hk : k < w) : (low w x).testBit k = x.testBit k := by
  unfold low; rw [Nat.testBit_mod_two_pow]; simp [hk]
theorem mod64_bit (x k : Nat) (hk : k < 64) : (x % 18446744073709551616).testBit k = x.testBit k := by
  have : (18446744073709551616 : Nat) = 2 ^ 64 := by decide
  rw [this, Nat.testBit_mod_two_pow]; simp [hk]
theorem high_bit {w n k : Nat} (hn : n < 2 ^ w) (hk : w ≤ k) : n.testBit k = false :=
  Nat.testBit_lt_two_pow (Nat.lt_of_lt_of_le hn (Nat.pow_le_pow_right (by decide) hk))

theorem shl_bits {w v n m : Nat} (h2 : w ≤ 64) {k : Nat} (hk : k < w) :
    (low w (numB 15 w v n m)).testBit k = (decide (m ≤ k) && n.testBit (k - m)) := by
  rw [low_bit _ _ _ hk]
  show (n * 2 ^ min m 64 % 18446744073709551616).testBit k = _
  rw [mod64_bit _ _ (by omega), Nat.testBit_mul_two_pow]
  by_cases h : m ≤ k
  · rw [Nat.min_eq_left (by omega)]
  · have : ¬ min m 64 ≤ k := by omega
    simp [h, this]
theorem lshr_bits {w v n m : Nat} (h2 : w ≤ 64) (hn : n < 2 ^ w) {k : Nat} (hk : k < w) :
    (low w (numB 16 w v n m)).testBit k = (decide (m < w ∧ k + m < w) && n.testBit (k + m)) := by
  rw [low_bit _ _ _ hk]
  show (n / 2 ^ min m 64).testBit k = _
  rw [Nat.testBit_div_two_pow]
  by_cases h : k + m < w
  · rw [Nat.min_eq_left (by omega)]
    have : m < w := by omega
    simp [h, this]
  · have e : n.testBit (k + min m 64) = false := high_bit hn (by omega)
    simp [h, e]

theorem xor_low {i r : Nat} (h : r < 2 ^ i) : r ^^^ 2 ^ i = r + 2 ^ i := by
  have e : r ^^^ 2 ^ i = 2 ^ i ||| r := by
    apply Nat.eq_of_testBit_eq
    intro j
    rw [Nat.testBit_xor, Nat.testBit_or, Nat.testBit_two_pow]
    by_cases hj : i = j
    · subst hj
      have : r.testBit i = false := Nat.testBit_lt_two_pow h
      simp [this]
    · simp [hj]
  have e2 := Nat.two_pow_add_eq_or_of_lt h 1
  rw [Nat.mul_one] at e2
  rw [e, ← e2, Nat.add_comm]
theorem xor_top {w n : Nat} (h1 : 1 ≤ w) (hn : n < 2 ^ w) : n ^^^ 2 ^ (w - 1) = if 2 ^ (w - 1) ≤ n then n - 2 ^ (w - 1) else n + 2 ^ (w - 1) := by
  have hh := pow_half h1
  split
  · have hr : n - 2 ^ (w - 1) < 2 ^ (w - 1) := by omega
    have e := xor_low hr
    have e2 : n = n - 2 ^ (w - 1) + 2 ^ (w - 1) := by omega
    conv => lhs; rw [e2, ← e, Nat.xor_assoc, Nat.xor_self, Nat.xor_zero]
  · exact xor_low (by omega)
theorem slt_is {w n m : Nat} (h1 : 1 ≤ w) (hn : n < 2 ^ w) (hm : m < 2 ^ w) :
    decide (n ^^^ 2 ^ (w - 1) < m ^^^ 2 ^ (w - 1)) = (if decide (2 ^ (w - 1) ≤ n) = decide (2 ^ (w - 1) ≤ m) then decide (n < m) else decide (2 ^ (w - 1) ≤ n)) := by
  have hh := pow_half h1
  rw [xor_top h1 hn, xor_top h1 hm]
  by_cases a : 2 ^ (w - 1) ≤ n <;> by_cases b : 2 ^ (w - 1) ≤ m <;> simp [a, b] <;> omega

/-- Shifted down with the sign. -/
theorem ashr_low {w v n m : Nat} (h2 : w ≤ 64) : ((low w (numB 17 w v n m) : Nat) : Int) = (wo w n / 2 ^ min m 64) % ((2 ^ w : Nat) : Int) := by
  show ((low w ((wo w n / 2 ^ min m 64) % 18446744073709551616).toNat : Nat) : Int) = _
  exact low_int h2 _
theorem ashr_neg {w n s : Nat} (hn : n < 2 ^ w) (hs : s ≤ w) :
    (((n : Int) - ((2 ^ w : Nat) : Int)) / 2 ^ s) % ((2 ^ w : Nat) : Int) = (((2 ^ s - 1) * 2 ^ (w - s) + n / 2 ^ s : Nat) : Int) := by
  have hp := pow_pos' s
  have hq := pow_pos' (w - s)
  have hw : 2 ^ w = 2 ^ (w - s) * 2 ^ s := by rw [← Nat.pow_add]; congr 1; omega
  have hlt : n / 2 ^ s < 2 ^ (w - s) := by rw [Nat.div_lt_iff_lt_mul hp, ← hw]; exact hn
  have e1 : ((2 : Int) ^ s) = ((2 ^ s : Nat) : Int) := by simp
  rw [e1, hw]
  generalize 2 ^ s = a at *
  generalize 2 ^ (w - s) = b at *
  have e2 : ((n : Int) - ((b * a : Nat) : Int)) / (a : Int) = ((n / a : Nat) : Int) - (b : Int) := by
    rw [Int.natCast_mul, Int.sub_eq_add_neg, ← Int.neg_mul, Int.add_mul_ediv_right _ _ (by omega), Int.natCast_ediv]; omega
  rw [e2]
  clear e2
  generalize n / a = t at *
  have hb : (a - 1) * b + b = b * a := by
    rw [← Nat.succ_mul, Nat.mul_comm]; congr 1; omega
  have e3 : (t : Int) - (b : Int) + ((b * a : Nat) : Int) = (((a - 1) * b + t : Nat) : Int) := by
    rw [← hb]
    generalize (a - 1) * b = z
    omega
  rw [← Int.add_emod_right, e3]
  rw [← hb]
  generalize (a - 1) * b = z
  exact Int.emod_eq_of_lt (by omega) (by omega)
theorem ashr_far {w n s : Nat} (hn : n < 2 ^ w) (hs : w ≤ s) :
    (((n : Int) - ((2 ^ w : Nat) : Int)) / 2 ^ s) % ((2 ^ w : Nat) : Int) = ((2 ^ w - 1 : Nat) : Int) := by
  have hp := pow_pos' w
  have hle : 2 ^ w ≤ 2 ^ s := Nat.pow_le_pow_right (by decide) hs
  have e1 : ((2 : Int) ^ s) = ((2 ^ s : Nat) : Int) := by simp
  rw [e1]
  generalize 2 ^ s = a at *
  generalize 2 ^ w = b at *
  have e2 : ((n : Int) - (b : Int)) / (a : Int) = -1 := by
    rw [Int.ediv_eq_iff_of_pos (by omega)]; omega
  rw [e2, ← Int.add_emod_right, show (-1 : Int) + (b : Int) = ((b - 1 : Nat) : Int) by omega]
  exact Int.emod_eq_of_lt (by omega) (by omega)
theorem ones_bit (s j : Nat) : (2 ^ s - 1).testBit j = decide (j < s) := Nat.testBit_two_pow_sub_one s j
theorem ashr_bits {w v n m : Nat} (h1 : 1 ≤ w) (h2 : w ≤ 64) (hn : n < 2 ^ w) {k : Nat} (hk : k < w) :
    (low w (numB 17 w v n m)).testBit k = if m < w ∧ k + m < w then n.testBit (k + m) else decide (2 ^ (w - 1) ≤ n) := by
  have hT := ashr_low (w := w) (v := v) (n := n) (m := m) h2
  by_cases hs : 2 ^ (w - 1) ≤ n
  · rw [wo_neg hs] at hT
    by_cases hm : min m 64 ≤ w
    · rw [ashr_neg hn hm] at hT
      have e := Int.ofNat_inj.1 hT
      rw [e]
      have hlt : n / 2 ^ min m 64 < 2 ^ (w - min m 64) := by
        rw [Nat.div_lt_iff_lt_mul (pow_pos' _), ← Nat.pow_add, show w - min m 64 + min m 64 = w by omega]; exact hn
      rw [← or_join hlt, Nat.testBit_or, Nat.testBit_mul_two_pow, Nat.testBit_div_two_pow, ones_bit]
      by_cases hc : m < w ∧ k + m < w
      · rw [if_pos hc, Nat.min_eq_left (by omega)]
        have : ¬ w - m ≤ k := by omega
        simp [this]
      · rw [if_neg hc]
        have a : w - min m 64 ≤ k := by omega
        have b : k - (w - min m 64) < min m 64 := by omega
        simp [a, b, hs]
    · rw [ashr_far hn (by omega)] at hT
      have e := Int.ofNat_inj.1 hT
      rw [e, ones_bit, if_neg (by omega)]
      simp [hk, hs]
  · rw [wo_pos (by omega)] at hT
    have e0 : (n : Int) / 2 ^ min m 64 = ((n / 2 ^ min m 64 : Nat) : Int) := by simp
    rw [e0, Int.emod_eq_of_lt (Int.natCast_nonneg _) (Int.ofNat_lt.2 (Nat.lt_of_le_of_lt (Nat.div_le_self _ _) hn))] at hT
    have e := Int.ofNat_inj.1 hT
    rw [e, Nat.testBit_div_two_pow]
    by_cases hc : m < w ∧ k + m < w
    · rw [if_pos hc, Nat.min_eq_left (by omega)]
    · rw [if_neg hc]
      have hn' : n < 2 ^ (w - 1) := by omega
      have e : n.testBit (k + min m 64) = false := high_bit hn' (by omega)
      simp [e, hs]
end Bv
end Go.Proofs.Ytbemkaninedonaa
