/-
  Plain facts that the statement on what fits together needs.
-/
import Derived.Test.YthelkbdiedfmfaaGreatBvMathB
namespace Go.Proofs.YthelkbdiedfmfaaGreat
open Go.RowKit
namespace Bv

theorem low_low (w n : Nat) : low w (low w n) = low w n := Nat.mod_mod _ _
theorem may_low {w : Nat} (h1 : 1 ≤ w) (h2 : w ≤ 64) (n : Nat) : mayB w (low w n) = true := mayB_mk h1 h2 (low_lt w n)
theorem may_one {w : Nat} (h1 : 1 ≤ w) (h2 : w ≤ 64) : mayB w 1 = true := mayB_mk h1 h2 (by have := pow_half h1; have := pow_pos' (w - 1); omega)

theorem low_add_left (w a b : Nat) : low w (low w a + b) = low w (a + b) := by unfold low; rw [Nat.mod_add_mod]
theorem low_add_right (w a b : Nat) : low w (a + low w b) = low w (a + b) := by unfold low; rw [Nat.add_mod_mod]

theorem low8 (w v a b : Nat) (h2 : w ≤ 64) : low w (numB 8 w v a b) = low w (a + b) := low_mod64 _ h2
theorem low9 (w v a b : Nat) (h2 : w ≤ 64) : low w (numB 9 w v a b) = low w (a + (18446744073709551616 - b)) := low_mod64 _ h2
theorem lowU4 (w a : Nat) (h2 : w ≤ 64) : low w (numU 4 a) = low w (18446744073709551616 - a) := low_mod64 _ h2

/-- Neg is Not and 1. -/
theorem neg_is {w n : Nat} (h2 : w ≤ 64) (hn : n < 18446744073709551616) : low w (numB 8 w w (low w (numU 3 n)) 1) = low w (numU 4 n) := by
  rw [low8 w w _ _ h2, lowU4 w _ h2, low_add_left]
  show low w (18446744073709551615 - n + 1) = _
  congr 1; omega
/-- Sub is Add of Neg. -/
theorem sub_is {w n m : Nat} (h2 : w ≤ 64) : low w (numB 8 w w n (low w (numU 4 m))) = low w (numB 9 w w n m) := by
  rw [low8 w w _ _ h2, low9 w w _ _ h2, lowU4 w _ h2, low_add_right]

theorem or_join {x m v : Nat} (hm : m < 2 ^ v) : x * 2 ^ v ||| m = x * 2 ^ v + m := by
  have := Nat.two_pow_add_eq_or_of_lt hm x
  rw [Nat.mul_comm] at this
  exact this.symm
/-- Concat is the first one above the second. -/
theorem concat_is {w v n m : Nat} (hr : w + v ≤ 64) (hn : n < 2 ^ w) (hm : m < 2 ^ v) : low (w + v) (numB 21 w v n m) = n * 2 ^ v + m := by
  have hl := pow_le64 hr
  have hlt : n * 2 ^ v + m < 2 ^ (w + v) := by
    rw [Nat.pow_add]
    have h1 : n * 2 ^ v + m < (n + 1) * 2 ^ v := by rw [Nat.succ_mul]; omega
    exact Nat.lt_of_lt_of_le h1 (Nat.mul_le_mul_right _ hn)
  show low (w + v) (n * 2 ^ v % 18446744073709551616 ||| m) = _
  rw [Nat.mod_eq_of_lt (by omega), or_join hm, low_self hlt]
theorem concat_lt {w v n m : Nat} (hn : n < 2 ^ w) (hm : m < 2 ^ v) : n * 2 ^ v + m < 2 ^ (w + v) := by
  rw [Nat.pow_add]
  have h1 : n * 2 ^ v + m < (n + 1) * 2 ^ v := by rw [Nat.succ_mul]; omega
  exact Nat.lt_of_lt_of_le h1 (Nat.mul_le_mul_right _ hn)
theorem concat_low {v n m : Nat} (hm : m < 2 ^ v) : low v ((n * 2 ^ v + m) / 2 ^ 0) = m := by
  unfold low
  rw [Nat.pow_zero, Nat.div_one, Nat.add_comm, Nat.add_mul_mod_self_right, Nat.mod_eq_of_lt hm]
theorem concat_high {w v n m : Nat} (hn : n < 2 ^ w) (hm : m < 2 ^ v) : low w ((n * 2 ^ v + m) / 2 ^ v) = n := by
  unfold low
  rw [Nat.mul_comm, Nat.mul_add_div (pow_pos' v), Nat.div_eq_of_lt hm, Nat.add_zero, Nat.mod_eq_of_lt hn]

theorem low64 {n : Nat} (hn : n < 18446744073709551616) : low 64 n = n := low_self (by simpa using hn)
theorem low_div0 {w n : Nat} (hn : n < 2 ^ w) : low w (n / 2 ^ 0) = n := by rw [Nat.pow_zero, Nat.div_one, low_self hn]
/-- A vector that is made wider with its sign begins with it. -/
theorem sext_low {w n : Nat} (h2 : w ≤ 64) (hn : n < 2 ^ w) : low w (numE 24 w n / 2 ^ 0) = n := by
  rw [Nat.pow_zero, Nat.div_one]
  show (wo w n % 18446744073709551616).toNat % 2 ^ w = n
  have hl := pow_le64 h2
  unfold wo
  split
  · rw [show ((n : Int) % 18446744073709551616).toNat = n by omega, Nat.mod_eq_of_lt hn]
  · have hs := pow_split h2
    have e : (((n : Int) - (2 ^ w : Nat)) % 18446744073709551616).toNat = n + (18446744073709551616 - 2 ^ w) := by omega
    rw [e]
    have e2 : 18446744073709551616 - 2 ^ w = 2 ^ w * (2 ^ (64 - w) - 1) := by rw [Nat.mul_sub, hs, Nat.mul_one]
    rw [e2, Nat.add_mul_mod_self_left, Nat.mod_eq_of_lt hn]
theorem sext_worth {w n : Nat} (h1 : 1 ≤ w) (h2 : w ≤ 64) (hn : n < 2 ^ w) : wrap64 (numE 24 w n : Int) = wo w n := by
  have hb := wo_bd h1 h2 hn
  show wrap64 (((wo w n % 18446744073709551616).toNat : Nat) : Int) = wo w n
  unfold wrap64
  omega

/-- One of less, greater, equal. -/
theorem one_of (w n m : Nat) : low 1 (numB 19 w w n m) + low 1 (numB 19 w w m n) + low 1 (numB 18 w w n m) = 1 := by
  show (decide (n < m)).toNat % 2 + (decide (m < n)).toNat % 2 + (n == m).toNat % 2 = 1
  rcases Nat.lt_trichotomy n m with h | h | h
  · have a : ¬ m < n := by omega
    have b : (n == m) = false := by simp; omega
    simp [h, a, b]
  · subst h; simp
  · have a : ¬ n < m := by omega
    have b : (n == m) = false := by simp; omega
    simp [h, a, b]
end Bv
end Go.Proofs.YthelkbdiedfmfaaGreat
