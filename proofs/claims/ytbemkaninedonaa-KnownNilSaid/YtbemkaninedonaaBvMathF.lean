/-
  Plain facts on products by adding and shifts bit by bit.
-/
import Derived.Test.YtbemkaninedonaaBvMathE
namespace Go.Proofs.Ytbemkaninedonaa
open Go.RowKit
namespace Bv

/-- The product with the k lowest bits of m. -/
def tm (n m k : Nat) : Nat := n * (m % 2 ^ k) % 18446744073709551616
theorem tm_start (n m : Nat) : tm n m 0 = 0 := by unfold tm; simp [Nat.mod_one]
theorem tm_lt (n m k : Nat) : tm n m k < 18446744073709551616 := Nat.mod_lt _ (by decide)
theorem mod_step (m k : Nat) : m % 2 ^ (k + 1) = m % 2 ^ k + (m.testBit k).toNat * 2 ^ k := by
  rw [Nat.mod_pow_succ, Nat.testBit_eq_decide_div_mod_eq]
  rcases Nat.mod_two_eq_zero_or_one (m / 2 ^ k) with h | h <;> simp [h]
theorem tm_no {n m k : Nat} (h : m.testBit k = false) : tm n m (k + 1) = tm n m k := by unfold tm; rw [mod_step, h]; simp
theorem tm_yes {n m k : Nat} (h : m.testBit k = true) : IntKind.u64.wrap ((tm n m k : Nat) + IntKind.u64.wrap ((n : Int) * 2 ^ k)) = (tm n m (k + 1) : Nat) := by
  have e : ((2 : Int) ^ k) = ((2 ^ k : Nat) : Int) := by simp
  unfold tm
  rw [mod_step, h, Bool.toNat_true, Nat.one_mul, Nat.mul_add, e, ← Int.natCast_mul, IntKind.wrap_u64, IntKind.wrap_u64]
  generalize n * (m % 2 ^ k) = p
  generalize n * 2 ^ k = q
  omega
theorem tm_end {n m w : Nat} (hm : m < 2 ^ w) (h2 : w ≤ 64) : low w (tm n m w) = low w (n * m) := by
  unfold tm; rw [low_mod64 _ h2, Nat.mod_eq_of_lt hm]

/-- The k lowest bits of T. -/
def sh (T k : Nat) : Nat := T % 2 ^ k
theorem sh_start (T : Nat) : sh T 0 = 0 := by unfold sh; simp [Nat.mod_one]
theorem sh_lt (T : Nat) {k : Nat} (hk : k ≤ 64) : sh T k < 18446744073709551616 := Nat.lt_of_lt_of_le (Nat.mod_lt _ (pow_pos' k)) (pow_le64 hk)
theorem sh_no {T k : Nat} (h : T.testBit k = false) : sh T (k + 1) = sh T k := by unfold sh; rw [mod_step, h]; simp
theorem sh_yes {T k : Nat} (hk : k < 64) (h : T.testBit k = true) : bits BinOp.or IntKind.u64 ((sh T k : Nat) : Int) (IntKind.u64.wrap (2 ^ k)) = (sh T (k + 1) : Nat) := by
  have hpow : 2 ^ k < 18446744073709551616 := by
    have := Nat.pow_lt_pow_right (a := 2) (by omega) hk
    simpa using this
  have e : ((2 : Int) ^ k) = ((2 ^ k : Nat) : Int) := by simp
  have e2 : IntKind.u64.wrap ((2 : Int) ^ k) = ((2 ^ k : Nat) : Int) := by
    rw [e, IntKind.wrap_u64]; clear e; generalize 2 ^ k = b at *; omega
  rw [e2, bits_or_u64_nat _ _ (sh_lt T (by omega)) hpow]
  have hl : sh T k < 2 ^ k := Nat.mod_lt _ (pow_pos' k)
  have := or_join (x := 1) hl
  rw [Nat.one_mul] at this
  rw [Nat.or_comm, this]
  unfold sh
  rw [mod_step, h]; simp; omega
theorem sh_end {T w : Nat} (h : T < 2 ^ w) : sh T w = T := Nat.mod_eq_of_lt h
end Bv
end Go.Proofs.Ytbemkaninedonaa
