/-
  Plain facts on long division, products by adding, and shifts bit by bit.
-/
import Derived.Test.YtbemkaninedonaaBvMathD
namespace Go.Proofs.Ytbemkaninedonaa
open Go.RowKit
namespace Bv

def dq (n m k : Nat) : Nat := n / 2 ^ k / m * 2 ^ k
def dr (n m k : Nat) : Nat := n / 2 ^ k % m
theorem dq_start {n m : Nat} (hn : n < 18446744073709551616) : dq n m 64 = 0 := by
  have e : n / 2 ^ 64 = 0 := Nat.div_eq_of_lt (by simpa using hn)
  unfold dq; rw [e]; simp
theorem dr_start {n m : Nat} (hn : n < 18446744073709551616) : dr n m 64 = 0 := by
  have e : n / 2 ^ 64 = 0 := Nat.div_eq_of_lt (by simpa using hn)
  unfold dr; rw [e]; simp
theorem dq_end (n m : Nat) : dq n m 0 = n / m := by unfold dq; simp
theorem dr_end (n m : Nat) : dr n m 0 = n % m := by unfold dr; simp
theorem dr_lt (n : Nat) {m : Nat} (k : Nat) (h : 0 < m) : dr n m k < m := Nat.mod_lt _ h
/-- The bit that comes next. -/
def db (n j : Nat) : Nat := n / 2 ^ j % 2
theorem db_lt (n j : Nat) : db n j < 2 := Nat.mod_lt _ (by decide)
theorem pre_step (n j : Nat) : n / 2 ^ j = 2 * (n / 2 ^ (j + 1)) + db n j := by
  unfold db
  rw [Nat.pow_succ, ← Nat.div_div_eq_div_mul]
  omega
theorem dr_yes {n m j : Nat} (hm : 0 < m) (h : m ≤ 2 * dr n m (j + 1) + db n j) : dr n m j = 2 * dr n m (j + 1) + db n j - m ∧ n / 2 ^ j / m = 2 * (n / 2 ^ (j + 1) / m) + 1 := by
  have hp := pre_step n j
  have hb := db_lt n j
  have hr := dr_lt n (j + 1) hm
  unfold dr at *
  have e := Nat.div_add_mod (n / 2 ^ (j + 1)) m
  generalize n / 2 ^ (j + 1) = A at *
  generalize n / 2 ^ j = B at *
  generalize db n j = b at *
  generalize hq : A / m = q at *
  generalize A % m = r at *
  have e2 : B = (2 * q + 1) * m + (2 * r + b - m) := by
    rw [hp, ← e, Nat.add_mul, Nat.mul_assoc, Nat.mul_comm q m]; omega
  have hlt : 2 * r + b - m < m := by omega
  rw [e2]
  constructor
  · rw [Nat.add_comm, Nat.add_mul_mod_self_right, Nat.mod_eq_of_lt hlt]
  · rw [Nat.add_comm, Nat.add_mul_div_right _ _ hm, Nat.div_eq_of_lt hlt]; omega
theorem dr_no {n m j : Nat} (hm : 0 < m) (h : 2 * dr n m (j + 1) + db n j < m) : dr n m j = 2 * dr n m (j + 1) + db n j ∧ n / 2 ^ j / m = 2 * (n / 2 ^ (j + 1) / m) := by
  have hp := pre_step n j
  unfold dr at *
  have e := Nat.div_add_mod (n / 2 ^ (j + 1)) m
  generalize n / 2 ^ (j + 1) = A at *
  generalize n / 2 ^ j = B at *
  generalize db n j = b at *
  generalize hq : A / m = q at *
  generalize A % m = r at *
  have e2 : B = (2 * q) * m + (2 * r + b) := by
    rw [hp, ← e, Nat.mul_assoc, Nat.mul_comm q m]; omega
  rw [e2]
  constructor
  · rw [Nat.add_comm, Nat.add_mul_mod_self_right, Nat.mod_eq_of_lt h]
  · rw [Nat.add_comm, Nat.add_mul_div_right _ _ hm, Nat.div_eq_of_lt h]; omega
theorem dq_yes {n m j : Nat} (hm : 0 < m) (h : m ≤ 2 * dr n m (j + 1) + db n j) : dq n m j = dq n m (j + 1) + 2 ^ j := by
  have e := (dr_yes hm h).2
  unfold dq
  rw [e, Nat.pow_succ, Nat.add_mul, Nat.one_mul, Nat.mul_comm 2, Nat.mul_assoc, Nat.mul_comm 2]
theorem dq_no {n m j : Nat} (hm : 0 < m) (h : 2 * dr n m (j + 1) + db n j < m) : dq n m j = dq n m (j + 1) := by
  have e := (dr_no hm h).2
  unfold dq
  rw [e, Nat.pow_succ, Nat.mul_comm 2, Nat.mul_assoc, Nat.mul_comm 2]
theorem dq_le (n m k : Nat) : dq n m k ≤ n := by
  unfold dq
  exact Nat.le_trans (Nat.mul_le_mul_right _ (Nat.div_le_self _ _)) (Nat.div_mul_le_self n (2 ^ k))
theorem dq_or {n m j : Nat} : dq n m (j + 1) ||| 2 ^ j = dq n m (j + 1) + 2 ^ j := by
  unfold dq
  exact or_join (Nat.pow_lt_pow_right (by decide) (Nat.lt_succ_self j))

theorem and_bit {n j : Nat} (hn : n < 18446744073709551616) : bits BinOp.and IntKind.u64 ((n : Int) / 2 ^ j) 1 = (db n j : Int) := by
  have e : (n : Int) / 2 ^ j = ((n / 2 ^ j : Nat) : Int) := by simp
  rw [e, show (1 : Int) = ((1 : Nat) : Int) from rfl, bits_and_u64_nat _ 1 (Nat.lt_of_le_of_lt (Nat.div_le_self _ _) hn) (by decide), Nat.and_one_is_mod]
  rfl
theorem or_bit {n j x : Nat} (hn : n < 18446744073709551616) (hx : 2 * x < 18446744073709551616) : bits BinOp.or IntKind.u64 ((x : Int) * 2) (bits BinOp.and IntKind.u64 ((n : Int) / 2 ^ j) 1) = ((2 * x + db n j : Nat) : Int) := by
  have hb := db_lt n j
  rw [and_bit hn, show (x : Int) * 2 = ((x * 2 : Nat) : Int) by simp, bits_or_u64_nat _ _ (by omega) (by omega)]
  have := or_join (x := x) (m := db n j) (v := 1) (by simpa using hb)
  rw [Nat.pow_one] at this
  rw [this, Nat.mul_comm]
theorem or_bit' {n j x : Nat} (hn : n < 18446744073709551616) : bits BinOp.or IntKind.u64 (IntKind.u64.wrap ((x : Int) * 2)) (bits BinOp.and IntKind.u64 ((n : Int) / 2 ^ j) 1) = ((2 * x % 18446744073709551616 + db n j : Nat) : Int) := by
  have e : IntKind.u64.wrap ((x : Int) * 2) = ((x % 9223372036854775808 : Nat) : Int) * 2 := by rw [IntKind.wrap_u64]; omega
  rw [e, or_bit hn (by omega)]
  congr 2; omega
theorem or_pow {n m j : Nat} (hn : n < 18446744073709551616) (hj : j < 64) : bits BinOp.or IntKind.u64 ((dq n m (j + 1) : Nat) : Int) (IntKind.u64.wrap (2 ^ j)) = ((dq n m (j + 1) + 2 ^ j : Nat) : Int) := by
  have hpow : 2 ^ j < 18446744073709551616 := by
    have := Nat.pow_lt_pow_right (a := 2) (by omega) hj
    simpa using this
  have e : ((2 : Int) ^ j) = ((2 ^ j : Nat) : Int) := by simp
  have e2 : IntKind.u64.wrap ((2 : Int) ^ j) = ((2 ^ j : Nat) : Int) := by
    rw [e, IntKind.wrap_u64]; clear e; generalize 2 ^ j = b at *; omega
  rw [e2, bits_or_u64_nat _ _ (Nat.lt_of_le_of_lt (dq_le n m _) hn) hpow, dq_or]
end Bv
end Go.Proofs.Ytbemkaninedonaa
