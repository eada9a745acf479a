/-
  Plain facts that the statement on quotients and rests needs.
-/
import Derived.Test.YthelkbdiedfmfaaGreatBvMathC
namespace Go.Proofs.YthelkbdiedfmfaaGreat
open Go.RowKit
namespace Bv

theorem low10 (w v a b : Nat) (h2 : w ≤ 64) : low w (numB 10 w v a b) = low w (a * b) := low_mod64 _ h2
theorem num11_eq {w v n m : Nat} (h : ¬ m = 0) : numB 11 w v n m = n / m := by show (if m = 0 then _ else n / m) = _; rw [if_neg h]
theorem num12_eq {w v n m : Nat} (h : ¬ m = 0) : numB 12 w v n m = n % m := by show (if m = 0 then _ else n % m) = _; rw [if_neg h]
theorem low_mul_left (w a b : Nat) : low w (low w a * b) = low w (a * b) := by unfold low; rw [Nat.mod_mul_mod]

/-- Of numbers: the quotient times the second, and the rest, are the first. -/
theorem udiv_is {w n m : Nat} (h2 : w ≤ 64) (hn : n < 2 ^ w) (h : ¬ m = 0) :
    low w (numB 8 w w (low w (numB 10 w w (low w (numB 11 w w n m)) m)) (low w (numB 12 w w n m))) = n := by
  rw [low8 w w _ _ h2, low10 w w _ _ h2, low_mul_left, low_add_left, low_add_right, num11_eq h, num12_eq h, Nat.mul_comm, Nat.div_add_mod]
  exact low_self hn
theorem urem_lt {w n m : Nat} (hn : n < 2 ^ w) (h : ¬ m = 0) : low 1 (numB 19 w w (low w (numB 12 w w n m)) m) = 1 := by
  have hr : low w (numB 12 w w n m) < m := by
    rw [num12_eq h, low_self (Nat.lt_of_le_of_lt (Nat.mod_le _ _) hn)]
    exact Nat.mod_lt _ (by omega)
  generalize low w (numB 12 w w n m) = r at *
  show low 1 (decide (r < m)).toNat = 1
  rw [decide_eq_true hr]; rfl

/-- What a number of 64 bits is modulo 2^w, over Int. -/
theorem low_int {w : Nat} (h2 : w ≤ 64) (x : Int) : ((low w (x % 18446744073709551616).toNat : Nat) : Int) = x % ((2 ^ w : Nat) : Int) := by
  unfold low
  have h0 : 0 ≤ x % 18446744073709551616 := Int.emod_nonneg _ (by decide)
  rw [Int.natCast_emod, Int.toNat_of_nonneg h0]
  exact Int.emod_emod_of_dvd x ⟨((2 ^ (64 - w) : Nat) : Int), by rw [← Int.natCast_mul, pow_split h2]; rfl⟩
theorem wo_mod (w n : Nat) : wo w n % ((2 ^ w : Nat) : Int) = (n : Int) % ((2 ^ w : Nat) : Int) := by
  unfold wo
  split
  · rfl
  · rw [Int.sub_emod_right]
theorem low_cast (w a : Nat) : ((low w a : Nat) : Int) = (a : Int) % ((2 ^ w : Nat) : Int) := by unfold low; rw [Int.natCast_emod]

/-- Of worths likewise. -/
theorem sdiv_is {w n m : Nat} (h2 : w ≤ 64) (hn : n < 2 ^ w) (h : ¬ m = 0) :
    low w (numB 8 w w (low w (numB 10 w w (low w (numB 13 w w n m)) m)) (low w (numB 14 w w n m))) = n := by
  have e13 : numB 13 w w n m = ((wo w n).tdiv (wo w m) % 18446744073709551616).toNat := by show (if m = 0 then _ else _) = _; rw [if_neg h]
  have e14 : numB 14 w w n m = ((wo w n).tmod (wo w m) % 18446744073709551616).toNat := by show (if m = 0 then _ else _) = _; rw [if_neg h]
  rw [low8 w w _ _ h2, low10 w w _ _ h2, e13, e14]
  have key : ((low w (low w (low w ((wo w n).tdiv (wo w m) % 18446744073709551616).toNat * m) + low w ((wo w n).tmod (wo w m) % 18446744073709551616).toNat) : Nat) : Int) = (n : Int) := by
    rw [low_cast, Int.natCast_add, low_cast w (_ * m), Int.natCast_mul, low_int h2, low_int h2]
    rw [← Int.add_emod, Int.add_emod, Int.mul_emod, Int.emod_emod_of_dvd _ (Int.dvd_refl _), ← wo_mod w m, ← Int.mul_emod, ← Int.add_emod, Int.mul_comm, Int.mul_tdiv_add_tmod, wo_mod]
    exact Int.emod_eq_of_lt (by omega) (by omega)
  exact Int.ofNat_inj.1 key

/-- The worth of a vector whose highest bit is set, with ones above it. -/
theorem worth_or {w n : Nat} (h1 : 1 ≤ w) (h2 : w ≤ 64) (hn : n < 2 ^ w) (hs : 2 ^ (w - 1) ≤ n) :
    IntKind.i64.wrap (bits BinOp.or IntKind.u64 (n : Int) (bits BinOp.xor IntKind.u64 IntKind.u64.max ((2 ^ w - 1 : Nat) : Int))) = wo w n := by
  have hl := pow_le64 h2
  have hh := pow_half h1
  have hp := pow_pos' (w - 1)
  have hsp := pow_split h2
  rw [notmax (by omega), bits_or_u64_nat n _ (by omega) (by omega), Nat.or_comm]
  have e : 18446744073709551615 - (2 ^ w - 1) = (2 ^ (64 - w) - 1) * 2 ^ w := by
    rw [Nat.sub_mul, Nat.mul_comm, hsp, Nat.one_mul]; omega
  rw [e, or_join hn, ← e, IntKind.wrap_i64, wo_neg hs]
  omega
theorem worth_plain {w n : Nat} (h1 : 1 ≤ w) (h2 : w ≤ 64) (hs : ¬ 2 ^ (w - 1) ≤ n) : IntKind.i64.wrap (n : Int) = wo w n := by
  have hl := pow_le64 h2
  have hh := pow_half h1
  rw [wo_pos (by omega), IntKind.wrap_i64]
  omega
end Bv
end Go.Proofs.YthelkbdiedfmfaaGreat
