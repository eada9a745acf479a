/-
  Plain facts on numbers of so many bits, over Nat and Int. No condition but those that each states.
-/
import Derived.WalkKit
namespace Go.Proofs.YthelkbdiedfmfaaGreat
namespace Bv

/-- The worth of n at width w. -/
def wo (w n : Nat) : Int := if n < 2 ^ (w - 1) then (n : Int) else (n : Int) - (2 ^ w : Nat)
/-- The w lowest bits of n. -/
def low (w n : Nat) : Nat := n % 2 ^ w
/-- May a vector be? -/
def mayB (w n : Nat) : Bool := decide (1 ≤ w ∧ w ≤ 64 ∧ n < 2 ^ w)

theorem mayB_true {w n : Nat} (h : mayB w n = true) : 1 ≤ w ∧ w ≤ 64 ∧ n < 2 ^ w := of_decide_eq_true h
theorem mayB_mk {w n : Nat} (h1 : 1 ≤ w) (h2 : w ≤ 64) (h3 : n < 2 ^ w) : mayB w n = true := decide_eq_true ⟨h1, h2, h3⟩

theorem pow_split {w : Nat} (h2 : w ≤ 64) : 2 ^ w * 2 ^ (64 - w) = 18446744073709551616 := by
  rw [← Nat.pow_add, show w + (64 - w) = 64 by omega]
theorem pow_le64 {w : Nat} (h2 : w ≤ 64) : 2 ^ w ≤ 18446744073709551616 := by
  have := Nat.pow_le_pow_right (n := 2) (by omega) h2
  simpa using this
theorem pow_pos' (w : Nat) : 0 < 2 ^ w := Nat.pow_pos (by omega)
theorem pow_half {w : Nat} (h1 : 1 ≤ w) : 2 ^ w = 2 * 2 ^ (w - 1) := by
  rw [show w = (w - 1) + 1 by omega, Nat.pow_succ]; simp; omega

theorem mask_div {w : Nat} (h2 : w ≤ 64) : 18446744073709551615 / 2 ^ (64 - w) = 2 ^ w - 1 := by
  have h := pow_split h2
  have hp := pow_pos' w
  have hq := pow_pos' (64 - w)
  generalize 2 ^ w = a at *
  generalize 2 ^ (64 - w) = b at *
  refine (Nat.div_eq_iff hq).2 ?_
  have e : (a - 1) * b + b = a * b := by
    rw [← Nat.succ_mul]; congr 1; omega
  omega
theorem mask_div_int {w : Nat} (h2 : w ≤ 64) : (18446744073709551615 : Int) / 2 ^ (64 - w) = ((2 ^ w - 1 : Nat) : Int) := by
  rw [← mask_div h2]; simp

theorem and_mask (n w : Nat) : n &&& (2 ^ w - 1) = n % 2 ^ w := Nat.and_two_pow_sub_one_eq_mod n w

theorem mod_mod64 (n : Nat) {w : Nat} (h : w ≤ 64) : n % 18446744073709551616 % 2 ^ w = n % 2 ^ w := by
  have hd : (2 : Nat) ^ w ∣ 18446744073709551616 := ⟨2 ^ (64 - w), (pow_split h).symm⟩
  exact Nat.mod_mod_of_dvd n hd

theorem bits_u64_bd (op : BinOp) (a b : Int) : 0 ≤ bits op .u64 a b ∧ bits op .u64 a b < 18446744073709551616 := by
  unfold bits
  split <;> (first | (rw [IntKind.wrap_u64]; omega) | (simp only [IntKind.wrap_u64]; omega) | omega)

theorem not64 {n : Nat} (hn : n < 18446744073709551616) : bits .xor .u64 18446744073709551615 (n : Int) = ((18446744073709551615 - n : Nat) : Int) := by
  have h := bits_xor_u64_nat 18446744073709551615 n (by omega) hn
  rw [show ((18446744073709551615 : Nat) : Int) = 18446744073709551615 from rfl] at h
  rw [h]
  congr 1
  have h1 : (18446744073709551615 : Nat) = 2 ^ 64 - 1 := by decide
  rw [h1]
  apply Nat.eq_of_testBit_eq
  intro i
  rw [show 2 ^ 64 - 1 - n = 2 ^ 64 - (n + 1) by omega, Nat.testBit_two_pow_sub_succ (by omega), Nat.testBit_xor, Nat.testBit_two_pow_sub_one]
  by_cases hi : i < 64
  · simp [hi]
  · have : n.testBit i = false := Nat.testBit_lt_two_pow (Nat.lt_of_lt_of_le hn (by
      have := Nat.pow_le_pow_right (n := 2) (by omega) (show 64 ≤ i by omega)
      simpa using this))
    simp [hi, this]

/-- Worth, as the code makes it: up to where int64 has its sign, and down again. -/
theorem worth_shift {w n : Nat} (h1 : 1 ≤ w) (h2 : w ≤ 64) (hn : n < 2 ^ w) :
    IntKind.i64.wrap (((n : Int) * 2 ^ (64 - w)) % 18446744073709551616) / 2 ^ (64 - w) = wo w n := by
  have h := pow_split h2
  have hh := pow_half h1
  have hq := pow_pos' (64 - w)
  have hp := pow_pos' (w - 1)
  unfold wo
  have e2 : ((2 : Int) ^ (64 - w)) = ((2 ^ (64 - w) : Nat) : Int) := by simp
  rw [e2]
  generalize 2 ^ (64 - w) = b at *
  rw [hh] at h hn ⊢
  generalize 2 ^ (w - 1) = a at *
  have hb : (b : Int) ≠ 0 := by omega
  have hlt : n * b < 18446744073709551616 := by
    rw [← h]; exact Nat.mul_lt_mul_of_pos_right hn hq
  have hc : (n : Int) * (b : Int) = ((n * b : Nat) : Int) := by simp
  have hab : 2 * a * b = 18446744073709551616 := h
  have hab' : a * b = 9223372036854775808 := by
    have : 2 * (a * b) = 18446744073709551616 := by rw [← Nat.mul_assoc]; exact hab
    omega
  rw [hc, IntKind.wrap_i64]
  by_cases hs : n < a
  · rw [if_pos hs]
    have h3 : n * b < 9223372036854775808 := by rw [← hab']; exact Nat.mul_lt_mul_of_pos_right hs hq
    have : (((n * b : Nat) : Int) % 18446744073709551616 + 9223372036854775808) % 18446744073709551616 - 9223372036854775808 = ((n * b : Nat) : Int) := by omega
    rw [this, ← hc, Int.mul_ediv_cancel _ hb]
  · rw [if_neg hs]
    have h3 : 9223372036854775808 ≤ n * b := by rw [← hab']; exact Nat.mul_le_mul_right _ (by omega)
    have : (((n * b : Nat) : Int) % 18446744073709551616 + 9223372036854775808) % 18446744073709551616 - 9223372036854775808 = ((n * b : Nat) : Int) - 18446744073709551616 := by omega
    rw [this, ← hc]
    have h4 : (18446744073709551616 : Int) = ((2 * a : Nat) : Int) * (b : Int) := by rw [← Int.natCast_mul, hab]; rfl
    rw [h4, ← Int.sub_mul, Int.mul_ediv_cancel _ hb]

theorem and64 (n : Int) (h0 : 0 ≤ n) (h1 : n < 18446744073709551616) {w : Nat} (h2 : w ≤ 64) : bits .and .u64 n ((2 ^ w - 1 : Nat) : Int) = ((low w n.toNat : Nat) : Int) := by
  unfold low
  have hp := pow_le64 h2
  rw [u64_and n _ h0 h1 (by omega) (by omega), Int.toNat_natCast, and_mask]

theorem bit64 {n : Nat} (hn : n < 18446744073709551616) {i : Int} (hi : 0 ≤ i) :
    (bits .and .u64 (n : Int) (IntKind.u64.wrap (2 ^ min i.toNat 64)) != 0) = n.testBit i.toNat := by
  obtain ⟨k, rfl⟩ := Int.eq_ofNat_of_zero_le hi
  rw [Int.toNat_natCast]
  by_cases hk : k < 64
  · rw [Nat.min_eq_left (by omega)]
    have hpow : 2 ^ k < 18446744073709551616 := by
      have := Nat.pow_lt_pow_right (a := 2) (by omega) hk
      simpa using this
    have e2 : IntKind.u64.wrap ((2 : Int) ^ k) = ((2 ^ k : Nat) : Int) := by
      have e3 : ((2 : Int) ^ k) = ((2 ^ k : Nat) : Int) := by simp
      rw [e3, IntKind.wrap_u64]; clear e3; generalize 2 ^ k = b at *; omega
    rw [e2, bits_and_u64_nat n (2 ^ k) hn hpow, nat_bit, Nat.testBit_eq_decide_div_mod_eq]
    have hp := pow_pos' k
    generalize n / 2 ^ k = q
    generalize 2 ^ k = b at *
    rcases Nat.mod_two_eq_zero_or_one q with h | h
    · simp [h]
    · rw [h]; simp; omega
  · rw [Nat.min_eq_right (by omega)]
    have e2 : IntKind.u64.wrap ((2 : Int) ^ 64) = 0 := by decide
    rw [e2]
    have e3 := bits_and_u64_nat n 0 hn (by omega)
    simp only [Nat.and_zero] at e3
    rw [show bits BinOp.and IntKind.u64 (n : Int) 0 = 0 from e3]
    have : n.testBit k = false := Nat.testBit_lt_two_pow (Nat.lt_of_lt_of_le hn (by
      have := Nat.pow_le_pow_right (n := 2) (by omega) (show 64 ≤ k by omega)
      simpa using this))
    rw [this]; rfl

theorem rmask64 {w : Nat} (h : w < 64) : IntKind.u64.wrap (IntKind.u64.wrap (2 ^ w) - 1) = ((2 ^ w - 1 : Nat) : Int) := by
  have hp := pow_pos' w
  have hpow : 2 ^ w < 18446744073709551616 := by
    have := Nat.pow_lt_pow_right (a := 2) (by omega) h
    simpa using this
  have e3 : ((2 : Int) ^ w) = ((2 ^ w : Nat) : Int) := by simp
  rw [e3, IntKind.wrap_u64, IntKind.wrap_u64]; clear e3; generalize 2 ^ w = b at *; omega

theorem sign_iff {w n : Nat} (h1 : 1 ≤ w) (hn : n < 2 ^ w) : n.testBit (w - 1) = decide (2 ^ (w - 1) ≤ n) := by
  have hh := pow_half h1
  rw [Nat.testBit_eq_decide_div_mod_eq]
  have hp := pow_pos' (w - 1)
  generalize 2 ^ (w - 1) = a at *
  have hq : n / a < 2 := by
    rw [Nat.div_lt_iff_lt_mul hp]; omega
  by_cases h : a ≤ n
  · have : 1 ≤ n / a := (Nat.le_div_iff_mul_le hp).2 (by omega)
    simp [h]; omega
  · have : n / a = 0 := Nat.div_eq_of_lt (by omega)
    simp [h, this]

theorem wo_neg {w n : Nat} (h : 2 ^ (w - 1) ≤ n) : wo w n = (n : Int) - (2 ^ w : Nat) := by unfold wo; rw [if_neg (by omega)]
theorem wo_pos {w n : Nat} (h : n < 2 ^ (w - 1)) : wo w n = (n : Int) := by unfold wo; rw [if_pos h]
theorem wo_bd {w n : Nat} (h1 : 1 ≤ w) (h2 : w ≤ 64) (hn : n < 2 ^ w) : -9223372036854775808 ≤ wo w n ∧ wo w n < 9223372036854775808 := by
  have hh := pow_half h1
  have hl := pow_le64 h2
  unfold wo
  split <;> omega

theorem may_shr {w n : Nat} (h1 : 1 ≤ w) (h2 : w ≤ 64) : ((n : Int) / 2 ^ w == 0) = mayB w n := by
  have hp := pow_pos' w
  unfold mayB
  have e : ((n : Int) / 2 ^ w) = ((n / 2 ^ w : Nat) : Int) := by simp
  rw [e, Bool.eq_iff_iff]
  simp only [beq_iff_eq, decide_eq_true_eq, Int.natCast_eq_zero, Nat.div_eq_zero_iff]
  omega

theorem low_lt (w n : Nat) : low w n < 2 ^ w := Nat.mod_lt _ (pow_pos' w)
theorem low_mod64 (n : Nat) {w : Nat} (h : w ≤ 64) : low w (n % 18446744073709551616) = low w n := mod_mod64 n h
theorem low_self {w n : Nat} (h : n < 2 ^ w) : low w n = n := Nat.mod_eq_of_lt h
theorem notmax {n : Nat} (hn : n < 18446744073709551616) : bits .xor .u64 IntKind.u64.max (n : Int) = ((18446744073709551615 - n : Nat) : Int) := not64 hn

/-- What the code makes of two numbers, ahead of the cut to the answer's width. w: the first one's width; v: the second one's. -/
def numB (o w v n m : Nat) : Nat :=
  match o with
  | 5 => n &&& m
  | 6 => n ||| m
  | 7 => n ^^^ m
  | 8 => (n + m) % 18446744073709551616
  | 9 => (n + (18446744073709551616 - m)) % 18446744073709551616
  | 10 => n * m % 18446744073709551616
  | 11 => if m = 0 then 18446744073709551615 else n / m
  | 12 => if m = 0 then n else n % m
  | 13 => if m = 0 then 18446744073709551615 else ((wo w n).tdiv (wo v m) % 18446744073709551616).toNat
  | 14 => if m = 0 then n else ((wo w n).tmod (wo v m) % 18446744073709551616).toNat
  | 15 => n * 2 ^ min m 64 % 18446744073709551616
  | 16 => n / 2 ^ min m 64
  | 17 => ((wo w n / 2 ^ min m 64) % 18446744073709551616).toNat
  | 18 => (n == m).toNat
  | 19 => (decide (n < m)).toNat
  | 20 => (decide (n ^^^ 2 ^ (w - 1) < m ^^^ 2 ^ (w - 1))).toNat
  | 21 => n * 2 ^ v % 18446744073709551616 ||| m
  | _ => 0

end Bv
end Go.Proofs.YthelkbdiedfmfaaGreat
