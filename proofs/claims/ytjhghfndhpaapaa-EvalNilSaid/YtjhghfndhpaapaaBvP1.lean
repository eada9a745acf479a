/-
Plain facts on numbers of so many bits, over Nat and Int. No condition but those that each states.
More plain facts on numbers of so many bits.
The walk's step at an exit out of nested blocks, one law a level.
Plain facts that the statement on what fits together needs.
Plain facts that the statement on quotients and rests needs.
-/
import Derived.WalkKit
namespace Go.Proofs.Ytjhghfndhpaapaa
namespace Bv

/-- The worth of n at width w. -/
def wo (w n : Nat) : Int := if n < 2 ^ (w - 1) then (n : Int) else (n : Int) - (2 ^ w : Nat)
/-- The w lowest bits of n. -/
def low (w n : Nat) : Nat := n % 2 ^ w
/-- May a vector be? -/
def mayB (w n : Nat) : Bool := decide (1 ≤ w ∧ w ≤ 64 ∧ n < 2 ^ w)

theorem mayB_true {w n : Nat} (h : mayB w n = true) : 1 ≤ w ∧ w ≤ 64 ∧ n < 2 ^ w := of_decide_eq_true h
theorem mayB_mk {w n : Nat} (h1 : 1 ≤ w) (h2 : w ≤ 64) (h3 : n < 2 ^ w) : mayB w n = true := decide_eq_true ⟨h1, h2, h3⟩

theorem pow_split {w : Nat} (h2 : w ≤ 64) : 2 ^ w * 2 ^ (64 - w) = 18446744073709551616 := by
  rw [← Nat.pow_add, show w + (64 - w) = 64 by omega]
theorem pow_le64 {w : Nat} (h2 : w ≤ 64) : 2 ^ w ≤ 18446744073709551616 := by
  have := Nat.pow_le_pow_right (n := 2) (by omega) h2
  simpa using this
theorem pow_pos' (w : Nat) : 0 < 2 ^ w := Nat.pow_pos (by omega)
theorem pow_half {w : Nat} (h1 : 1 ≤ w) : 2 ^ w = 2 * 2 ^ (w - 1) := by
  rw [show w = (w - 1) + 1 by omega, Nat.pow_succ]; simp; omega

theorem mask_div {w : Nat} (h2 : w ≤ 64) : 18446744073709551615 / 2 ^ (64 - w) = 2 ^ w - 1 := by
  have h := pow_split h2
  have hp := pow_pos' w
  have hq := pow_pos' (64 - w)
  generalize 2 ^ w = a at *
  generalize 2 ^ (64 - w) = b at *
  refine (Nat.div_eq_iff hq).2 ?_
  have e : (a - 1) * b + b = a * b := by
    rw [← Nat.succ_mul]; congr 1; omega
  omega
theorem mask_div_int {w : Nat} (h2 : w ≤ 64) : (18446744073709551615 : Int) / 2 ^ (64 - w) = ((2 ^ w - 1 : Nat) : Int) := by
  rw [← mask_div h2]; simp

theorem and_mask (n w : Nat) : n &&& (2 ^ w - 1) = n % 2 ^ w := Nat.and_two_pow_sub_one_eq_mod n w

theorem mod_mod64 (n : Nat) {w : Nat} (h : w ≤ 64) : n % 18446744073709551616 % 2 ^ w = n % 2 ^ w := by
  have hd : (2 : Nat) ^ w ∣ 18446744073709551616 := ⟨2 ^ (64 - w), (pow_split h).symm⟩
  exact Nat.mod_mod_of_dvd n hd

theorem bits_u64_bd (op : BinOp) (a b : Int) : 0 ≤ bits op .u64 a b ∧ bits op .u64 a b < 18446744073709551616 := by
  unfold bits
  split <;> (first | (rw [IntKind.wrap_u64]; omega) | (simp only [IntKind.wrap_u64]; omega) | omega)

theorem not64 {n : Nat} (hn : n < 18446744073709551616) : bits .xor .u64 18446744073709551615 (n : Int) = ((18446744073709551615 - n : Nat) : Int) := by
  have h := bits_xor_u64_nat 18446744073709551615 n (by omega) hn
  rw [show ((18446744073709551615 : Nat) : Int) = 18446744073709551615 from rfl] at h
  rw [h]
  congr 1
  have h1 : (18446744073709551615 : Nat) = 2 ^ 64 - 1 := by decide
  rw [h1]
  apply Nat.eq_of_testBit_eq
  intro i
  rw [show 2 ^ 64 - 1 - n = 2 ^ 64 - (n + 1) by omega, Nat.testBit_two_pow_sub_succ (by omega), Nat.testBit_xor, Nat.testBit_two_pow_sub_one]
  by_cases hi : i < 64
  · simp [hi]
  · have : n.testBit i = false := Nat.testBit_lt_two_pow (Nat.lt_of_lt_of_le hn (by
      have := Nat.pow_le_pow_right (n := 2) (by omega) (show 64 ≤ i by omega)
      simpa using this))
    simp [hi, this]

/-- Worth, as the code makes it: up to where int64 has its sign, and down again. -/
theorem worth_shift {w n : Nat} (h1 : 1 ≤ w) (h2 : w ≤ 64) (hn : n < 2 ^ w) :
    IntKind.i64.wrap (((n : Int) * 2 ^ (64 - w)) % 18446744073709551616) / 2 ^ (64 - w) = wo w n := by
  have h := pow_split h2
  have hh := pow_half h1
  have hq := pow_pos' (64 - w)
  have hp := pow_pos' (w - 1)
  unfold wo
  have e2 : ((2 : Int) ^ (64 - w)) = ((2 ^ (64 - w) : Nat) : Int) := by simp
  rw [e2]
  generalize 2 ^ (64 - w) = b at *
  rw [hh] at h hn ⊢
  generalize 2 ^ (w - 1) = a at *
  have hb : (b : Int) ≠ 0 := by omega
  have hlt : n * b < 18446744073709551616 := by
    rw [← h]; exact Nat.mul_lt_mul_of_pos_right hn hq
  have hc : (n : Int) * (b : Int) = ((n * b : Nat) : Int) := by simp
  have hab : 2 * a * b = 18446744073709551616 := h
  have hab' : a * b = 9223372036854775808 := by
    have : 2 * (a * b) = 18446744073709551616 := by rw [← Nat.mul_assoc]; exact hab
    omega
  rw [hc, IntKind.wrap_i64]
  by_cases hs : n < a
  · rw [if_pos hs]
    have h3 : n * b < 9223372036854775808 := by rw [← hab']; exact Nat.mul_lt_mul_of_pos_right hs hq
    have : (((n * b : Nat) : Int) % 18446744073709551616 + 9223372036854775808) % 18446744073709551616 - 9223372036854775808 = ((n * b : Nat) : Int) := by omega
    rw [this, ← hc, Int.mul_ediv_cancel _ hb]
  · rw [if_neg hs]
    have h3 : 9223372036854775808 ≤ n * b := by rw [← hab']; exact Nat.mul_le_mul_right _ (by omega)
    have : (((n * b : Nat) : Int) % 18446744073709551616 + 9223372036854775808) % 18446744073709551616 - 9223372036854775808 = ((n * b : Nat) : Int) - 18446744073709551616 := by omega
    rw [this, ← hc]
    have h4 : (18446744073709551616 : Int) = ((2 * a : Nat) : Int) * (b : Int) := by rw [← Int.natCast_mul, hab]; rfl
    rw [h4, ← Int.sub_mul, Int.mul_ediv_cancel _ hb]

theorem and64 (n : Int) (h0 : 0 ≤ n) (h1 : n < 18446744073709551616) {w : Nat} (h2 : w ≤ 64) : bits .and .u64 n ((2 ^ w - 1 : Nat) : Int) = ((low w n.toNat : Nat) : Int) := by
  unfold low
  have hp := pow_le64 h2
  rw [u64_and n _ h0 h1 (by omega) (by omega), Int.toNat_natCast, and_mask]

theorem bit64 {n : Nat} (hn : n < 18446744073709551616) {i : Int} (hi : 0 ≤ i) :
    (bits .and .u64 (n : Int) (IntKind.u64.wrap (2 ^ min i.toNat 64)) != 0) = n.testBit i.toNat := by
  obtain ⟨k, rfl⟩ := Int.eq_ofNat_of_zero_le hi
  rw [Int.toNat_natCast]
  by_cases hk : k < 64
  · rw [Nat.min_eq_left (by omega)]
    have hpow : 2 ^ k < 18446744073709551616 := by
      have := Nat.pow_lt_pow_right (a := 2) (by omega) hk
      simpa using this
    have e2 : IntKind.u64.wrap ((2 : Int) ^ k) = ((2 ^ k : Nat) : Int) := by
      have e3 : ((2 : Int) ^ k) = ((2 ^ k : Nat) : Int) := by simp
      rw [e3, IntKind.wrap_u64]; clear e3; generalize 2 ^ k = b at *; omega
    rw [e2, bits_and_u64_nat n (2 ^ k) hn hpow, nat_bit, Nat.testBit_eq_decide_div_mod_eq]
    have hp := pow_pos' k
    generalize n / 2 ^ k = q
    generalize 2 ^ k = b at *
    rcases Nat.mod_two_eq_zero_or_one q with h | h
    · simp [h]
    · rw [h]; simp; omega
  · rw [Nat.min_eq_right (by omega)]
    have e2 : IntKind.u64.wrap ((2 : Int) ^ 64) = 0 := by decide
    rw [e2]
    have e3 := bits_and_u64_nat n 0 hn (by omega)
    simp only [Nat.and_zero] at e3
    rw [show bits BinOp.and IntKind.u64 (n : Int) 0 = 0 from e3]
    have : n.testBit k = false := Nat.testBit_lt_two_pow (Nat.lt_of_lt_of_le hn (by
      have := Nat.pow_le_pow_right (n := 2) (by omega) (show 64 ≤ k by omega)
      simpa using this))
    rw [this]; rfl

theorem rmask64 {w : Nat} (h : w < 64) : IntKind.u64.wrap (IntKind.u64.wrap (2 ^ w) - 1) = ((2 ^ w - 1 : Nat) : Int) := by
  have hp := pow_pos' w
  have hpow : 2 ^ w < 18446744073709551616 := by
    have := Nat.pow_lt_pow_right (a := 2) (by omega) h
    simpa using this
  have e3 : ((2 : Int) ^ w) = ((2 ^ w : Nat) : Int) := by simp
  rw [e3, IntKind.wrap_u64, IntKind.wrap_u64]; clear e3; generalize 2 ^ w = b at *; omega

theorem sign_iff {w n : Nat} (h1 : 1 ≤ w) (hn : n < 2 ^ w) : n.testBit (w - 1) = decide (2 ^ (w - 1) ≤ n) := by
  have hh := pow_half h1
  rw [Nat.testBit_eq_decide_div_mod_eq]
  have hp := pow_pos' (w - 1)
  generalize 2 ^ (w - 1) = a at *
  have hq : n / a < 2 := by
    rw [Nat.div_lt_iff_lt_mul hp]; omega
  by_cases h : a ≤ n
  · have : 1 ≤ n / a := (Nat.le_div_iff_mul_le hp).2 (by omega)
    simp [h]; omega
  · have : n / a = 0 := Nat.div_eq_of_lt (by omega)
    simp [h, this]

theorem wo_neg {w n : Nat} (h : 2 ^ (w - 1) ≤ n) : wo w n = (n : Int) - (2 ^ w : Nat) := by unfold wo; rw [if_neg (by omega)]
theorem wo_pos {w n : Nat} (h : n < 2 ^ (w - 1)) : wo w n = (n : Int) := by unfold wo; rw [if_pos h]
theorem wo_bd {w n : Nat} (h1 : 1 ≤ w) (h2 : w ≤ 64) (hn : n < 2 ^ w) : -9223372036854775808 ≤ wo w n ∧ wo w n < 9223372036854775808 := by
  have hh := pow_half h1
  have hl := pow_le64 h2
  unfold wo
  split <;> omega

theorem may_shr {w n : Nat} (h1 : 1 ≤ w) (h2 : w ≤ 64) : ((n : Int) / 2 ^ w == 0) = mayB w n := by
  have hp := pow_pos' w
  unfold mayB
  have e : ((n : Int) / 2 ^ w) = ((n / 2 ^ w : Nat) : Int) := by simp
  rw [e, Bool.eq_iff_iff]
  simp only [beq_iff_eq, decide_eq_true_eq, Int.natCast_eq_zero, Nat.div_eq_zero_iff]
  omega

theorem low_lt (w n : Nat) : low w n < 2 ^ w := Nat.mod_lt _ (pow_pos' w)
theorem low_mod64 (n : Nat) {w : Nat} (h : w ≤ 64) : low w (n % 18446744073709551616) = low w n := mod_mod64 n h
theorem low_self {w n : Nat} (h : n < 2 ^ w) : low w n = n := Nat.mod_eq_of_lt h
theorem notmax {n : Nat} (hn : n < 18446744073709551616) : bits .xor .u64 IntKind.u64.max (n : Int) = ((18446744073709551615 - n : Nat) : Int) := not64 hn

/-- What the code makes of two numbers, ahead of the cut to the answer's width. w: the first one's width; v: the second one's. -/
def numB (o w v n m : Nat) : Nat :=
  match o with
  | 5 => n &&& m
  | 6 => n ||| m
  | 7 => n ^^^ m
  | 8 => (n + m) % 18446744073709551616
  | 9 => (n + (18446744073709551616 - m)) % 18446744073709551616
  | 10 => n * m % 18446744073709551616
  | 11 => if m = 0 then 18446744073709551615 else n / m
  | 12 => if m = 0 then n else n % m
  | 13 => if m = 0 then 18446744073709551615 else ((wo w n).tdiv (wo v m) % 18446744073709551616).toNat
  | 14 => if m = 0 then n else ((wo w n).tmod (wo v m) % 18446744073709551616).toNat
  | 15 => n * 2 ^ min m 64 % 18446744073709551616
  | 16 => n / 2 ^ min m 64
  | 17 => ((wo w n / 2 ^ min m 64) % 18446744073709551616).toNat
  | 18 => (n == m).toNat
  | 19 => (decide (n < m)).toNat
  | 20 => (decide (n ^^^ 2 ^ (w - 1) < m ^^^ 2 ^ (w - 1))).toNat
  | 21 => n * 2 ^ v % 18446744073709551616 ||| m
  | _ => 0

end Bv
end Go.Proofs.Ytjhghfndhpaapaa

namespace Go.Proofs.Ytjhghfndhpaapaa
namespace Bv
theorem num11 (w v n m : Nat) (hn : n < 18446744073709551616) (h : ¬ m = 0) : IntKind.u64.wrap ((n : Int) / (m : Int)) = (numB 11 w v n m : Int) := by
  show _ = ((if m = 0 then 18446744073709551615 else n / m : Nat) : Int)
  rw [if_neg h, ← Int.natCast_ediv, IntKind.wrap_u64]
  have : n / m ≤ n := Nat.div_le_self _ _
  generalize n / m = q at *
  omega
theorem num12 (w v n m : Nat) (h : ¬ m = 0) : (n : Int) % (m : Int) = (numB 12 w v n m : Int) := by
  show _ = ((if m = 0 then n else n % m : Nat) : Int)
  rw [if_neg h, ← Int.natCast_emod]
theorem wo_ne {v m : Nat} (hm : m < 2 ^ v) (h : ¬ m = 0) : ¬ wo v m = 0 := by
  unfold wo
  split <;> omega

theorem num13 (w v n m : Nat) (h : ¬ m = 0) : IntKind.u64.wrap (IntKind.i64.wrap ((wo w n).tdiv (wo v m))) = (numB 13 w v n m : Int) := by
  show _ = ((if m = 0 then 18446744073709551615 else ((wo w n).tdiv (wo v m) % 18446744073709551616).toNat : Nat) : Int)
  rw [if_neg h, IntKind.wrap_u64, IntKind.wrap_i64]
  omega
theorem num14 (w v n m : Nat) (h : ¬ m = 0) : IntKind.u64.wrap ((wo w n).tmod (wo v m)) = (numB 14 w v n m : Int) := by
  show _ = ((if m = 0 then n else ((wo w n).tmod (wo v m) % 18446744073709551616).toNat : Nat) : Int)
  rw [if_neg h, IntKind.wrap_u64]
  omega

theorem num8 (w v n m : Nat) : IntKind.u64.wrap ((n : Int) + (m : Int)) = (numB 8 w v n m : Int) := by
  show _ = (((n + m) % 18446744073709551616 : Nat) : Int)
  rw [IntKind.wrap_u64]; omega
theorem num9 (w v n m : Nat) (hm : m < 18446744073709551616) : IntKind.u64.wrap ((n : Int) + IntKind.u64.wrap (-(m : Int))) = (numB 9 w v n m : Int) := by
  show _ = (((n + (18446744073709551616 - m)) % 18446744073709551616 : Nat) : Int)
  rw [IntKind.wrap_u64, IntKind.wrap_u64]; omega
theorem num10 (w v n m : Nat) : IntKind.u64.wrap ((n : Int) * (m : Int)) = (numB 10 w v n m : Int) := by
  show _ = ((n * m % 18446744073709551616 : Nat) : Int)
  rw [IntKind.wrap_u64, ← Int.natCast_mul]; omega
theorem num15 (w v n m : Nat) : IntKind.u64.wrap ((n : Int) * 2 ^ min m 64) = (numB 15 w v n m : Int) := by
  show _ = ((n * 2 ^ min m 64 % 18446744073709551616 : Nat) : Int)
  have e : ((2 : Int) ^ min m 64) = ((2 ^ min m 64 : Nat) : Int) := by simp
  rw [IntKind.wrap_u64, e, ← Int.natCast_mul]
  generalize n * 2 ^ min m 64 = q
  omega
theorem num16 (w v n m : Nat) : (n : Int) / 2 ^ min m 64 = (numB 16 w v n m : Int) := by
  show _ = ((n / 2 ^ min m 64 : Nat) : Int)
  simp
theorem num17 (w v n m : Nat) : IntKind.u64.wrap (wo w n / 2 ^ min m 64) = (numB 17 w v n m : Int) := by
  show _ = (((wo w n / 2 ^ min m 64) % 18446744073709551616).toNat : Int)
  rw [IntKind.wrap_u64]
  generalize wo w n / 2 ^ min m 64 = q
  omega
theorem num20 (w n m : Nat) (h1 : 1 ≤ w) (h2 : w ≤ 64) (hn : n < 18446744073709551616) (hm : m < 18446744073709551616) :
    decide (bits BinOp.xor IntKind.u64 (n : Int) (IntKind.u64.wrap (2 ^ (w - 1))) < bits BinOp.xor IntKind.u64 (m : Int) (IntKind.u64.wrap (2 ^ (w - 1)))) = decide (n ^^^ 2 ^ (w - 1) < m ^^^ 2 ^ (w - 1)) := by
  have hl := pow_le64 h2
  have hh := pow_half h1
  have hp := pow_pos' (w - 1)
  have e : ((2 : Int) ^ (w - 1)) = ((2 ^ (w - 1) : Nat) : Int) := by simp
  have e2 : IntKind.u64.wrap ((2 : Int) ^ (w - 1)) = ((2 ^ (w - 1) : Nat) : Int) := by
    rw [e, IntKind.wrap_u64]; clear e; generalize 2 ^ (w - 1) = b at *; omega
  rw [e2, bits_xor_u64_nat n _ hn (by omega), bits_xor_u64_nat m _ hm (by omega)]
  simp
theorem num21 (w v n m : Nat) (hm : m < 18446744073709551616) : bits BinOp.or IntKind.u64 (IntKind.u64.wrap ((n : Int) * 2 ^ v)) (m : Int) = (numB 21 w v n m : Int) := by
  show _ = ((n * 2 ^ v % 18446744073709551616 ||| m : Nat) : Int)
  have e : ((2 : Int) ^ v) = ((2 ^ v : Nat) : Int) := by simp
  have e2 : IntKind.u64.wrap ((n : Int) * 2 ^ v) = ((n * 2 ^ v % 18446744073709551616 : Nat) : Int) := by
    rw [e, ← Int.natCast_mul, IntKind.wrap_u64]
    generalize n * 2 ^ v = q
    omega
  rw [e2, bits_or_u64_nat _ m (Nat.mod_lt _ (by decide)) hm]

/-- The width of what o makes of vectors of the widths v and w; 0, if it takes none such. -/
def widthB (o v w : Nat) : Nat :=
  if 5 ≤ o ∧ o ≤ 17 then (if v = w then v else 0) else if 18 ≤ o ∧ o ≤ 20 then (if v = w then 1 else 0) else if o = 21 then (if v + w ≤ 64 then v + w else 0) else 0
theorem widthB_op {o v w : Nat} (h : ¬ widthB o v w = 0) : 5 ≤ o ∧ o ≤ 21 := by
  unfold widthB at h
  repeat' split at h
  all_goals omega
theorem widthB_le {o v w : Nat} (hv : v ≤ 64) : widthB o v w ≤ 64 := by
  unfold widthB
  repeat' split
  all_goals omega

theorem numB_lt {o w v n m : Nat} (hn : n < 18446744073709551616) (hm : m < 18446744073709551616) : numB o w v n m < 18446744073709551616 := by
  have b1 : ∀ b : Bool, b.toNat < 18446744073709551616 := fun b => by cases b <;> decide
  unfold numB
  split
  · exact Nat.lt_of_le_of_lt Nat.and_le_left hn
  · exact Nat.or_lt_two_pow (n := 64) hn hm
  · exact Nat.xor_lt_two_pow (n := 64) hn hm
  · omega
  · omega
  · omega
  · split
    · omega
    · exact Nat.lt_of_le_of_lt (Nat.div_le_self _ _) hn
  · split
    · omega
    · exact Nat.lt_of_le_of_lt (Nat.mod_le _ _) hn
  · split <;> omega
  · split <;> omega
  · omega
  · exact Nat.lt_of_le_of_lt (Nat.div_le_self _ _) hn
  · omega
  · exact b1 _
  · exact b1 _
  · exact b1 _
  · exact Nat.or_lt_two_pow (n := 64) (Nat.mod_lt _ (by decide)) hm
  · omega

/-- What the code makes of one number, ahead of the cut. -/
def numU (o n : Nat) : Nat := if o = 3 then 18446744073709551615 - n else (18446744073709551616 - n) % 18446744073709551616
theorem neg64 {n : Nat} (hn : n < 18446744073709551616) : bits .xor .u64 IntKind.u64.max (IntKind.u64.wrap ((n : Int) - 1)) = (numU 4 n : Int) := by
  have e : IntKind.u64.wrap ((n : Int) - 1) = (((n + 18446744073709551615) % 18446744073709551616 : Nat) : Int) := by rw [IntKind.wrap_u64]; omega
  rw [e, notmax (Nat.mod_lt _ (by decide))]
  show _ = (((18446744073709551616 - n) % 18446744073709551616 : Nat) : Int)
  omega
theorem numU_lt (o n : Nat) : numU o n < 18446744073709551616 := by unfold numU; split <;> omega

/-- What the code makes of a vector that becomes wider, ahead of the cut. -/
def numE (o w n : Nat) : Nat := if o = 24 then (wo w n % 18446744073709551616).toNat else n
theorem sext64 (w n : Nat) : IntKind.u64.wrap (wo w n) = (numE 24 w n : Int) := by
  show _ = (((wo w n % 18446744073709551616).toNat : Nat) : Int)
  rw [IntKind.wrap_u64]; omega
theorem numE_lt (o w : Nat) {n : Nat} (hn : n < 18446744073709551616) : numE o w n < 18446744073709551616 := by unfold numE; split <;> omega
end Bv
end Go.Proofs.Ytjhghfndhpaapaa

namespace Go.Proofs.Ytjhghfndhpaapaa
namespace Bv
section
variable {K : Act → World → Prop} {Q : Exit → Act → World → Prop} {a : Act} {w : World} {n k : Nat}
theorem ex_then (h : Q (.exit n) a w) : Exit.then K Q (.exit n) a w := h
theorem ex_far (hk : (n == k) = false) (h : Q (.exit n) a w) : Exit.inBlock k Q (.exit n) a w := by
  have : ¬ n = k := by simpa using hk
  show if n = k then Q .normal a w else Q (.exit n) a w
  rw [if_neg this]; exact h
theorem ex_near (h : Q .normal a w) : Exit.inBlock k Q (.exit k) a w := by
  show if k = k then Q .normal a w else Q (.exit k) a w
  rw [if_pos rfl]; exact h
theorem ex_go (h : K a w) : Exit.then K Q .normal a w := h
end
end Bv
end Go.Proofs.Ytjhghfndhpaapaa

namespace Go.Proofs.Ytjhghfndhpaapaa
open Go.RowKit
namespace Bv

theorem low_low (w n : Nat) : low w (low w n) = low w n := Nat.mod_mod _ _
theorem may_low {w : Nat} (h1 : 1 ≤ w) (h2 : w ≤ 64) (n : Nat) : mayB w (low w n) = true := mayB_mk h1 h2 (low_lt w n)
theorem may_one {w : Nat} (h1 : 1 ≤ w) (h2 : w ≤ 64) : mayB w 1 = true := mayB_mk h1 h2 (by have := pow_half h1; have := pow_pos' (w - 1); omega)

theorem low_add_left (w a b : Nat) : low w (low w a + b) = low w (a + b) := by unfold low; rw [Nat.mod_add_mod]
theorem low_add_right (w a b : Nat) : low w (a + low w b) = low w (a + b) := by unfold low; rw [Nat.add_mod_mod]

theorem low8 (w v a b : Nat) (h2 : w ≤ 64) : low w (numB 8 w v a b) = low w (a + b) := low_mod64 _ h2
theorem low9 (w v a b : Nat) (h2 : w ≤ 64) : low w (numB 9 w v a b) = low w (a + (18446744073709551616 - b)) := low_mod64 _ h2
theorem lowU4 (w a : Nat) (h2 : w ≤ 64) : low w (numU 4 a) = low w (18446744073709551616 - a) := low_mod64 _ h2

/-- Neg is Not and 1. -/
theorem neg_is {w n : Nat} (h2 : w ≤ 64) (hn : n < 18446744073709551616) : low w (numB 8 w w (low w (numU 3 n)) 1) = low w (numU 4 n) := by
  rw [low8 w w _ _ h2, lowU4 w _ h2, low_add_left]
  show low w (18446744073709551615 - n + 1) = _
  congr 1; omega
/-- Sub is Add of Neg. -/
theorem sub_is {w n m : Nat} (h2 : w ≤ 64) : low w (numB 8 w w n (low w (numU 4 m))) = low w (numB 9 w w n m) := by
  rw [low8 w w _ _ h2, low9 w w _ _ h2, lowU4 w _ h2, low_add_right]

theorem or_join {x m v : Nat} (hm : m < 2 ^ v) : x * 2 ^ v ||| m = x * 2 ^ v + m := by
  have := Nat.two_pow_add_eq_or_of_lt hm x
  rw [Nat.mul_comm] at this
  exact this.symm
/-- Concat is the first one above the second. -/
theorem concat_is {w v n m : Nat} (hr : w + v ≤ 64) (hn : n < 2 ^ w) (hm : m < 2 ^ v) : low (w + v) (numB 21 w v n m) = n * 2 ^ v + m := by
  have hl := pow_le64 hr
  have hlt : n * 2 ^ v + m < 2 ^ (w + v) := by
    rw [Nat.pow_add]
    have h1 : n * 2 ^ v + m < (n + 1) * 2 ^ v := by rw [Nat.succ_mul]; omega
    exact Nat.lt_of_lt_of_le h1 (Nat.mul_le_mul_right _ hn)
  show low (w + v) (n * 2 ^ v % 18446744073709551616 ||| m) = _
  rw [Nat.mod_eq_of_lt (by omega), or_join hm, low_self hlt]
theorem concat_lt {w v n m : Nat} (hn : n < 2 ^ w) (hm : m < 2 ^ v) : n * 2 ^ v + m < 2 ^ (w + v) := by
  rw [Nat.pow_add]
  have h1 : n * 2 ^ v + m < (n + 1) * 2 ^ v := by rw [Nat.succ_mul]; omega
  exact Nat.lt_of_lt_of_le h1 (Nat.mul_le_mul_right _ hn)
theorem concat_low {v n m : Nat} (hm : m < 2 ^ v) : low v ((n * 2 ^ v + m) / 2 ^ 0) = m := by
  unfold low
  rw [Nat.pow_zero, Nat.div_one, Nat.add_comm, Nat.add_mul_mod_self_right, Nat.mod_eq_of_lt hm]
theorem concat_high {w v n m : Nat} (hn : n < 2 ^ w) (hm : m < 2 ^ v) : low w ((n * 2 ^ v + m) / 2 ^ v) = n := by
  unfold low
  rw [Nat.mul_comm, Nat.mul_add_div (pow_pos' v), Nat.div_eq_of_lt hm, Nat.add_zero, Nat.mod_eq_of_lt hn]

theorem low64 {n : Nat} (hn : n < 18446744073709551616) : low 64 n = n := low_self (by simpa using hn)
theorem low_div0 {w n : Nat} (hn : n < 2 ^ w) : low w (n / 2 ^ 0) = n := by rw [Nat.pow_zero, Nat.div_one, low_self hn]
/-- A vector that is made wider with its sign begins with it. -/
theorem sext_low {w n : Nat} (h2 : w ≤ 64) (hn : n < 2 ^ w) : low w (numE 24 w n / 2 ^ 0) = n := by
  rw [Nat.pow_zero, Nat.div_one]
  show (wo w n % 18446744073709551616).toNat % 2 ^ w = n
  have hl := pow_le64 h2
  unfold wo
  split
  · rw [show ((n : Int) % 18446744073709551616).toNat = n by omega, Nat.mod_eq_of_lt hn]
  · have hs := pow_split h2
    have e : (((n : Int) - (2 ^ w : Nat)) % 18446744073709551616).toNat = n + (18446744073709551616 - 2 ^ w) := by omega
    rw [e]
    have e2 : 18446744073709551616 - 2 ^ w = 2 ^ w * (2 ^ (64 - w) - 1) := by rw [Nat.mul_sub, hs, Nat.mul_one]
    rw [e2, Nat.add_mul_mod_self_left, Nat.mod_eq_of_lt hn]
theorem sext_worth {w n : Nat} (h1 : 1 ≤ w) (h2 : w ≤ 64) (hn : n < 2 ^ w) : wrap64 (numE 24 w n : Int) = wo w n := by
  have hb := wo_bd h1 h2 hn
  show wrap64 (((wo w n % 18446744073709551616).toNat : Nat) : Int) = wo w n
  unfold wrap64
  omega

/-- One of less, greater, equal. -/
theorem one_of (w n m : Nat) : low 1 (numB 19 w w n m) + low 1 (numB 19 w w m n) + low 1 (numB 18 w w n m) = 1 := by
  show (decide (n < m)).toNat % 2 + (decide (m < n)).toNat % 2 + (n == m).toNat % 2 = 1
  rcases Nat.lt_trichotomy n m with h | h | h
  · have a : ¬ m < n := by omega
    have b : (n == m) = false := by simp; omega
    simp [h, a, b]
  · subst h; simp
  · have a : ¬ n < m := by omega
    have b : (n == m) = false := by simp; omega
    simp [h, a, b]
end Bv
end Go.Proofs.Ytjhghfndhpaapaa

namespace Go.Proofs.Ytjhghfndhpaapaa
open Go.RowKit
namespace Bv

theorem low10 (w v a b : Nat) (h2 : w ≤ 64) : low w (numB 10 w v a b) = low w (a * b) := low_mod64 _ h2
theorem num11_eq {w v n m : Nat} (h : ¬ m = 0) : numB 11 w v n m = n / m := by show (if m = 0 then _ else n / m) = _; rw [if_neg h]
theorem num12_eq {w v n m : Nat} (h : ¬ m = 0) : numB 12 w v n m = n % m := by show (if m = 0 then _ else n % m) = _; rw [if_neg h]
theorem low_mul_left (w a b : Nat) : low w (low w a * b) = low w (a * b) := by unfold low; rw [Nat.mod_mul_mod]

/-- Of numbers: the quotient times the second, and the rest, are the first. -/
theorem udiv_is {w n m : Nat} (h2 : w ≤ 64) (hn : n < 2 ^ w) (h : ¬ m = 0) :
    low w (numB 8 w w (low w (numB 10 w w (low w (numB 11 w w n m)) m)) (low w (numB 12 w w n m))) = n := by
  rw [low8 w w _ _ h2, low10 w w _ _ h2, low_mul_left, low_add_left, low_add_right, num11_eq h, num12_eq h, Nat.mul_comm, Nat.div_add_mod]
  exact low_self hn
theorem urem_lt {w n m : Nat} (hn : n < 2 ^ w) (h : ¬ m = 0) : low 1 (numB 19 w w (low w (numB 12 w w n m)) m) = 1 := by
  have hr : low w (numB 12 w w n m) < m := by
    rw [num12_eq h, low_self (Nat.lt_of_le_of_lt (Nat.mod_le _ _) hn)]
    exact Nat.mod_lt _ (by omega)
  generalize low w (numB 12 w w n m) = r at *
  show low 1 (decide (r < m)).toNat = 1
  rw [decide_eq_true hr]; rfl

/-- What a number of 64 bits is modulo 2^w, over Int. -/
theorem low_int {w : Nat} (h2 : w ≤ 64) (x : Int) : ((low w (x % 18446744073709551616).toNat : Nat) : Int) = x % ((2 ^ w : Nat) : Int) := by
  unfold low
  have h0 : 0 ≤ x % 18446744073709551616 := Int.emod_nonneg _ (by decide)
  rw [Int.natCast_emod, Int.toNat_of_nonneg h0]
  exact Int.emod_emod_of_dvd x ⟨((2 ^ (64 - w) : Nat) : Int), by rw [← Int.natCast_mul, pow_split h2]; rfl⟩
theorem wo_mod (w n : Nat) : wo w n % ((2 ^ w : Nat) : Int) = (n : Int) % ((2 ^ w : Nat) : Int) := by
  unfold wo
  split
  · rfl
  · rw [Int.sub_emod_right]
theorem low_cast (w a : Nat) : ((low w a : Nat) : Int) = (a : Int) % ((2 ^ w : Nat) : Int) := by unfold low; rw [Int.natCast_emod]

/-- Of worths likewise. -/
theorem sdiv_is {w n m : Nat} (h2 : w ≤ 64) (hn : n < 2 ^ w) (h : ¬ m = 0) :
    low w (numB 8 w w (low w (numB 10 w w (low w (numB 13 w w n m)) m)) (low w (numB 14 w w n m))) = n := by
  have e13 : numB 13 w w n m = ((wo w n).tdiv (wo w m) % 18446744073709551616).toNat := by show (if m = 0 then _ else _) = _; rw [if_neg h]
  have e14 : numB 14 w w n m = ((wo w n).tmod (wo w m) % 18446744073709551616).toNat := by show (if m = 0 then _ else _) = _; rw [if_neg h]
  rw [low8 w w _ _ h2, low10 w w _ _ h2, e13, e14]
  have key : ((low w (low w (low w ((wo w n).tdiv (wo w m) % 18446744073709551616).toNat * m) + low w ((wo w n).tmod (wo w m) % 18446744073709551616).toNat) : Nat) : Int) = (n : Int) := by
    rw [low_cast, Int.natCast_add, low_cast w (_ * m), Int.natCast_mul, low_int h2, low_int h2]
    rw [← Int.add_emod, Int.add_emod, Int.mul_emod, Int.emod_emod_of_dvd _ (Int.dvd_refl _), ← wo_mod w m, ← Int.mul_emod, ← Int.add_emod, Int.mul_comm, Int.mul_tdiv_add_tmod, wo_mod]
    exact Int.emod_eq_of_lt (by omega) (by omega)
  exact Int.ofNat_inj.1 key

/-- The worth of a vector whose highest bit is set, with ones above it. -/
theorem worth_or {w n : Nat} (h1 : 1 ≤ w) (h2 : w ≤ 64) (hn : n < 2 ^ w) (hs : 2 ^ (w - 1) ≤ n) :
    IntKind.i64.wrap (bits BinOp.or IntKind.u64 (n : Int) (bits BinOp.xor IntKind.u64 IntKind.u64.max ((2 ^ w - 1 : Nat) : Int))) = wo w n := by
  have hl := pow_le64 h2
  have hh := pow_half h1
  have hp := pow_pos' (w - 1)
  have hsp := pow_split h2
  rw [notmax (by omega), bits_or_u64_nat n _ (by omega) (by omega), Nat.or_comm]
  have e : 18446744073709551615 - (2 ^ w - 1) = (2 ^ (64 - w) - 1) * 2 ^ w := by
    rw [Nat.sub_mul, Nat.mul_comm, hsp, Nat.one_mul]; omega
  rw [e, or_join hn, ← e, IntKind.wrap_i64, wo_neg hs]
  omega
theorem worth_plain {w n : Nat} (h1 : 1 ≤ w) (h2 : w ≤ 64) (hs : ¬ 2 ^ (w - 1) ≤ n) : IntKind.i64.wrap (n : Int) = wo w n := by
  have hl := pow_le64 h2
  have hh := pow_half h1
  rw [wo_pos (by omega), IntKind.wrap_i64]
  omega
end Bv
end Go.Proofs.Ytjhghfndhpaapaa
