/-
Plain facts on long division, products by adding, and shifts bit by bit.
Plain facts on products by adding and shifts bit by bit.
Plain facts: what shifts, orders and quotients by worths are, bit by bit and by signs.
Plain facts for layer known: the masks of those bits of a node that are sure.
A node as a key of a map, two nodes compared: what the model makes of them, in terms of the seven numbers.
What the small functions of layer bv and of its reference return, each as a fact on one call: they return, and what was in memory stays.
What the middle functions of layer bv and of its reference return, each as a fact on one call.
What the small functions of layer term return, each as a fact on one call.
-/
import Derived.Test.YtigjbngedbbdbaaPt01
import Derived.Test.YtigjbngedbbdbaaProg
import Derived.KernelRfl
import Derived.WalkKit
import Derived.Outline
import Derived.DeepKeys4
import Derived.Maps.Own
import Derived.Maps.OwnOps
import Derived.Maps.OwnSet
import Derived.Maps.Views
import Derived.Laws.Cover3
import Derived.Deep.QuietTactic
import Derived.BigQuiet
import Derived.Below
import Derived.WalkSmall
import Derived.Deep.RegionHeld3
import Derived.Lib.Hide
import Derived.Deep.CutRange
namespace Go.Proofs.Ytigjbngedbbdbaa
open Go.RowKit
namespace Bv

def dq (n m k : Nat) : Nat := n / 2 ^ k / m * 2 ^ k
def dr (n m k : Nat) : Nat := n / 2 ^ k % m
theorem dq_start {n m : Nat} (hn : n < 18446744073709551616) : dq n m 64 = 0 := by
  have e : n / 2 ^ 64 = 0 := Nat.div_eq_of_lt (by simpa using hn)
  unfold dq; rw [e]; simp
theorem dr_start {n m : Nat} (hn : n < 18446744073709551616) : dr n m 64 = 0 := by
  have e : n / 2 ^ 64 = 0 := Nat.div_eq_of_lt (by simpa using hn)
  unfold dr; rw [e]; simp
theorem dq_end (n m : Nat) : dq n m 0 = n / m := by unfold dq; simp
theorem dr_end (n m : Nat) : dr n m 0 = n % m := by unfold dr; simp
theorem dr_lt (n : Nat) {m : Nat} (k : Nat) (h : 0 < m) : dr n m k < m := Nat.mod_lt _ h
/-- The bit that comes next. -/
def db (n j : Nat) : Nat := n / 2 ^ j % 2
theorem db_lt (n j : Nat) : db n j < 2 := Nat.mod_lt _ (by decide)
theorem pre_step (n j : Nat) : n / 2 ^ j = 2 * (n / 2 ^ (j + 1)) + db n j := by
  unfold db
  rw [Nat.pow_succ, ← Nat.div_div_eq_div_mul]
  omega
theorem dr_yes {n m j : Nat} (hm : 0 < m) (h : m ≤ 2 * dr n m (j + 1) + db n j) : dr n m j = 2 * dr n m (j + 1) + db n j - m ∧ n / 2 ^ j / m = 2 * (n / 2 ^ (j + 1) / m) + 1 := by
  have hp := pre_step n j
  have hb := db_lt n j
  have hr := dr_lt n (j + 1) hm
  unfold dr at *
  have e := Nat.div_add_mod (n / 2 ^ (j + 1)) m
  generalize n / 2 ^ (j + 1) = A at *
  generalize n / 2 ^ j = B at *
  generalize db n j = b at *
  generalize hq : A / m = q at *
  generalize A % m = r at *
  have e2 : B = (2 * q + 1) * m + (2 * r + b - m) := by
    rw [hp, ← e, Nat.add_mul, Nat.mul_assoc, Nat.mul_comm q m]; omega
  have hlt : 2 * r + b - m < m := by omega
  rw [e2]
  constructor
  · rw [Nat.add_comm, Nat.add_mul_mod_self_right, Nat.mod_eq_of_lt hlt]
  · rw [Nat.add_comm, Nat.add_mul_div_right _ _ hm, Nat.div_eq_of_lt hlt]; omega
theorem dr_no {n m j : Nat} (hm : 0 < m) (h : 2 * dr n m (j + 1) + db n j < m) : dr n m j = 2 * dr n m (j + 1) + db n j ∧ n / 2 ^ j / m = 2 * (n / 2 ^ (j + 1) / m) := by
  have hp := pre_step n j
  unfold dr at *
  have e := Nat.div_add_mod (n / 2 ^ (j + 1)) m
  generalize n / 2 ^ (j + 1) = A at *
  generalize n / 2 ^ j = B at *
  generalize db n j = b at *
  generalize hq : A / m = q at *
  generalize A % m = r at *
  have e2 : B = (2 * q) * m + (2 * r + b) := by
    rw [hp, ← e, Nat.mul_assoc, Nat.mul_comm q m]; omega
  rw [e2]
  constructor
  · rw [Nat.add_comm, Nat.add_mul_mod_self_right, Nat.mod_eq_of_lt h]
  · rw [Nat.add_comm, Nat.add_mul_div_right _ _ hm, Nat.div_eq_of_lt h]; omega
theorem dq_yes {n m j : Nat} (hm : 0 < m) (h : m ≤ 2 * dr n m (j + 1) + db n j) : dq n m j = dq n m (j + 1) + 2 ^ j := by
  have e := (dr_yes hm h).2
  unfold dq
  rw [e, Nat.pow_succ, Nat.add_mul, Nat.one_mul, Nat.mul_comm 2, Nat.mul_assoc, Nat.mul_comm 2]
theorem dq_no {n m j : Nat} (hm : 0 < m) (h : 2 * dr n m (j + 1) + db n j < m) : dq n m j = dq n m (j + 1) := by
  have e := (dr_no hm h).2
  unfold dq
  rw [e, Nat.pow_succ, Nat.mul_comm 2, Nat.mul_assoc, Nat.mul_comm 2]
theorem dq_le (n m k : Nat) : dq n m k ≤ n := by
  unfold dq
  exact Nat.le_trans (Nat.mul_le_mul_right _ (Nat.div_le_self _ _)) (Nat.div_mul_le_self n (2 ^ k))
theorem dq_or {n m j : Nat} : dq n m (j + 1) ||| 2 ^ j = dq n m (j + 1) + 2 ^ j := by
  unfold dq
  exact or_join (Nat.pow_lt_pow_right (by decide) (Nat.lt_succ_self j))

theorem and_bit {n j : Nat} (hn : n < 18446744073709551616) : bits BinOp.and IntKind.u64 ((n : Int) / 2 ^ j) 1 = (db n j : Int) := by
  have e : (n : Int) / 2 ^ j = ((n / 2 ^ j : Nat) : Int) := by simp
  rw [e, show (1 : Int) = ((1 : Nat) : Int) from rfl, bits_and_u64_nat _ 1 (Nat.lt_of_le_of_lt (Nat.div_le_self _ _) hn) (by decide), Nat.and_one_is_mod]
  rfl
theorem or_bit {n j x : Nat} (hn : n < 18446744073709551616) (hx : 2 * x < 18446744073709551616) : bits BinOp.or IntKind.u64 ((x : Int) * 2) (bits BinOp.and IntKind.u64 ((n : Int) / 2 ^ j) 1) = ((2 * x + db n j : Nat) : Int) := by
  have hb := db_lt n j
  rw [and_bit hn, show (x : Int) * 2 = ((x * 2 : Nat) : Int) by simp, bits_or_u64_nat _ _ (by omega) (by omega)]
  have := or_join (x := x) (m := db n j) (v := 1) (by simpa using hb)
  rw [Nat.pow_one] at this
  rw [this, Nat.mul_comm]
theorem or_bit' {n j x : Nat} (hn : n < 18446744073709551616) : bits BinOp.or IntKind.u64 (IntKind.u64.wrap ((x : Int) * 2)) (bits BinOp.and IntKind.u64 ((n : Int) / 2 ^ j) 1) = ((2 * x % 18446744073709551616 + db n j : Nat) : Int) := by
  have e : IntKind.u64.wrap ((x : Int) * 2) = ((x % 9223372036854775808 : Nat) : Int) * 2 := by rw [IntKind.wrap_u64]; omega
  rw [e, or_bit hn (by omega)]
  congr 2; omega
theorem or_pow {n m j : Nat} (hn : n < 18446744073709551616) (hj : j < 64) : bits BinOp.or IntKind.u64 ((dq n m (j + 1) : Nat) : Int) (IntKind.u64.wrap (2 ^ j)) = ((dq n m (j + 1) + 2 ^ j : Nat) : Int) := by
  have hpow : 2 ^ j < 18446744073709551616 := by
    have := Nat.pow_lt_pow_right (a := 2) (by omega) hj
    simpa using this
  have e : ((2 : Int) ^ j) = ((2 ^ j : Nat) : Int) := by simp
  have e2 : IntKind.u64.wrap ((2 : Int) ^ j) = ((2 ^ j : Nat) : Int) := by
    rw [e, IntKind.wrap_u64]; clear e; generalize 2 ^ j = b at *; omega
  rw [e2, bits_or_u64_nat _ _ (Nat.lt_of_le_of_lt (dq_le n m _) hn) hpow, dq_or]
end Bv
end Go.Proofs.Ytigjbngedbbdbaa

namespace Go.Proofs.Ytigjbngedbbdbaa
open Go.RowKit
namespace Bv

/-- The product with the k lowest bits of m. -/
def tm (n m k : Nat) : Nat := n * (m % 2 ^ k) % 18446744073709551616
theorem tm_start (n m : Nat) : tm n m 0 = 0 := by unfold tm; simp [Nat.mod_one]
theorem tm_lt (n m k : Nat) : tm n m k < 18446744073709551616 := Nat.mod_lt _ (by decide)
theorem mod_step (m k : Nat) : m % 2 ^ (k + 1) = m % 2 ^ k + (m.testBit k).toNat * 2 ^ k := by
  rw [Nat.mod_pow_succ, Nat.testBit_eq_decide_div_mod_eq]
  rcases Nat.mod_two_eq_zero_or_one (m / 2 ^ k) with h | h <;> simp [h]
theorem tm_no {n m k : Nat} (h : m.testBit k = false) : tm n m (k + 1) = tm n m k := by unfold tm; rw [mod_step, h]; simp
theorem tm_yes {n m k : Nat} (h : m.testBit k = true) : IntKind.u64.wrap ((tm n m k : Nat) + IntKind.u64.wrap ((n : Int) * 2 ^ k)) = (tm n m (k + 1) : Nat) := by
  have e : ((2 : Int) ^ k) = ((2 ^ k : Nat) : Int) := by simp
  unfold tm
  rw [mod_step, h, Bool.toNat_true, Nat.one_mul, Nat.mul_add, e, ← Int.natCast_mul, IntKind.wrap_u64, IntKind.wrap_u64]
  generalize n * (m % 2 ^ k) = p
  generalize n * 2 ^ k = q
  omega
theorem tm_end {n m w : Nat} (hm : m < 2 ^ w) (h2 : w ≤ 64) : low w (tm n m w) = low w (n * m) := by
  unfold tm; rw [low_mod64 _ h2, Nat.mod_eq_of_lt hm]

/-- The k lowest bits of T. -/
def sh (T k : Nat) : Nat := T % 2 ^ k
theorem sh_start (T : Nat) : sh T 0 = 0 := by unfold sh; simp [Nat.mod_one]
theorem sh_lt (T : Nat) {k : Nat} (hk : k ≤ 64) : sh T k < 18446744073709551616 := Nat.lt_of_lt_of_le (Nat.mod_lt _ (pow_pos' k)) (pow_le64 hk)
theorem sh_no {T k : Nat} (h : T.testBit k = false) : sh T (k + 1) = sh T k := by unfold sh; rw [mod_step, h]; simp
theorem sh_yes {T k : Nat} (hk : k < 64) (h : T.testBit k = true) : bits BinOp.or IntKind.u64 ((sh T k : Nat) : Int) (IntKind.u64.wrap (2 ^ k)) = (sh T (k + 1) : Nat) := by
  have hpow : 2 ^ k < 18446744073709551616 := by
    have := Nat.pow_lt_pow_right (a := 2) (by omega) hk
    simpa using this
  have e : ((2 : Int) ^ k) = ((2 ^ k : Nat) : Int) := by simp
  have e2 : IntKind.u64.wrap ((2 : Int) ^ k) = ((2 ^ k : Nat) : Int) := by
    rw [e, IntKind.wrap_u64]; clear e; generalize 2 ^ k = b at *; omega
  rw [e2, bits_or_u64_nat _ _ (sh_lt T (by omega)) hpow]
  have hl : sh T k < 2 ^ k := Nat.mod_lt _ (pow_pos' k)
  have := or_join (x := 1) hl
  rw [Nat.one_mul] at this
  rw [Nat.or_comm, this]
  unfold sh
  rw [mod_step, h]; simp; omega
theorem sh_end {T w : Nat} (h : T < 2 ^ w) : sh T w = T := Nat.mod_eq_of_lt h
end Bv
end Go.Proofs.Ytigjbngedbbdbaa

namespace Go.Proofs.Ytigjbngedbbdbaa
open Go.RowKit
namespace Bv

theorem low_bit (w x k : Nat) (hk : k < w) : (low w x).testBit k = x.testBit k := by
  unfold low; rw [Nat.testBit_mod_two_pow]; simp [hk]
theorem mod64_bit (x k : Nat) (hk : k < 64) : (x % 18446744073709551616).testBit k = x.testBit k := by
  have : (18446744073709551616 : Nat) = 2 ^ 64 := by decide
  rw [this, Nat.testBit_mod_two_pow]; simp [hk]
theorem high_bit {w n k : Nat} (hn : n < 2 ^ w) (hk : w ≤ k) : n.testBit k = false :=
  Nat.testBit_lt_two_pow (Nat.lt_of_lt_of_le hn (Nat.pow_le_pow_right (by decide) hk))

theorem shl_bits {w v n m : Nat} (h2 : w ≤ 64) {k : Nat} (hk : k < w) :
    (low w (numB 15 w v n m)).testBit k = (decide (m ≤ k) && n.testBit (k - m)) := by
  rw [low_bit _ _ _ hk]
  show (n * 2 ^ min m 64 % 18446744073709551616).testBit k = _
  rw [mod64_bit _ _ (by omega), Nat.testBit_mul_two_pow]
  by_cases h : m ≤ k
  · rw [Nat.min_eq_left (by omega)]
  · have : ¬ min m 64 ≤ k := by omega
    simp [h, this]
theorem lshr_bits {w v n m : Nat} (h2 : w ≤ 64) (hn : n < 2 ^ w) {k : Nat} (hk : k < w) :
    (low w (numB 16 w v n m)).testBit k = (decide (m < w ∧ k + m < w) && n.testBit (k + m)) := by
  rw [low_bit _ _ _ hk]
  show (n / 2 ^ min m 64).testBit k = _
  rw [Nat.testBit_div_two_pow]
  by_cases h : k + m < w
  · rw [Nat.min_eq_left (by omega)]
    have : m < w := by omega
    simp [h, this]
  · have e : n.testBit (k + min m 64) = false := high_bit hn (by omega)
    simp [h, e]

theorem xor_low {i r : Nat} (h : r < 2 ^ i) : r ^^^ 2 ^ i = r + 2 ^ i := by
  have e : r ^^^ 2 ^ i = 2 ^ i ||| r := by
    apply Nat.eq_of_testBit_eq
    intro j
    rw [Nat.testBit_xor, Nat.testBit_or, Nat.testBit_two_pow]
    by_cases hj : i = j
    · subst hj
      have : r.testBit i = false := Nat.testBit_lt_two_pow h
      simp [this]
    · simp [hj]
  have e2 := Nat.two_pow_add_eq_or_of_lt h 1
  rw [Nat.mul_one] at e2
  rw [e, ← e2, Nat.add_comm]
theorem xor_top {w n : Nat} (h1 : 1 ≤ w) (hn : n < 2 ^ w) : n ^^^ 2 ^ (w - 1) = if 2 ^ (w - 1) ≤ n then n - 2 ^ (w - 1) else n + 2 ^ (w - 1) := by
  have hh := pow_half h1
  split
  · have hr : n - 2 ^ (w - 1) < 2 ^ (w - 1) := by omega
    have e := xor_low hr
    have e2 : n = n - 2 ^ (w - 1) + 2 ^ (w - 1) := by omega
    conv => lhs; rw [e2, ← e, Nat.xor_assoc, Nat.xor_self, Nat.xor_zero]
  · exact xor_low (by omega)
theorem slt_is {w n m : Nat} (h1 : 1 ≤ w) (hn : n < 2 ^ w) (hm : m < 2 ^ w) :
    decide (n ^^^ 2 ^ (w - 1) < m ^^^ 2 ^ (w - 1)) = (if decide (2 ^ (w - 1) ≤ n) = decide (2 ^ (w - 1) ≤ m) then decide (n < m) else decide (2 ^ (w - 1) ≤ n)) := by
  have hh := pow_half h1
  rw [xor_top h1 hn, xor_top h1 hm]
  by_cases a : 2 ^ (w - 1) ≤ n <;> by_cases b : 2 ^ (w - 1) ≤ m <;> simp [a, b] <;> omega

/-- Shifted down with the sign. -/
theorem ashr_low {w v n m : Nat} (h2 : w ≤ 64) : ((low w (numB 17 w v n m) : Nat) : Int) = (wo w n / 2 ^ min m 64) % ((2 ^ w : Nat) : Int) := by
  show ((low w ((wo w n / 2 ^ min m 64) % 18446744073709551616).toNat : Nat) : Int) = _
  exact low_int h2 _
theorem ashr_neg {w n s : Nat} (hn : n < 2 ^ w) (hs : s ≤ w) :
    (((n : Int) - ((2 ^ w : Nat) : Int)) / 2 ^ s) % ((2 ^ w : Nat) : Int) = (((2 ^ s - 1) * 2 ^ (w - s) + n / 2 ^ s : Nat) : Int) := by
  have hp := pow_pos' s
  have hq := pow_pos' (w - s)
  have hw : 2 ^ w = 2 ^ (w - s) * 2 ^ s := by rw [← Nat.pow_add]; congr 1; omega
  have hlt : n / 2 ^ s < 2 ^ (w - s) := by rw [Nat.div_lt_iff_lt_mul hp, ← hw]; exact hn
  have e1 : ((2 : Int) ^ s) = ((2 ^ s : Nat) : Int) := by simp
  rw [e1, hw]
  generalize 2 ^ s = a at *
  generalize 2 ^ (w - s) = b at *
  have e2 : ((n : Int) - ((b * a : Nat) : Int)) / (a : Int) = ((n / a : Nat) : Int) - (b : Int) := by
    rw [Int.natCast_mul, Int.sub_eq_add_neg, ← Int.neg_mul, Int.add_mul_ediv_right _ _ (by omega), Int.natCast_ediv]; omega
  rw [e2]
  clear e2
  generalize n / a = t at *
  have hb : (a - 1) * b + b = b * a := by
    rw [← Nat.succ_mul, Nat.mul_comm]; congr 1; omega
  have e3 : (t : Int) - (b : Int) + ((b * a : Nat) : Int) = (((a - 1) * b + t : Nat) : Int) := by
    rw [← hb]
    generalize (a - 1) * b = z
    omega
  rw [← Int.add_emod_right, e3]
  rw [← hb]
  generalize (a - 1) * b = z
  exact Int.emod_eq_of_lt (by omega) (by omega)
theorem ashr_far {w n s : Nat} (hn : n < 2 ^ w) (hs : w ≤ s) :
    (((n : Int) - ((2 ^ w : Nat) : Int)) / 2 ^ s) % ((2 ^ w : Nat) : Int) = ((2 ^ w - 1 : Nat) : Int) := by
  have hp := pow_pos' w
  have hle : 2 ^ w ≤ 2 ^ s := Nat.pow_le_pow_right (by decide) hs
  have e1 : ((2 : Int) ^ s) = ((2 ^ s : Nat) : Int) := by simp
  rw [e1]
  generalize 2 ^ s = a at *
  generalize 2 ^ w = b at *
  have e2 : ((n : Int) - (b : Int)) / (a : Int) = -1 := by
    rw [Int.ediv_eq_iff_of_pos (by omega)]; omega
  rw [e2, ← Int.add_emod_right, show (-1 : Int) + (b : Int) = ((b - 1 : Nat) : Int) by omega]
  exact Int.emod_eq_of_lt (by omega) (by omega)
theorem ones_bit (s j : Nat) : (2 ^ s - 1).testBit j = decide (j < s) := Nat.testBit_two_pow_sub_one s j
theorem ashr_bits {w v n m : Nat} (h1 : 1 ≤ w) (h2 : w ≤ 64) (hn : n < 2 ^ w) {k : Nat} (hk : k < w) :
    (low w (numB 17 w v n m)).testBit k = if m < w ∧ k + m < w then n.testBit (k + m) else decide (2 ^ (w - 1) ≤ n) := by
  have hT := ashr_low (w := w) (v := v) (n := n) (m := m) h2
  by_cases hs : 2 ^ (w - 1) ≤ n
  · rw [wo_neg hs] at hT
    by_cases hm : min m 64 ≤ w
    · rw [ashr_neg hn hm] at hT
      have e := Int.ofNat_inj.1 hT
      rw [e]
      have hlt : n / 2 ^ min m 64 < 2 ^ (w - min m 64) := by
        rw [Nat.div_lt_iff_lt_mul (pow_pos' _), ← Nat.pow_add, show w - min m 64 + min m 64 = w by omega]; exact hn
      rw [← or_join hlt, Nat.testBit_or, Nat.testBit_mul_two_pow, Nat.testBit_div_two_pow, ones_bit]
      by_cases hc : m < w ∧ k + m < w
      · rw [if_pos hc, Nat.min_eq_left (by omega)]
        have : ¬ w - m ≤ k := by omega
        simp [this]
      · rw [if_neg hc]
        have a : w - min m 64 ≤ k := by omega
        have b : k - (w - min m 64) < min m 64 := by omega
        simp [a, b, hs]
    · rw [ashr_far hn (by omega)] at hT
      have e := Int.ofNat_inj.1 hT
      rw [e, ones_bit, if_neg (by omega)]
      simp [hk, hs]
  · rw [wo_pos (by omega)] at hT
    have e0 : (n : Int) / 2 ^ min m 64 = ((n / 2 ^ min m 64 : Nat) : Int) := by simp
    rw [e0, Int.emod_eq_of_lt (Int.natCast_nonneg _) (Int.ofNat_lt.2 (Nat.lt_of_le_of_lt (Nat.div_le_self _ _) hn))] at hT
    have e := Int.ofNat_inj.1 hT
    rw [e, Nat.testBit_div_two_pow]
    by_cases hc : m < w ∧ k + m < w
    · rw [if_pos hc, Nat.min_eq_left (by omega)]
    · rw [if_neg hc]
      have hn' : n < 2 ^ (w - 1) := by omega
      have e : n.testBit (k + min m 64) = false := high_bit hn' (by omega)
      simp [e, hs]
end Bv
end Go.Proofs.Ytigjbngedbbdbaa

namespace Go.Proofs.Ytigjbngedbbdbaa
open Bv Tm
namespace Kn
set_option maxHeartbeats 400000

/-- The lowest bits that are set, up to the first that is not. -/
def lows (m : Nat) : Nat := m &&& (18446744073709551615 - (m + 1) % 18446744073709551616)
/-- On how many kids the bits of an operator hang. -/
def ka (o : Nat) : Nat :=
  if o = 3 ∨ o = 15 ∨ o = 16 ∨ o = 17 ∨ o = 22 ∨ o = 23 ∨ o = 24 then 1
  else if o = 5 ∨ o = 6 ∨ o = 7 ∨ o = 8 ∨ o = 9 ∨ o = 10 ∨ o = 18 ∨ o = 21 then 2
  else if o = 25 then 3 else 0
/-- Masks: of those bits that are 0, of those that are 1. -/
abbrev Kb : Type := Nat × Nat
def shK (o w : Nat) (a : Kb) (far : Nat) : Kb :=
  if o = 15 then (low w (a.1 * 2 ^ min far 64 % 18446744073709551616 ||| (18446744073709551615 - 18446744073709551615 * 2 ^ min far 64 % 18446744073709551616)), low w (a.2 * 2 ^ min far 64 % 18446744073709551616))
  else if o = 16 then (low w (a.1 / 2 ^ min far 64 ||| (18446744073709551615 - (2 ^ w - 1) / 2 ^ min far 64)), low w (a.2 / 2 ^ min far 64))
  else (low w (numB 17 w w a.1 far), low w (numB 17 w w a.2 far))
def iteK (w : Nat) (c a b : Kb) : Kb := if c.2 = 1 then a else if c.1 = 1 then b else (low w (a.1 &&& b.1), low w (a.2 &&& b.2))
def eqK (w : Nat) (a b : Kb) : Kb := if ¬ (a.1 &&& b.2 ||| a.2 &&& b.1) = 0 then (1, 0) else if (a.1 ||| a.2) &&& (b.1 ||| b.2) = 2 ^ w - 1 then (0, 1) else (0, 0)
def farK (o w : Nat) (a : Kb) (far : Option Nat) : Kb :=
  match far with
  | some k => shK o w a k
  | none => (0, 0)
/-- What is sure of an operator's answer, by what is sure of its kids. -/
def opK (o w n l w0 w1 : Nat) (a b c : Kb) (far : Option Nat) : Kb :=
  if o = 1 then (low w (18446744073709551615 - n), low w n)
  else if o = 3 then (low w a.2, low w a.1)
  else if o = 5 then (low w (a.1 ||| b.1), low w (a.2 &&& b.2))
  else if o = 6 then (low w (a.1 &&& b.1), low w (a.2 ||| b.2))
  else if o = 7 then (low w (a.1 &&& b.1 ||| a.2 &&& b.2), low w (a.1 &&& b.2 ||| a.2 &&& b.1))
  else if o = 8 ∨ o = 9 then (low w (lows (a.1 &&& b.1)), 0)
  else if o = 10 then (low w (lows a.1 ||| lows b.1), 0)
  else if o = 15 ∨ o = 16 ∨ o = 17 then farK o w0 a far
  else if o = 21 then (low w (a.1 * 2 ^ min w1 64 % 18446744073709551616 ||| b.1), low w (a.2 * 2 ^ min w1 64 % 18446744073709551616 ||| b.2))
  else if o = 22 then (low w (a.1 / 2 ^ min l 64), low w (a.2 / 2 ^ min l 64))
  else if o = 23 then (low w (a.1 ||| (18446744073709551615 - (2 ^ w0 - 1))), low w a.2)
  else if o = 24 then (low w (numE 24 w0 a.1), low w (numE 24 w0 a.2))
  else if o = 25 then iteK w1 a b c
  else if o = 18 then eqK w0 a b
  else (0, 0)
/-- The number that a node is, if it is one. -/
def farOf (L : List Nd) (k : Int) : Option Nat :=
  match L[k.toNat]? with
  | some y => if y.o = 1 then some y.n else none
  | none => none
def kbAt (V : List Kb) (k : Int) : Kb := V.getD k.toNat (0, 0)
def oneK (L : List Nd) (V : List Kb) (x : Nd) : Kb := opK x.o x.w x.n x.l (widAt L x.k0) (widAt L x.k1) (kbAt V x.k0) (kbAt V x.k1) (kbAt V x.k2) (farOf L x.k1)
def kvals (L : List Nd) : Nat → List Kb
  | 0 => []
  | i + 1 => kvals L i ++ [match L[i]? with | some x => oneK L (kvals L i) x | none => (0, 0)]
/-- The masks of the node i. -/
def kn (L : List Nd) (i : Nat) : Kb := (kvals L (i + 1)).getD i (0, 0)

theorem kvals_length (L : List Nd) : ∀ i, (kvals L i).length = i
  | 0 => rfl
  | i + 1 => by simp [kvals, kvals_length L i]
theorem kvals_get (L : List Nd) {j : Nat} : ∀ {i : Nat}, j < i → (kvals L i).getD j (0, 0) = kn L j
  | 0, h => by omega
  | i + 1, h => by
    by_cases e : j = i
    · subst e; rfl
    · have hj : j < i := by omega
      rw [← kvals_get L hj]
      simp only [kvals, List.getD_eq_getElem?_getD]
      rw [List.getElem?_append_left (by rw [kvals_length]; exact hj)]
theorem kn_is {L : List Nd} {i : Nat} {x : Nd} (hx : L[i]? = some x) : kn L i = oneK L (kvals L i) x := by
  unfold kn
  simp only [kvals, hx]
  rw [List.getD_eq_getElem?_getD, List.getElem?_append_right (by rw [kvals_length]; exact Nat.le_refl _)]
  simp [kvals_length]
theorem kbAt_kn {L : List Nd} {i : Nat} {k : Int} (h0 : 0 ≤ k) (h : k < ((i : Nat) : Int)) : kbAt (kvals L i) k = kn L k.toNat := kvals_get L (by omega)
/-- A node hangs on no more kids than it has. -/
theorem ka_le (o : Nat) : ka o ≤ kc o := by
  unfold ka
  split
  · rename_i h
    rcases h with h | h | h | h | h | h | h <;> subst h <;> decide
  · split
    · rename_i h
      rcases h with h | h | h | h | h | h | h | h <;> subst h <;> decide
    · split
      · rename_i h
        subst h
        decide
      · omega
theorem low_le (w n : Nat) : low w n < 2 ^ w := Nat.mod_lt _ (pow_pos' w)
theorem low_same {w n : Nat} (h : n < 2 ^ w) : low w n = n := Nat.mod_eq_of_lt h

/-- What is sure is so. -/
def Sure (K : Kb) (n : Nat) : Prop := (∀ b, K.1.testBit b = true → n.testBit b = false) ∧ (∀ b, K.2.testBit b = true → n.testBit b = true)
end Kn
end Go.Proofs.Ytigjbngedbbdbaa

namespace Go.Proofs.Ytigjbngedbbdbaa
open Go.RowKit Go.Maps Bv
namespace Tm
set_option maxHeartbeats 400000
set_option maxRecDepth 100000

theorem cells_nd : Try.prog.cellsOf 57 = 7 := by kernel_rfl
theorem cells_kids : Try.prog.cellsOf 55 = 3 := by kernel_rfl
theorem cells_op : Try.prog.cellsOf 54 = 1 := by kernel_rfl
theorem cells_u8 : Try.prog.cellsOf 5 = 1 := by kernel_rfl
theorem cells_int : Try.prog.cellsOf 3 = 1 := by kernel_rfl
theorem cells_u64 : Try.prog.cellsOf 27 = 1 := by kernel_rfl

def Nd.lits (x : Nd) : List Lit := [.int .u8 x.o, .int .u8 x.w, .int .i64 x.k0, .int .i64 x.k1, .int .i64 x.k2, .int .u64 x.n, .int .u8 x.l]
theorem Nd.lits_inj {x y : Nd} (h : x.lits = y.lits) : x = y := by
  simp only [Nd.lits, List.cons.injEq, Lit.int.injEq, Int.natCast_inj, true_and, and_true] at h
  exact Nd.same h.1 h.2.1 h.2.2.1 h.2.2.2.1 h.2.2.2.2.1 h.2.2.2.2.2.1 h.2.2.2.2.2.2

theorem wf_u8 {n : Nat} (h : n ≤ 255) : (Lit.int .u8 (n : Int)).wf = true := by
  simp [Lit.wf, IntKind.min, IntKind.max, IntKind.signed, IntKind.bits]; omega
theorem wf_u64 {n : Nat} (h : n < 18446744073709551616) : (Lit.int .u64 (n : Int)).wf = true := by
  simp [Lit.wf, IntKind.min, IntKind.max, IntKind.signed, IntKind.bits]; omega
theorem wf_i64 {n : Int} (h : I64 n) : (Lit.int .i64 n).wf = true := by
  unfold I64 at h
  simp [Lit.wf, IntKind.min, IntKind.max, IntKind.signed, IntKind.bits]; omega

theorem lits_at (d : Nat) (x : Nd) (hx : x.Ok) : Try.prog.keyLits (d + 3) 57 x.val.cells.toList = some x.lits := by
  have a0 := wf_u8 hx.o
  have a1 := wf_u8 hx.w
  have a2 := wf_i64 hx.k0
  have a3 := wf_i64 hx.k1
  have a4 := wf_i64 hx.k2
  have a5 := wf_u64 hx.n
  have a6 := wf_u8 hx.l
  simp [Program.keyLits, Try.underlying57, Try.underlying55, Try.underlying54, Try.underlying5, Try.underlying3, Try.underlying27, cells_nd, cells_kids, cells_op, cells_u8, cells_int, cells_u64,
    Nd.val, Value.cells, Nd.lits, List.range, List.range.loop, a0, a1, a2, a3, a4, a5, a6]

theorem deep_nd : Try.prog.keyTypeAt 3 57 = true := by kernel_rfl
theorem wide_nd : (match Try.prog.underlying 57 with | some (.array _ _) | some (.struct _) => true | _ => false) = true := by rw [Try.underlying57]
theorem row_nd : (57 : TypeId) < Try.prog.types.size := of_decide_eq_true (by kernel_rfl)
theorem law_nd : Keyed Try.prog 57 := Keyed.of_law (deep_law_laid (by kernel_rfl) (m := 3) (by omega) row_nd deep_nd wide_nd)
theorem formed_nd (x : Nd) : x.val.formed Try.prog 57 = true := by simp [Nd.val, Value.formed, Try.underlying57, cells_nd]

def Nd.key (x : Nd) : Lit := .string (keyBytes x.lits)
theorem keyType_nd : Try.prog.keyType 57 = true := by kernel_rfl
theorem size_types : Try.prog.types.size + 1 = (Try.prog.types.size - 2) + 3 := by
  have : 3 ≤ Try.prog.types.size := of_decide_eq_true (by kernel_rfl)
  omega
theorem key_nd (x : Nd) (hx : x.Ok) : keyOf Try.prog 57 x.val = some x.key := by
  unfold keyOf
  rw [Try.underlying57]
  simp only [keyType_nd, formed_nd, Bool.and_self, if_true]
  rw [size_types, lits_at _ x hx]
  rfl
theorem key_inj {x y : Nd} (hx : x.Ok) (hy : y.Ok) (h : x.key = y.key) : x = y :=
  Nd.val_inj (law_nd.inj (key_nd x hx) (by rw [h]; exact key_nd y hy))

theorem equal_nd (x y : Nd) (hx : x.Ok) (hy : y.Ok) (W : World) : (Op.equalIn 10000 57 x.val y.val).run Try.prog W = .ok (decide (x = y)) W := by
  obtain ⟨r, hr, hi⟩ := run_equalIn_deep 9997 3 57 deep_nd W 3 3 x.val y.val x.lits y.lits (formed_nd x) (formed_nd y) (lits_at 0 x hx) (lits_at 0 y hy)
  have : r = decide (x = y) := by
    by_cases e : x = y
    · subst e; simp [hi.2 rfl]
    · have : ¬ r = true := fun h => e (Nd.lits_inj (hi.1 h))
      simp [e, this]
  rw [this] at hr
  exact hr
theorem eql_nd (x y : Nd) (hx : x.Ok) (hy : y.Ok) (W : World) : (binOp .eql 57 x.val y.val).run Try.prog W = .ok (.bool (decide (x = y))) W := by
  have h := equal_nd x y hx hy W
  unfold Nd.val at h ⊢
  rw [run_eql_struct, h]
  rfl
theorem neq_nd (x y : Nd) (hx : x.Ok) (hy : y.Ok) (W : World) : (binOp .neq 57 x.val y.val).run Try.prog W = .ok (.bool (decide (¬ x = y))) W := by
  have h := equal_nd x y hx hy W
  unfold Nd.val at h ⊢
  rw [run_neq_struct, h]
  simp

theorem eql_map (r : Option Nat) (W : World) : (binOp .eql 47 (.map r) (.map none)).run Try.prog W = .ok (.bool r.isNone) W := by
  simp only [binOp]
  simp [Op.equal, Op.maxDepth, run_equalIn_map_nil _ _ _ _ _ _ Try.underlying47]
theorem zero_int (W : World) : (zeroValue 3).run Try.prog W = .ok (.int .i64 0) W := by kernel_rfl

/-- What the map of the store reads as. -/
structure Table {H : Type} (L : List Nd) (D : DataW H) : Prop where
  isMap : IsMap D
  has : ∀ x : Nd, x.Ok → Maps.has D x.key = decide (x ∈ L)
  get : ∀ x : Nd, x.Ok → x ∈ L → ∀ z, D.atKey x.key z = .lit (.int .i64 ((idx L x : Nat) : Int))

theorem table_nil {H : Type} : Table [] (.map [] : DataW H) := ⟨isMap_empty, fun x _ => by simp [has_eq], fun x _ h => by simp at h⟩

theorem idx_lt {L : List Nd} {x : Nd} (h : x ∈ L) : idx L x < L.length := by
  unfold idx
  exact List.findIdx_lt_length_of_exists ⟨x, h, by simp⟩
theorem idx_append_old {L : List Nd} {x y : Nd} (h : x ∈ L) : idx (L ++ [y]) x = idx L x := by
  unfold idx
  rw [List.findIdx_append, if_pos]
  exact List.findIdx_lt_length_of_exists ⟨x, h, by simp⟩
theorem idx_append_new {L : List Nd} {x : Nd} (h : ¬ x ∈ L) : idx (L ++ [x]) x = L.length := by
  unfold idx
  rw [List.findIdx_append, if_neg]
  · simp [List.findIdx_cons]
  · intro hc
    have := (List.findIdx_lt_length).1 hc
    obtain ⟨y, hy, e⟩ := this
    simp at e
    subst e
    exact h hy

theorem Table.add {H : Type} {L : List Nd} {D : DataW H} (h : Table L D) (_hL : ∀ x ∈ L, x.Ok) {x : Nd} (hx : x.Ok) (hn : ¬ x ∈ L) :
    Table (L ++ [x]) (D.put x.key (.lit (.int .i64 ((L.length : Nat) : Int)))) := by
  have hk : WideAt.IsKeyLit x.key := law_nd.key (key_nd x hx)
  refine ⟨h.isMap.put _ _, ?_, ?_⟩
  · intro y hy
    by_cases e : y = x
    · subst e; rw [has_put_same h.isMap hk]; simp
    · rw [has_put_other (fun c => e (key_inj hy hx c)), h.has y hy]; simp [e]
  · intro y hy hm z
    by_cases e : y = x
    · subst e; rw [atKey_put_same h.isMap hk, idx_append_new hn]
    · have hm' : y ∈ L := by simpa [e] using hm
      rw [atKey_put_other (fun c => e (key_inj hy hx c)), h.get y hy hm', idx_append_old hm']

end Tm
end Go.Proofs.Ytigjbngedbbdbaa

namespace Go.Proofs.Ytigjbngedbbdbaa
open Go.RowKit
namespace Bv
set_option maxHeartbeats 400000

theorem ret_u64 {a b : Int} (h : a = b) : Ending.returned (.int .u64 a) = .returned (.int .u64 b) := by rw [h]
theorem ret_i64 {a b : Int} (h : a = b) : Ending.returned (.int .i64 a) = .returned (.int .i64 b) := by rw [h]
theorem ret_bool {a b : Bool} (h : a = b) : Ending.returned (.bool a) = .returned (.bool b) := by rw [h]

theorem mask_any (w : Nat) (h1 : 1 ≤ w) (h2 : w ≤ 64) (W : World) :
    Calls Try.prog 64 #[.int .u8 w] W fun e W' => e = .returned (.int .u64 ((2 ^ w - 1 : Nat) : Int)) ∧ W = W' := by
  go_enter Try.func64, Try.ntmps64
  go_wp2
  go_ret
  exact ⟨ret_u64 (mask_div_int h2), rfl⟩

theorem rmask_any (w : Nat) (h2 : w ≤ 64) (W : World) :
    Calls Try.prog 11 #[.int .u8 w] W fun e W' => e = .returned (.int .u64 ((2 ^ w - 1 : Nat) : Int)) ∧ W = W' := by
  by_cases h : w < 64
  · go_enter Try.func11, Try.ntmps11
    go_wp2
    go_ret
    exact ⟨ret_u64 (rmask64 h), rfl⟩
  · obtain rfl : w = 64 := by omega
    go_enter Try.func11, Try.ntmps11
    go_wp2
    go_ret
    exact ⟨ret_u64 (by decide), rfl⟩

theorem bit_any (b : Bool) (W : World) :
    Calls Try.prog 94 #[.bool b] W fun e W' => e = .returned (.int .u64 ((b.toNat : Nat) : Int)) ∧ W = W' := by
  cases b
  all_goals
    go_enter Try.func94, Try.ntmps94
    go_wp2
    go_ret
    exact ⟨rfl, rfl⟩

theorem flag_any (b : Bool) (W : World) :
    Calls Try.prog 62 #[.bool b] W fun e W' => e = .returned (.agg #[.int .u8 1, .int .u64 ((b.toNat : Nat) : Int)]) ∧ Below W.heap.size W W' := by
  cases b
  all_goals
    go_enter Try.func62, Try.ntmps62
    go_wp2
    exact bodyPost_ret (v := .agg #[.int .u8 1, .int .u64 _]) (by simp [results, Try.results62, go_sem]) rfl ⟨rfl, (Below.refl _ _).alloc (Nat.le_refl _) _⟩

theorem cut_any (w : Nat) (h1 : 1 ≤ w) (h2 : w ≤ 64) (n : Int) (hn0 : 0 ≤ n) (hn : n < 18446744073709551616) (W : World) :
    Calls Try.prog 83 #[.int .u8 w, .int .u64 n] W fun e W' => e = .returned (.agg #[.int .u8 w, .int .u64 ((low w n.toNat : Nat) : Int)]) ∧ Below W.heap.size W W' := by
  go_enter Try.func83, Try.ntmps83
  go_wp2_with (go_at_call 64; refine (mask_any _ h1 h2 _).mono ?_; rintro e w' ⟨rfl, rfl⟩)
  exact bodyPost_ret (v := .agg #[.int .u8 w, .int .u64 ((low w n.toNat : Nat) : Int)]) (by simp [results, Try.results83, go_sem, and64 n hn0 hn h2]) rfl ⟨rfl, (Below.refl _ _).alloc (Nat.le_refl _) _⟩

theorem rcut_any (w : Nat) (h2 : w ≤ 64) (n : Int) (hn0 : 0 ≤ n) (hn : n < 18446744073709551616) (W : World) :
    Calls Try.prog 42 #[.int .u8 w, .int .u64 n] W fun e W' => e = .returned (.agg #[.int .u8 w, .int .u64 ((low w n.toNat : Nat) : Int)]) ∧ Below W.heap.size W W' := by
  go_enter Try.func42, Try.ntmps42
  go_wp2_with (go_at_call 11; refine (rmask_any _ h2 _).mono ?_; rintro e w' ⟨rfl, rfl⟩)
  exact bodyPost_ret (v := .agg #[.int .u8 w, .int .u64 ((low w n.toNat : Nat) : Int)]) (by simp [results, Try.results42, go_sem, and64 n hn0 hn h2]) rfl ⟨rfl, (Below.refl _ _).alloc (Nat.le_refl _) _⟩

theorem worth_any (w n : Nat) (h1 : 1 ≤ w) (h2 : w ≤ 64) (hn : n < 2 ^ w) (W : World) :
    Calls Try.prog 84 #[.agg #[.int .u8 w, .int .u64 n]] W fun e W' => e = .returned (.int .i64 (wo w n)) ∧ Below W.heap.size W W' := by
  go_enter Try.func84, Try.ntmps84
  go_wp2
  go_ret
  exact ⟨ret_i64 (by unfold wrap64; rw [← IntKind.wrap_i64]; simp only [IntKind.wrap_u64]; exact worth_shift h1 h2 hn), (Below.refl _ _).alloc (Nat.le_refl _) _⟩

theorem rbit_any (w n : Nat) (hn : n < 18446744073709551616) (i : Int) (hi : 0 ≤ i) (hi2 : i < 9223372036854775808) (W : World) :
    Calls Try.prog 82 #[.agg #[.int .u8 w, .int .u64 n], .int .i64 i] W fun e W' => e = .returned (.bool (n.testBit i.toNat)) ∧ Below W.heap.size W W' := by
  go_enter Try.func82, Try.ntmps82
  go_wp2
  go_ret
  exact ⟨ret_bool (bit64 hn hi), (Below.refl _ _).alloc (Nat.le_refl _) _⟩

theorem rsign_any (w n : Nat) (h1 : 1 ≤ w) (h2 : w ≤ 64) (hn : n < 2 ^ w) (W : World) :
    Calls Try.prog 81 #[.agg #[.int .u8 w, .int .u64 n]] W fun e W' => e = .returned (.bool (decide (2 ^ (w - 1) ≤ n))) ∧ Below W.heap.size W W' := by
  have hl := pow_le64 h2
  go_enter Try.func81, Try.ntmps81
  go_wp2_with (go_at_call 82; refine (rbit_any w n (by omega) _ (by omega) (by omega) _).mono ?_; rintro e w1 ⟨rfl, hb⟩)
  go_ret
  exact ⟨ret_bool (by rw [← sign_iff h1 hn]), ((Below.refl _ _).alloc (Nat.le_refl _) _).trans (hb.mono (by simp))⟩

theorem may_any (w n : Nat) (W : World) :
    Calls Try.prog 50 #[.agg #[.int .u8 w, .int .u64 n]] W fun e W' => e = .returned (.bool (mayB w n)) ∧ Below W.heap.size W W' := by
  by_cases h1 : 1 ≤ w
  · have d1 : decide ((1 : Int) ≤ (w : Int)) = true := by simp; omega
    by_cases h2 : w ≤ 64
    · have d2 : decide ((w : Int) ≤ (64 : Int)) = true := by simp; omega
      go_enter Try.func50, Try.ntmps50
      go_wp2
      go_quiet ((go_at_call 64; exact Calls.quiet_of_same ((mask_any w h1 h2 _).mono fun _ _ h => ⟨h.1, h.2.symm⟩)))
      go_wp2
      go_ret
      exact ⟨ret_bool (decide_eq_decide.2 ⟨fun h => ⟨h1, h2, by have := pow_pos' w; omega⟩, fun h => by have := h.2.2; omega⟩), below_drewN ((Below.refl _ _).alloc (Nat.le_refl _) _) _⟩
    · have d2 : decide ((w : Int) ≤ (64 : Int)) = false := by simp; omega
      go_enter Try.func50, Try.ntmps50
      go_wp2
      go_quiet (fail)
      go_wp2
      go_ret
      exact ⟨ret_bool (by unfold mayB; simp; omega), below_drewN ((Below.refl _ _).alloc (Nat.le_refl _) _) _⟩
  · have d1 : decide ((1 : Int) ≤ (w : Int)) = false := by simp; omega
    go_enter Try.func50, Try.ntmps50
    go_wp2
    go_quiet (fail)
    go_wp2
    go_ret
    exact ⟨ret_bool (by unfold mayB; simp; omega), below_drewN ((Below.refl _ _).alloc (Nat.le_refl _) _) _⟩

theorem rmay_any (w n : Nat) (hn : n < 18446744073709551616) (W : World) :
    Calls Try.prog 53 #[.agg #[.int .u8 w, .int .u64 n]] W fun e W' => e = .returned (.bool (mayB w n)) ∧ Below W.heap.size W W' := by
  by_cases h1 : 1 ≤ w
  · have d1 : decide ((1 : Int) ≤ (w : Int)) = true := by simp; omega
    by_cases h2 : w ≤ 64
    · have d2 : decide ((w : Int) ≤ (64 : Int)) = true := by simp; omega
      by_cases h3 : w = 64
      · have d3 : ((w : Int) == 64) = true := by simp; omega
        go_enter Try.func53, Try.ntmps53
        go_wp2
        go_ret
        exact ⟨ret_bool (by unfold mayB; subst h3; simp; omega), (Below.refl _ _).alloc (Nat.le_refl _) _⟩
      · have d3 : ((w : Int) == 64) = false := by simp; omega
        go_enter Try.func53, Try.ntmps53
        go_wp2
        go_ret
        exact ⟨ret_bool (may_shr h1 h2), (Below.refl _ _).alloc (Nat.le_refl _) _⟩
    · have d2 : decide ((w : Int) ≤ (64 : Int)) = false := by simp; omega
      go_enter Try.func53, Try.ntmps53
      go_wp2
      go_ret
      exact ⟨ret_bool (by unfold mayB; simp; omega), (Below.refl _ _).alloc (Nat.le_refl _) _⟩
  · have d1 : decide ((1 : Int) ≤ (w : Int)) = false := by simp; omega
    go_enter Try.func53, Try.ntmps53
    go_wp2
    go_ret
    exact ⟨ret_bool (by unfold mayB; simp; omega), (Below.refl _ _).alloc (Nat.le_refl _) _⟩
end Bv
end Go.Proofs.Ytigjbngedbbdbaa

namespace Go.Proofs.Ytigjbngedbbdbaa
open Go.RowKit
namespace Bv
set_option maxHeartbeats 400000

theorem bcell {W w1 : World} (hb : Below W.heap.size W w1) : (∀ b o, b < W.heap.size → w1.cell? ⟨b, o, none⟩ = W.cell? ⟨b, o, none⟩) ∧ (∀ b o, b < W.heap.size → w1.frozen? ⟨b, o, none⟩ = W.frozen? ⟨b, o, none⟩) :=
  ⟨fun b o h => hb.cell (p := ⟨b, o, none⟩) h, fun b o h => hb.frozen (p := ⟨b, o, none⟩) h⟩
theorem bel_call {W w w' : World} (h : Below W.heap.size W w) (k : Below w.heap.size w w') : Below W.heap.size W w' := h.trans (k.mono h.size)
theorem bel_alloc {W w : World} (h : Below W.heap.size W w) (o : Obj) : Below W.heap.size W (w.alloc o) := h.alloc h.size o
theorem bel_drewN {W w : World} (h : Below W.heap.size W w) (n : Nat) : Below W.heap.size W (w.drewN n) := below_drewN h n

theorem rneg_any (w n : Nat) (h2 : w ≤ 64) (hn : n < 18446744073709551616) (W : World) :
    Calls Try.prog 57 #[.agg #[.int .u8 w, .int .u64 n]] W fun e W' => e = .returned (.agg #[.int .u8 w, .int .u64 ((low w (18446744073709551616 - n) : Nat) : Int)]) ∧ Below W.heap.size W W' := by
  go_enter Try.func57, Try.ntmps57
  go_wp2_with fail
  have e : low w (IntKind.u64.wrap (bits BinOp.xor IntKind.u64 IntKind.u64.max (n : Int) + 1)).toNat = low w (18446744073709551616 - n) := by
    rw [notmax hn, IntKind.wrap_u64, show ((((18446744073709551615 - n : Nat) : Int) + 1) % 18446744073709551616).toNat = (18446744073709551616 - n) % 18446744073709551616 by omega, low_mod64 _ h2]
  refine (rcut_any w h2 _ (by rw [IntKind.wrap_u64]; omega) (by rw [IntKind.wrap_u64]; omega) _).mono ?_
  rw [e]
  rintro e w1 ⟨rfl, hb⟩
  obtain ⟨hc, hf⟩ := bcell hb
  clear e
  go_wp2
  refine bodyPost_ret (v := .agg #[.int .u8 w, .int .u64 ((low w (18446744073709551616 - n) : Nat) : Int)]) (by simp [results, Try.results57, go_sem, hc]) rfl ⟨rfl, ?_⟩
  exact ((bel_call (bel_alloc (bel_alloc (Below.refl _ _) _) _) hb).setCell (by simp) _).setCell (by simp) _

theorem width_same (o v w : Nat) (h1 : 5 ≤ o) (h2 : o ≤ 17) (W : World) :
    Calls Try.prog 85 #[.int .u8 o, .int .u8 v, .int .u8 w] W fun e W' => e = .returned (.int .u8 ((if v = w then v else 0 : Nat) : Int)) ∧ W = W' := by
  by_cases hvw : v = w
  · subst hvw
    go_enter Try.func85, Try.ntmps85
    go_wp2
    all_goals (go_ret; exact ⟨rfl, rfl⟩)
  · have d1 : ((v : Int) == (w : Int)) = false := by simp; omega
    go_enter Try.func85, Try.ntmps85
    go_wp2
    all_goals (go_ret; exact ⟨by simp, rfl⟩)
theorem width_test (o v w : Nat) (h1 : 18 ≤ o) (h2 : o ≤ 20) (W : World) :
    Calls Try.prog 85 #[.int .u8 o, .int .u8 v, .int .u8 w] W fun e W' => e = .returned (.int .u8 ((if v = w then 1 else 0 : Nat) : Int)) ∧ W = W' := by
  by_cases hvw : v = w
  · subst hvw
    go_enter Try.func85, Try.ntmps85
    go_wp2
    all_goals (go_ret; exact ⟨rfl, rfl⟩)
  · have d1 : ((v : Int) == (w : Int)) = false := by simp; omega
    go_enter Try.func85, Try.ntmps85
    go_wp2
    all_goals (go_ret; exact ⟨by simp, rfl⟩)
theorem width_concat (v w : Nat) (hv : v ≤ 64) (hw : w ≤ 64) (W : World) :
    Calls Try.prog 85 #[.int .u8 21, .int .u8 v, .int .u8 w] W fun e W' => e = .returned (.int .u8 ((if v + w ≤ 64 then v + w else 0 : Nat) : Int)) ∧ W = W' := by
  by_cases hvw : v + w ≤ 64
  · have d1 : decide ((v : Int) ≤ 64 - (w : Int)) = true := by simp; omega
    go_enter Try.func85, Try.ntmps85
    go_wp2
    all_goals (go_ret; exact ⟨by simp, rfl⟩)
  · have d1 : decide ((v : Int) ≤ 64 - (w : Int)) = false := by simp; omega
    go_enter Try.func85, Try.ntmps85
    go_wp2
    all_goals (go_ret; exact ⟨by simp, rfl⟩)
theorem width_none (o v w : Nat) (h1 : o < 5 ∨ 21 < o) (W : World) :
    Calls Try.prog 85 #[.int .u8 o, .int .u8 v, .int .u8 w] W fun e W' => e = .returned (.int .u8 0) ∧ W = W' := by
  rcases h1 with h1 | h1
  all_goals
    go_enter Try.func85, Try.ntmps85
    go_wp2
    go_ret
    exact ⟨rfl, rfl⟩

end Bv
end Go.Proofs.Ytigjbngedbbdbaa

namespace Go.Proofs.Ytigjbngedbbdbaa
open Go.RowKit Bv
namespace Tm
set_option maxHeartbeats 400000
set_option maxRecDepth 100000

theorem none_nil (W : World) :
    Calls Try.prog 23 #[.pointer none] W fun e W' => e = .returned (.bool true) ∧ W = W' := by
  go_enter Try.func23, Try.ntmps23
  go_wp2
  go_ret
  exact ⟨rfl, rfl⟩

theorem none_zero (p : Nat) (W : World) (h : W.cell? ⟨p, 1, none⟩ = some (.map none)) :
    Calls Try.prog 23 #[.pointer (some ⟨p, 0, none⟩)] W fun e W' => e = .returned (.bool true) ∧ W = W' := by
  have q := fun r W => eql_map r W
  go_enter Try.func23, Try.ntmps23
  go_wp2
  go_ret
  exact ⟨rfl, rfl⟩

theorem none_made (p m : Nat) (W : World) (h : W.cell? ⟨p, 1, none⟩ = some (.map (some m))) :
    Calls Try.prog 23 #[.pointer (some ⟨p, 0, none⟩)] W fun e W' => e = .returned (.bool false) ∧ W = W' := by
  have q := fun r W => eql_map r W
  go_enter Try.func23, Try.ntmps23
  go_wp2
  go_ret
  exact ⟨rfl, rfl⟩

theorem has_any (p : Nat) (sv : Option Addr) (L : List Nd) (c : Nat) (k : Int) (W : World) (h : W.cell? ⟨p, 0, none⟩ = some (.slice sv L.length c)) :
    Calls Try.prog 28 #[.pointer (some ⟨p, 0, none⟩), .int .i64 k] W fun e W' => e = .returned (.bool (inB L k)) ∧ W = W' := by
  by_cases h0 : 0 ≤ k
  · have d : decide ((0 : Int) ≤ k) = true := decide_eq_true h0
    go_enter Try.func28, Try.ntmps28
    go_wp2
    go_ret
    exact ⟨ret_bool (by simp [inB, h0]), rfl⟩
  · have d : decide ((0 : Int) ≤ k) = false := decide_eq_false h0
    go_enter Try.func28, Try.ntmps28
    go_wp2
    go_ret
    exact ⟨ret_bool (by simp [inB]; omega), rfl⟩

end Tm
end Go.Proofs.Ytigjbngedbbdbaa
