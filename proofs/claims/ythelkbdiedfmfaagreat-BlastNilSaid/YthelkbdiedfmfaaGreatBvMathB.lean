/-
  More plain facts on numbers of so many bits.
-/
import Derived.Test.YthelkbdiedfmfaaGreatBvMath
namespace Go.Proofs.YthelkbdiedfmfaaGreat
namespace Bv
theorem num11 (w v n m : Nat) (hn : n < 18446744073709551616) (h : ¬ m = 0) : IntKind.u64.wrap ((n : Int) / (m : Int)) = (numB 11 w v n m : Int) := by
  show _ = ((if m = 0 then 18446744073709551615 else n / m : Nat) : Int)
  rw [if_neg h, ← Int.natCast_ediv, IntKind.wrap_u64]
  have : n / m ≤ n := Nat.div_le_self _ _
  generalize n / m = q at *
  omega
theorem num12 (w v n m : Nat) (h : ¬ m = 0) : (n : Int) % (m : Int) = (numB 12 w v n m : Int) := by
  show _ = ((if m = 0 then n else n % m : Nat) : Int)
  rw [if_neg h, ← Int.natCast_emod]
theorem wo_ne {v m : Nat} (hm : m < 2 ^ v) (h : ¬ m = 0) : ¬ wo v m = 0 := by
  unfold wo
  split <;> omega

theorem num13 (w v n m : Nat) (h : ¬ m = 0) : IntKind.u64.wrap (IntKind.i64.wrap ((wo w n).tdiv (wo v m))) = (numB 13 w v n m : Int) := by
  show _ = ((if m = 0 then 18446744073709551615 else ((wo w n).tdiv (wo v m) % 18446744073709551616).toNat : Nat) : Int)
  rw [if_neg h, IntKind.wrap_u64, IntKind.wrap_i64]
  omega
theorem num14 (w v n m : Nat) (h : ¬ m = 0) : IntKind.u64.wrap ((wo w n).tmod (wo v m)) = (numB 14 w v n m : Int) := by
  show _ = ((if m = 0 then n else ((wo w n).tmod (wo v m) % 18446744073709551616).toNat : Nat) : Int)
  rw [if_neg h, IntKind.wrap_u64]
  omega

theorem num8 (w v n m : Nat) : IntKind.u64.wrap ((n : Int) + (m : Int)) = (numB 8 w v n m : Int) := by
  show _ = (((n + m) % 18446744073709551616 : Nat) : Int)
  rw [IntKind.wrap_u64]; omega
theorem num9 (w v n m : Nat) (hm : m < 18446744073709551616) : IntKind.u64.wrap ((n : Int) + IntKind.u64.wrap (-(m : Int))) = (numB 9 w v n m : Int) := by
  show _ = (((n + (18446744073709551616 - m)) % 18446744073709551616 : Nat) : Int)
  rw [IntKind.wrap_u64, IntKind.wrap_u64]; omega
theorem num10 (w v n m : Nat) : IntKind.u64.wrap ((n : Int) * (m : Int)) = (numB 10 w v n m : Int) := by
  show _ = ((n * m % 18446744073709551616 : Nat) : Int)
  rw [IntKind.wrap_u64, ← Int.natCast_mul]; omega
theorem num15 (w v n m : Nat) : IntKind.u64.wrap ((n : Int) * 2 ^ min m 64) = (numB 15 w v n m : Int) := by
  show _ = ((n * 2 ^ min m 64 % 18446744073709551616 : Nat) : Int)
  have e : ((2 : Int) ^ min m 64) = ((2 ^ min m 64 : Nat) : Int) := by simp
  rw [IntKind.wrap_u64, e, ← Int.natCast_mul]
  generalize n * 2 ^ min m 64 = q
  omega
theorem num16 (w v n m : Nat) : (n : Int) / 2 ^ min m 64 = (numB 16 w v n m : Int) := by
  show _ = ((n / 2 ^ min m 64 : Nat) : Int)
  simp
theorem num17 (w v n m : Nat) : IntKind.u64.wrap (wo w n / 2 ^ min m 64) = (numB 17 w v n m : Int) := by
  show _ = (((wo w n / 2 ^ min m 64) % 18446744073709551616).toNat : Int)
  rw [IntKind.wrap_u64]
  generalize wo w n / 2 ^ min m 64 = q
  omega
theorem num20 (w n m : Nat) (h1 : 1 ≤ w) (h2 : w ≤ 64) (hn : n < 18446744073709551616) (hm : m < 18446744073709551616) :
    decide (bits BinOp.xor IntKind.u64 (n : Int) (IntKind.u64.wrap (2 ^ (w - 1))) < bits BinOp.xor IntKind.u64 (m : Int) (IntKind.u64.wrap (2 ^ (w - 1)))) = decide (n ^^^ 2 ^ (w - 1) < m ^^^ 2 ^ (w - 1)) := by
  have hl := pow_le64 h2
  have hh := pow_half h1
  have hp := pow_pos' (w - 1)
  have e : ((2 : Int) ^ (w - 1)) = ((2 ^ (w - 1) : Nat) : Int) := by simp
  have e2 : IntKind.u64.wrap ((2 : Int) ^ (w - 1)) = ((2 ^ (w - 1) : Nat) : Int) := by
    rw [e, IntKind.wrap_u64]; clear e; generalize 2 ^ (w - 1) = b at *; omega
  rw [e2, bits_xor_u64_nat n _ hn (by omega), bits_xor_u64_nat m _ hm (by omega)]
  simp
theorem num21 (w v n m : Nat) (hm : m < 18446744073709551616) : bits BinOp.or IntKind.u64 (IntKind.u64.wrap ((n : Int) * 2 ^ v)) (m : Int) = (numB 21 w v n m : Int) := by
  show _ = ((n * 2 ^ v % 18446744073709551616 ||| m : Nat) : Int)
  have e : ((2 : Int) ^ v) = ((2 ^ v : Nat) : Int) := by simp
  have e2 : IntKind.u64.wrap ((n : Int) * 2 ^ v) = ((n * 2 ^ v % 18446744073709551616 : Nat) : Int) := by
    rw [e, ← Int.natCast_mul, IntKind.wrap_u64]
    generalize n * 2 ^ v = q
    omega
  rw [e2, bits_or_u64_nat _ m (Nat.mod_lt _ (by decide)) hm]

/-- The width of what o makes of vectors of the widths v and w; 0, if it takes none such. -/
def widthB (o v w : Nat) : Nat :=
  if 5 ≤ o ∧ o ≤ 17 then (if v = w then v else 0) else if 18 ≤ o ∧ o ≤ 20 then (if v = w then 1 else 0) else if o = 21 then (if v + w ≤ 64 then v + w else 0) else 0
theorem widthB_op {o v w : Nat} (h : ¬ widthB o v w = 0) : 5 ≤ o ∧ o ≤ 21 := by
  unfold widthB at h
  repeat' split at h
  all_goals omega
theorem widthB_le {o v w : Nat} (hv : v ≤ 64) : widthB o v w ≤ 64 := by
  unfold widthB
  repeat' split
  all_goals omega

theorem numB_lt {o w v n m : Nat} (hn : n < 18446744073709551616) (hm : m < 18446744073709551616) : numB o w v n m < 18446744073709551616 := by
  have b1 : ∀ b : Bool, b.toNat < 18446744073709551616 := fun b => by cases b <;> decide
  unfold numB
  split
  · exact Nat.lt_of_le_of_lt Nat.and_le_left hn
  · exact Nat.or_lt_two_pow (n := 64) hn hm
  · exact Nat.xor_lt_two_pow (n := 64) hn hm
  · omega
  · omega
  · omega
  · split
    · omega
    · exact Nat.lt_of_le_of_lt (Nat.div_le_self _ _) hn
  · split
    · omega
    · exact Nat.lt_of_le_of_lt (Nat.mod_le _ _) hn
  · split <;> omega
  · split <;> omega
  · omega
  · exact Nat.lt_of_le_of_lt (Nat.div_le_self _ _) hn
  · omega
  · exact b1 _
  · exact b1 _
  · exact b1 _
  · exact Nat.or_lt_two_pow (n := 64) (Nat.mod_lt _ (by decide)) hm
  · omega

/-- What the code makes of one number, ahead of the cut. -/
def numU (o n : Nat) : Nat := if o = 3 then 18446744073709551615 - n else (18446744073709551616 - n) % 18446744073709551616
theorem neg64 {n : Nat} (hn : n < 18446744073709551616) : bits .xor .u64 IntKind.u64.max (IntKind.u64.wrap ((n : Int) - 1)) = (numU 4 n : Int) := by
  have e : IntKind.u64.wrap ((n : Int) - 1) = (((n + 18446744073709551615) % 18446744073709551616 : Nat) : Int) := by rw [IntKind.wrap_u64]; omega
  rw [e, notmax (Nat.mod_lt _ (by decide))]
  show _ = (((18446744073709551616 - n) % 18446744073709551616 : Nat) : Int)
  omega
theorem numU_lt (o n : Nat) : numU o n < 18446744073709551616 := by unfold numU; split <;> omega

/-- What the code makes of a vector that becomes wider, ahead of the cut. -/
def numE (o w n : Nat) : Nat := if o = 24 then (wo w n % 18446744073709551616).toNat else n
theorem sext64 (w n : Nat) : IntKind.u64.wrap (wo w n) = (numE 24 w n : Int) := by
  show _ = (((wo w n % 18446744073709551616).toNat : Nat) : Int)
  rw [IntKind.wrap_u64]; omega
theorem numE_lt (o w : Nat) {n : Nat} (hn : n < 18446744073709551616) : numE o w n < 18446744073709551616 := by unfold numE; split <;> omega
end Bv
end Go.Proofs.YthelkbdiedfmfaaGreat
