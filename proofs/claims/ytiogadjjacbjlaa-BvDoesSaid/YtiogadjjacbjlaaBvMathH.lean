/-
  Plain facts: quotients and rests by worths, by signs.
-/
import Derived.Test.YtiogadjjacbjlaaBvMathG
namespace Go.Proofs.Ytiogadjjacbjlaa
open Go.RowKit
namespace Bv

theorem neg_low {w n : Nat} (h1 : 1 ≤ w) (h2 : w ≤ 64) (hn : n < 2 ^ w) (hs : 2 ^ (w - 1) ≤ n) : low w (18446744073709551616 - n) = 2 ^ w - n := by
  have hp := pow_pos' (w - 1)
  have hh := pow_half h1
  have hl := pow_le64 h2
  have hsp := pow_split h2
  have e : 18446744073709551616 - n = (2 ^ w - n) + 2 ^ w * (2 ^ (64 - w) - 1) := by
    rw [Nat.mul_sub, hsp, Nat.mul_one]; omega
  unfold low
  rw [e, Nat.add_mul_mod_self_left, Nat.mod_eq_of_lt (by omega)]
/-- The worth's size. -/
def ab (w n : Nat) (s : Bool) : Nat := if s = true then low w (18446744073709551616 - n) else n
theorem wo_ab {w n : Nat} (h1 : 1 ≤ w) (h2 : w ≤ 64) (hn : n < 2 ^ w) : wo w n = if decide (2 ^ (w - 1) ≤ n) = true then -(ab w n true : Int) else (ab w n false : Int) := by
  by_cases hs : 2 ^ (w - 1) ≤ n
  · rw [wo_neg hs]
    simp only [hs, decide_true, if_true, ab]
    rw [neg_low h1 h2 hn hs]; omega
  · rw [wo_pos (by omega)]
    simp [hs, ab]
theorem neg_int {w : Nat} (h2 : w ≤ 64) (q : Nat) : ((low w (18446744073709551616 - low w q) : Nat) : Int) = (-(q : Int)) % ((2 ^ w : Nat) : Int) := by
  have hl := pow_le64 h2
  have hq := low_lt w q
  have hsp := pow_split h2
  rw [low_cast, Int.natCast_sub (by omega), low_cast w q, Int.sub_emod, Int.emod_emod_of_dvd _ (Int.dvd_refl _), ← Int.sub_emod]
  rw [show ((18446744073709551616 : Nat) : Int) - (q : Int) = -(q : Int) + ((2 ^ w : Nat) : Int) * ((2 ^ (64 - w) : Nat) : Int) by rw [← Int.natCast_mul, hsp]; omega]
  rw [Int.add_mul_emod_self_left]

/-- Quotient and rest by worths, out of those of the sizes. -/
theorem signed_is {w n m : Nat} (h1 : 1 ≤ w) (h2 : w ≤ 64) (hn : n < 2 ^ w) (hm : m < 2 ^ w) (h : ¬ m = 0) (sa sb : Bool) (ha : decide (2 ^ (w - 1) ≤ n) = sa) (hb : decide (2 ^ (w - 1) ≤ m) = sb) :
    (if sa = sb then low w (ab w n sa / ab w m sb) else low w (18446744073709551616 - low w (ab w n sa / ab w m sb))) = low w (numB 13 w w n m) ∧
    (if sa = true then low w (18446744073709551616 - low w (ab w n sa % ab w m sb)) else low w (ab w n sa % ab w m sb)) = low w (numB 14 w w n m) := by
  have e13 : numB 13 w w n m = ((wo w n).tdiv (wo w m) % 18446744073709551616).toNat := by show (if m = 0 then _ else _) = _; rw [if_neg h]
  have e14 : numB 14 w w n m = ((wo w n).tmod (wo w m) % 18446744073709551616).toNat := by show (if m = 0 then _ else _) = _; rw [if_neg h]
  have wn := wo_ab h1 h2 hn
  have wm := wo_ab h1 h2 hm
  have hm0 := wo_ne (v := w) hm h
  rw [ha] at wn
  rw [hb] at wm
  rw [e13, e14]
  generalize wo w n = a at *
  generalize wo w m = b at *
  constructor
  all_goals
    apply Int.ofNat_inj.1
    rw [low_int h2]
    cases sa <;> cases sb <;> simp only [Bool.false_eq_true, if_false, if_true, reduceCtorEq] at wn wm ⊢
    all_goals
      subst wn wm
      first
      | rw [neg_int h2]
      | rw [low_cast]
      first
      | (simp [Int.neg_tdiv, Int.tdiv_neg]; done)
      | (simp [Int.neg_tmod, Int.tmod_neg]; rw [Int.tmod_eq_emod_of_nonneg (Int.natCast_nonneg _)])
end Bv
end Go.Proofs.Ytiogadjjacbjlaa
