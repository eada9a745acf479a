/-
  How many bits a number has. Plain facts.
-/
import Derived.Test.YtbkjmhpmaclbeaaLuMath
import Derived.Lib.BitFns
namespace Go.Proofs.Ytbkjmhpmaclbeaa
namespace Lu
theorem len_is : ∀ k x, 2 ^ k ≤ x → x < 2 ^ (k + 1) → x < 2 ^ 64 → Lib.bitLen x = k + 1 := by
  intro k x h1 h2 h3
  rw [Lib.bitLen_shift k x h1 h3]
  have hp := Nat.two_pow_pos k
  have e : x / 2 ^ k = 1 := by
    rw [Nat.pow_succ] at h2
    have a : 1 ≤ x / 2 ^ k := (Nat.le_div_iff_mul_le hp).2 (by omega)
    have b : x / 2 ^ k < 2 := (Nat.div_lt_iff_lt_mul hp).2 (by omega)
    omega
  rw [e]
  rfl
/-- The greatest power at most a number. -/
def lg (n : Nat) : Nat := n.log2
theorem lg_le {n : Nat} (h : 1 ≤ n) : tw (lg n) ≤ n := Nat.log2_self_le (by omega)
theorem lg_lt {n : Nat} : n < 2 * tw (lg n) := by
  have := Nat.lt_log2_self (n := n)
  unfold tw lg
  rw [Nat.pow_succ] at this
  omega
theorem lg_len {n : Nat} (h : 1 ≤ n) (hn : n < 2 ^ 64) : Lib.bitLen n = lg n + 1 := by
  refine len_is (lg n) n (Nat.log2_self_le (by omega)) Nat.lt_log2_self hn
theorem lg_small {n : Nat} (h : 1 ≤ n) (hn : n < 4611686018427387904) : lg n < 62 := (Nat.log2_lt (by omega)).2 hn
/-- It is the power itself. -/
theorem lub_full {n : Nat} (h : 1 ≤ n) (e : n + 1 = 2 * tw (lg n)) : lub n = tw (lg n) := by
  have hk : kOf n = lg n + 1 := k_is (by show 2 ^ (lg n + 1) ≤ n + 1; rw [e, Nat.pow_succ]; unfold tw; omega) (by have := Nat.two_pow_pos (lg n); rw [e, Nat.pow_succ, Nat.pow_succ]; unfold tw; omega)
  rw [lub_top h (by rw [hk, Nat.pow_succ]; unfold tw at e; omega), hk]
  rfl
/-- It is that of the rest. -/
theorem lub_less {n : Nat} (h : 1 ≤ n) (e : n + 1 < 2 * tw (lg n)) : 2 ≤ tw (lg n) ∧ lub n = lub (n - (tw (lg n) - 1)) := by
  have h1 := lg_le h
  have hk : kOf n = lg n := k_is (by show 2 ^ lg n ≤ n + 1; unfold tw at h1; omega) (by rw [Nat.pow_succ]; unfold tw at e; omega)
  refine ⟨by omega, ?_⟩
  rw [lub_rest h (by rw [hk]; unfold tw at h1; omega), hk]
  rfl
end Lu
end Go.Proofs.Ytbkjmhpmaclbeaa
