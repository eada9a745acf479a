/-
  The sequence; its sums; how many different ones a list has. Plain facts.
-/
namespace Go.Proofs.Ytbkjmhpmaclbeaa
namespace Lu

/-- The sequence, of so much at most. -/
def lubF : Nat → Nat → Nat
  | 0, _ => 0
  | f + 1, n => if 2 ^ (n + 1).log2 - 1 = n then 2 ^ ((n + 1).log2 - 1) else lubF f (n - (2 ^ (n + 1).log2 - 1))
def lub (n : Nat) : Nat := lubF n n
/-- The greatest power below. -/
def kOf (n : Nat) : Nat := (n + 1).log2
theorem k_pos {n : Nat} (h : 1 ≤ n) : 1 ≤ kOf n := by
  unfold kOf
  have := (Nat.le_log2 (n := n + 1) (k := 1) (by omega)).2 (by omega)
  omega
theorem k_le {n : Nat} : 2 ^ kOf n ≤ n + 1 := Nat.log2_self_le (by omega)
theorem k_lt {n : Nat} : n + 1 < 2 ^ (kOf n + 1) := Nat.lt_log2_self
theorem k_is {n k : Nat} (h1 : 2 ^ k ≤ n + 1) (h2 : n + 1 < 2 ^ (k + 1)) : kOf n = k := by
  unfold kOf
  have a := (Nat.le_log2 (n := n + 1) (k := k) (by omega)).2 h1
  have b := (Nat.log2_lt (n := n + 1) (k := k + 1) (by omega)).2 h2
  omega
theorem two_le {k : Nat} (h : 1 ≤ k) : 2 ≤ 2 ^ k := by
  have := Nat.pow_le_pow_right (n := 2) (by omega) h
  omega
theorem lubF_more : ∀ f g n, n ≤ f → n ≤ g → 1 ≤ n → lubF f n = lubF g n
  | 0, _, n, h, _, h1 => by omega
  | _, 0, n, _, h, h1 => by omega
  | f + 1, g + 1, n, hf, hg, h1 => by
    rw [lubF, lubF]
    have hk := two_le (k_pos h1)
    have hl := k_le (n := n)
    unfold kOf at hk hl
    by_cases e : 2 ^ (n + 1).log2 - 1 = n
    · rw [if_pos e, if_pos e]
    · rw [if_neg e, if_neg e]
      exact lubF_more f g _ (by omega) (by omega) (by omega)
theorem lub_top {n : Nat} (h1 : 1 ≤ n) (h : 2 ^ kOf n - 1 = n) : lub n = 2 ^ (kOf n - 1) := by
  unfold lub
  obtain ⟨f, rfl⟩ : ∃ f, n = f + 1 := ⟨n - 1, by omega⟩
  rw [lubF]
  exact if_pos h
theorem lub_rest {n : Nat} (h1 : 1 ≤ n) (h : 2 ^ kOf n - 1 ≠ n) : lub n = lub (n - (2 ^ kOf n - 1)) := by
  have hk := two_le (k_pos h1)
  have hl := k_le (n := n)
  unfold lub
  obtain ⟨f, rfl⟩ : ∃ f, n = f + 1 := ⟨n - 1, by omega⟩
  rw [lubF]
  unfold kOf at h
  rw [if_neg h]
  exact lubF_more _ _ _ (by unfold kOf at *; omega) (Nat.le_refl _) (by unfold kOf at *; omega)
theorem lub_is : ∀ f n, n ≤ f → 1 ≤ n → ∃ j, lub n = 2 ^ j ∧ 2 * lub n ≤ n + 1
  | 0, n, h, h1 => by omega
  | f + 1, n, h, h1 => by
    have hk := two_le (k_pos h1)
    have hl := k_le (n := n)
    by_cases e : 2 ^ kOf n - 1 = n
    · rw [lub_top h1 e]
      refine ⟨_, rfl, ?_⟩
      obtain ⟨j, hj⟩ : ∃ j, kOf n = j + 1 := ⟨kOf n - 1, by have := k_pos h1; omega⟩
      rw [hj, Nat.pow_succ] at hl
      rw [hj, Nat.add_sub_cancel]
      omega
    · rw [lub_rest h1 e]
      obtain ⟨j, a, b⟩ := lub_is f (n - (2 ^ kOf n - 1)) (by omega) (by omega)
      exact ⟨j, a, by omega⟩
theorem lub_pow {n : Nat} (h1 : 1 ≤ n) : ∃ j, lub n = 2 ^ j := by
  obtain ⟨j, a, _⟩ := lub_is n n (Nat.le_refl _) h1
  exact ⟨j, a⟩
theorem lub_le {n : Nat} (h1 : 1 ≤ n) : 2 * lub n ≤ n + 1 := by
  obtain ⟨j, _, b⟩ := lub_is n n (Nat.le_refl _) h1
  exact b
theorem lub_pos {n : Nat} (h1 : 1 ≤ n) : 1 ≤ lub n := by
  obtain ⟨j, a⟩ := lub_pow h1
  rw [a]
  exact Nat.two_pow_pos j
theorem lub_and {n : Nat} (h1 : 1 ≤ n) : lub n &&& (lub n - 1) = 0 := by
  obtain ⟨j, a⟩ := lub_pow h1
  rw [a, Nat.and_two_pow_sub_one_eq_mod, Nat.mod_self]
/-- Behind 2^k - 1 it comes again. -/
theorem lub_again {k m : Nat} (h1 : 1 ≤ m) (h2 : m < 2 ^ k - 1) : lub (2 ^ k - 1 + m) = lub m := by
  have hp := Nat.two_pow_pos k
  have hk : kOf (2 ^ k - 1 + m) = k := k_is (by omega) (by rw [Nat.pow_succ]; omega)
  rw [lub_rest (by omega) (by rw [hk]; omega), hk]
  congr 1
  omega
def tw (k : Nat) : Nat := 2 ^ k
/-- The sum of the first n. -/
def sumL : Nat → Nat
  | 0 => 0
  | n + 1 => sumL n + lub (n + 1)
theorem sumL_le : ∀ n, sumL n ≤ n * (n + 1)
  | 0 => by simp [sumL]
  | n + 1 => by
    have := sumL_le n
    have := lub_le (n := n + 1) (by omega)
    rw [sumL]
    have e : (n + 1) * (n + 1 + 1) = n * (n + 1) + 2 * (n + 1) := by
      rw [Nat.mul_comm (n + 1) (n + 1 + 1), ← Nat.add_mul]
    omega
/-- How many different ones the first k of a list have. -/
def levP (l : List Int) : Nat → Nat
  | 0 => 0
  | k + 1 => levP l k + if (l.take k).contains (l[k]?.getD 0) then 0 else 1
theorem levP_le (l : List Int) : ∀ k, levP l k ≤ k
  | 0 => Nat.le_refl _
  | k + 1 => by have := levP_le l k; rw [levP]; split <;> omega
end Lu
end Go.Proofs.Ytbkjmhpmaclbeaa
