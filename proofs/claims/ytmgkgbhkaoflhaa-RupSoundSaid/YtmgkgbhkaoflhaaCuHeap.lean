/-
  A heap of numbers, as container/heap turns one: plain facts.
-/
import Derived.Sort.Lot0
import Derived.Sort.WalkB2
import Derived.Lib.Hide
import Derived.Test.YtmgkgbhkaoflhaaA1
namespace Go.Proofs.Ytmgkgbhkaoflhaa
open Go.Sort
namespace Cf

def ltR (a b : Int) : Bool := decide (b < a)
/-- No number is less than its parent. -/
def Par (d : Array Int) (n : Nat) : Prop := ∀ k, 0 < k → k < n → d[(k - 1) / 2]! ≤ d[k]!
/-- The number stands among the first n. -/
def Mem (d : Array Int) (n : Nat) (y : Int) : Prop := ∃ j, j < n ∧ d[j]! = y
theorem swp_at (d : Array Int) {i j : Nat} (hi : i < d.size) (hj : j < d.size) (k : Nat) : (swp d i j)[k]! = if k = j then d[i]! else if k = i then d[j]! else d[k]! := by
  by_cases h1 : k = j
  · subst h1; rw [if_pos rfl]; exact swp_right d i k hj
  · rw [if_neg h1]
    by_cases h2 : k = i
    · subst h2; rw [if_pos rfl]; exact swp_left d k j hi h1
    · rw [if_neg h2]; exact swp_other d i j k h2 h1
theorem mem_swp {d : Array Int} {n i j : Nat} (hn : n ≤ d.size) (hi : i < n) (hj : j < n) (y : Int) : Mem (swp d i j) n y ↔ Mem d n y := by
  have hs := swp_at d (i := i) (j := j) (by omega) (by omega)
  constructor
  · rintro ⟨k, hk, h⟩
    rw [hs k] at h
    split at h
    · exact ⟨i, hi, h⟩
    · split at h
      · exact ⟨j, hj, h⟩
      · exact ⟨k, hk, h⟩
  · rintro ⟨k, hk, h⟩
    by_cases h1 : k = i
    · subst h1
      exact ⟨j, hj, by rw [hs j, if_pos rfl]; exact h⟩
    · by_cases h2 : k = j
      · subst h2
        refine ⟨i, hi, ?_⟩
        rw [hs i, if_neg (fun e => h1 e.symm), if_pos rfl]
        exact h
      · exact ⟨k, hk, by rw [hs k, if_neg h2, if_neg h1]; exact h⟩

/-- All but what lies below i. -/
structure ParD (d : Array Int) (n i : Nat) : Prop where
  par : ∀ k, 0 < k → k < n → (k - 1) / 2 ≠ i → d[(k - 1) / 2]! ≤ d[k]!
  low : ∀ k, 0 < k → k < n → (k - 1) / 2 = i → 0 < i → d[(i - 1) / 2]! ≤ d[k]!
theorem parD_swp {d : Array Int} {n i j : Nat} (h : ParD d n i) (hn : n ≤ d.size) (hi : i < n) (hj : j < n) (h0 : 0 < j) (hp : (j - 1) / 2 = i) (hm : ∀ k, 0 < k → k < n → (k - 1) / 2 = i → d[j]! ≤ d[k]!) (hl : d[j]! < d[i]!) : ParD (swp d i j) n j := by
  have hs := swp_at d (i := i) (j := j) (by omega) (by omega)
  have hij : i ≠ j := by omega
  refine ⟨fun k hk hkn hpk => ?_, fun k hk hkn hpk _ => ?_⟩
  · rw [hs, hs k, if_neg hpk]
    by_cases e : k = j
    · subst e
      rw [if_pos hp, if_pos rfl]
      omega
    · rw [if_neg e]
      by_cases e2 : k = i
      · subst e2
        rw [if_pos rfl, if_neg (by omega)]
        exact h.low j h0 hj hp hk
      · rw [if_neg e2]
        by_cases e3 : (k - 1) / 2 = i
        · rw [if_pos e3]
          exact hm k hk hkn e3
        · rw [if_neg e3]
          exact h.par k hk hkn e3
  · rw [hs, hs k, if_neg (by omega), if_pos hp, if_neg (by omega), if_neg (by omega)]
    have := h.par k hk hkn (by omega)
    rw [hpk] at this
    exact this
theorem sift_ok : ∀ (f : Nat) {n root : Nat} {d : Array Int}, n - root ≤ f → n ≤ d.size → root < n → ParD d n root →
    Par (siftDown ltR n 0 root d) n ∧ (siftDown ltR n 0 root d).size = d.size ∧ (∀ y, Mem (siftDown ltR n 0 root d) n y ↔ Mem d n y) ∧ ∀ k, n ≤ k → (siftDown ltR n 0 root d)[k]! = d[k]!
  | 0, _, _, _, h, _, h2, _ => by omega
  | f + 1, n, root, d, hf, hn, hr, hP => by
    have stop : (∀ k, 0 < k → k < n → (k - 1) / 2 = root → d[root]! ≤ d[k]!) → Par d n := fun hc k hk hkn => by
      by_cases e : (k - 1) / 2 = root
      · rw [e]; exact hc k hk hkn e
      · exact hP.par k hk hkn e
    have go : ∀ j, root < j → j < n → (j - 1) / 2 = root → (∀ k, 0 < k → k < n → (k - 1) / 2 = root → d[j]! ≤ d[k]!) → d[j]! < d[root]! → siftDown ltR n 0 root d = siftDown ltR n 0 j (swp d (0 + root) (0 + j)) →
        Par (siftDown ltR n 0 root d) n ∧ (siftDown ltR n 0 root d).size = d.size ∧ (∀ y, Mem (siftDown ltR n 0 root d) n y ↔ Mem d n y) ∧ ∀ k, n ≤ k → (siftDown ltR n 0 root d)[k]! = d[k]! := by
      intro j hj hjn hpj hm hl e
      rw [e, Nat.zero_add, Nat.zero_add]
      obtain ⟨a, b, c, g⟩ := sift_ok f (n := n) (root := j) (d := swp d root j) (by omega) (by rw [size_swp]; exact hn) hjn (parD_swp hP hn hr hjn (by omega) hpj hm hl)
      exact ⟨a, by rw [b, size_swp], fun y => (c y).trans (mem_swp hn hr hjn y), fun k hk => by rw [g k hk, swp_other _ _ _ _ (by omega) (by omega)]⟩
    by_cases h0 : n ≤ 2 * root + 1
    · rw [sd_end ltR d h0]
      exact ⟨stop (fun k hk hkn e => by omega), rfl, fun _ => Iff.rfl, fun _ _ => rfl⟩
    · by_cases h1 : 2 * root + 2 < n ∧ d[2 * root + 2]! < d[2 * root + 1]!
      · have hL : ltR d[0 + (2 * root + 1)]! d[0 + (2 * root + 2)]! = true := by simpa [ltR] using h1.2
        have hm : ∀ k, 0 < k → k < n → (k - 1) / 2 = root → d[2 * root + 2]! ≤ d[k]! := fun k hk hkn e => by
          have : k = 2 * root + 1 ∨ k = 2 * root + 2 := by omega
          rcases this with rfl | rfl
          · exact Int.le_of_lt h1.2
          · exact Int.le_refl _
        by_cases h3 : d[2 * root + 2]! < d[root]!
        · exact go (2 * root + 2) (by omega) h1.1 (by omega) hm h3 (sd_right_go ltR d h1.1 hL (by simpa [ltR] using h3))
        · rw [sd_right_stop ltR d h1.1 hL (by simpa [ltR] using h3)]
          exact ⟨stop (fun k hk hkn e => by have := hm k hk hkn e; omega), rfl, fun _ => Iff.rfl, fun _ _ => rfl⟩
      · have hL : 2 * root + 2 < n → ltR d[0 + (2 * root + 1)]! d[0 + (2 * root + 2)]! = false := fun h => by
          have : ¬ d[2 * root + 2]! < d[2 * root + 1]! := fun c => h1 ⟨h, c⟩
          simpa [ltR] using this
        have hm : ∀ k, 0 < k → k < n → (k - 1) / 2 = root → d[2 * root + 1]! ≤ d[k]! := fun k hk hkn e => by
          have : k = 2 * root + 1 ∨ k = 2 * root + 2 := by omega
          rcases this with rfl | rfl
          · exact Int.le_refl _
          · have : ¬ d[2 * root + 2]! < d[2 * root + 1]! := fun c => h1 ⟨hkn, c⟩
            omega
        by_cases h3 : d[2 * root + 1]! < d[root]!
        · exact go (2 * root + 1) (by omega) (by omega) (by omega) hm h3 (sd_left_go ltR d (by omega) hL (by simpa [ltR] using h3))
        · rw [sd_left_stop ltR d (by omega) hL (by simpa [ltR] using h3)]
          exact ⟨stop (fun k hk hkn e => by have := hm k hk hkn e; omega), rfl, fun _ => Iff.rfl, fun _ _ => rfl⟩

/-- A number goes up to where it belongs. -/
def siftUp (j : Nat) (d : Array Int) : Array Int :=
  if h : j = 0 ∨ ¬ d[j]! < d[(j - 1) / 2]! then d else siftUp ((j - 1) / 2) (swp d ((j - 1) / 2) j)
termination_by j
decreasing_by omega
theorem up_stop {j : Nat} {d : Array Int} (h : j = 0 ∨ ¬ d[j]! < d[(j - 1) / 2]!) : siftUp j d = d := by rw [siftUp, dif_pos h]
theorem up_go {j : Nat} {d : Array Int} (h0 : j ≠ 0) (h : d[j]! < d[(j - 1) / 2]!) : siftUp j d = siftUp ((j - 1) / 2) (swp d ((j - 1) / 2) j) := by
  rw [siftUp, dif_neg fun c => c.elim h0 fun n => n h]
/-- All but j against its parent. -/
structure ParU (d : Array Int) (n j : Nat) : Prop where
  par : ∀ k, 0 < k → k < n → k ≠ j → d[(k - 1) / 2]! ≤ d[k]!
  low : ∀ k, 0 < k → k < n → (k - 1) / 2 = j → 0 < j → d[(j - 1) / 2]! ≤ d[k]!
theorem parU_swp {d : Array Int} {n j : Nat} (h : ParU d n j) (hn : n ≤ d.size) (hj : j < n) (h0 : 0 < j) (hl : d[j]! < d[(j - 1) / 2]!) : ParU (swp d ((j - 1) / 2) j) n ((j - 1) / 2) := by
  have hs := swp_at d (i := (j - 1) / 2) (j := j) (by omega) (by omega)
  refine ⟨fun k hk hkn hpk => ?_, fun k hk hkn hpk hi0 => ?_⟩
  · rw [hs, hs k]
    by_cases e : k = j
    · subst e
      rw [if_neg (by omega), if_pos rfl, if_pos rfl]
      omega
    · rw [if_neg e, if_neg hpk]
      by_cases e2 : (k - 1) / 2 = j
      · rw [if_pos e2]
        exact h.low k hk hkn e2 h0
      · rw [if_neg e2]
        by_cases e3 : (k - 1) / 2 = (j - 1) / 2
        · rw [if_pos e3]
          have := h.par k hk hkn e
          rw [e3] at this
          omega
        · rw [if_neg e3]
          exact h.par k hk hkn e
  · rw [hs, hs k, if_neg (by omega), if_neg (by omega)]
    have hi := h.par ((j - 1) / 2) hi0 (by omega) (by omega)
    by_cases e : k = j
    · rw [if_pos e]
      exact hi
    · rw [if_neg e, if_neg (by omega)]
      have := h.par k hk hkn e
      rw [hpk] at this
      omega
theorem up_ok : ∀ (f : Nat) {n j : Nat} {d : Array Int}, j ≤ f → n ≤ d.size → j < n → ParU d n j →
    Par (siftUp j d) n ∧ (siftUp j d).size = d.size ∧ ∀ y, Mem (siftUp j d) n y ↔ Mem d n y
  | f, n, j, d, hf, hn, hj, hP => by
    by_cases h : j = 0 ∨ ¬ d[j]! < d[(j - 1) / 2]!
    · rw [up_stop h]
      refine ⟨fun k hk hkn => ?_, rfl, fun _ => Iff.rfl⟩
      by_cases e : k = j
      · subst e
        rcases h with h | h
        · omega
        · omega
      · exact hP.par k hk hkn e
    · have h0 : j ≠ 0 := fun c => h (.inl c)
      have hl : d[j]! < d[(j - 1) / 2]! := Decidable.not_not.1 fun c => h (.inr c)
      rw [up_go h0 hl]
      match f, hf with
      | 0, hf => omega
      | f + 1, hf =>
        obtain ⟨a, b, c⟩ := up_ok f (n := n) (j := (j - 1) / 2) (d := swp d ((j - 1) / 2) j) (by omega) (by rw [size_swp]; exact hn) (by omega) (parU_swp hP hn hj (by omega) hl)
        exact ⟨a, by rw [b, size_swp], fun y => (c y).trans (mem_swp hn (by omega) hj y)⟩
/-- The first is the least. -/
theorem par_least {d : Array Int} {n : Nat} (h : Par d n) : ∀ (f : Nat) {k : Nat}, k ≤ f → k < n → d[0]! ≤ d[k]!
  | f, k, hf, hk => by
    by_cases h0 : k = 0
    · subst h0; exact Int.le_refl _
    · match f, hf with
      | 0, hf => omega
      | f + 1, hf =>
        have := par_least h f (k := (k - 1) / 2) (by omega) (by omega)
        exact Int.le_trans this (h k (by omega) hk)
end Cf
end Go.Proofs.Ytmgkgbhkaoflhaa
