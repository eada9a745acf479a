/-
The sequence; its sums; how many different ones a list has. Plain facts.
What the document's functions answer.
The document's Levels.
How many different ones a list has, and the sorted list with its repetitions left out. Plain facts.
-/
import Derived.Test.YtmgkgbhkaoflhaaChecked
import Derived.Deep.LoopGhost
import Derived.BigQuiet
import Derived.Deep.QuietTactic
import Derived.BigGuard
import Derived.IntWalk
import Derived.Lib.Hide
import Derived.Lib.Walk
import Derived.Lib.SlicesCompact
namespace Go.Proofs.Ytmgkgbhkaoflhaa
namespace Lu

/-- The sequence, of so much at most. -/
def lubF : Nat → Nat → Nat
  | 0, _ => 0
  | f + 1, n => if 2 ^ (n + 1).log2 - 1 = n then 2 ^ ((n + 1).log2 - 1) else lubF f (n - (2 ^ (n + 1).log2 - 1))
def lub (n : Nat) : Nat := lubF n n
/-- The greatest power below. -/
def kOf (n : Nat) : Nat := (n + 1).log2
theorem k_pos {n : Nat} (h : 1 ≤ n) : 1 ≤ kOf n := by
  unfold kOf
  have := (Nat.le_log2 (n := n + 1) (k := 1) (by omega)).2 (by omega)
  omega
theorem k_le {n : Nat} : 2 ^ kOf n ≤ n + 1 := Nat.log2_self_le (by omega)
theorem k_lt {n : Nat} : n + 1 < 2 ^ (kOf n + 1) := Nat.lt_log2_self
theorem k_is {n k : Nat} (h1 : 2 ^ k ≤ n + 1) (h2 : n + 1 < 2 ^ (k + 1)) : kOf n = k := by
  unfold kOf
  have a := (Nat.le_log2 (n := n + 1) (k := k) (by omega)).2 h1
  have b := (Nat.log2_lt (n := n + 1) (k := k + 1) (by omega)).2 h2
  omega
theorem two_le {k : Nat} (h : 1 ≤ k) : 2 ≤ 2 ^ k := by
  have := Nat.pow_le_pow_right (n := 2) (by omega) h
  omega
theorem lubF_more : ∀ f g n, n ≤ f → n ≤ g → 1 ≤ n → lubF f n = lubF g n
  | 0, _, n, h, _, h1 => by omega
  | _, 0, n, _, h, h1 => by omega
  | f + 1, g + 1, n, hf, hg, h1 => by
    rw [lubF, lubF]
    have hk := two_le (k_pos h1)
    have hl := k_le (n := n)
    unfold kOf at hk hl
    by_cases e : 2 ^ (n + 1).log2 - 1 = n
    · rw [if_pos e, if_pos e]
    · rw [if_neg e, if_neg e]
      exact lubF_more f g _ (by omega) (by omega) (by omega)
theorem lub_top {n : Nat} (h1 : 1 ≤ n) (h : 2 ^ kOf n - 1 = n) : lub n = 2 ^ (kOf n - 1) := by
  unfold lub
  obtain ⟨f, rfl⟩ : ∃ f, n = f + 1 := ⟨n - 1, by omega⟩
  rw [lubF]
  exact if_pos h
theorem lub_rest {n : Nat} (h1 : 1 ≤ n) (h : 2 ^ kOf n - 1 ≠ n) : lub n = lub (n - (2 ^ kOf n - 1)) := by
  have hk := two_le (k_pos h1)
  have hl := k_le (n := n)
  unfold lub
  obtain ⟨f, rfl⟩ : ∃ f, n = f + 1 := ⟨n - 1, by omega⟩
  rw [lubF]
  unfold kOf at h
  rw [if_neg h]
  exact lubF_more _ _ _ (by unfold kOf at *; omega) (Nat.le_refl _) (by unfold kOf at *; omega)
theorem lub_is : ∀ f n, n ≤ f → 1 ≤ n → ∃ j, lub n = 2 ^ j ∧ 2 * lub n ≤ n + 1
  | 0, n, h, h1 => by omega
  | f + 1, n, h, h1 => by
    have hk := two_le (k_pos h1)
    have hl := k_le (n := n)
    by_cases e : 2 ^ kOf n - 1 = n
    · rw [lub_top h1 e]
      refine ⟨_, rfl, ?_⟩
      obtain ⟨j, hj⟩ : ∃ j, kOf n = j + 1 := ⟨kOf n - 1, by have := k_pos h1; omega⟩
      rw [hj, Nat.pow_succ] at hl
      rw [hj, Nat.add_sub_cancel]
      omega
    · rw [lub_rest h1 e]
      obtain ⟨j, a, b⟩ := lub_is f (n - (2 ^ kOf n - 1)) (by omega) (by omega)
      exact ⟨j, a, by omega⟩
theorem lub_pow {n : Nat} (h1 : 1 ≤ n) : ∃ j, lub n = 2 ^ j := by
  obtain ⟨j, a, _⟩ := lub_is n n (Nat.le_refl _) h1
  exact ⟨j, a⟩
theorem lub_le {n : Nat} (h1 : 1 ≤ n) : 2 * lub n ≤ n + 1 := by
  obtain ⟨j, _, b⟩ := lub_is n n (Nat.le_refl _) h1
  exact b
theorem lub_pos {n : Nat} (h1 : 1 ≤ n) : 1 ≤ lub n := by
  obtain ⟨j, a⟩ := lub_pow h1
  rw [a]
  exact Nat.two_pow_pos j
theorem lub_and {n : Nat} (h1 : 1 ≤ n) : lub n &&& (lub n - 1) = 0 := by
  obtain ⟨j, a⟩ := lub_pow h1
  rw [a, Nat.and_two_pow_sub_one_eq_mod, Nat.mod_self]
/-- Behind 2^k - 1 it comes again. -/
theorem lub_again {k m : Nat} (h1 : 1 ≤ m) (h2 : m < 2 ^ k - 1) : lub (2 ^ k - 1 + m) = lub m := by
  have hp := Nat.two_pow_pos k
  have hk : kOf (2 ^ k - 1 + m) = k := k_is (by omega) (by rw [Nat.pow_succ]; omega)
  rw [lub_rest (by omega) (by rw [hk]; omega), hk]
  congr 1
  omega
def tw (k : Nat) : Nat := 2 ^ k
/-- The sum of the first n. -/
def sumL : Nat → Nat
  | 0 => 0
  | n + 1 => sumL n + lub (n + 1)
theorem sumL_le : ∀ n, sumL n ≤ n * (n + 1)
  | 0 => by simp [sumL]
  | n + 1 => by
    have := sumL_le n
    have := lub_le (n := n + 1) (by omega)
    rw [sumL]
    have e : (n + 1) * (n + 1 + 1) = n * (n + 1) + 2 * (n + 1) := by
      rw [Nat.mul_comm (n + 1) (n + 1 + 1), ← Nat.add_mul]
    omega
/-- How many different ones the first k of a list have. -/
def levP (l : List Int) : Nat → Nat
  | 0 => 0
  | k + 1 => levP l k + if (l.take k).contains (l[k]?.getD 0) then 0 else 1
theorem levP_le (l : List Int) : ∀ k, levP l k ≤ k
  | 0 => Nat.le_refl _
  | k + 1 => by have := levP_le l k; rw [levP]; split <;> omega
end Lu
end Go.Proofs.Ytmgkgbhkaoflhaa

namespace Go.Proofs.Ytmgkgbhkaoflhaa
open Go.RowKit
namespace Lu
set_option maxHeartbeats 1600000
set_option maxRecDepth 100000

theorem pow_lt {k : Nat} (h : k ≤ 62) : 2 ^ k ≤ 4611686018427387904 := by
  have := Nat.pow_le_pow_right (n := 2) (by omega) h
  simpa using this
theorem tw_40 : tw 40 = 1099511627776 := rfl
end Lu
end Go.Proofs.Ytmgkgbhkaoflhaa

namespace Go.Proofs.Ytmgkgbhkaoflhaa
open Go.RowKit
namespace Lu
set_option maxHeartbeats 1600000
set_option maxRecDepth 100000

/-- A list of ints in memory. -/
def LiAt (W : World) (al : Option Addr) (T : List Int) : Prop := T = [] ∨ ∃ b o, al = some ⟨b, o, none⟩ ∧ b < W.heap.size ∧ ∀ (i : Nat) (x : Int), T[i]? = some x → W.cell? ⟨b, o + i, none⟩ = some (.int .i64 x)
theorem has_snoc {T : List Int} {k : Nat} {x y : Int} (h : T[k]? = some x) : (T.take (k + 1)).contains y = ((T.take k).contains y || x == y) := by
  rw [List.take_add_one, h]
  show (T.take k ++ [x]).contains y = _
  generalize T.take k = l
  induction l with
  | nil =>
    show [x].contains y = (false || x == y)
    rw [Bool.false_or]
    show ((y == x) || false) = (x == y)
    rw [Bool.or_false, Bool.eq_iff_iff, beq_iff_eq, beq_iff_eq]
    exact ⟨Eq.symm, Eq.symm⟩
  | cons z l ih =>
    rw [List.cons_append, List.contains_cons, List.contains_cons, ih, Bool.or_assoc]
end Lu
end Go.Proofs.Ytmgkgbhkaoflhaa

namespace Go.Proofs.Ytmgkgbhkaoflhaa
namespace Lu

/-- The first of each, in their order. -/
def firsts (l : List Int) : Nat → List Int
  | 0 => []
  | k + 1 => firsts l k ++ if (l.take k).contains (l[k]?.getD 0) then [] else [l[k]?.getD 0]
theorem firsts_len (l : List Int) : ∀ k, (firsts l k).length = levP l k
  | 0 => rfl
  | k + 1 => by rw [firsts, levP, List.length_append, firsts_len l k]; split <;> rfl
theorem firsts_mem {l : List Int} : ∀ k, k ≤ l.length → ∀ x, x ∈ firsts l k ↔ x ∈ l.take k
  | 0, _, x => by simp [firsts]
  | k + 1, h, x => by
    have hk : l[k]? = some (l[k]?.getD 0) := by rw [List.getElem?_eq_getElem (by omega)]; rfl
    have e : l.take (k + 1) = l.take k ++ [l[k]?.getD 0] := by rw [List.take_add_one]; congr 1; rw [hk]; rfl
    rw [firsts, e, List.mem_append, List.mem_append, firsts_mem k (by omega) x]
    by_cases c : (l.take k).contains (l[k]?.getD 0) = true
    · rw [if_pos c]
      have c' : l[k]?.getD 0 ∈ l.take k := by simpa using c
      constructor
      · rintro (h | h)
        · exact .inl h
        · cases h
      · rintro (h | h)
        · exact .inl h
        · obtain rfl : x = l[k]?.getD 0 := by simpa using h
          exact .inl c'
    · rw [if_neg c]
theorem firsts_nodup {l : List Int} : ∀ k, k ≤ l.length → (firsts l k).Nodup
  | 0, _ => by simp [firsts]
  | k + 1, h => by
    rw [firsts]
    by_cases c : (l.take k).contains (l[k]?.getD 0) = true
    · rw [if_pos c, List.append_nil]; exact firsts_nodup k (by omega)
    · rw [if_neg c]
      have c' : l[k]?.getD 0 ∉ l.take k := by simpa using c
      refine List.nodup_append.2 ⟨firsts_nodup k (by omega), by simp, fun a ha b hb => ?_⟩
      obtain rfl : b = l[k]?.getD 0 := by simpa using hb
      intro e
      subst e
      exact c' ((firsts_mem k (by omega) _).1 ha)

open Go.Lib in
theorem upTo_mem {d : Array Int} : ∀ m, m ≤ d.size → ∀ x, x ∈ compactUpTo d m ↔ x ∈ d.toList.take m
  | 0, _, x => by simp [compactUpTo]
  | m + 1, h, x => by
    have hg : d.toList[m]? = some d[m]! := by
      rw [Array.getElem?_toList, getElem!_pos d m (by omega)]
      exact Array.getElem?_eq_getElem (by omega)
    have e : d.toList.take (m + 1) = d.toList.take m ++ [d[m]!] := by rw [List.take_add_one, hg]; rfl
    rw [compactUpTo_succ, e, List.mem_append, List.mem_append, upTo_mem m (by omega) x]
    by_cases k : keeps d m = true
    · rw [if_pos k]
    · rw [if_neg k]
      have hk : m ≠ 0 ∧ d[m]! = d[m - 1]! := by
        unfold keeps at k
        simpa using k
      constructor
      · rintro (h | h)
        · exact .inl h
        · cases h
      · rintro (h | h)
        · exact .inl h
        · left
          obtain rfl : x = d[m]! := by simpa using h
          rw [hk.2]
          have hm : m - 1 < d.size := by omega
          have h2 : d.toList[m - 1]? = some d[m - 1]! := by
            rw [Array.getElem?_toList, getElem!_pos d (m - 1) hm]
            exact Array.getElem?_eq_getElem hm
          have h3 : (d.toList.take m)[m - 1]? = some d[m - 1]! := by rw [List.getElem?_take_of_lt (by omega)]; exact h2
          exact List.mem_of_getElem? h3
open Go.Lib in
theorem upTo_rise {d : Array Int} (hd : ∀ i j, i ≤ j → j < d.size → d[i]! ≤ d[j]!) : ∀ m, m ≤ d.size → (compactUpTo d m).Pairwise (· < ·) ∧ ∀ x ∈ compactUpTo d m, x ≤ d[m - 1]!
  | 0, _ => by simp [compactUpTo]
  | m + 1, h => by
    obtain ⟨h1, h2⟩ := upTo_rise hd m (by omega)
    have hle : d[m - 1]! ≤ d[m]! := hd _ _ (by omega) (by omega)
    rw [compactUpTo_succ]
    show _ ∧ ∀ x ∈ _, x ≤ d[m]!
    by_cases k : keeps d m = true
    · rw [if_pos k]
      refine ⟨List.pairwise_append.2 ⟨h1, by simp, fun a ha b hb => ?_⟩, fun x hx => ?_⟩
      · obtain rfl : b = d[m]! := by simpa using hb
        have := h2 a ha
        have hm : m = 0 ∨ d[m]! ≠ d[m - 1]! := by unfold keeps at k; simpa using k
        rcases hm with rfl | hne
        · simp [compactUpTo] at ha
        · omega
      · rcases List.mem_append.1 hx with hx | hx
        · exact Int.le_trans (h2 x hx) hle
        · obtain rfl : x = d[m]! := by simpa using hx
          exact Int.le_refl _
    · rw [if_neg k, List.append_nil]
      exact ⟨h1, fun x hx => Int.le_trans (h2 x hx) hle⟩
open Go.Lib in
/-- As many as the sorted list has without its repetitions. -/
theorem lev_compact (T : List Int) : (compact (T.mergeSort fun x y => decide (x ≤ y))).length = levP T T.length := by
  have hp := List.mergeSort_perm T (fun x y => decide (x ≤ y))
  have hs := List.pairwise_mergeSort (le := fun x y : Int => decide (x ≤ y)) (fun a b c h1 h2 => by simp at *; omega) (fun a b => by simp; omega) T
  generalize hS : (T.mergeSort fun x y => decide (x ≤ y)) = S at hp hs
  have hd : ∀ i j, i ≤ j → j < S.toArray.size → S.toArray[i]! ≤ S.toArray[j]! := fun i j hij hj => by
    rw [getElem!_pos S.toArray j hj, getElem!_pos S.toArray i (by omega)]
    by_cases e : i = j
    · subst e; exact Int.le_refl _
    · have := List.pairwise_iff_getElem.1 hs i j (by simp at hj; omega) (by simpa using hj) (by omega)
      simpa using this
  have h1 := upTo_rise hd S.length (by simp)
  have h2 := upTo_mem (d := S.toArray) S.length (by simp)
  have hn : (compact S).Nodup := h1.1.imp (fun h e => by omega)
  have hm : ∀ x, x ∈ compact S ↔ x ∈ firsts T T.length := fun x => by
    rw [firsts_mem T.length (Nat.le_refl _) x, List.take_of_length_le (Nat.le_refl _)]
    unfold compact
    rw [h2 x, List.take_of_length_le (by simp)]
    exact hp.mem_iff
  rw [← firsts_len]
  exact ((List.perm_ext_iff_of_nodup hn (firsts_nodup _ (Nat.le_refl _))).2 hm).length_eq
end Lu
end Go.Proofs.Ytmgkgbhkaoflhaa
