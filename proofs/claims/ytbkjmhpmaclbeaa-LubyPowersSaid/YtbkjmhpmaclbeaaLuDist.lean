/-
  How many different ones a list has, and the sorted list with its repetitions left out. Plain facts.
-/
import Derived.Test.YtbkjmhpmaclbeaaLuMath
import Derived.Lib.SlicesCompact
namespace Go.Proofs.Ytbkjmhpmaclbeaa
namespace Lu

/-- The first of each, in their order. -/
def firsts (l : List Int) : Nat → List Int
  | 0 => []
  | k + 1 => firsts l k ++ if (l.take k).contains (l[k]?.getD 0) then [] else [l[k]?.getD 0]
theorem firsts_len (l : List Int) : ∀ k, (firsts l k).length = levP l k
  | 0 => rfl
  | k + 1 => by rw [firsts, levP, List.length_append, firsts_len l k]; split <;> rfl
theorem firsts_mem {l : List Int} : ∀ k, k ≤ l.length → ∀ x, x ∈ firsts l k ↔ x ∈ l.take k
  | 0, _, x => by simp [firsts]
  | k + 1, h, x => by
    have hk : l[k]? = some (l[k]?.getD 0) := by rw [List.getElem?_eq_getElem (by omega)]; rfl
    have e : l.take (k + 1) = l.take k ++ [l[k]?.getD 0] := by rw [List.take_add_one]; congr 1; rw [hk]; rfl
    rw [firsts, e, List.mem_append, List.mem_append, firsts_mem k (by omega) x]
    by_cases c : (l.take k).contains (l[k]?.getD 0) = true
    · rw [if_pos c]
      have c' : l[k]?.getD 0 ∈ l.take k := by simpa using c
      constructor
      · rintro (h | h)
        · exact .inl h
        · cases h
      · rintro (h | h)
        · exact .inl h
        · obtain rfl : x = l[k]?.getD 0 := by simpa using h
          exact .inl c'
    · rw [if_neg c]
theorem firsts_nodup {l : List Int} : ∀ k, k ≤ l.length → (firsts l k).Nodup
  | 0, _ => by simp [firsts]
  | k + 1, h => by
    rw [firsts]
    by_cases c : (l.take k).contains (l[k]?.getD 0) = true
    · rw [if_pos c, List.append_nil]; exact firsts_nodup k (by omega)
    · rw [if_neg c]
      have c' : l[k]?.getD 0 ∉ l.take k := by simpa using c
      refine List.nodup_append.2 ⟨firsts_nodup k (by omega), by simp, fun a ha b hb => ?_⟩
      obtain rfl : b = l[k]?.getD 0 := by simpa using hb
      intro e
      subst e
      exact c' ((firsts_mem k (by omega) _).1 ha)

open Go.Lib in
theorem upTo_mem {d : Array Int} : ∀ m, m ≤ d.size → ∀ x, x ∈ compactUpTo d m ↔ x ∈ d.toList.take m
  | 0, _, x => by simp [compactUpTo]
  | m + 1, h, x => by
    have hg : d.toList[m]? = some d[m]! := by
      rw [Array.getElem?_toList, getElem!_pos d m (by omega)]
      exact Array.getElem?_eq_getElem (by omega)
    have e : d.toList.take (m + 1) = d.toList.take m ++ [d[m]!] := by rw [List.take_add_one, hg]; rfl
    rw [compactUpTo_succ, e, List.mem_append, List.mem_append, upTo_mem m (by omega) x]
    by_cases k : keeps d m = true
    · rw [if_pos k]
    · rw [if_neg k]
      have hk : m ≠ 0 ∧ d[m]! = d[m - 1]! := by
        unfold keeps at k
        simpa using k
      constructor
      · rintro (h | h)
        · exact .inl h
        · cases h
      · rintro (h | h)
        · exact .inl h
        · left
          obtain rfl : x = d[m]! := by simpa using h
          rw [hk.2]
          have hm : m - 1 < d.size := by omega
          have h2 : d.toList[m - 1]? = some d[m - 1]! := by
            rw [Array.getElem?_toList, getElem!_pos d (m - 1) hm]
            exact Array.getElem?_eq_getElem hm
          have h3 : (d.toList.take m)[m - 1]? = some d[m - 1]! := by rw [List.getElem?_take_of_lt (by omega)]; exact h2
          exact List.mem_of_getElem? h3
open Go.Lib in
theorem upTo_rise {d : Array Int} (hd : ∀ i j, i ≤ j → j < d.size → d[i]! ≤ d[j]!) : ∀ m, m ≤ d.size → (compactUpTo d m).Pairwise (· < ·) ∧ ∀ x ∈ compactUpTo d m, x ≤ d[m - 1]!
  | 0, _ => by simp [compactUpTo]
  | m + 1, h => by
    obtain ⟨h1, h2⟩ := upTo_rise hd m (by omega)
    have hle : d[m - 1]! ≤ d[m]! := hd _ _ (by omega) (by omega)
    rw [compactUpTo_succ]
    show _ ∧ ∀ x ∈ _, x ≤ d[m]!
    by_cases k : keeps d m = true
    · rw [if_pos k]
      refine ⟨List.pairwise_append.2 ⟨h1, by simp, fun a ha b hb => ?_⟩, fun x hx => ?_⟩
      · obtain rfl : b = d[m]! := by simpa using hb
        have := h2 a ha
        have hm : m = 0 ∨ d[m]! ≠ d[m - 1]! := by unfold keeps at k; simpa using k
        rcases hm with rfl | hne
        · simp [compactUpTo] at ha
        · omega
      · rcases List.mem_append.1 hx with hx | hx
        · exact Int.le_trans (h2 x hx) hle
        · obtain rfl : x = d[m]! := by simpa using hx
          exact Int.le_refl _
    · rw [if_neg k, List.append_nil]
      exact ⟨h1, fun x hx => Int.le_trans (h2 x hx) hle⟩
open Go.Lib in
/-- As many as the sorted list has without its repetitions. -/
theorem lev_compact (T : List Int) : (compact (T.mergeSort fun x y => decide (x ≤ y))).length = levP T T.length := by
  have hp := List.mergeSort_perm T (fun x y => decide (x ≤ y))
  have hs := List.pairwise_mergeSort (le := fun x y : Int => decide (x ≤ y)) (fun a b c h1 h2 => by simp at *; omega) (fun a b => by simp; omega) T
  generalize hS : (T.mergeSort fun x y => decide (x ≤ y)) = S at hp hs
  have hd : ∀ i j, i ≤ j → j < S.toArray.size → S.toArray[i]! ≤ S.toArray[j]! := fun i j hij hj => by
    rw [getElem!_pos S.toArray j hj, getElem!_pos S.toArray i (by omega)]
    by_cases e : i = j
    · subst e; exact Int.le_refl _
    · have := List.pairwise_iff_getElem.1 hs i j (by simp at hj; omega) (by simpa using hj) (by omega)
      simpa using this
  have h1 := upTo_rise hd S.length (by simp)
  have h2 := upTo_mem (d := S.toArray) S.length (by simp)
  have hn : (compact S).Nodup := h1.1.imp (fun h e => by omega)
  have hm : ∀ x, x ∈ compact S ↔ x ∈ firsts T T.length := fun x => by
    rw [firsts_mem T.length (Nat.le_refl _) x, List.take_of_length_le (Nat.le_refl _)]
    unfold compact
    rw [h2 x, List.take_of_length_le (by simp)]
    exact hp.mem_iff
  rw [← firsts_len]
  exact ((List.perm_ext_iff_of_nodup hn (firsts_nodup _ (Nat.le_refl _))).2 hm).length_eq
end Lu
end Go.Proofs.Ytbkjmhpmaclbeaa
