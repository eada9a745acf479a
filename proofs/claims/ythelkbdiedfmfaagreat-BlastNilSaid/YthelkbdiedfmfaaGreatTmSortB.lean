/-
  The library's sort on a list of numbers that are all different.
-/
import Derived.Test.YthelkbdiedfmfaaGreatTmTodo
import Derived.Test.YthelkbdiedfmfaaGreatTmInfo
import Derived.Test.YthelkbdiedfmfaaGreatTmShelf
import Derived.Sort.OwnSortedInts
namespace Go.Proofs.YthelkbdiedfmfaaGreat
open Go.RowKit Go.Maps Go.Sort Bv
namespace Tm
set_option maxHeartbeats 1000000
set_option maxRecDepth 100000

theorem rising_extI : ∀ (l l' : List Int), l.Pairwise (· < ·) → l'.Pairwise (· < ·) → (∀ x, x ∈ l ↔ x ∈ l') → l = l'
  | [], [], _, _, _ => rfl
  | [], b :: l', _, _, h => by have := (h b).2 (by simp); simp at this
  | a :: l, [], _, _, h => by have := (h a).1 (by simp); simp at this
  | a :: l, b :: l', h1, h2, h => by
    rw [List.pairwise_cons] at h1 h2
    have e : a = b := by
      have ha := (h a).1 (by simp)
      have hb := (h b).2 (by simp)
      rw [List.mem_cons] at ha hb
      rcases ha with ha | ha
      · exact ha
      · rcases hb with hb | hb
        · exact hb.symm
        · have := h1.1 b hb; have := h2.1 a ha; omega
    subst e
    congr 1
    refine rising_extI l l' h1.2 h2.2 (fun x => ?_)
    have hx := h x
    rw [List.mem_cons, List.mem_cons] at hx
    constructor
    · intro hm
      rcases hx.1 (.inr hm) with c | c
      · have := h1.1 x hm; omega
      · exact c
    · intro hm
      rcases hx.2 (.inr hm) with c | c
      · have := h2.1 x hm; omega
      · exact c

theorem sorted_is {vs r : List Nat} (nd : vs.Nodup) (hr : r.Pairwise (· < ·)) (hm : ∀ x, x ∈ vs ↔ x ∈ r) :
    ((vs.map (fun i => ((i : Nat) : Int))).mergeSort fun x y => decide (x ≤ y)) = r.map (fun i => ((i : Nat) : Int)) := by
  refine rising_extI _ _ ?_ ?_ ?_
  · have hs := List.pairwise_mergeSort (le := fun x y : Int => decide (x ≤ y)) (fun a b c h1 h2 => by simp at *; omega) (fun a b => by simp; omega) (vs.map (fun i => ((i : Nat) : Int)))
    have hp := List.mergeSort_perm (vs.map (fun i => ((i : Nat) : Int))) (fun x y => decide (x ≤ y))
    have hn : ((vs.map (fun i => ((i : Nat) : Int))).mergeSort fun x y => decide (x ≤ y)).Nodup := by
      rw [hp.nodup_iff]
      rw [List.nodup_iff_pairwise_ne, List.pairwise_map]
      exact nd.imp (fun h e => h (by omega))
    have hb := hs.and hn
    exact hb.imp (fun {a b} h => by
      have h1 := h.1
      have h2 := h.2
      simp at h1
      omega)
  · rw [List.pairwise_map]
    exact hr.imp (fun h => by omega)
  · intro x
    have hp := List.mergeSort_perm (vs.map (fun i => ((i : Nat) : Int))) (fun x y => decide (x ≤ y))
    rw [hp.mem_iff, List.mem_map, List.mem_map]
    constructor
    · rintro ⟨i, h, rfl⟩; exact ⟨i, (hm i).1 h, rfl⟩
    · rintro ⟨i, h, rfl⟩; exact ⟨i, (hm i).2 h, rfl⟩

theorem todoRow_map (T : List Nat) : todoRow T = (T.map (fun i => ((i : Nat) : Int))).map (Value.int .i64) := by simp [todoRow]

/-- The sort, of a list that the call owns. -/
theorem sort_any {base : Nat} {W : World} {v : Value} {vs r : List Nat} (hown : W.ownsRow base 3 1 v vs.length (todoRow vs)) (nd : vs.Nodup) (hr : r.Pairwise (· < ·)) (hm : ∀ x, x ∈ vs ↔ x ∈ r) (hl : vs.length ≤ 1000000) :
    Calls Tryz.prog 23 #[v] W fun e W' => e = .returned (.tuple #[]) ∧ W'.ownsRow base 3 1 v r.length (todoRow r) ∧ Kept (fun k => v.ownBlock = some k) W W' := by
  have hs := sorted_is nd hr hm
  have hlen : vs.length = r.length := by
    have h1 := List.length_mergeSort (le := fun x y : Int => decide (x ≤ y)) (vs.map (fun i => ((i : Nat) : Int)))
    rw [hs] at h1
    simpa using h1.symm
  rcases hown with ⟨hl0, ⟨hv, hn⟩ | ⟨g, cap, cur, hv, hb, hh, h1, h2, h3, h4⟩⟩
  · have hr0 : r = [] := List.eq_nil_of_length_eq_zero (by omega)
    subst hv; subst hr0
    refine (Tryz.slices_Sort_int_none none 0 W).mono ?_
    rintro e w' ⟨rfl, rfl⟩
    exact ⟨rfl, World.ownsRow_nil _ _ _ _, Kept.refl _ _⟩
  · subst hv
    have ht : cur.toList.take (vs.map (fun i => ((i : Nat) : Int))).length = (vs.map (fun i => ((i : Nat) : Int))).map (Value.int .i64) := by
      rw [List.length_map, ← todoRow_map]
      simpa using h4
    have hc := Tryz.slices_Sort_int g 0 cap (vs.map (fun i => ((i : Nat) : Int))) W (holds_of_blockI hh ht) (Array.getElem?_eq_some_iff.1 hh).1 (by simp; omega)
    rw [List.length_map] at hc
    refine hc.mono ?_
    rintro e w' ⟨rfl, n, os, rfl⟩
    rw [hs]
    have hro := ownsRow_sortedI (w := W) (base := base) (g := g) (cap := cap) (n := n) (e := 3) (os := os) (cur := cur) (ss := (vs.map (fun i => ((i : Nat) : Int)))) (ts := r.map (fun i => ((i : Nat) : Int))) (by simp [hlen]) hb hh (by simpa using h1) h2 h3
    rw [List.length_map, ← todoRow_map] at hro
    refine ⟨rfl, ?_, ?_⟩
    · rw [← hlen]; exact hro
    · exact (Kept.refl _ W).grown (grownBy_sortedI _) (fun i e _ => e)
end Tm
end Go.Proofs.YthelkbdiedfmfaaGreat
