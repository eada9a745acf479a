/-
  Plain facts for Vars of layer term: what is below a node; what a search that goes by marks and a list of what is still to do keeps.
-/
import Derived.Test.YtbemkaninedonaaTmMath
namespace Go.Proofs.Ytbemkaninedonaa
open Bv
namespace Tm
set_option maxHeartbeats 400000

/-- The numbers of the nodes that are below the node id, itself among them. -/
inductive Reach (L : List Nd) (id : Nat) : Nat → Prop
  | top : Reach L id id
  | kid {i j : Nat} {x : Nd} (h : Reach L id i) (hx : L[i]? = some x) (hj : j < kc x.o) : Reach L id (x.kid j).toNat

theorem Reach.le {L : List Nd} {id : Nat} (g : Gd L) {i : Nat} (h : Reach L id i) : i ≤ id := by
  induction h with
  | top => exact Nat.le_refl _
  | kid h hx hj ih => have := g.kid _ _ hx _ hj; omega

def mark (seen : Nat → Bool) (i : Nat) : Nat → Bool := fun j => if j = i then true else seen j
theorem mark_same (seen : Nat → Bool) (i : Nat) : mark seen i i = true := by simp [mark]
theorem mark_mono {seen : Nat → Bool} {i j : Nat} (h : seen j = true) : mark seen i j = true := by unfold mark; split <;> simp [h]
theorem mark_inv {seen : Nat → Bool} {i j : Nat} (h : mark seen i j = true) : j = i ∨ seen j = true := by
  unfold mark at h
  split at h
  · left; assumption
  · right; exact h

/-- v is a variable's number below id. -/
def Below2 (L : List Nd) (id v : Nat) : Prop := ∃ i x, Reach L id i ∧ L[i]? = some x ∧ x.o = 2 ∧ x.n = v

structure Inv (L : List Nd) (id : Nat) (seen : Nat → Bool) (T vs : List Nat) (k m : Nat) : Prop where
  i0 : seen id = true
  re : ∀ i, seen i = true → Reach L id i
  nd : T.Nodup
  ts : ∀ i ∈ T, seen i = true
  cl : ∀ i x j, seen i = true → ¬ i ∈ T → L[i]? = some x → j < kc x.o → seen (x.kid j).toNat = true ∨ (i = k ∧ m ≤ j)
  vn : vs.Nodup
  vm : ∀ v, v ∈ vs ↔ ∃ i x, seen i = true ∧ ¬ i ∈ T ∧ L[i]? = some x ∧ x.o = 2 ∧ x.n = v

theorem inv_start (L : List Nd) (id : Nat) : Inv L id (mark (fun _ => false) id) [id] [] 0 4 := by
  have h1 : ∀ i, mark (fun _ => false) id i = true → i = id := fun i h => by
    rcases mark_inv h with e | e
    · exact e
    · simp at e
  refine ⟨mark_same _ _, fun i h => by rw [h1 i h]; exact .top, by simp, fun i hi => by simp at hi; subst hi; exact mark_same _ _, ?_, by simp, ?_⟩
  · intro i x j hs hn
    rw [h1 i hs] at hn
    simp at hn
  · intro v
    simp only [List.not_mem_nil, false_iff]
    rintro ⟨i, x, hs, hn, _⟩
    rw [h1 i hs] at hn
    simp at hn

theorem var_eq {L : List Nd} (g : Gd L) {i j : Nat} {x y : Nd} (hx : L[i]? = some x) (hy : L[j]? = some y) (ox : x.o = 2) (oy : y.o = 2) (h : x.n = y.n) : i = j := by
  have mx := List.mem_of_getElem? hx
  have my := List.mem_of_getElem? hy
  have wx := g.wd x mx ox
  have wy := g.wd y my oy
  have e : x = y := by
    rw [g.own x mx, g.own y my]
    have kx : kc x.o = 0 := by rw [ox]; decide
    have ky : kc y.o = 0 := by rw [oy]; decide
    refine Nd.same ?_ ?_ ?_ ?_ ?_ ?_ ?_
    · show x.o = y.o; rw [ox, oy]
    · show x.w = y.w; rw [← wx, ← wy, h]
    · show (if 1 ≤ kc x.o then x.k0 else 0) = (if 1 ≤ kc y.o then y.k0 else 0); rw [kx, ky]; rfl
    · show (if 2 ≤ kc x.o then x.k1 else 0) = (if 2 ≤ kc y.o then y.k1 else 0); rw [kx, ky]; rfl
    · show (if 3 ≤ kc x.o then x.k2 else 0) = (if 3 ≤ kc y.o then y.k2 else 0); rw [kx, ky]; rfl
    · show (if x.o = 1 ∨ x.o = 2 then x.n else 0) = (if y.o = 1 ∨ y.o = 2 then y.n else 0); rw [if_pos (.inr ox), if_pos (.inr oy), h]
    · show (if x.o = 22 then x.l else 0) = (if y.o = 22 then y.l else 0); rw [if_neg (by omega), if_neg (by omega)]
  subst e
  obtain ⟨hi, ei⟩ := List.getElem?_eq_some_iff.1 hx
  obtain ⟨hj, ej⟩ := List.getElem?_eq_some_iff.1 hy
  have nd := List.pairwise_iff_getElem.1 g.nodup
  rcases Nat.lt_trichotomy i j with c | c | c
  · exact absurd (ei.trans ej.symm) (nd i j hi hj c)
  · exact c
  · exact absurd (ej.trans ei.symm) (nd j i hj hi c)

/-- What was last to do is taken off. -/
theorem Inv.pop {L : List Nd} {id : Nat} {seen : Nat → Bool} {T vs : List Nat} {k k' : Nat} (h : Inv L id seen (T ++ [k]) vs k' 4) {x : Nd} (hx : L[k]? = some x) (ho : ¬ x.o = 2) : Inv L id seen T vs k 0 := by
  have nd := h.nd
  rw [List.nodup_append] at nd
  have hkT : ¬ k ∈ T := fun e => nd.2.2 k e k (by simp) rfl
  refine ⟨h.i0, h.re, nd.1, fun i hi => h.ts i (by simp [hi]), ?_, h.vn, ?_⟩
  · intro i y j hs hn hy hj
    by_cases e : i = k
    · right; exact ⟨e, by omega⟩
    · rcases h.cl i y j hs (by simp [hn, e]) hy hj with c | c
      · left; exact c
      · have := kc_le y.o; omega
  · intro v
    rw [h.vm v]
    constructor
    · rintro ⟨i, y, a, b, c, d, e⟩
      exact ⟨i, y, a, fun hc => b (by simp [hc]), c, d, e⟩
    · rintro ⟨i, y, a, b, c, d, e⟩
      refine ⟨i, y, a, fun hc => ?_, c, d, e⟩
      rcases List.mem_append.1 hc with hc | hc
      · exact b hc
      · simp at hc
        subst hc
        rw [hx] at c
        simp at c
        subst c
        exact ho d

theorem Inv.popVar {L : List Nd} {id : Nat} {seen : Nat → Bool} {T vs : List Nat} {k k' : Nat} (g : Gd L) (h : Inv L id seen (T ++ [k]) vs k' 4) {x : Nd} (hx : L[k]? = some x) (ho : x.o = 2) : Inv L id seen T (vs ++ [x.n]) k 0 := by
  have nd := h.nd
  rw [List.nodup_append] at nd
  have hkT : ¬ k ∈ T := fun e => nd.2.2 k e k (by simp) rfl
  have hk := h.ts k (by simp)
  refine ⟨h.i0, h.re, nd.1, fun i hi => h.ts i (by simp [hi]), ?_, ?_, ?_⟩
  · intro i y j hs hn hy hj
    by_cases e : i = k
    · right; exact ⟨e, by omega⟩
    · rcases h.cl i y j hs (by simp [hn, e]) hy hj with c | c
      · left; exact c
      · have := kc_le y.o; omega
  · rw [List.nodup_append]
    refine ⟨h.vn, by simp, ?_⟩
    intro a ha b hb e
    simp at hb
    subst hb; subst e
    obtain ⟨i, y, s, n, hy, oy, ny⟩ := (h.vm _).1 ha
    have := var_eq g hy hx oy ho ny
    subst this
    exact n (by simp)
  · intro v
    rw [List.mem_append, h.vm v]
    constructor
    · rintro (⟨i, y, a, b, c, d, e⟩ | hv)
      · exact ⟨i, y, a, fun hc => b (by simp [hc]), c, d, e⟩
      · simp at hv
        subst hv
        exact ⟨k, x, hk, hkT, hx, ho, rfl⟩
    · rintro ⟨i, y, a, b, c, d, e⟩
      by_cases ek : i = k
      · right
        subst ek
        rw [hx] at c
        simp at c
        subst c
        simp [e]
      · left
        exact ⟨i, y, a, by simp [b, ek], c, d, e⟩

def seen' (seen : Nat → Bool) (i : Nat) : Nat → Bool := if seen i = true then seen else mark seen i
def todo' (seen : Nat → Bool) (T : List Nat) (i : Nat) : List Nat := if seen i = true then T else T ++ [i]

/-- A kid is reached. -/
theorem Inv.reach {L : List Nd} {id : Nat} {seen : Nat → Bool} {T vs : List Nat} {k m : Nat} (h : Inv L id seen T vs k m) {x : Nd} (hx : L[k]? = some x) (hs : seen k = true) (hm : m < kc x.o) :
    Inv L id (seen' seen (x.kid m).toNat) (todo' seen T (x.kid m).toNat) vs k (m + 1) := by
  unfold seen' todo'
  by_cases hi : seen (x.kid m).toNat = true
  · rw [if_pos hi, if_pos hi]
    refine ⟨h.i0, h.re, h.nd, h.ts, ?_, h.vn, h.vm⟩
    intro i y j si ni hy hj
    rcases h.cl i y j si ni hy hj with c | ⟨c, d⟩
    · left; exact c
    · by_cases e : j = m
      · subst c; subst e
        rw [hx] at hy
        simp at hy
        subst hy
        left; exact hi
      · right; exact ⟨c, by omega⟩
  · rw [if_neg hi, if_neg hi]
    have hne : ∀ j, seen j = true → j ≠ (x.kid m).toNat := fun j hj e => hi (e ▸ hj)
    have hnT : ¬ (x.kid m).toNat ∈ T := fun e => hi (h.ts _ e)
    have done : ∀ j, mark seen (x.kid m).toNat j = true → ¬ j ∈ T ++ [(x.kid m).toNat] → seen j = true ∧ ¬ j ∈ T := by
      intro j a b
      rw [List.mem_append] at b
      rcases mark_inv a with c | c
      · subst c; exact absurd (.inr (by simp)) b
      · exact ⟨c, fun e => b (.inl e)⟩
    refine ⟨mark_mono h.i0, ?_, ?_, ?_, ?_, h.vn, ?_⟩
    · intro i hs'
      rcases mark_inv hs' with c | c
      · rw [c]; exact .kid (h.re k hs) hx hm
      · exact h.re i c
    · rw [List.nodup_append]
      exact ⟨h.nd, by simp, fun a ha b hb e => by simp at hb; subst hb; subst e; exact hnT ha⟩
    · intro i hi'
      rcases List.mem_append.1 hi' with c | c
      · exact mark_mono (h.ts i c)
      · simp at c; subst c; exact mark_same _ _
    · intro i y j si ni hy hj
      obtain ⟨a, b⟩ := done i si ni
      rcases h.cl i y j a b hy hj with c | ⟨c, d⟩
      · left; exact mark_mono c
      · by_cases e : j = m
        · subst c; subst e
          rw [hx] at hy
          simp at hy
          subst hy
          left; exact mark_same _ _
        · right; exact ⟨c, by omega⟩
    · intro v
      rw [h.vm v]
      constructor
      · rintro ⟨i, y, a, b, c⟩
        refine ⟨i, y, mark_mono a, ?_, c⟩
        rw [List.mem_append]
        rintro (d | d)
        · exact b d
        · simp at d; exact hne i a d
      · rintro ⟨i, y, a, b, c⟩
        obtain ⟨d, e⟩ := done i a b
        exact ⟨i, y, d, e, c⟩

theorem Inv.closed {L : List Nd} {id : Nat} {seen : Nat → Bool} {T vs : List Nat} {k m : Nat} (h : Inv L id seen T vs k m) {x : Nd} (hx : L[k]? = some x) (hm : kc x.o ≤ m) : Inv L id seen T vs k 4 := by
  refine ⟨h.i0, h.re, h.nd, h.ts, ?_, h.vn, h.vm⟩
  intro i y j si ni hy hj
  rcases h.cl i y j si ni hy hj with c | ⟨c, d⟩
  · left; exact c
  · subst c
    rw [hx] at hy
    simp at hy
    subst hy
    omega

theorem Inv.done {L : List Nd} {id : Nat} {seen : Nat → Bool} {vs : List Nat} {k : Nat} (h : Inv L id seen [] vs k 4) : vs.Nodup ∧ ∀ v, v ∈ vs ↔ Below2 L id v := by
  have hr : ∀ i, Reach L id i → seen i = true := by
    intro i hi
    induction hi with
    | top => exact h.i0
    | @kid i j x hi hx hj ih =>
      rcases h.cl i x j ih (by simp) hx hj with c | c
      · exact c
      · have := kc_le x.o; omega
  refine ⟨h.vn, fun v => ?_⟩
  rw [h.vm v]
  constructor
  · rintro ⟨i, x, a, _, c⟩; exact ⟨i, x, h.re i a, c⟩
  · rintro ⟨i, x, a, c⟩; exact ⟨i, x, hr i a, by simp, c⟩

/-! ### how many rounds -/
def unseen (id : Nat) (seen : Nat → Bool) : Nat := ((List.range (id + 1)).filter (fun i => !seen i)).length
theorem filter_mark (seen : Nat → Bool) (i : Nat) (hn : seen i = false) : ∀ l : List Nat, l.Nodup → i ∈ l → (l.filter (fun j => !mark seen i j)).length + 1 = (l.filter (fun j => !seen j)).length
  | [], _, h => by simp at h
  | a :: l, hd, h => by
    rw [List.nodup_cons] at hd
    by_cases e : a = i
    · subst e
      have : l.filter (fun j => !mark seen a j) = l.filter (fun j => !seen j) := by
        apply List.filter_congr
        intro j hj
        have : ¬ j = a := fun e => hd.1 (e ▸ hj)
        simp [mark, this]
      rw [List.filter_cons, List.filter_cons, this]
      simp [mark_same, hn]
    · have hm : i ∈ l := by simpa [Ne.symm e] using h
      have ih := filter_mark seen i hn l hd.2 hm
      have ea : mark seen i a = seen a := by simp [mark, e]
      rw [List.filter_cons, List.filter_cons, ea]
      cases seen a <;> simp <;> omega
theorem unseen_mark {id i : Nat} {seen : Nat → Bool} (hn : seen i = false) (hi : i < id + 1) : unseen id (mark seen i) + 1 = unseen id seen :=
  filter_mark seen i hn _ List.nodup_range (by simp; omega)
def meas (id : Nat) (seen : Nat → Bool) (T : List Nat) : Nat := 2 * unseen id seen + T.length
theorem meas_reach {id i : Nat} {seen : Nat → Bool} {T : List Nat} (hi : i < id + 1) : meas id (seen' seen i) (todo' seen T i) ≤ meas id seen T := by
  unfold seen' todo' meas
  cases h : seen i
  · rw [if_neg (by simp), if_neg (by simp)]
    have := unseen_mark h hi
    simp only [List.length_append, List.length_cons, List.length_nil]
    omega
  · rw [if_pos rfl, if_pos rfl]
    exact Nat.le_refl _
theorem meas_pop {id k : Nat} {seen : Nat → Bool} {T : List Nat} : meas id seen T < meas id seen (T ++ [k]) := by
  unfold meas
  simp

theorem nodup_le : ∀ (n : Nat) (T : List Nat), T.Nodup → (∀ i ∈ T, i < n) → T.length ≤ n
  | 0, T, _, h => by
    cases T with
    | nil => simp
    | cons a t => have := h a (by simp); omega
  | n + 1, T, nd, h => by
    by_cases hn : n ∈ T
    · have ih := nodup_le n (T.erase n) (nd.erase n) (fun i hi => by
        have hm := (List.Nodup.mem_erase_iff nd).1 hi
        have := h i hm.2
        omega)
      rw [List.length_erase_of_mem hn] at ih
      omega
    · have ih := nodup_le n T nd (fun i hi => by
        have := h i hi
        have : i ≠ n := fun e => hn (e ▸ hi)
        omega)
      omega

theorem Inv.len {L : List Nd} {id : Nat} {seen : Nat → Bool} {T vs : List Nat} {k m : Nat} (g : Gd L) (h : Inv L id seen T vs k m) : T.length ≤ id + 1 := by
  exact nodup_le _ _ h.nd (fun i hi => by have := (h.re i (h.ts i hi)).le g; omega)

/-! ### rising lists -/
theorem rising_ext : ∀ (l l' : List Nat), l.Pairwise (· < ·) → l'.Pairwise (· < ·) → (∀ x, x ∈ l ↔ x ∈ l') → l = l'
  | [], [], _, _, _ => rfl
  | [], b :: l', _, _, h => by have := (h b).2 (by simp); simp at this
  | a :: l, [], _, _, h => by have := (h a).1 (by simp); simp at this
  | a :: l, b :: l', h1, h2, h => by
    rw [List.pairwise_cons] at h1 h2
    have e : a = b := by
      have ha := (h a).1 (by simp)
      have hb := (h b).2 (by simp)
      rw [List.mem_cons] at ha hb
      rcases ha with ha | ha
      · exact ha
      · rcases hb with hb | hb
        · exact hb.symm
        · have := h1.1 b hb; have := h2.1 a ha; omega
    subst e
    congr 1
    refine rising_ext l l' h1.2 h2.2 (fun x => ?_)
    have hx := h x
    rw [List.mem_cons, List.mem_cons] at hx
    constructor
    · intro hm
      rcases hx.1 (.inr hm) with c | c
      · have := h1.1 x hm; omega
      · exact c
    · intro hm
      rcases hx.2 (.inr hm) with c | c
      · have := h2.1 x hm; omega
      · exact c

open Classical in
/-- The variables below the node id, rising. -/
noncomputable def varsOf (L : List Nd) (id : Nat) : List Nat := (List.range 256).filter (fun v => decide (Below2 L id v))
theorem varsOf_rising (L : List Nd) (id : Nat) : (varsOf L id).Pairwise (· < ·) := List.Pairwise.filter _ List.pairwise_lt_range
theorem mem_varsOf {L : List Nd} (g : Gd L) {id v : Nat} : v ∈ varsOf L id ↔ Below2 L id v := by
  unfold varsOf
  rw [List.mem_filter]
  simp only [List.mem_range, decide_eq_true_eq]
  constructor
  · exact fun h => h.2
  · intro h
    refine ⟨?_, h⟩
    obtain ⟨i, x, _, hx, ho, hn⟩ := h
    rw [← hn]
    exact g.var x (List.mem_of_getElem? hx) ho

end Tm
end Go.Proofs.Ytbemkaninedonaa
