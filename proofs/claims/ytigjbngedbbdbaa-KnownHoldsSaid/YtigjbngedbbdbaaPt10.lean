/-
Plain facts for Vars of layer term: what is below a node; what a search that goes by marks and a list of what is still to do keeps.
The map of layer known, as data: the masks of those nodes that are worked out.
What the small functions of layer known return, each as a fact on one call: they return, and what was in memory stays.
On how many kids the bits of an operator hang, as layer known tells it: a fact on one call.
-/
import Derived.Test.YtigjbngedbbdbaaPt01
import Derived.Test.YtigjbngedbbdbaaPt02
import Derived.Test.YtigjbngedbbdbaaPt09
import Derived.Maps.AppendAt
import Derived.Maps.Views
import Derived.Lib.Hide
import Derived.Laws.BitsAllLaws
namespace Go.Proofs.Ytigjbngedbbdbaa
open Bv
namespace Tm
set_option maxHeartbeats 400000

/-- The numbers of the nodes that are below the node id, itself among them. -/
inductive Reach (L : List Nd) (id : Nat) : Nat → Prop
  | top : Reach L id id
  | kid {i j : Nat} {x : Nd} (h : Reach L id i) (hx : L[i]? = some x) (hj : j < kc x.o) : Reach L id (x.kid j).toNat

theorem Reach.le {L : List Nd} {id : Nat} (g : Gd L) {i : Nat} (h : Reach L id i) : i ≤ id := by
  induction h with
  | top => exact Nat.le_refl _
  | kid h hx hj ih => have := g.kid _ _ hx _ hj; omega

def mark (seen : Nat → Bool) (i : Nat) : Nat → Bool := fun j => if j = i then true else seen j
theorem mark_same (seen : Nat → Bool) (i : Nat) : mark seen i i = true := by simp [mark]
theorem mark_mono {seen : Nat → Bool} {i j : Nat} (h : seen j = true) : mark seen i j = true := by unfold mark; split <;> simp [h]
theorem mark_inv {seen : Nat → Bool} {i j : Nat} (h : mark seen i j = true) : j = i ∨ seen j = true := by
  unfold mark at h
  split at h
  · left; assumption
  · right; exact h

/-- v is a variable's number below id. -/
def Below2 (L : List Nd) (id v : Nat) : Prop := ∃ i x, Reach L id i ∧ L[i]? = some x ∧ x.o = 2 ∧ x.n = v

structure Inv (L : List Nd) (id : Nat) (seen : Nat → Bool) (T vs : List Nat) (k m : Nat) : Prop where
  i0 : seen id = true
  re : ∀ i, seen i = true → Reach L id i
  nd : T.Nodup
  ts : ∀ i ∈ T, seen i = true
  cl : ∀ i x j, seen i = true → ¬ i ∈ T → L[i]? = some x → j < kc x.o → seen (x.kid j).toNat = true ∨ (i = k ∧ m ≤ j)
  vn : vs.Nodup
  vm : ∀ v, v ∈ vs ↔ ∃ i x, seen i = true ∧ ¬ i ∈ T ∧ L[i]? = some x ∧ x.o = 2 ∧ x.n = v

theorem inv_start (L : List Nd) (id : Nat) : Inv L id (mark (fun _ => false) id) [id] [] 0 4 := by
  have h1 : ∀ i, mark (fun _ => false) id i = true → i = id := fun i h => by
    rcases mark_inv h with e | e
    · exact e
    · simp at e
  refine ⟨mark_same _ _, fun i h => by rw [h1 i h]; exact .top, by simp, fun i hi => by simp at hi; subst hi; exact mark_same _ _, ?_, by simp, ?_⟩
  · intro i x j hs hn
    rw [h1 i hs] at hn
    simp at hn
  · intro v
    simp only [List.not_mem_nil, false_iff]
    rintro ⟨i, x, hs, hn, _⟩
    rw [h1 i hs] at hn
    simp at hn

theorem var_eq {L : List Nd} (g : Gd L) {i j : Nat} {x y : Nd} (hx : L[i]? = some x) (hy : L[j]? = some y) (ox : x.o = 2) (oy : y.o = 2) (h : x.n = y.n) : i = j := by
  have mx := List.mem_of_getElem? hx
  have my := List.mem_of_getElem? hy
  have wx := g.wd x mx ox
  have wy := g.wd y my oy
  have e : x = y := by
    rw [g.own x mx, g.own y my]
    have kx : kc x.o = 0 := by rw [ox]; decide
    have ky : kc y.o = 0 := by rw [oy]; decide
    refine Nd.same ?_ ?_ ?_ ?_ ?_ ?_ ?_
    · show x.o = y.o; rw [ox, oy]
    · show x.w = y.w; rw [← wx, ← wy, h]
    · show (if 1 ≤ kc x.o then x.k0 else 0) = (if 1 ≤ kc y.o then y.k0 else 0); rw [kx, ky]; rfl
    · show (if 2 ≤ kc x.o then x.k1 else 0) = (if 2 ≤ kc y.o then y.k1 else 0); rw [kx, ky]; rfl
    · show (if 3 ≤ kc x.o then x.k2 else 0) = (if 3 ≤ kc y.o then y.k2 else 0); rw [kx, ky]; rfl
    · show (if x.o = 1 ∨ x.o = 2 then x.n else 0) = (if y.o = 1 ∨ y.o = 2 then y.n else 0); rw [if_pos (.inr ox), if_pos (.inr oy), h]
    · show (if x.o = 22 then x.l else 0) = (if y.o = 22 then y.l else 0); rw [if_neg (by omega), if_neg (by omega)]
  subst e
  obtain ⟨hi, ei⟩ := List.getElem?_eq_some_iff.1 hx
  obtain ⟨hj, ej⟩ := List.getElem?_eq_some_iff.1 hy
  have nd := List.pairwise_iff_getElem.1 g.nodup
  rcases Nat.lt_trichotomy i j with c | c | c
  · exact absurd (ei.trans ej.symm) (nd i j hi hj c)
  · exact c
  · exact absurd (ej.trans ei.symm) (nd j i hj hi c)

/-- What was last to do is taken off. -/
theorem Inv.pop {L : List Nd} {id : Nat} {seen : Nat → Bool} {T vs : List Nat} {k k' : Nat} (h : Inv L id seen (T ++ [k]) vs k' 4) {x : Nd} (hx : L[k]? = some x) (ho : ¬ x.o = 2) : Inv L id seen T vs k 0 := by
  have nd := h.nd
  rw [List.nodup_append] at nd
  have hkT : ¬ k ∈ T := fun e => nd.2.2 k e k (by simp) rfl
  refine ⟨h.i0, h.re, nd.1, fun i hi => h.ts i (by simp [hi]), ?_, h.vn, ?_⟩
  · intro i y j hs hn hy hj
    by_cases e : i = k
    · right; exact ⟨e, by omega⟩
    · rcases h.cl i y j hs (by simp [hn, e]) hy hj with c | c
      · left; exact c
      · have := kc_le y.o; omega
  · intro v
    rw [h.vm v]
    constructor
    · rintro ⟨i, y, a, b, c, d, e⟩
      exact ⟨i, y, a, fun hc => b (by simp [hc]), c, d, e⟩
    · rintro ⟨i, y, a, b, c, d, e⟩
      refine ⟨i, y, a, fun hc => ?_, c, d, e⟩
      rcases List.mem_append.1 hc with hc | hc
      · exact b hc
      · simp at hc
        subst hc
        rw [hx] at c
        simp at c
        subst c
        exact ho d

theorem Inv.popVar {L : List Nd} {id : Nat} {seen : Nat → Bool} {T vs : List Nat} {k k' : Nat} (g : Gd L) (h : Inv L id seen (T ++ [k]) vs k' 4) {x : Nd} (hx : L[k]? = some x) (ho : x.o = 2) : Inv L id seen T (vs ++ [x.n]) k 0 := by
  have nd := h.nd
  rw [List.nodup_append] at nd
  have hkT : ¬ k ∈ T := fun e => nd.2.2 k e k (by simp) rfl
  have hk := h.ts k (by simp)
  refine ⟨h.i0, h.re, nd.1, fun i hi => h.ts i (by simp [hi]), ?_, ?_, ?_⟩
  · intro i y j hs hn hy hj
    by_cases e : i = k
    · right; exact ⟨e, by omega⟩
    · rcases h.cl i y j hs (by simp [hn, e]) hy hj with c | c
      · left; exact c
      · have := kc_le y.o; omega
  · rw [List.nodup_append]
    refine ⟨h.vn, by simp, ?_⟩
    intro a ha b hb e
    simp at hb
    subst hb; subst e
    obtain ⟨i, y, s, n, hy, oy, ny⟩ := (h.vm _).1 ha
    have := var_eq g hy hx oy ho ny
    subst this
    exact n (by simp)
  · intro v
    rw [List.mem_append, h.vm v]
    constructor
    · rintro (⟨i, y, a, b, c, d, e⟩ | hv)
      · exact ⟨i, y, a, fun hc => b (by simp [hc]), c, d, e⟩
      · simp at hv
        subst hv
        exact ⟨k, x, hk, hkT, hx, ho, rfl⟩
    · rintro ⟨i, y, a, b, c, d, e⟩
      by_cases ek : i = k
      · right
        subst ek
        rw [hx] at c
        simp at c
        subst c
        simp [e]
      · left
        exact ⟨i, y, a, by simp [b, ek], c, d, e⟩

def seen' (seen : Nat → Bool) (i : Nat) : Nat → Bool := if seen i = true then seen else mark seen i
def todo' (seen : Nat → Bool) (T : List Nat) (i : Nat) : List Nat := if seen i = true then T else T ++ [i]

/-- A kid is reached. -/
theorem Inv.reach {L : List Nd} {id : Nat} {seen : Nat → Bool} {T vs : List Nat} {k m : Nat} (h : Inv L id seen T vs k m) {x : Nd} (hx : L[k]? = some x) (hs : seen k = true) (hm : m < kc x.o) :
    Inv L id (seen' seen (x.kid m).toNat) (todo' seen T (x.kid m).toNat) vs k (m + 1) := by
  unfold seen' todo'
  by_cases hi : seen (x.kid m).toNat = true
  · rw [if_pos hi, if_pos hi]
    refine ⟨h.i0, h.re, h.nd, h.ts, ?_, h.vn, h.vm⟩
    intro i y j si ni hy hj
    rcases h.cl i y j si ni hy hj with c | ⟨c, d⟩
    · left; exact c
    · by_cases e : j = m
      · subst c; subst e
        rw [hx] at hy
        simp at hy
        subst hy
        left; exact hi
      · right; exact ⟨c, by omega⟩
  · rw [if_neg hi, if_neg hi]
    have hne : ∀ j, seen j = true → j ≠ (x.kid m).toNat := fun j hj e => hi (e ▸ hj)
    have hnT : ¬ (x.kid m).toNat ∈ T := fun e => hi (h.ts _ e)
    have done : ∀ j, mark seen (x.kid m).toNat j = true → ¬ j ∈ T ++ [(x.kid m).toNat] → seen j = true ∧ ¬ j ∈ T := by
      intro j a b
      rw [List.mem_append] at b
      rcases mark_inv a with c | c
      · subst c; exact absurd (.inr (by simp)) b
      · exact ⟨c, fun e => b (.inl e)⟩
    refine ⟨mark_mono h.i0, ?_, ?_, ?_, ?_, h.vn, ?_⟩
    · intro i hs'
      rcases mark_inv hs' with c | c
      · rw [c]; exact .kid (h.re k hs) hx hm
      · exact h.re i c
    · rw [List.nodup_append]
      exact ⟨h.nd, by simp, fun a ha b hb e => by simp at hb; subst hb; subst e; exact hnT ha⟩
    · intro i hi'
      rcases List.mem_append.1 hi' with c | c
      · exact mark_mono (h.ts i c)
      · simp at c; subst c; exact mark_same _ _
    · intro i y j si ni hy hj
      obtain ⟨a, b⟩ := done i si ni
      rcases h.cl i y j a b hy hj with c | ⟨c, d⟩
      · left; exact mark_mono c
      · by_cases e : j = m
        · subst c; subst e
          rw [hx] at hy
          simp at hy
          subst hy
          left; exact mark_same _ _
        · right; exact ⟨c, by omega⟩
    · intro v
      rw [h.vm v]
      constructor
      · rintro ⟨i, y, a, b, c⟩
        refine ⟨i, y, mark_mono a, ?_, c⟩
        rw [List.mem_append]
        rintro (d | d)
        · exact b d
        · simp at d; exact hne i a d
      · rintro ⟨i, y, a, b, c⟩
        obtain ⟨d, e⟩ := done i a b
        exact ⟨i, y, d, e, c⟩

theorem Inv.closed {L : List Nd} {id : Nat} {seen : Nat → Bool} {T vs : List Nat} {k m : Nat} (h : Inv L id seen T vs k m) {x : Nd} (hx : L[k]? = some x) (hm : kc x.o ≤ m) : Inv L id seen T vs k 4 := by
  refine ⟨h.i0, h.re, h.nd, h.ts, ?_, h.vn, h.vm⟩
  intro i y j si ni hy hj
  rcases h.cl i y j si ni hy hj with c | ⟨c, d⟩
  · left; exact c
  · subst c
    rw [hx] at hy
    simp at hy
    subst hy
    omega

theorem Inv.done {L : List Nd} {id : Nat} {seen : Nat → Bool} {vs : List Nat} {k : Nat} (h : Inv L id seen [] vs k 4) : vs.Nodup ∧ ∀ v, v ∈ vs ↔ Below2 L id v := by
  have hr : ∀ i, Reach L id i → seen i = true := by
    intro i hi
    induction hi with
    | top => exact h.i0
    | @kid i j x hi hx hj ih =>
      rcases h.cl i x j ih (by simp) hx hj with c | c
      · exact c
      · have := kc_le x.o; omega
  refine ⟨h.vn, fun v => ?_⟩
  rw [h.vm v]
  constructor
  · rintro ⟨i, x, a, _, c⟩; exact ⟨i, x, h.re i a, c⟩
  · rintro ⟨i, x, a, c⟩; exact ⟨i, x, hr i a, by simp, c⟩

/-! ### how many rounds -/
def unseen (id : Nat) (seen : Nat → Bool) : Nat := ((List.range (id + 1)).filter (fun i => !seen i)).length
theorem filter_mark (seen : Nat → Bool) (i : Nat) (hn : seen i = false) : ∀ l : List Nat, l.Nodup → i ∈ l → (l.filter (fun j => !mark seen i j)).length + 1 = (l.filter (fun j => !seen j)).length
  | [], _, h => by simp at h
  | a :: l, hd, h => by
    rw [List.nodup_cons] at hd
    by_cases e : a = i
    · subst e
      have : l.filter (fun j => !mark seen a j) = l.filter (fun j => !seen j) := by
        apply List.filter_congr
        intro j hj
        have : ¬ j = a := fun e => hd.1 (e ▸ hj)
        simp [mark, this]
      rw [List.filter_cons, List.filter_cons, this]
      simp [mark_same, hn]
    · have hm : i ∈ l := by simpa [Ne.symm e] using h
      have ih := filter_mark seen i hn l hd.2 hm
      have ea : mark seen i a = seen a := by simp [mark, e]
      rw [List.filter_cons, List.filter_cons, ea]
      cases seen a <;> simp <;> omega
theorem unseen_mark {id i : Nat} {seen : Nat → Bool} (hn : seen i = false) (hi : i < id + 1) : unseen id (mark seen i) + 1 = unseen id seen :=
  filter_mark seen i hn _ List.nodup_range (by simp; omega)
def meas (id : Nat) (seen : Nat → Bool) (T : List Nat) : Nat := 2 * unseen id seen + T.length
theorem meas_reach {id i : Nat} {seen : Nat → Bool} {T : List Nat} (hi : i < id + 1) : meas id (seen' seen i) (todo' seen T i) ≤ meas id seen T := by
  unfold seen' todo' meas
  cases h : seen i
  · rw [if_neg (by simp), if_neg (by simp)]
    have := unseen_mark h hi
    simp only [List.length_append, List.length_cons, List.length_nil]
    omega
  · rw [if_pos rfl, if_pos rfl]
    exact Nat.le_refl _
theorem meas_pop {id k : Nat} {seen : Nat → Bool} {T : List Nat} : meas id seen T < meas id seen (T ++ [k]) := by
  unfold meas
  simp

theorem nodup_le : ∀ (n : Nat) (T : List Nat), T.Nodup → (∀ i ∈ T, i < n) → T.length ≤ n
  | 0, T, _, h => by
    cases T with
    | nil => simp
    | cons a t => have := h a (by simp); omega
  | n + 1, T, nd, h => by
    by_cases hn : n ∈ T
    · have ih := nodup_le n (T.erase n) (nd.erase n) (fun i hi => by
        have hm := (List.Nodup.mem_erase_iff nd).1 hi
        have := h i hm.2
        omega)
      rw [List.length_erase_of_mem hn] at ih
      omega
    · have ih := nodup_le n T nd (fun i hi => by
        have := h i hi
        have : i ≠ n := fun e => hn (e ▸ hi)
        omega)
      omega

theorem Inv.len {L : List Nd} {id : Nat} {seen : Nat → Bool} {T vs : List Nat} {k m : Nat} (g : Gd L) (h : Inv L id seen T vs k m) : T.length ≤ id + 1 := by
  exact nodup_le _ _ h.nd (fun i hi => by have := (h.re i (h.ts i hi)).le g; omega)

/-! ### rising lists -/
theorem rising_ext : ∀ (l l' : List Nat), l.Pairwise (· < ·) → l'.Pairwise (· < ·) → (∀ x, x ∈ l ↔ x ∈ l') → l = l'
  | [], [], _, _, _ => rfl
  | [], b :: l', _, _, h => by have := (h b).2 (by simp); simp at this
  | a :: l, [], _, _, h => by have := (h a).1 (by simp); simp at this
  | a :: l, b :: l', h1, h2, h => by
    rw [List.pairwise_cons] at h1 h2
    have e : a = b := by
      have ha := (h a).1 (by simp)
      have hb := (h b).2 (by simp)
      rw [List.mem_cons] at ha hb
      rcases ha with ha | ha
      · exact ha
      · rcases hb with hb | hb
        · exact hb.symm
        · have := h1.1 b hb; have := h2.1 a ha; omega
    subst e
    congr 1
    refine rising_ext l l' h1.2 h2.2 (fun x => ?_)
    have hx := h x
    rw [List.mem_cons, List.mem_cons] at hx
    constructor
    · intro hm
      rcases hx.1 (.inr hm) with c | c
      · have := h1.1 x hm; omega
      · exact c
    · intro hm
      rcases hx.2 (.inr hm) with c | c
      · have := h2.1 x hm; omega
      · exact c

open Classical in
/-- The variables below the node id, rising. -/
noncomputable def varsOf (L : List Nd) (id : Nat) : List Nat := (List.range 256).filter (fun v => decide (Below2 L id v))
theorem varsOf_rising (L : List Nd) (id : Nat) : (varsOf L id).Pairwise (· < ·) := List.Pairwise.filter _ List.pairwise_lt_range
theorem mem_varsOf {L : List Nd} (g : Gd L) {id v : Nat} : v ∈ varsOf L id ↔ Below2 L id v := by
  unfold varsOf
  rw [List.mem_filter]
  simp only [List.mem_range, decide_eq_true_eq]
  constructor
  · exact fun h => h.2
  · intro h
    refine ⟨?_, h⟩
    obtain ⟨i, x, _, hx, ho, hn⟩ := h
    rw [← hn]
    exact g.var x (List.mem_of_getElem? hx) ho

end Tm
end Go.Proofs.Ytigjbngedbbdbaa

namespace Go.Proofs.Ytigjbngedbbdbaa
open Go.RowKit Go.Maps Bv Tm
namespace Kn
set_option maxHeartbeats 1000000
set_option maxRecDepth 100000

theorem info_int : (Try.prog.info? 3).map (fun i => (i.zero, i.size, i.bytes)) = some (some (.int .i64 0), 1, 8) := by kernel_rfl
theorem law_int : Keyed Try.prog 3 := int_keyed Try.underlying3
theorem key_int {k : Int} (h : I64 k) : keyOf Try.prog 3 (.int .i64 k) = some (.int .i64 k) := keyOf_int_mk Try.underlying3 (wf_i64 h)

/-- How masks read in a map. -/
def kbElemL (l : List Value) : Option (DataW Unit × List MemPlace) :=
  match l with
  | [.int .u8 w, .int .u64 z, .int .u64 o] => some (.agg [.lit (.int .u8 w), .lit (.int .u64 z), .lit (.int .u64 o)], [])
  | _ => none
def kbElem (v : Value) : Option (DataW Unit × List MemPlace) :=
  match v with
  | .agg cs => kbElemL cs.toList
  | _ => none
theorem kbElem_mk (w z o : Int) : kbElem (.agg #[.int .u8 w, .int .u64 z, .int .u64 o]) = some (.agg [.lit (.int .u8 w), .lit (.int .u64 z), .lit (.int .u64 o)], []) := rfl
theorem kbElem_inv {v : Value} {d : DataW Unit} {ps : List MemPlace} {w z o : Int} (h : kbElem v = some (d, ps)) (hd : d = .agg [.lit (.int .u8 w), .lit (.int .u64 z), .lit (.int .u64 o)]) : v = .agg #[.int .u8 w, .int .u64 z, .int .u64 o] := by
  unfold kbElem at h
  split at h
  · rename_i cs
    unfold kbElemL at h
    split at h
    · rename_i w1 z1 o1 hl
      simp only [Option.some.injEq, Prod.mk.injEq] at h
      rw [← h.1] at hd
      simp at hd
      cases cs
      simp only at hl
      rw [hl, hd.1, hd.2.1, hd.2.2]
    · simp at h
  · simp at h

/-- How the masks of a node are written. -/
def kbLit (L : List Nd) (k : Nat) : DataW Unit := .agg [.lit (.int .u8 ((widAt L ((k : Nat) : Int) : Nat) : Int)), .lit (.int .u64 (((kn L k).1 : Nat) : Int)), .lit (.int .u64 (((kn L k).2 : Nat) : Int))]
def addK (N : List Nat) (k : Nat) : List Nat := if k ∈ N then N else N ++ [k]
/-- The masks of the nodes N stand in the map. -/
structure KbTab (L : List Nd) (N : List Nat) (D : DataW Unit) : Prop where
  tidy : Tidy D
  nd : N.Nodup
  size : Maps.size D = N.length
  has : ∀ k : Int, I64 k → Maps.has D (.int .i64 k) = decide (0 ≤ k ∧ k.toNat ∈ N)
  get : ∀ k : Nat, k ∈ N → I64 ((k : Nat) : Int) → ∀ z, D.atKey (.int .i64 ((k : Nat) : Int)) z = kbLit L k
  no : ∀ k : Int, I64 k → ¬ (0 ≤ k ∧ k.toNat ∈ N) → ∀ z, D.atKey (.int .i64 k) z = z
theorem kbTab_nil (L : List Nd) : KbTab L [] (.map []) := ⟨tidy_empty, List.nodup_nil, rfl, fun k _ => by simp [has_eq], fun k h => by simp at h, fun k _ _ z => rfl⟩
theorem mem_addK {N : List Nat} {k j : Nat} : j ∈ addK N k ↔ j ∈ N ∨ j = k := by
  unfold addK
  split
  · rename_i h
    constructor
    · exact .inl
    · rintro (h1 | rfl)
      · exact h1
      · exact h
  · simp
theorem KbTab.add {L : List Nd} {N : List Nat} {D : DataW Unit} {k : Nat} (h : KbTab L N D) (hk : I64 ((k : Nat) : Int)) : KbTab L (addK N k) (D.put (.int .i64 ((k : Nat) : Int)) (kbLit L k)) := by
  have hkk := law_int.key (key_int hk)
  have hM := h.tidy.isMap
  refine ⟨h.tidy.put hkk _, ?_, ?_, fun j hj => ?_, fun j hj hj6 z => ?_, fun j hj6 hn z => ?_⟩
  · unfold addK
    split
    · exact h.nd
    · rename_i hn
      exact List.nodup_append.2 ⟨h.nd, by simp, fun a ha b hb e => by simp at hb; subst hb; subst e; exact hn ha⟩
  · rw [size_put h.tidy, h.has _ hk, h.size]
    unfold addK
    by_cases hc : k ∈ N
    · simp [hc]
    · simp [hc]
  · by_cases e : j = ((k : Nat) : Int)
    · subst e
      rw [has_put_same hM hkk]
      symm
      rw [decide_eq_true_eq]
      exact ⟨by omega, mem_addK.2 (.inr (by omega))⟩
    · rw [has_put_other (fun c => e (by simpa using c)), h.has j hj]
      apply decide_eq_decide.2
      constructor
      · rintro ⟨a, b⟩
        exact ⟨a, mem_addK.2 (.inl b)⟩
      · rintro ⟨a, b⟩
        rcases mem_addK.1 b with c | c
        · exact ⟨a, c⟩
        · omega
  · by_cases e : j = k
    · subst e; rw [atKey_put_same hM hkk]
    · rw [atKey_put_other (fun c => e (by simp at c; omega))]
      rcases mem_addK.1 hj with c | c
      · exact h.get j c hj6 z
      · exact absurd c e
  · have e : ¬ j = ((k : Nat) : Int) := fun e => hn ⟨by omega, mem_addK.2 (.inr (by omega))⟩
    rw [atKey_put_other (fun c => e (by simpa using c))]
    exact h.no j hj6 (fun c => hn ⟨c.1, mem_addK.2 (.inl c.2)⟩) z

open Classical in
/-- What the map answers of the number q. -/
noncomputable def lkW (L : List Nd) (N : List Nat) (q : Int) : Nat := if 0 ≤ q ∧ q.toNat ∈ N then widAt L q else 0
open Classical in
noncomputable def lkB (L : List Nd) (N : List Nat) (q : Int) : Kb := if 0 ≤ q ∧ q.toNat ∈ N then kn L q.toNat else (0, 0)
theorem lkW_in {L : List Nd} {N : List Nat} {q : Int} (h0 : 0 ≤ q) (h : q.toNat ∈ N) : lkW L N q = widAt L q := by unfold lkW; rw [if_pos ⟨h0, h⟩]
theorem lkB_in {L : List Nd} {N : List Nat} {q : Int} (h0 : 0 ≤ q) (h : q.toNat ∈ N) : lkB L N q = kn L q.toNat := by unfold lkB; rw [if_pos ⟨h0, h⟩]
noncomputable def lkV (L : List Nd) (N : List Nat) (q : Int) : Value := .agg #[.int .u8 ((lkW L N q : Nat) : Int), .int .u64 (((lkB L N q).1 : Nat) : Int), .int .u64 (((lkB L N q).2 : Nat) : Int)]

theorem zero_kb (W : World) : (zeroValue 65).run Try.prog W = .ok (.agg #[.int .u8 0, .int .u64 0, .int .u64 0]) W := by kernel_rfl
theorem lk_of {L : List Nd} {N : List Nat} {D : DataW Unit} {v : Value} {ps : List MemPlace} (hv : KbTab L N D) {q : Int} (hq : I64 q) (hR : kbElem v = some (D.atKey (.int .i64 q) (.agg [.lit (.int .u8 0), .lit (.int .u64 0), .lit (.int .u64 0)]), ps)) : v = lkV L N q := by
  by_cases hc : 0 ≤ q ∧ q.toNat ∈ N
  · have e : q = ((q.toNat : Nat) : Int) := by omega
    have hg := hv.get q.toNat hc.2 (by rw [← e]; exact hq) (.agg [.lit (.int .u8 0), .lit (.int .u64 0), .lit (.int .u64 0)])
    rw [← e] at hg
    unfold kbLit at hg
    rw [← e] at hg
    unfold lkV
    rw [lkW_in hc.1 hc.2, lkB_in hc.1 hc.2]
    exact kbElem_inv hR hg
  · have hg := hv.no q hq hc (.agg [.lit (.int .u8 0), .lit (.int .u64 0), .lit (.int .u64 0)])
    unfold lkV lkW lkB
    rw [if_neg hc, if_neg hc]
    exact kbElem_inv hR hg
theorem look_kb {L : List Nd} {N : List Nat} {w : World} {b n : Nat} {D : DataW Unit} (h : w.ownsMap Try.prog 3 kbElem b n D) (hv : KbTab L N D) {q : Int} (hq : I64 q) :
    (Instr.lookup 60 (.map (some b)) (.int .i64 q) false).run Try.prog w = .ok (lkV L N q) w := by
  obtain ⟨v, ps, hrun, hR⟩ := h.lookup law_int Try.underlying60 (zero_kb w) (R := kbElem) (z := .agg #[.int .u8 0, .int .u64 0, .int .u64 0]) (kbElem_mk 0 0 0) (key_int hq)
  rw [hrun, lk_of hv hq hR]
theorem look_ok {L : List Nd} {N : List Nat} {w : World} {b n : Nat} {D : DataW Unit} (h : w.ownsMap Try.prog 3 kbElem b n D) (hv : KbTab L N D) {q : Int} (hq : I64 q) :
    (Instr.lookup 60 (.map (some b)) (.int .i64 q) true).run Try.prog w = .ok (.tuple #[lkV L N q, .bool (decide (0 ≤ q ∧ q.toNat ∈ N))]) w := by
  obtain ⟨v, ps, hrun, hR⟩ := h.look_ok law_int Try.underlying60 (zero_kb w) (R := kbElem) (z := .agg #[.int .u8 0, .int .u64 0, .int .u64 0]) (kbElem_mk 0 0 0) (key_int hq)
  rw [hrun, lk_of hv hq hR, hv.has q hq]
/-- A map has no more entries than its data. -/
theorem owns_fit {w : World} {b n m : Nat} {D : DataW Unit} (h : w.ownsMap Try.prog 3 kbElem b n D) (hm : Maps.size D ≤ m) : w.ownsMap Try.prog 3 kbElem b m D := by
  obtain ⟨es, clock, hb, F, hs, rfl⟩ := h
  exact ⟨es, clock, hb, F, by simpa [Maps.size, length_sorted] using hm, rfl⟩

/-- The map of those nodes N that are done stands in the block b. -/
def MapAt (w : World) (L : List Nd) (b : Nat) (N : List Nat) : Prop := ∃ D : DataW Unit, w.ownsMap Try.prog 3 kbElem b N.length D ∧ KbTab L N D
theorem MapAt.lt {w : World} {L : List Nd} {b : Nat} {N : List Nat} (h : MapAt w L b N) : b < w.heap.size := by obtain ⟨D, h1, _⟩ := h; exact h1.lt
theorem MapAt.same {w w' : World} {L : List Nd} {b : Nat} {N : List Nat} (h : MapAt w L b N) (e : w'.heap[b]? = w.heap[b]?) : MapAt w' L b N := by
  obtain ⟨D, ⟨es, clock, hb, r⟩, ht⟩ := h
  exact ⟨D, ⟨es, clock, e.trans hb, r⟩, ht⟩
theorem MapAt.look {w : World} {L : List Nd} {b : Nat} {N : List Nat} (h : MapAt w L b N) {q : Int} (hq : I64 q) :
    (Instr.lookup 60 (.map (some b)) (.int .i64 q) false).run Try.prog w = .ok (lkV L N q) w := by obtain ⟨D, h1, h2⟩ := h; exact look_kb h1 h2 hq
theorem MapAt.look2 {w : World} {L : List Nd} {b : Nat} {N : List Nat} (h : MapAt w L b N) {q : Int} (hq : I64 q) :
    (Instr.lookup 60 (.map (some b)) (.int .i64 q) true).run Try.prog w = .ok (.tuple #[lkV L N q, .bool (decide (0 ≤ q ∧ q.toNat ∈ N))]) w := by obtain ⟨D, h1, h2⟩ := h; exact look_ok h1 h2 hq
end Kn
end Go.Proofs.Ytigjbngedbbdbaa

namespace Go.Proofs.Ytigjbngedbbdbaa
open Go.RowKit Bv Tm
namespace Kn
set_option maxHeartbeats 1000000
set_option maxRecDepth 100000

theorem kmask_any (w : Nat) (h1 : 1 ≤ w) (h2 : w ≤ 64) (W : World) :
    Calls Try.prog 35 #[.int .u8 w] W fun e W' => e = .returned (.int .u64 ((2 ^ w - 1 : Nat) : Int)) ∧ W = W' := by
  go_enter Try.func35, Try.ntmps35
  go_wp2
  go_ret
  exact ⟨ret_u64 (mask_div_int h2), rfl⟩

theorem kcut_any (w z o : Nat) (h1 : 1 ≤ w) (h2 : w ≤ 64) (hz : z < 18446744073709551616) (ho : o < 18446744073709551616) (W : World) :
    Calls Try.prog 32 #[.int .u8 ((w : Nat) : Int), .int .u64 ((z : Nat) : Int), .int .u64 ((o : Nat) : Int)] W fun e W' => e = .returned (.agg #[.int .u8 ((w : Nat) : Int), .int .u64 ((low w z : Nat) : Int), .int .u64 ((low w o : Nat) : Int)]) ∧ W.alloc (.cells #[.int .u8 ((w : Nat) : Int), .int .u64 ((low w z : Nat) : Int), .int .u64 ((low w o : Nat) : Int)] 65) = W' := by
  have e1 := and64 (z : Int) (by omega) (by omega) h2
  have e2 := and64 (o : Int) (by omega) (by omega) h2
  rw [Int.toNat_natCast] at e1 e2
  go_enter Try.func32, Try.ntmps32
  go_wp2_with (go_at_call 35; refine (kmask_any _ h1 h2 _).mono ?_; rintro e w' ⟨rfl, rfl⟩)
  exact bodyPost_ret (v := .agg #[.int .u8 w, .int .u64 ((low w z : Nat) : Int), .int .u64 ((low w o : Nat) : Int)]) (by simp [results, Try.results32, go_sem]) rfl ⟨rfl, rfl⟩

/-- The same, of numbers that are told by equations. -/
theorem kcut_of (w : Nat) (x y : Int) (z o : Nat) (h1 : 1 ≤ w) (h2 : w ≤ 64) (hz : z < 18446744073709551616) (ho : o < 18446744073709551616) (ex : x = ((z : Nat) : Int)) (ey : y = ((o : Nat) : Int)) (W : World) :
    Calls Try.prog 32 #[.int .u8 ((w : Nat) : Int), .int .u64 x, .int .u64 y] W fun e W' => e = .returned (.agg #[.int .u8 ((w : Nat) : Int), .int .u64 ((low w z : Nat) : Int), .int .u64 ((low w o : Nat) : Int)]) ∧ W.alloc (.cells #[.int .u8 ((w : Nat) : Int), .int .u64 ((low w z : Nat) : Int), .int .u64 ((low w o : Nat) : Int)] 65) = W' := by
  subst ex
  subst ey
  exact kcut_any w z o h1 h2 hz ho W

theorem lows_int {m : Nat} (hm : m < 18446744073709551616) : bits .andNot .u64 ((m : Nat) : Int) (IntKind.u64.wrap (((m : Nat) : Int) + 1)) = ((lows m : Nat) : Int) := by
  have e : IntKind.u64.wrap (((m : Nat) : Int) + 1) = (((m + 1) % 18446744073709551616 : Nat) : Int) := by rw [IntKind.wrap_u64]; omega
  rw [e, u64_andNot_nat m _ hm (Nat.mod_lt _ (by decide))]
  rfl
theorem lows_lt (m : Nat) : lows m < 18446744073709551616 := Nat.lt_of_le_of_lt Nat.and_le_right (by omega)

theorem klow_any (m : Nat) (hm : m < 18446744073709551616) (W : World) :
    Calls Try.prog 33 #[.int .u64 ((m : Nat) : Int)] W fun e W' => e = .returned (.int .u64 ((lows m : Nat) : Int)) ∧ W = W' := by
  go_enter Try.func33, Try.ntmps33
  go_wp2
  go_ret
  exact ⟨ret_u64 (lows_int hm), rfl⟩

theorem kspread_any (w n : Nat) (h1 : 1 ≤ w) (h2 : w ≤ 64) (hn : n < 2 ^ w) (W : World) :
    Calls Try.prog 36 #[.int .u8 ((w : Nat) : Int), .int .u64 ((n : Nat) : Int)] W fun e W' => e = .returned (.int .i64 (wo w n)) ∧ W = W' := by
  go_enter Try.func36, Try.ntmps36
  go_wp2
  go_ret
  exact ⟨ret_i64 (by unfold wrap64; rw [← IntKind.wrap_i64]; simp only [IntKind.wrap_u64]; exact worth_shift h1 h2 hn), rfl⟩
end Kn
end Go.Proofs.Ytigjbngedbbdbaa

namespace Go.Proofs.Ytigjbngedbbdbaa
open Go.RowKit Bv Tm
namespace Kn
set_option maxHeartbeats 400000
set_option maxRecDepth 100000

theorem ka_0 (W : World) : Calls Try.prog 29 #[.int .u8 0] W fun e W' => e = .returned (.int .i64 0) ∧ W = W' := by
  go_enter Try.func29, Try.ntmps29
  go_wp2_with fail
  repeat' (first | ((with_reducible refine wp_exit ?_); (repeat (first | (with_reducible refine ex_then ?_) | (with_reducible refine ex_near ?_) | (refine ex_far (by decide) ?_))); (with_reducible refine ex_go ?_)) | go_values | go_skip | go_guarded | go_step | go_upon)
  go_ret
  exact ⟨rfl, rfl⟩

theorem ka_1 (W : World) : Calls Try.prog 29 #[.int .u8 1] W fun e W' => e = .returned (.int .i64 0) ∧ W = W' := by
  go_enter Try.func29, Try.ntmps29
  go_wp2_with fail
  repeat' (first | ((with_reducible refine wp_exit ?_); (repeat (first | (with_reducible refine ex_then ?_) | (with_reducible refine ex_near ?_) | (refine ex_far (by decide) ?_))); (with_reducible refine ex_go ?_)) | go_values | go_skip | go_guarded | go_step | go_upon)
  go_ret
  exact ⟨rfl, rfl⟩

theorem ka_2 (W : World) : Calls Try.prog 29 #[.int .u8 2] W fun e W' => e = .returned (.int .i64 0) ∧ W = W' := by
  go_enter Try.func29, Try.ntmps29
  go_wp2_with fail
  repeat' (first | ((with_reducible refine wp_exit ?_); (repeat (first | (with_reducible refine ex_then ?_) | (with_reducible refine ex_near ?_) | (refine ex_far (by decide) ?_))); (with_reducible refine ex_go ?_)) | go_values | go_skip | go_guarded | go_step | go_upon)
  go_ret
  exact ⟨rfl, rfl⟩

theorem ka_3 (W : World) : Calls Try.prog 29 #[.int .u8 3] W fun e W' => e = .returned (.int .i64 1) ∧ W = W' := by
  go_enter Try.func29, Try.ntmps29
  go_wp2_with fail
  repeat' (first | ((with_reducible refine wp_exit ?_); (repeat (first | (with_reducible refine ex_then ?_) | (with_reducible refine ex_near ?_) | (refine ex_far (by decide) ?_))); (with_reducible refine ex_go ?_)) | go_values | go_skip | go_guarded | go_step | go_upon)
  go_ret
  exact ⟨rfl, rfl⟩

theorem ka_4 (W : World) : Calls Try.prog 29 #[.int .u8 4] W fun e W' => e = .returned (.int .i64 0) ∧ W = W' := by
  go_enter Try.func29, Try.ntmps29
  go_wp2_with fail
  repeat' (first | ((with_reducible refine wp_exit ?_); (repeat (first | (with_reducible refine ex_then ?_) | (with_reducible refine ex_near ?_) | (refine ex_far (by decide) ?_))); (with_reducible refine ex_go ?_)) | go_values | go_skip | go_guarded | go_step | go_upon)
  go_ret
  exact ⟨rfl, rfl⟩

theorem ka_5 (W : World) : Calls Try.prog 29 #[.int .u8 5] W fun e W' => e = .returned (.int .i64 2) ∧ W = W' := by
  go_enter Try.func29, Try.ntmps29
  go_wp2_with fail
  repeat' (first | ((with_reducible refine wp_exit ?_); (repeat (first | (with_reducible refine ex_then ?_) | (with_reducible refine ex_near ?_) | (refine ex_far (by decide) ?_))); (with_reducible refine ex_go ?_)) | go_values | go_skip | go_guarded | go_step | go_upon)
  go_ret
  exact ⟨rfl, rfl⟩

theorem ka_6 (W : World) : Calls Try.prog 29 #[.int .u8 6] W fun e W' => e = .returned (.int .i64 2) ∧ W = W' := by
  go_enter Try.func29, Try.ntmps29
  go_wp2_with fail
  repeat' (first | ((with_reducible refine wp_exit ?_); (repeat (first | (with_reducible refine ex_then ?_) | (with_reducible refine ex_near ?_) | (refine ex_far (by decide) ?_))); (with_reducible refine ex_go ?_)) | go_values | go_skip | go_guarded | go_step | go_upon)
  go_ret
  exact ⟨rfl, rfl⟩

theorem ka_7 (W : World) : Calls Try.prog 29 #[.int .u8 7] W fun e W' => e = .returned (.int .i64 2) ∧ W = W' := by
  go_enter Try.func29, Try.ntmps29
  go_wp2_with fail
  repeat' (first | ((with_reducible refine wp_exit ?_); (repeat (first | (with_reducible refine ex_then ?_) | (with_reducible refine ex_near ?_) | (refine ex_far (by decide) ?_))); (with_reducible refine ex_go ?_)) | go_values | go_skip | go_guarded | go_step | go_upon)
  go_ret
  exact ⟨rfl, rfl⟩

theorem ka_8 (W : World) : Calls Try.prog 29 #[.int .u8 8] W fun e W' => e = .returned (.int .i64 2) ∧ W = W' := by
  go_enter Try.func29, Try.ntmps29
  go_wp2_with fail
  repeat' (first | ((with_reducible refine wp_exit ?_); (repeat (first | (with_reducible refine ex_then ?_) | (with_reducible refine ex_near ?_) | (refine ex_far (by decide) ?_))); (with_reducible refine ex_go ?_)) | go_values | go_skip | go_guarded | go_step | go_upon)
  go_ret
  exact ⟨rfl, rfl⟩

theorem ka_9 (W : World) : Calls Try.prog 29 #[.int .u8 9] W fun e W' => e = .returned (.int .i64 2) ∧ W = W' := by
  go_enter Try.func29, Try.ntmps29
  go_wp2_with fail
  repeat' (first | ((with_reducible refine wp_exit ?_); (repeat (first | (with_reducible refine ex_then ?_) | (with_reducible refine ex_near ?_) | (refine ex_far (by decide) ?_))); (with_reducible refine ex_go ?_)) | go_values | go_skip | go_guarded | go_step | go_upon)
  go_ret
  exact ⟨rfl, rfl⟩

theorem ka_10 (W : World) : Calls Try.prog 29 #[.int .u8 10] W fun e W' => e = .returned (.int .i64 2) ∧ W = W' := by
  go_enter Try.func29, Try.ntmps29
  go_wp2_with fail
  repeat' (first | ((with_reducible refine wp_exit ?_); (repeat (first | (with_reducible refine ex_then ?_) | (with_reducible refine ex_near ?_) | (refine ex_far (by decide) ?_))); (with_reducible refine ex_go ?_)) | go_values | go_skip | go_guarded | go_step | go_upon)
  go_ret
  exact ⟨rfl, rfl⟩

theorem ka_11 (W : World) : Calls Try.prog 29 #[.int .u8 11] W fun e W' => e = .returned (.int .i64 0) ∧ W = W' := by
  go_enter Try.func29, Try.ntmps29
  go_wp2_with fail
  repeat' (first | ((with_reducible refine wp_exit ?_); (repeat (first | (with_reducible refine ex_then ?_) | (with_reducible refine ex_near ?_) | (refine ex_far (by decide) ?_))); (with_reducible refine ex_go ?_)) | go_values | go_skip | go_guarded | go_step | go_upon)
  go_ret
  exact ⟨rfl, rfl⟩

theorem ka_12 (W : World) : Calls Try.prog 29 #[.int .u8 12] W fun e W' => e = .returned (.int .i64 0) ∧ W = W' := by
  go_enter Try.func29, Try.ntmps29
  go_wp2_with fail
  repeat' (first | ((with_reducible refine wp_exit ?_); (repeat (first | (with_reducible refine ex_then ?_) | (with_reducible refine ex_near ?_) | (refine ex_far (by decide) ?_))); (with_reducible refine ex_go ?_)) | go_values | go_skip | go_guarded | go_step | go_upon)
  go_ret
  exact ⟨rfl, rfl⟩

theorem ka_13 (W : World) : Calls Try.prog 29 #[.int .u8 13] W fun e W' => e = .returned (.int .i64 0) ∧ W = W' := by
  go_enter Try.func29, Try.ntmps29
  go_wp2_with fail
  repeat' (first | ((with_reducible refine wp_exit ?_); (repeat (first | (with_reducible refine ex_then ?_) | (with_reducible refine ex_near ?_) | (refine ex_far (by decide) ?_))); (with_reducible refine ex_go ?_)) | go_values | go_skip | go_guarded | go_step | go_upon)
  go_ret
  exact ⟨rfl, rfl⟩

theorem ka_14 (W : World) : Calls Try.prog 29 #[.int .u8 14] W fun e W' => e = .returned (.int .i64 0) ∧ W = W' := by
  go_enter Try.func29, Try.ntmps29
  go_wp2_with fail
  repeat' (first | ((with_reducible refine wp_exit ?_); (repeat (first | (with_reducible refine ex_then ?_) | (with_reducible refine ex_near ?_) | (refine ex_far (by decide) ?_))); (with_reducible refine ex_go ?_)) | go_values | go_skip | go_guarded | go_step | go_upon)
  go_ret
  exact ⟨rfl, rfl⟩

theorem ka_15 (W : World) : Calls Try.prog 29 #[.int .u8 15] W fun e W' => e = .returned (.int .i64 1) ∧ W = W' := by
  go_enter Try.func29, Try.ntmps29
  go_wp2_with fail
  repeat' (first | ((with_reducible refine wp_exit ?_); (repeat (first | (with_reducible refine ex_then ?_) | (with_reducible refine ex_near ?_) | (refine ex_far (by decide) ?_))); (with_reducible refine ex_go ?_)) | go_values | go_skip | go_guarded | go_step | go_upon)
  go_ret
  exact ⟨rfl, rfl⟩

theorem ka_16 (W : World) : Calls Try.prog 29 #[.int .u8 16] W fun e W' => e = .returned (.int .i64 1) ∧ W = W' := by
  go_enter Try.func29, Try.ntmps29
  go_wp2_with fail
  repeat' (first | ((with_reducible refine wp_exit ?_); (repeat (first | (with_reducible refine ex_then ?_) | (with_reducible refine ex_near ?_) | (refine ex_far (by decide) ?_))); (with_reducible refine ex_go ?_)) | go_values | go_skip | go_guarded | go_step | go_upon)
  go_ret
  exact ⟨rfl, rfl⟩

theorem ka_17 (W : World) : Calls Try.prog 29 #[.int .u8 17] W fun e W' => e = .returned (.int .i64 1) ∧ W = W' := by
  go_enter Try.func29, Try.ntmps29
  go_wp2_with fail
  repeat' (first | ((with_reducible refine wp_exit ?_); (repeat (first | (with_reducible refine ex_then ?_) | (with_reducible refine ex_near ?_) | (refine ex_far (by decide) ?_))); (with_reducible refine ex_go ?_)) | go_values | go_skip | go_guarded | go_step | go_upon)
  go_ret
  exact ⟨rfl, rfl⟩

theorem ka_18 (W : World) : Calls Try.prog 29 #[.int .u8 18] W fun e W' => e = .returned (.int .i64 2) ∧ W = W' := by
  go_enter Try.func29, Try.ntmps29
  go_wp2_with fail
  repeat' (first | ((with_reducible refine wp_exit ?_); (repeat (first | (with_reducible refine ex_then ?_) | (with_reducible refine ex_near ?_) | (refine ex_far (by decide) ?_))); (with_reducible refine ex_go ?_)) | go_values | go_skip | go_guarded | go_step | go_upon)
  go_ret
  exact ⟨rfl, rfl⟩

theorem ka_19 (W : World) : Calls Try.prog 29 #[.int .u8 19] W fun e W' => e = .returned (.int .i64 0) ∧ W = W' := by
  go_enter Try.func29, Try.ntmps29
  go_wp2_with fail
  repeat' (first | ((with_reducible refine wp_exit ?_); (repeat (first | (with_reducible refine ex_then ?_) | (with_reducible refine ex_near ?_) | (refine ex_far (by decide) ?_))); (with_reducible refine ex_go ?_)) | go_values | go_skip | go_guarded | go_step | go_upon)
  go_ret
  exact ⟨rfl, rfl⟩

theorem ka_20 (W : World) : Calls Try.prog 29 #[.int .u8 20] W fun e W' => e = .returned (.int .i64 0) ∧ W = W' := by
  go_enter Try.func29, Try.ntmps29
  go_wp2_with fail
  repeat' (first | ((with_reducible refine wp_exit ?_); (repeat (first | (with_reducible refine ex_then ?_) | (with_reducible refine ex_near ?_) | (refine ex_far (by decide) ?_))); (with_reducible refine ex_go ?_)) | go_values | go_skip | go_guarded | go_step | go_upon)
  go_ret
  exact ⟨rfl, rfl⟩

theorem ka_21 (W : World) : Calls Try.prog 29 #[.int .u8 21] W fun e W' => e = .returned (.int .i64 2) ∧ W = W' := by
  go_enter Try.func29, Try.ntmps29
  go_wp2_with fail
  repeat' (first | ((with_reducible refine wp_exit ?_); (repeat (first | (with_reducible refine ex_then ?_) | (with_reducible refine ex_near ?_) | (refine ex_far (by decide) ?_))); (with_reducible refine ex_go ?_)) | go_values | go_skip | go_guarded | go_step | go_upon)
  go_ret
  exact ⟨rfl, rfl⟩

theorem ka_22 (W : World) : Calls Try.prog 29 #[.int .u8 22] W fun e W' => e = .returned (.int .i64 1) ∧ W = W' := by
  go_enter Try.func29, Try.ntmps29
  go_wp2_with fail
  repeat' (first | ((with_reducible refine wp_exit ?_); (repeat (first | (with_reducible refine ex_then ?_) | (with_reducible refine ex_near ?_) | (refine ex_far (by decide) ?_))); (with_reducible refine ex_go ?_)) | go_values | go_skip | go_guarded | go_step | go_upon)
  go_ret
  exact ⟨rfl, rfl⟩

theorem ka_23 (W : World) : Calls Try.prog 29 #[.int .u8 23] W fun e W' => e = .returned (.int .i64 1) ∧ W = W' := by
  go_enter Try.func29, Try.ntmps29
  go_wp2_with fail
  repeat' (first | ((with_reducible refine wp_exit ?_); (repeat (first | (with_reducible refine ex_then ?_) | (with_reducible refine ex_near ?_) | (refine ex_far (by decide) ?_))); (with_reducible refine ex_go ?_)) | go_values | go_skip | go_guarded | go_step | go_upon)
  go_ret
  exact ⟨rfl, rfl⟩

theorem ka_24 (W : World) : Calls Try.prog 29 #[.int .u8 24] W fun e W' => e = .returned (.int .i64 1) ∧ W = W' := by
  go_enter Try.func29, Try.ntmps29
  go_wp2_with fail
  repeat' (first | ((with_reducible refine wp_exit ?_); (repeat (first | (with_reducible refine ex_then ?_) | (with_reducible refine ex_near ?_) | (refine ex_far (by decide) ?_))); (with_reducible refine ex_go ?_)) | go_values | go_skip | go_guarded | go_step | go_upon)
  go_ret
  exact ⟨rfl, rfl⟩

theorem ka_25 (W : World) : Calls Try.prog 29 #[.int .u8 25] W fun e W' => e = .returned (.int .i64 3) ∧ W = W' := by
  go_enter Try.func29, Try.ntmps29
  go_wp2_with fail
  repeat' (first | ((with_reducible refine wp_exit ?_); (repeat (first | (with_reducible refine ex_then ?_) | (with_reducible refine ex_near ?_) | (refine ex_far (by decide) ?_))); (with_reducible refine ex_go ?_)) | go_values | go_skip | go_guarded | go_step | go_upon)
  go_ret
  exact ⟨rfl, rfl⟩

theorem ka_any {o : Nat} (h : o ≤ 25) (W : World) : Calls Try.prog 29 #[.int .u8 ((o : Nat) : Int)] W fun e W' => e = .returned (.int .i64 ((ka o : Nat) : Int)) ∧ W = W' := by
  match o, h with
  | 0, _ => exact ka_0 W
  | 1, _ => exact ka_1 W
  | 2, _ => exact ka_2 W
  | 3, _ => exact ka_3 W
  | 4, _ => exact ka_4 W
  | 5, _ => exact ka_5 W
  | 6, _ => exact ka_6 W
  | 7, _ => exact ka_7 W
  | 8, _ => exact ka_8 W
  | 9, _ => exact ka_9 W
  | 10, _ => exact ka_10 W
  | 11, _ => exact ka_11 W
  | 12, _ => exact ka_12 W
  | 13, _ => exact ka_13 W
  | 14, _ => exact ka_14 W
  | 15, _ => exact ka_15 W
  | 16, _ => exact ka_16 W
  | 17, _ => exact ka_17 W
  | 18, _ => exact ka_18 W
  | 19, _ => exact ka_19 W
  | 20, _ => exact ka_20 W
  | 21, _ => exact ka_21 W
  | 22, _ => exact ka_22 W
  | 23, _ => exact ka_23 W
  | 24, _ => exact ka_24 W
  | 25, _ => exact ka_25 W
  | o + 26, h => omega
end Kn
end Go.Proofs.Ytigjbngedbbdbaa
