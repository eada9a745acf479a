/-
Proofs by units: what follows, what refutes. Plain facts.
Proofs by units: with more no less is refuted. Plain facts.
-/
import Derived.Test.YtmgkgbhkaoflhaaA1
namespace Go.Proofs.Ytmgkgbhkaoflhaa
namespace Rp
open Cf

def areL (v : Int) (k : List Int) : Bool := k.all fun l => isL l v
def negs (k : List Int) : List Int := k.map fun l => -l
def followsP (v : Int) (C : Cl) (k : List Int) : Bool := mayC v C && areL v k && !(unitsC v C (negs k)).2
/-- The clauses behind a proof; none, if a step does not follow. -/
def runP (v : Int) : Cl → Cl → Option Cl
  | C, [] => some C
  | C, k :: r => if followsP v C k then runP v (C ++ [k]) r else none
/-- The number of the error that Check answers. -/
def checkP (v : Int) (C : Cl) (a : List Int) (p : Cl) : Int :=
  if (mayC v C && areL v a) = false then 2
  else if (p.all fun k => areL v k) = false then 2
  else match runP v C p with
    | none => 5
    | some D => if (unitsC v D a).2 then 5 else 0
theorem isL_neg {l v : Int} (h : isL l v = true) : isL (-l) v = true := by
  unfold isL at *
  simp at *
  omega
theorem holds_mem {m : List Bool} {C : Cl} {k : List Int} (h : holdsC m C = true) (hk : k ∈ C) : k.any (oneM m) = true := List.all_eq_true.1 h k hk
theorem holds_snoc {m : List Bool} {C : Cl} {k : List Int} (h : holdsC m C = true) (hk : k.any (oneM m) = true) : holdsC m (C ++ [k]) = true := by
  unfold holdsC at *
  rw [List.all_append, h]
  simp [hk]
theorem mayC_snoc {v : Int} {C : Cl} {k : List Int} (h : mayC v C = true) (hk : areL v k = true) : mayC v (C ++ [k]) = true := by
  unfold mayC areL at *
  simp only [Bool.and_eq_true] at h
  rw [h.1, List.all_append, h.2]
  simpa using hk
/-- What follows holds in each model. -/
theorem follows_holds {m : List Bool} {v : Int} {C : Cl} {k : List Int} (h : followsP v C k = true) (hC : holdsC m C = true) : k.any (oneM m) = true := by
  unfold followsP at h
  simp only [Bool.and_eq_true, Bool.not_eq_true'] at h
  obtain ⟨⟨h1, h2⟩, h3⟩ := h
  cases hk : k.any (oneM m) with
  | true => rfl
  | false =>
    have hg : ∀ l ∈ negs k, isL l v = true → oneM m l = true := by
      intro l hl _
      obtain ⟨x, hx, rfl⟩ := List.mem_map.1 hl
      have hx0 : x ≠ 0 := (isL_ne (List.all_eq_true.1 h2 x hx)).1
      show oneM m (-x) = true
      rw [oneM_neg hx0]
      have := List.any_eq_false.1 hk x hx
      simpa using this
    have := (units_sound h1 hC hg).2
    rw [h3] at this; cases this
theorem run_holds {m : List Bool} {v : Int} : ∀ {p C D : Cl}, runP v C p = some D → holdsC m C = true → holdsC m D = true
  | [], C, D, h, hC => by
    injection h with h
    rw [← h]; exact hC
  | k :: r, C, D, h, hC => by
    rw [runP] at h
    cases hf : followsP v C k with
    | false => rw [hf] at h; cases h
    | true =>
      rw [hf, if_pos rfl] at h
      exact run_holds h (holds_snoc hC (follows_holds hf hC))
theorem run_may {v : Int} : ∀ {p C D : Cl}, runP v C p = some D → mayC v C = true → mayC v D = true
  | [], C, D, h, hC => by
    injection h with h
    rw [← h]; exact hC
  | k :: r, C, D, h, hC => by
    rw [runP] at h
    cases hf : followsP v C k with
    | false => rw [hf] at h; cases h
    | true =>
      rw [hf, if_pos rfl] at h
      unfold followsP at hf
      simp only [Bool.and_eq_true] at hf
      exact run_may h (mayC_snoc hC hf.1.2)
theorem check_parts {v : Int} {C p : Cl} {a : List Int} (h : checkP v C a p = 0) : mayC v C = true ∧ areL v a = true ∧ (p.all fun k => areL v k) = true ∧ ∃ D, runP v C p = some D ∧ (unitsC v D a).2 = false := by
  unfold checkP at h
  by_cases h1 : (mayC v C && areL v a) = false
  · rw [if_pos h1] at h; cases h
  · rw [if_neg h1] at h
    by_cases h2 : (p.all fun k => areL v k) = false
    · rw [if_pos h2] at h; cases h
    · rw [if_neg h2] at h
      simp only [Bool.not_eq_false, Bool.and_eq_true] at h1
      refine ⟨h1.1, h1.2, by simpa using h2, ?_⟩
      cases hr : runP v C p with
      | none => rw [hr] at h; cases h
      | some D =>
        rw [hr] at h
        refine ⟨D, rfl, ?_⟩
        cases hu : (unitsC v D a).2 with
        | false => rfl
        | true => simp [hu] at h
theorem check_of {v : Int} {C p : Cl} {a : List Int} {D : Cl} (h1 : mayC v C = true) (h2 : areL v a = true) (h3 : (p.all fun k => areL v k) = true) (h4 : runP v C p = some D) (h5 : (unitsC v D a).2 = false) : checkP v C a p = 0 := by
  unfold checkP
  rw [if_neg (by rw [h1, h2]; simp), if_neg (by rw [h3]; simp), h4]
  simp [h5]
/-- Where it refutes there is no model. -/
theorem check_sound {m : List Bool} {v : Int} {C p : Cl} {a : List Int} (h : checkP v C a p = 0) (hC : holdsC m C = true) (ha : ∀ l ∈ a, oneM m l = true) : False := by
  obtain ⟨h1, _, _, D, hr, hu⟩ := check_parts h
  have := (units_sound (run_may hr h1) (run_holds hr hC) (fun l hl _ => ha l hl)).2
  rw [hu] at this; cases this
end Rp
end Go.Proofs.Ytmgkgbhkaoflhaa

namespace Go.Proofs.Ytmgkgbhkaoflhaa
namespace Rp
open Cf

theorem units_no_more {v : Int} {C D : Cl} {g : List Int} (hD : mayC v D = true) (hCD : ∀ k ∈ C, k ∈ D) (h : (unitsC v C g).2 = false) : (unitsC v D g).2 = false := by
  cases hd : (unitsC v D g).2 with
  | false => rfl
  | true => rw [(units_more hD hCD hd).1] at h; cases h
theorem follows_more {v : Int} {C D : Cl} {k : List Int} (hD : mayC v D = true) (hCD : ∀ k ∈ C, k ∈ D) (h : followsP v C k = true) : followsP v D k = true := by
  unfold followsP at *
  simp only [Bool.and_eq_true, Bool.not_eq_true'] at *
  exact ⟨⟨hD, h.1.2⟩, units_no_more hD hCD h.2⟩
theorem run_more {v : Int} : ∀ {p C D X : Cl}, mayC v D = true → (∀ k ∈ C, k ∈ D) → runP v C p = some X → ∃ Y, runP v D p = some Y ∧ (∀ k ∈ X, k ∈ Y) ∧ mayC v Y = true
  | [], C, D, X, hD, hCD, h => by
    injection h with h
    exact ⟨D, rfl, by rw [← h]; exact hCD, hD⟩
  | k :: r, C, D, X, hD, hCD, h => by
    rw [runP] at h
    cases hf : followsP v C k with
    | false => rw [hf] at h; cases h
    | true =>
      rw [hf, if_pos rfl] at h
      have hk : areL v k = true := by
        unfold followsP at hf
        simp only [Bool.and_eq_true] at hf
        exact hf.1.2
      obtain ⟨Y, a, b, c⟩ := run_more (D := D ++ [k]) (mayC_snoc hD hk) (fun x hx => by
        rcases List.mem_append.1 hx with hx | hx
        · exact List.mem_append_left _ (hCD x hx)
        · exact List.mem_append_right _ hx) h
      exact ⟨Y, by rw [runP, follows_more hD hCD hf, if_pos rfl]; exact a, b, c⟩
/-- With a clause more. -/
theorem check_clause {v : Int} {C p : Cl} {a k : List Int} (h : checkP v C a p = 0) (hk : mayC v (C ++ [k]) = true) : checkP v (C ++ [k]) a p = 0 := by
  obtain ⟨h1, h2, h3, D, hr, hu⟩ := check_parts h
  obtain ⟨Y, hY, hs, hm⟩ := run_more hk (fun x hx => List.mem_append_left _ hx) hr
  exact check_of hk h2 h3 hY (units_no_more hm hs hu)
theorem given_app {v : Int} : ∀ {g came : List Int} {n : Int}, givenG v came (g ++ [n]) = (match givenG v came g with | (c, true) => givenG v c [n] | (c, false) => (c, false))
  | [], came, n => rfl
  | x :: r, came, n => by
    show givenG v came (x :: (r ++ [n])) = _
    rw [givenG, givenG]
    split
    · exact given_app
    · split
      · rfl
      · exact given_app
/-- With more that came. -/
theorem rest_more {C : Cl} {came more : List Int} (hz : ∀ k ∈ C, ∀ l ∈ k, l ≠ 0) (hc : Cons more) (hs : ∀ l ∈ came, l ∈ more) (h : (restU C came).2 = false) : (restU C more).2 = false := by
  cases hm : (restU C more).2 with
  | false => rfl
  | true =>
    obtain ⟨a, b, c⟩ := stepsG_end hz (f := openN C more + 1) (came := more) (by omega) hc hm
    have := (stepsG_in (C := C) (D := C) (f := openN C came + 1) (came := came) hz (fun k hk => hk) c a (fun l hl => b l (hs l hl))).2
    unfold restU at h
    rw [this] at h; cases h
theorem units_given {v : Int} {C : Cl} {a : List Int} {n : Int} (hm : mayC v C = true) (h : (unitsC v C a).2 = false) : (unitsC v C (a ++ [n])).2 = false := by
  unfold unitsC at *
  rw [if_pos hm] at *
  rw [given_app]
  have hc : Cons (givenG v [] a).1 := givenG_cons (fun l hl => by cases hl)
  have hz := mayC_ne hm
  cases hg : givenG v [] a with
  | mk c o =>
    rw [hg] at h hc
    cases o with
    | false => rfl
    | true =>
      have h : (restU C c).2 = false := h
      show (match givenG v c [n] with | (came, true) => stepsG C (openN C came + 1) came | (came, false) => (came, false)).2 = false
      rw [givenG]
      by_cases q1 : (!isL n v || c.elem n) = true
      · rw [if_pos q1]
        exact h
      · rw [if_neg q1]
        by_cases q2 : c.elem (-n) = true
        · rw [if_pos q2]
        · rw [if_neg q2]
          have hc2 : Cons (c ++ [n]) := by
            have := givenG_cons (v := v) (g := [n]) hc
            rw [givenG, if_neg q1, if_neg q2] at this
            exact this
          exact rest_more hz hc2 (fun l hl => List.mem_append_left _ hl) h
/-- With an assumption more. -/
theorem check_assume {v : Int} {C p : Cl} {a : List Int} {n : Int} (h : checkP v C a p = 0) (hn : isL n v = true) : checkP v C (a ++ [n]) p = 0 := by
  obtain ⟨h1, h2, h3, D, hr, hu⟩ := check_parts h
  refine check_of h1 ?_ h3 hr (units_given (run_may hr h1) hu)
  unfold areL at *
  rw [List.all_append, h2]
  simpa using hn
theorem given_has {v : Int} : ∀ {g came c : List Int}, givenG v came g = (c, true) → (∀ l ∈ came, l ∈ c) ∧ ∀ l ∈ g, isL l v = true → l ∈ c
  | [], came, c, h => by
    rw [givenG] at h
    injection h with h _
    subst h
    exact ⟨fun l hl => hl, fun l hl => by cases hl⟩
  | x :: r, came, c, h => by
    rw [givenG] at h
    by_cases h1 : (!isL x v || came.elem x) = true
    · rw [if_pos h1] at h
      obtain ⟨a, b⟩ := given_has h
      refine ⟨a, fun l hl hi => ?_⟩
      rcases List.mem_cons.1 hl with rfl | hl
      · rw [hi] at h1
        simp at h1
        exact a _ h1
      · exact b l hl hi
    · rw [if_neg h1] at h
      by_cases h2 : came.elem (-x) = true
      · rw [if_pos h2] at h; cases h
      · rw [if_neg h2] at h
        obtain ⟨a, b⟩ := given_has h
        refine ⟨fun l hl => a l (List.mem_append_left _ hl), fun l hl hi => ?_⟩
        rcases List.mem_cons.1 hl with rfl | hl
        · exact a _ (by simp)
        · exact b l hl hi
theorem look_dead {came : List Int} : ∀ {k : List Int}, (∀ l ∈ k, came.elem l = false ∧ came.elem (-l) = true) → lookG came 0 false k = (0, false)
  | [], _ => rfl
  | x :: r, h => by
    obtain ⟨a, b⟩ := h x (by simp)
    rw [lookG, a, b]
    simp only [Bool.false_eq_true, if_false, if_true]
    exact look_dead (fun l hl => h l (List.mem_cons_of_mem _ hl))
theorem next_dead {came : List Int} {k : List Int} (hk : (lookC came k).2 = false) : ∀ {C : Cl} {n : Int}, k ∈ C → nextG came n C = none
  | [], _, h => by cases h
  | x :: r, n, h => by
    rw [nextG]
    rcases List.mem_cons.1 h with rfl | h
    · rw [hk]; rfl
    · split
      · exact next_dead hk h
      · rfl
/-- One of the clauses follows. -/
theorem follows_mem {v : Int} {C : Cl} {k : List Int} (hm : mayC v C = true) (hk : k ∈ C) : followsP v C k = true := by
  have hl := (mayC_parts hm).2 k hk
  have ha : areL v k = true := List.all_eq_true.2 hl
  unfold followsP
  rw [hm, ha]
  simp only [Bool.and_self, Bool.true_and, Bool.not_eq_true']
  unfold unitsC
  rw [if_pos hm]
  cases hg : givenG v [] (negs k) with
  | mk c o =>
    cases o with
    | false => rfl
    | true =>
      have hc : Cons c := by
        have := givenG_cons (v := v) (g := negs k) (came := []) (fun l hl => by cases hl)
        rw [hg] at this; exact this
      have hd : lookG c 0 false k = (0, false) := look_dead (fun l hlk => by
        have hin : -l ∈ c := (given_has hg).2 (-l) (List.mem_map.2 ⟨l, hlk, rfl⟩) (isL_neg (hl l hlk))
        have hne := (hc (-l) hin).2
        rw [Int.neg_neg] at hne
        exact ⟨by simpa using hne, by simpa using hin⟩)
      have hn : nextC c C = none := next_dead (by unfold lookC; rw [hd]) hk
      show (stepsG C (openN C c + 1) c).2 = false
      rw [stepsG, hn]
theorem run_app {v : Int} : ∀ {p C D : Cl} {k : List Int}, runP v C p = some D → runP v C (p ++ [k]) = if followsP v D k then some (D ++ [k]) else none
  | [], C, D, k, h => by
    injection h with h
    subst h
    show runP v C [k] = _
    rw [runP]; rfl
  | x :: r, C, D, k, h => by
    rw [runP] at h
    show runP v C (x :: (r ++ [k])) = _
    rw [runP]
    cases hf : followsP v C x with
    | false => rw [hf] at h; cases h
    | true =>
      rw [hf, if_pos rfl] at h
      rw [if_pos rfl]
      exact run_app h
/-- With a step behind it that is one of the clauses. -/
theorem check_step {v : Int} {C p : Cl} {a k : List Int} (h : checkP v C a p = 0) (hk : k ∈ C) : checkP v C a (p ++ [k]) = 0 := by
  obtain ⟨h1, h2, h3, D, hr, hu⟩ := check_parts h
  have hD := run_may hr h1
  obtain ⟨Y, hY, hs, _⟩ := run_more (D := C) h1 (fun x hx => hx) hr
  have hin : k ∈ D := by
    have : ∀ {p C D : Cl}, runP v C p = some D → ∀ x ∈ C, x ∈ D := by
      intro p
      induction p with
      | nil => intro C D h x hx; injection h with h; rw [← h]; exact hx
      | cons y r ih =>
        intro C D h x hx
        rw [runP] at h
        cases hf : followsP v C y with
        | false => rw [hf] at h; cases h
        | true =>
          rw [hf, if_pos rfl] at h
          exact ih h x (List.mem_append_left _ hx)
    exact this hr k hk
  have hf := follows_mem hD hin
  have hak : areL v k = true := List.all_eq_true.2 ((mayC_parts h1).2 k hk)
  have hr2 := run_app (k := k) hr
  rw [hf, if_pos rfl] at hr2
  refine check_of h1 h2 ?_ hr2 (units_no_more (mayC_snoc hD hak) (fun x hx => List.mem_append_left _ hx) hu)
  rw [List.all_append, h3]
  simpa using hak
end Rp
end Go.Proofs.Ytmgkgbhkaoflhaa
