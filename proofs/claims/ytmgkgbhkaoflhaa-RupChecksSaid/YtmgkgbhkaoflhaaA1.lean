/-
Clauses as lists of numbers: which literals may be, which hold in a model, what a clause looks like behind literals that came, what follows by units. Plain facts.
What follows by units holds in each model; with a clause more no less follows. Plain facts.
-/
import Derived.Lib.Hide
namespace Go.Proofs.Ytmgkgbhkaoflhaa
namespace Cf

abbrev Cl := List (List Int)
def isL (l v : Int) : Bool := decide (l ≠ 0) && (decide (-v ≤ l) && decide (l ≤ v))
def mayV (v : Int) : Bool := decide (0 ≤ v) && decide (v ≤ 1000000)
def mayC (v : Int) (C : Cl) : Bool := mayV v && C.all fun k => k.all fun l => isL l v
/-- Does a literal hold in a model? -/
def oneM (m : List Bool) (l : Int) : Bool :=
  if 0 < l then (if l.toNat < m.length then m.getD l.toNat false else false)
  else if l < 0 then (if (-l).toNat < m.length then !m.getD (-l).toNat false else true)
  else false
def holdsC (m : List Bool) (C : Cl) : Bool := C.all fun k => k.any (oneM m)

/-- What a clause looks like: (the one literal that is not decided, or 0; whether it can hold still). -/
def lookG (came : List Int) (o : Int) (many : Bool) : List Int → Int × Bool
  | [] => if many then (0, true) else (o, decide (o ≠ 0))
  | l :: r => if came.elem l then (0, true) else if came.elem (-l) then lookG came o many r
    else lookG came l (many || (decide (o ≠ 0) && decide (o ≠ l))) r
def lookC (came : List Int) (k : List Int) : Int × Bool := lookG came 0 false k

/-- One way through all clauses: none, if one cannot hold; else the literal that follows next (0: none). -/
def nextG (came : List Int) (n : Int) : Cl → Option Int
  | [] => some n
  | k :: r => if (lookC came k).2 then nextG came (if n = 0 then (lookC came k).1 else n) r else none
def nextC (came : List Int) (C : Cl) : Option Int := nextG came 0 C

/-- The given ones. (came, whether all of them came) -/
def givenG (v : Int) : List Int → List Int → List Int × Bool
  | came, [] => (came, true)
  | came, l :: r => if !isL l v || came.elem l then givenG v came r else if came.elem (-l) then (came, false) else givenG v (came ++ [l]) r

/-- What follows, at most f literals more. -/
def stepsG (C : Cl) : Nat → List Int → List Int × Bool
  | 0, came => (came, true)
  | f + 1, came => match nextC came C with
    | none => (came, false)
    | some n => if n = 0 then (came, true) else stepsG C f (came ++ [n])

/-- How many literals of the clauses stand open. -/
def openN (C : Cl) (came : List Int) : Nat := (C.flatten.filter fun l => !came.elem l).length
def unitsC (v : Int) (C : Cl) (given : List Int) : List Int × Bool :=
  if mayC v C then (match givenG v [] given with
    | (came, true) => stepsG C (openN C came + 1) came
    | (came, false) => (came, false)) else ([], false)

theorem lookG_zero {came : List Int} : ∀ {k : List Int} {o : Int} {many : Bool} {n : Int}, (∀ l ∈ k, l ≠ 0) → lookG came o many k = (n, true) → n ≠ 0 → (n ∈ k ∨ n = o) ∧ (n = o ∨ (came.elem n = false ∧ came.elem (-n) = false))
  | [], o, many, n, _, h, hn => by
    unfold lookG at h
    cases many
    · simp only [Bool.false_eq_true, if_false, Prod.mk.injEq] at h
      exact ⟨.inr h.1.symm, .inl h.1.symm⟩
    · simp only [if_true, Prod.mk.injEq] at h
      exact absurd h.1.symm hn
  | l :: r, o, many, n, hz, h, hn => by
    unfold lookG at h
    by_cases h1 : came.elem l = true
    · rw [if_pos h1] at h
      simp only [Prod.mk.injEq] at h
      exact absurd h.1.symm hn
    · rw [if_neg h1] at h
      by_cases h2 : came.elem (-l) = true
      · rw [if_pos h2] at h
        obtain ⟨a, b⟩ := lookG_zero (fun x hx => hz x (by simp [hx])) h hn
        exact ⟨a.imp (fun x => by simp [x]) id, b⟩
      · rw [if_neg h2] at h
        obtain ⟨a, b⟩ := lookG_zero (fun x hx => hz x (by simp [hx])) h hn
        have h1' : came.elem l = false := by simpa using h1
        have h2' : came.elem (-l) = false := by simpa using h2
        rcases b with b | b
        · subst b
          exact ⟨.inl (by simp), .inr ⟨h1', h2'⟩⟩
        · rcases a with a | a
          · exact ⟨.inl (by simp [a]), .inr b⟩
          · exact ⟨.inl (by simp [a]), .inr b⟩

theorem lookC_open {came k : List Int} {n : Int} (hz : ∀ l ∈ k, l ≠ 0) (h : lookC came k = (n, true)) (hn : n ≠ 0) : n ∈ k ∧ came.elem n = false ∧ came.elem (-n) = false := by
  obtain ⟨a, b⟩ := lookG_zero hz h hn
  rcases a with a | a
  · exact ⟨a, b.resolve_left hn⟩
  · exact absurd a hn

theorem nextG_open {came : List Int} : ∀ {C : Cl} {n0 n : Int}, (∀ k ∈ C, ∀ l ∈ k, l ≠ 0) → nextG came n0 C = some n → n ≠ 0 → n = n0 ∨ ((∃ k ∈ C, n ∈ k) ∧ came.elem n = false ∧ came.elem (-n) = false)
  | [], n0, n, _, h, _ => by
    unfold nextG at h
    injection h with h
    exact .inl h.symm
  | k :: r, n0, n, hz, h, hn => by
    unfold nextG at h
    by_cases h1 : (lookC came k).2 = true
    · rw [if_pos h1] at h
      rcases nextG_open (fun k hk => hz k (by simp [hk])) h hn with e | ⟨⟨k', hk', hn'⟩, b⟩
      · by_cases h0 : n0 = 0
        · rw [if_pos h0] at e
          obtain ⟨a, b⟩ := lookC_open (n := n) (hz k (by simp)) (by rw [e]; exact Prod.ext rfl h1) hn
          exact .inr ⟨⟨k, by simp, a⟩, b⟩
        · rw [if_neg h0] at e
          exact .inl e
      · exact .inr ⟨⟨k', by simp [hk'], hn'⟩, b⟩
    · rw [if_neg h1] at h
      cases h

theorem nextC_open {came : List Int} {C : Cl} {n : Int} (hz : ∀ k ∈ C, ∀ l ∈ k, l ≠ 0) (h : nextC came C = some n) (hn : n ≠ 0) : (∃ k ∈ C, n ∈ k) ∧ came.elem n = false ∧ came.elem (-n) = false := by
  rcases nextG_open hz h hn with e | e
  · exact absurd e hn
  · exact e

theorem filter_le {p q : Int → Bool} : ∀ {F : List Int}, (∀ x ∈ F, q x = true → p x = true) → (F.filter q).length ≤ (F.filter p).length
  | [], _ => by simp
  | x :: r, h => by
    have ih := filter_le (F := r) fun y hy => h y (by simp [hy])
    simp only [List.filter_cons]
    cases hq : q x with
    | true =>
      rw [if_pos rfl, if_pos (h x (by simp) hq)]
      simpa using ih
    | false =>
      rw [if_neg (by simp)]
      split
      · simp only [List.length_cons]; omega
      · exact ih
theorem filter_lt {p q : Int → Bool} {n : Int} : ∀ {F : List Int}, (∀ x ∈ F, q x = true → p x = true) → n ∈ F → p n = true → q n = false → (F.filter q).length < (F.filter p).length
  | [], _, hn, _, _ => by cases hn
  | x :: r, h, hn, hp, hq => by
    simp only [List.filter_cons]
    by_cases e : x = n
    · subst e
      rw [if_neg (by rw [hq]; simp), if_pos hp]
      have := filter_le (F := r) (p := p) (q := q) fun y hy => h y (by simp [hy])
      simp only [List.length_cons]
      omega
    · have hr : n ∈ r := by
        rcases List.mem_cons.1 hn with c | c
        · exact absurd c.symm e
        · exact c
      have ih := filter_lt (F := r) (fun y hy => h y (by simp [hy])) hr hp hq
      cases hx : q x with
      | true =>
        rw [if_pos rfl, if_pos (h x (by simp) hx)]
        simpa using ih
      | false =>
        rw [if_neg (by simp)]
        split
        · simp only [List.length_cons]; omega
        · exact ih
theorem openN_less {C : Cl} {came : List Int} {n : Int} (hk : ∃ k ∈ C, n ∈ k) (hc : came.elem n = false) : openN C (came ++ [n]) < openN C came := by
  unfold openN
  have hin : n ∈ C.flatten := by
    obtain ⟨k, h1, h2⟩ := hk
    exact List.mem_flatten.2 ⟨k, h1, h2⟩
  refine filter_lt (n := n) (fun x _ hx => ?_) hin (by rw [hc]; rfl) (by simp)
  cases hcx : came.elem x with
  | false => rfl
  | true =>
    have : (came ++ [n]).elem x = true := by
      have : x ∈ came := by simpa using hcx
      simp [this]
    rw [this] at hx
    simp at hx

theorem openN_le (C : Cl) (came : List Int) : openN C came ≤ C.flatten.length := by
  unfold openN
  exact List.length_filter_le _ _

/-- The steps, whatever they may be at most. -/
theorem stepsG_more {C : Cl} (hz : ∀ k ∈ C, ∀ l ∈ k, l ≠ 0) : ∀ {f g : Nat} {came : List Int}, openN C came < f → openN C came < g → stepsG C f came = stepsG C g came
  | 0, _, _, h, _ => by omega
  | _, 0, _, _, h => by omega
  | f + 1, g + 1, came, hf, hg => by
    unfold stepsG
    cases h : nextC came C with
    | none => rfl
    | some n =>
      simp only
      by_cases h0 : n = 0
      · rw [if_pos h0, if_pos h0]
      · rw [if_neg h0, if_neg h0]
        obtain ⟨a, b, _⟩ := nextC_open hz h h0
        have := openN_less a b
        exact stepsG_more hz (by omega) (by omega)
/-- What follows, from where it stands. -/
def restU (C : Cl) (came : List Int) : List Int × Bool := stepsG C (openN C came + 1) came
theorem restU_none {C : Cl} {came : List Int} (h : nextC came C = none) : restU C came = (came, false) := by
  unfold restU stepsG
  rw [h]
theorem restU_zero {C : Cl} {came : List Int} (h : nextC came C = some 0) : restU C came = (came, true) := by
  unfold restU stepsG
  rw [h]; simp
theorem restU_some {C : Cl} {came : List Int} {n : Int} (hz : ∀ k ∈ C, ∀ l ∈ k, l ≠ 0) (h : nextC came C = some n) (h0 : n ≠ 0) : restU C came = restU C (came ++ [n]) := by
  obtain ⟨a, b, _⟩ := nextC_open hz h h0
  have := openN_less a b
  unfold restU
  conv => lhs; unfold stepsG
  rw [h]
  simp only
  rw [if_neg h0]
  exact stepsG_more hz (by omega) (by omega)
end Cf
end Go.Proofs.Ytmgkgbhkaoflhaa

namespace Go.Proofs.Ytmgkgbhkaoflhaa
namespace Cf

theorem oneM_neg {m : List Bool} {l : Int} (h : l ≠ 0) : oneM m (-l) = !oneM m l := by
  unfold oneM
  rcases Int.lt_trichotomy l 0 with c | c | c
  · rw [if_pos (by omega : 0 < -l), if_neg (by omega : ¬ 0 < l), if_pos c]
    split <;> simp
  · exact absurd c h
  · rw [if_neg (by omega : ¬ 0 < -l), if_pos (by omega : -l < 0), if_pos c, Int.neg_neg]
    split <;> simp
theorem mayC_parts {v : Int} {C : Cl} (h : mayC v C = true) : mayV v = true ∧ ∀ k ∈ C, ∀ l ∈ k, isL l v = true := by
  unfold mayC at h
  rw [Bool.and_eq_true] at h
  refine ⟨h.1, fun k hk l hl => ?_⟩
  have := List.all_eq_true.1 h.2 k hk
  exact List.all_eq_true.1 this l hl
theorem isL_ne {l v : Int} (h : isL l v = true) : l ≠ 0 ∧ -v ≤ l ∧ l ≤ v := by
  unfold isL at h
  simpa using h
theorem mayC_ne {v : Int} {C : Cl} (h : mayC v C = true) : ∀ k ∈ C, ∀ l ∈ k, l ≠ 0 := fun k hk l hl => (isL_ne ((mayC_parts h).2 k hk l hl)).1

/-- In words: a literal came, or all but those of which the not came are one and the same, or more. -/
theorem lookG_eq {came : List Int} : ∀ {k : List Int} {o : Int} {many : Bool}, (∀ l ∈ k, l ≠ 0) → (∀ l ∈ k, came.elem l = false) →
    (lookG came o many k).2 = true → (many = true ∨ o ≠ 0 ∨ ∃ l ∈ k, came.elem (-l) = false)
  | [], o, many, _, _, h => by
    unfold lookG at h
    cases many
    · simp only [Bool.false_eq_true, if_false, decide_eq_true_eq] at h
      exact .inr (.inl h)
    · exact .inl rfl
  | l :: r, o, many, hz, hc, h => by
    unfold lookG at h
    rw [if_neg (by rw [hc l (by simp)]; simp)] at h
    by_cases h2 : came.elem (-l) = true
    · rw [if_pos h2] at h
      rcases lookG_eq (fun x hx => hz x (by simp [hx])) (fun x hx => hc x (by simp [hx])) h with a | a | ⟨x, a, b⟩
      · exact .inl a
      · exact .inr (.inl a)
      · exact .inr (.inr ⟨x, by simp [a], b⟩)
    · exact .inr (.inr ⟨l, by simp, by simpa using h2⟩)
theorem lookG_cannot {came : List Int} : ∀ {k : List Int} {o : Int}, lookG came o false k = (0, false) ∨ (lookG came o false k).2 = false → (∀ l ∈ k, l ≠ 0) → ∀ l ∈ k, came.elem l = false ∧ came.elem (-l) = true
  | [], _, _, _ => fun l hl => by cases hl
  | x :: r, o, h, hz => by
    have h2 : (lookG came o false (x :: r)).2 = false := by
      rcases h with h | h
      · rw [h]
      · exact h
    clear h
    unfold lookG at h2
    by_cases h1 : came.elem x = true
    · rw [if_pos h1] at h2; cases h2
    · rw [if_neg h1] at h2
      by_cases h3 : came.elem (-x) = true
      · rw [if_pos h3] at h2
        have := lookG_cannot (.inr h2) (fun l hl => hz l (by simp [hl]))
        intro l hl
        rcases List.mem_cons.1 hl with e | e
        · subst e; exact ⟨by simpa using h1, h3⟩
        · exact this l e
      · rw [if_neg h3] at h2
        exfalso
        have hx := hz x (by simp)
        have key : ∀ {k : List Int} {o : Int} {mm : Bool}, (∀ l ∈ k, l ≠ 0) → o ≠ 0 → (lookG came o mm k).2 = true := by
          intro k
          induction k with
          | nil =>
            intro o mm _ ho
            unfold lookG
            cases mm
            · simpa using ho
            · rfl
          | cons y s ih =>
            intro o mm hz' ho
            unfold lookG
            split
            · rfl
            · split
              · exact ih (fun l hl => hz' l (by simp [hl])) ho
              · exact ih (fun l hl => hz' l (by simp [hl])) (hz' y (by simp))
        rw [key (fun l hl => hz l (by simp [hl])) hx] at h2
        cases h2
theorem lookC_cannot {came k : List Int} (h : (lookC came k).2 = false) (hz : ∀ l ∈ k, l ≠ 0) : ∀ l ∈ k, came.elem l = false ∧ came.elem (-l) = true := lookG_cannot (.inr h) hz
/-- Where one literal follows, no literal came, and the not of each other one did. -/
theorem lookG_unit {came : List Int} : ∀ {k : List Int} {o : Int} {mm : Bool} {n : Int}, (∀ l ∈ k, l ≠ 0) → lookG came o mm k = (n, true) → n ≠ 0 → mm = false ∧ (o = 0 ∨ o = n) ∧ ∀ l ∈ k, came.elem l = false ∧ (l = n ∨ came.elem (-l) = true)
  | [], o, mm, n, _, h, hn => by
    unfold lookG at h
    cases mm
    · simp only [Bool.false_eq_true, if_false, Prod.mk.injEq] at h
      exact ⟨rfl, .inr h.1, fun l hl => by cases hl⟩
    · simp only [if_true, Prod.mk.injEq] at h
      exact absurd h.1.symm hn
  | x :: r, o, mm, n, hz, h, hn => by
    unfold lookG at h
    by_cases h1 : came.elem x = true
    · rw [if_pos h1] at h
      simp only [Prod.mk.injEq] at h
      exact absurd h.1.symm hn
    · rw [if_neg h1] at h
      have h1' : came.elem x = false := by simpa using h1
      by_cases h2 : came.elem (-x) = true
      · rw [if_pos h2] at h
        obtain ⟨a, b, c⟩ := lookG_unit (fun l hl => hz l (by simp [hl])) h hn
        refine ⟨a, b, fun l hl => ?_⟩
        rcases List.mem_cons.1 hl with e | e
        · subst e; exact ⟨h1', .inr h2⟩
        · exact c l e
      · rw [if_neg h2] at h
        obtain ⟨a, b, c⟩ := lookG_unit (fun l hl => hz l (by simp [hl])) h hn
        have hx : x = n := by
          rcases b with b | b
          · exact absurd b (hz x (by simp))
          · exact b
        subst hx
        rw [Bool.or_eq_false_iff, Bool.and_eq_false_iff] at a
        refine ⟨a.1, ?_, fun l hl => ?_⟩
        · rcases a.2 with q | q
          · exact .inl (by simpa using q)
          · exact .inr (by simpa using q)
        · rcases List.mem_cons.1 hl with e | e
          · subst e; exact ⟨h1', .inl rfl⟩
          · exact c l e
theorem lookC_unit {came k : List Int} {n : Int} (hz : ∀ l ∈ k, l ≠ 0) (h : lookC came k = (n, true)) (hn : n ≠ 0) : ∀ l ∈ k, came.elem l = false ∧ (l = n ∨ came.elem (-l) = true) := (lookG_unit hz h hn).2.2
theorem nextG_none {came : List Int} : ∀ {C : Cl} {n0 : Int}, nextG came n0 C = none → ∃ k ∈ C, (lookC came k).2 = false
  | [], n0, h => by unfold nextG at h; cases h
  | k :: r, n0, h => by
    unfold nextG at h
    by_cases h1 : (lookC came k).2 = true
    · rw [if_pos h1] at h
      obtain ⟨k', a, b⟩ := nextG_none h
      exact ⟨k', by simp [a], b⟩
    · exact ⟨k, by simp, by simpa using h1⟩
theorem nextG_some {came : List Int} : ∀ {C : Cl} {n0 n : Int}, nextG came n0 C = some n → (∀ k ∈ C, (lookC came k).2 = true) ∧ (n = n0 ∨ ∃ k ∈ C, (lookC came k).1 = n) ∧ (n = 0 → n0 = 0 ∧ ∀ k ∈ C, (lookC came k).1 = 0)
  | [], n0, n, h => by
    unfold nextG at h
    injection h with h
    exact ⟨(fun k hk => by cases hk), .inl h.symm, fun e => ⟨h.trans e, (fun k hk => by cases hk)⟩⟩
  | k :: r, n0, n, h => by
    unfold nextG at h
    by_cases h1 : (lookC came k).2 = true
    · rw [if_pos h1] at h
      obtain ⟨a, b, c⟩ := nextG_some h
      refine ⟨fun k' hk => ?_, ?_, fun e => ?_⟩
      · rcases List.mem_cons.1 hk with e | e
        · rw [e]; exact h1
        · exact a k' e
      · rcases b with b | ⟨k', x, y⟩
        · by_cases h0 : n0 = 0
          · rw [if_pos h0] at b; exact .inr ⟨k, by simp, b.symm⟩
          · rw [if_neg h0] at b; exact .inl b
        · exact .inr ⟨k', by simp [x], y⟩
      · obtain ⟨x, y⟩ := c e
        by_cases h0 : n0 = 0
        · rw [if_pos h0] at x
          refine ⟨h0, fun k' hk => ?_⟩
          rcases List.mem_cons.1 hk with e | e
          · rw [e]; exact x
          · exact y k' e
        · rw [if_neg h0] at x; exact absurd x h0
    · rw [if_neg h1] at h; cases h

/-- All that came holds. -/
theorem stepsG_holds {m : List Bool} {C : Cl} (hz : ∀ k ∈ C, ∀ l ∈ k, l ≠ 0) (hC : holdsC m C = true) : ∀ {f : Nat} {came : List Int}, (∀ l ∈ came, oneM m l = true) → (∀ l ∈ (stepsG C f came).1, oneM m l = true) ∧ (stepsG C f came).2 = true
  | 0, came, h => by unfold stepsG; exact ⟨h, rfl⟩
  | f + 1, came, h => by
    have hk : ∀ k ∈ C, ∃ l ∈ k, oneM m l = true := fun k hk => by
      have := List.all_eq_true.1 hC k hk
      exact List.any_eq_true.1 this
    unfold stepsG
    cases hn : nextC came C with
    | none =>
      exfalso
      obtain ⟨k, a, b⟩ := nextG_none hn
      obtain ⟨l, hl, ho⟩ := hk k a
      have := (lookC_cannot b (hz k a) l hl).2
      have := h (-l) (by simpa using this)
      rw [oneM_neg (hz k a l hl), ho] at this
      cases this
    | some n =>
      simp only
      by_cases h0 : n = 0
      · rw [if_pos h0]; exact ⟨h, rfl⟩
      · rw [if_neg h0]
        obtain ⟨a, b, _⟩ := nextG_some hn
        refine stepsG_holds hz hC (fun l hl => ?_)
        rcases List.mem_append.1 hl with e | e
        · exact h l e
        · obtain rfl : l = n := by simpa using e
          rcases b with b | ⟨k, x, y⟩
          · exact absurd b h0
          · obtain ⟨q, hq, ho⟩ := hk k x
            rcases (lookC_unit (n := l) (hz k x) (Prod.ext y (a k x)) h0 q hq).2 with c | c
            · rw [← c]; exact ho
            · have := h (-q) (by simpa using c)
              rw [oneM_neg (hz k x q hq), ho] at this
              cases this
theorem givenG_holds {m : List Bool} {v : Int} : ∀ {g came : List Int}, (∀ l ∈ g, isL l v = true → oneM m l = true) → (∀ l ∈ came, oneM m l = true) → (∀ l ∈ (givenG v came g).1, oneM m l = true) ∧ (givenG v came g).2 = true
  | [], came, _, h => by unfold givenG; exact ⟨h, rfl⟩
  | x :: r, came, hg, h => by
    unfold givenG
    have hr : ∀ l ∈ r, isL l v = true → oneM m l = true := fun l hl => hg l (by simp [hl])
    by_cases h1 : (!isL x v || came.elem x) = true
    · rw [if_pos h1]; exact givenG_holds hr h
    · rw [if_neg h1]
      have hi : isL x v = true := by
        cases hi : isL x v
        · rw [hi] at h1; simp at h1
        · rfl
      have hx := hg x (by simp) hi
      by_cases h2 : came.elem (-x) = true
      · exfalso
        have := h (-x) (by simpa using h2)
        rw [oneM_neg (isL_ne hi).1, hx] at this
        cases this
      · rw [if_neg h2]
        refine givenG_holds hr (fun l hl => ?_)
        rcases List.mem_append.1 hl with e | e
        · exact h l e
        · obtain rfl : l = x := by simpa using e
          exact hx
theorem units_sound {m : List Bool} {v : Int} {C : Cl} {g : List Int} (hmay : mayC v C = true) (hC : holdsC m C = true) (hg : ∀ l ∈ g, isL l v = true → oneM m l = true) : (∀ l ∈ (unitsC v C g).1, oneM m l = true) ∧ (unitsC v C g).2 = true := by
  unfold unitsC
  rw [if_pos hmay]
  obtain ⟨a, b⟩ := givenG_holds (came := []) hg (by simp)
  cases h : givenG v [] g with
  | mk c o =>
    rw [h] at a b
    simp only at a b
    subst b
    exact stepsG_holds (mayC_ne hmay) hC a

/-- No literal came beside its not. -/
def Cons (came : List Int) : Prop := ∀ l ∈ came, l ≠ 0 ∧ -l ∉ came
theorem Cons.add {came : List Int} {n : Int} (h : Cons came) (hn : n ≠ 0) (h2 : came.elem (-n) = false) : Cons (came ++ [n]) := by
  have h3 : -n ∉ came := by simpa using h2
  intro l hl
  rcases List.mem_append.1 hl with e | e
  · refine ⟨(h l e).1, fun c => ?_⟩
    rcases List.mem_append.1 c with c | c
    · exact (h l e).2 c
    · have : -l = n := by simpa using c
      exact h3 (by rw [← this, Int.neg_neg]; exact e)
  · obtain rfl : l = n := by simpa using e
    refine ⟨hn, fun c => ?_⟩
    rcases List.mem_append.1 c with c | c
    · exact h3 c
    · have : -l = l := by simpa using c
      omega
theorem givenG_cons {v : Int} : ∀ {g came : List Int}, Cons came → Cons (givenG v came g).1
  | [], came, h => by unfold givenG; exact h
  | x :: r, came, h => by
    unfold givenG
    by_cases h1 : (!isL x v || came.elem x) = true
    · rw [if_pos h1]; exact givenG_cons h
    · rw [if_neg h1]
      have hi : isL x v = true := by
        cases hi : isL x v
        · rw [hi] at h1; simp at h1
        · rfl
      by_cases h2 : came.elem (-x) = true
      · rw [if_pos h2]; exact h
      · rw [if_neg h2]
        exact givenG_cons (h.add (isL_ne hi).1 (by simpa using h2))
/-- Where it ends with yes nothing follows more; what had come is in it; it is consistent. -/
theorem stepsG_end {C : Cl} (hz : ∀ k ∈ C, ∀ l ∈ k, l ≠ 0) : ∀ {f : Nat} {came : List Int}, openN C came < f → Cons came → (stepsG C f came).2 = true → nextC (stepsG C f came).1 C = some 0 ∧ (∀ l ∈ came, l ∈ (stepsG C f came).1) ∧ Cons (stepsG C f came).1
  | 0, _, h, _, _ => by omega
  | f + 1, came, hf, hc, h => by
    unfold stepsG at h ⊢
    cases hn : nextC came C with
    | none => rw [hn] at h; cases h
    | some n =>
      rw [hn] at h
      simp only at h ⊢
      by_cases h0 : n = 0
      · rw [if_pos h0]; subst h0
        exact ⟨hn, fun l hl => hl, hc⟩
      · rw [if_neg h0] at h ⊢
        obtain ⟨a, b, c⟩ := nextC_open hz hn h0
        have := openN_less a b
        obtain ⟨x, y, z⟩ := stepsG_end hz (f := f) (came := came ++ [n]) (by omega) (hc.add h0 c) h
        exact ⟨x, fun l hl => y l (by simp [hl]), z⟩
/-- What follows of some clauses is in whatever is closed under them. -/
theorem stepsG_in {C D : Cl} {b : List Int} (hz : ∀ k ∈ D, ∀ l ∈ k, l ≠ 0) (hCD : ∀ k ∈ C, k ∈ D) (hb : Cons b) (he : nextC b D = some 0) : ∀ {f : Nat} {came : List Int}, (∀ l ∈ came, l ∈ b) → (∀ l ∈ (stepsG C f came).1, l ∈ b) ∧ (stepsG C f came).2 = true
  | 0, came, h => by unfold stepsG; exact ⟨h, rfl⟩
  | f + 1, came, h => by
    obtain ⟨e1, _, e3⟩ := nextG_some he
    have e3 := (e3 rfl).2
    have hin : ∀ {l : Int}, came.elem l = true → l ∈ b := fun hl => h _ (by simpa using hl)
    unfold stepsG
    cases hn : nextC came C with
    | none =>
      exfalso
      obtain ⟨k, x, y⟩ := nextG_none hn
      have hzk := hz k (hCD k x)
      have hl := lookC_cannot y hzk
      -- in b no literal of k came, and each one's not did
      have h1 := e1 k (hCD k x)
      have hno : ∀ l ∈ k, b.elem l = false := fun l hl' => by
        have := hin (hl l hl').2
        have := (hb _ this).2
        rw [Int.neg_neg] at this
        simpa using this
      rcases lookG_eq hzk hno h1 with q | q | ⟨l, q, r⟩
      · cases q
      · exact q rfl
      · have := hin (hl l q).2
        rw [show b.elem (-l) = true by simpa using this] at r
        cases r
    | some n =>
      simp only
      by_cases h0 : n = 0
      · rw [if_pos h0]; exact ⟨h, rfl⟩
      · rw [if_neg h0]
        obtain ⟨a, c, _⟩ := nextG_some hn
        refine stepsG_in hz hCD hb he (fun l hl => ?_)
        rcases List.mem_append.1 hl with e | e
        · exact h l e
        · obtain rfl : l = n := by simpa using e
          rcases c with c | ⟨k, x, y⟩
          · exact absurd c h0
          · have hzk := hz k (hCD k x)
            have hu := lookC_unit (n := l) hzk (Prod.ext y (a k x)) h0
            have hlk : l ∈ k := (lookC_open (n := l) hzk (Prod.ext y (a k x)) h0).1
            refine Classical.byContradiction fun hlb => ?_
            have h1 := e1 k (hCD k x)
            have h2 := e3 k (hCD k x)
            have hno : ∀ q ∈ k, b.elem q = false := fun q hq => by
              rcases (hu q hq).2 with c | c
              · subst c; simpa using hlb
              · have := hin c
                have := (hb _ this).2
                rw [Int.neg_neg] at this
                simpa using this
            have key : ∀ {s : List Int} {o : Int}, (∀ q ∈ s, q ≠ 0) → (∀ q ∈ s, b.elem q = false) → (∀ q ∈ s, q = l ∨ b.elem (-q) = true) → (o = 0 ∨ o = l) → (l ∈ s → b.elem (-l) = false) → lookG b o false s = ((if o = l ∨ (l ∈ s ∧ b.elem (-l) = false) then l else 0), decide (o = l ∨ (l ∈ s ∧ b.elem (-l) = false))) := by
              intro s
              induction s with
              | nil =>
                intro o _ _ _ ho _
                unfold lookG
                rcases ho with ho | ho
                · subst ho
                  simp [Ne.symm h0]
                · subst ho
                  simp [h0]
              | cons q r ih =>
                intro o z1 z2 z3 ho hl'
                unfold lookG
                rw [if_neg (by rw [z2 q (by simp)]; simp)]
                by_cases w : b.elem (-q) = true
                · rw [if_pos w, ih (fun y hy => z1 y (by simp [hy])) (fun y hy => z2 y (by simp [hy])) (fun y hy => z3 y (by simp [hy])) ho (fun hy => hl' (by simp [hy]))]
                  have : (l ∈ q :: r ∧ b.elem (-l) = false) ↔ (l ∈ r ∧ b.elem (-l) = false) := by
                    constructor
                    · rintro ⟨x1, x2⟩
                      rcases List.mem_cons.1 x1 with x1 | x1
                      · subst x1; rw [w] at x2; cases x2
                      · exact ⟨x1, x2⟩
                    · rintro ⟨x1, x2⟩
                      exact ⟨by simp [x1], x2⟩
                  simp only [this]
                · rw [if_neg w]
                  have hq : q = l := by
                    rcases z3 q (by simp) with e | e
                    · exact e
                    · exact absurd e w
                  subst hq
                  have hm : (false || (decide (o ≠ 0) && decide (o ≠ q))) = false := by
                    rcases ho with ho | ho
                    · subst ho; simp
                    · subst ho; simp
                  rw [hm, ih (fun y hy => z1 y (by simp [hy])) (fun y hy => z2 y (by simp [hy])) (fun y hy => z3 y (by simp [hy])) (.inr rfl) (fun hy => by simpa using w)]
                  have w' : b.elem (-q) = false := by simpa using w
                  rw [if_pos (.inl rfl), if_pos (.inr ⟨by simp, w'⟩)]
                  have : decide (o = q ∨ q ∈ q :: r ∧ b.elem (-q) = false) = true := decide_eq_true (.inr ⟨by simp, w'⟩)
                  rw [this]
                  simp
            by_cases w : b.elem (-l) = true
            · -- each literal's not is in b: it cannot hold
              rcases lookG_eq hzk hno h1 with q | q | ⟨q, q1, q2⟩
              · cases q
              · exact q rfl
              · rcases (hu q q1).2 with c | c
                · subst c; rw [w] at q2; cases q2
                · rw [show b.elem (-q) = true by simpa using hin c] at q2
                  cases q2
            · have w' : b.elem (-l) = false := by simpa using w
              have kk := key (s := k) (o := 0) hzk hno (fun q hq => (hu q hq).2.imp id (fun c => by simpa using hin c)) (.inl rfl) (fun _ => w')
              have : (lookC b k).1 = l := by
                unfold lookC
                rw [kk, if_pos (.inr ⟨hlk, w'⟩)]
              rw [h2] at this
              exact h0 this.symm
theorem units_more {v : Int} {C D : Cl} {g : List Int} (hD : mayC v D = true) (hCD : ∀ k ∈ C, k ∈ D) (h : (unitsC v D g).2 = true) : (unitsC v C g).2 = true ∧ ∀ l ∈ (unitsC v C g).1, l ∈ (unitsC v D g).1 := by
  have hC : mayC v C = true := by
    obtain ⟨a, b⟩ := mayC_parts hD
    unfold mayC
    rw [a, Bool.true_and, List.all_eq_true]
    intro k hk
    rw [List.all_eq_true]
    exact fun l hl => b k (hCD k hk) l hl
  unfold unitsC at h ⊢
  rw [if_pos hD] at h ⊢
  rw [if_pos hC]
  have hc := givenG_cons (v := v) (g := g) (came := []) (fun l hl => by cases hl)
  cases hg : givenG v [] g with
  | mk c o =>
    rw [hg] at h hc
    cases o with
    | false => cases h
    | true =>
      simp only at h hc ⊢
      obtain ⟨x, y, z⟩ := stepsG_end (mayC_ne hD) (Nat.lt_succ_self _) hc h
      obtain ⟨p, q⟩ := stepsG_in (C := C) (mayC_ne hD) hCD z x (f := openN C c + 1) y
      exact ⟨q, p⟩
end Cf
end Go.Proofs.Ytmgkgbhkaoflhaa
