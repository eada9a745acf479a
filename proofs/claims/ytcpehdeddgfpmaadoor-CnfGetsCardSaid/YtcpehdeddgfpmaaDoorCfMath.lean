/-
  Clauses as lists of numbers: which literals may be, which hold in a model, what a clause looks like behind literals that came, what follows by units. Plain facts.
-/
import Derived.Lib.Hide
namespace Go.Proofs.YtcpehdeddgfpmaaDoor
namespace Cf

abbrev Cl := List (List Int)
def isL (l v : Int) : Bool := decide (l ≠ 0) && (decide (-v ≤ l) && decide (l ≤ v))
def mayV (v : Int) : Bool := decide (0 ≤ v) && decide (v ≤ 1000000)
def mayC (v : Int) (C : Cl) : Bool := mayV v && C.all fun k => k.all fun l => isL l v
/-- Does a literal hold in a model? -/
def oneM (m : List Bool) (l : Int) : Bool :=
  if 0 < l then (if l.toNat < m.length then m.getD l.toNat false else false)
  else if l < 0 then (if (-l).toNat < m.length then !m.getD (-l).toNat false else true)
  else false
def holdsC (m : List Bool) (C : Cl) : Bool := C.all fun k => k.any (oneM m)

/-- What a clause looks like: (the one literal that is not decided, or 0; whether it can hold still). -/
def lookG (came : List Int) (o : Int) (many : Bool) : List Int → Int × Bool
  | [] => if many then (0, true) else (o, decide (o ≠ 0))
  | l :: r => if came.elem l then (0, true) else if came.elem (-l) then lookG came o many r
    else lookG came l (many || (decide (o ≠ 0) && decide (o ≠ l))) r
def lookC (came : List Int) (k : List Int) : Int × Bool := lookG came 0 false k

/-- One way through all clauses: none, if one cannot hold; else the literal that follows next (0: none). -/
def nextG (came : List Int) (n : Int) : Cl → Option Int
  | [] => some n
  | k :: r => if (lookC came k).2 then nextG came (if n = 0 then (lookC came k).1 else n) r else none
def nextC (came : List Int) (C : Cl) : Option Int := nextG came 0 C

/-- The given ones. (came, whether all of them came) -/
def givenG (v : Int) : List Int → List Int → List Int × Bool
  | came, [] => (came, true)
  | came, l :: r => if !isL l v || came.elem l then givenG v came r else if came.elem (-l) then (came, false) else givenG v (came ++ [l]) r

/-- What follows, at most f literals more. -/
def stepsG (C : Cl) : Nat → List Int → List Int × Bool
  | 0, came => (came, true)
  | f + 1, came => match nextC came C with
    | none => (came, false)
    | some n => if n = 0 then (came, true) else stepsG C f (came ++ [n])

/-- How many literals of the clauses stand open. -/
def openN (C : Cl) (came : List Int) : Nat := (C.flatten.filter fun l => !came.elem l).length
def unitsC (v : Int) (C : Cl) (given : List Int) : List Int × Bool :=
  if mayC v C then (match givenG v [] given with
    | (came, true) => stepsG C (openN C came + 1) came
    | (came, false) => (came, false)) else ([], false)

theorem lookG_zero {came : List Int} : ∀ {k : List Int} {o : Int} {many : Bool} {n : Int}, (∀ l ∈ k, l ≠ 0) → lookG came o many k = (n, true) → n ≠ 0 → (n ∈ k ∨ n = o) ∧ (n = o ∨ (came.elem n = false ∧ came.elem (-n) = false))
  | [], o, many, n, _, h, hn => by
    unfold lookG at h
    cases many
    · simp only [Bool.false_eq_true, if_false, Prod.mk.injEq] at h
      exact ⟨.inr h.1.symm, .inl h.1.symm⟩
    · simp only [if_true, Prod.mk.injEq] at h
      exact absurd h.1.symm hn
  | l :: r, o, many, n, hz, h, hn => by
    unfold lookG at h
    by_cases h1 : came.elem l = true
    · rw [if_pos h1] at h
      simp only [Prod.mk.injEq] at h
      exact absurd h.1.symm hn
    · rw [if_neg h1] at h
      by_cases h2 : came.elem (-l) = true
      · rw [if_pos h2] at h
        obtain ⟨a, b⟩ := lookG_zero (fun x hx => hz x (by simp [hx])) h hn
        exact ⟨a.imp (fun x => by simp [x]) id, b⟩
      · rw [if_neg h2] at h
        obtain ⟨a, b⟩ := lookG_zero (fun x hx => hz x (by simp [hx])) h hn
        have h1' : came.elem l = false := by simpa using h1
        have h2' : came.elem (-l) = false := by simpa using h2
        rcases b with b | b
        · subst b
          exact ⟨.inl (by simp), .inr ⟨h1', h2'⟩⟩
        · rcases a with a | a
          · exact ⟨.inl (by simp [a]), .inr b⟩
          · exact ⟨.inl (by simp [a]), .inr b⟩

theorem lookC_open {came k : List Int} {n : Int} (hz : ∀ l ∈ k, l ≠ 0) (h : lookC came k = (n, true)) (hn : n ≠ 0) : n ∈ k ∧ came.elem n = false ∧ came.elem (-n) = false := by
  obtain ⟨a, b⟩ := lookG_zero hz h hn
  rcases a with a | a
  · exact ⟨a, b.resolve_left hn⟩
  · exact absurd a hn

theorem nextG_open {came : List Int} : ∀ {C : Cl} {n0 n : Int}, (∀ k ∈ C, ∀ l ∈ k, l ≠ 0) → nextG came n0 C = some n → n ≠ 0 → n = n0 ∨ ((∃ k ∈ C, n ∈ k) ∧ came.elem n = false ∧ came.elem (-n) = false)
  | [], n0, n, _, h, _ => by
    unfold nextG at h
    injection h with h
    exact .inl h.symm
  | k :: r, n0, n, hz, h, hn => by
    unfold nextG at h
    by_cases h1 : (lookC came k).2 = true
    · rw [if_pos h1] at h
      rcases nextG_open (fun k hk => hz k (by simp [hk])) h hn with e | ⟨⟨k', hk', hn'⟩, b⟩
      · by_cases h0 : n0 = 0
        · rw [if_pos h0] at e
          obtain ⟨a, b⟩ := lookC_open (n := n) (hz k (by simp)) (by rw [e]; exact Prod.ext rfl h1) hn
          exact .inr ⟨⟨k, by simp, a⟩, b⟩
        · rw [if_neg h0] at e
          exact .inl e
      · exact .inr ⟨⟨k', by simp [hk'], hn'⟩, b⟩
    · rw [if_neg h1] at h
      cases h

theorem nextC_open {came : List Int} {C : Cl} {n : Int} (hz : ∀ k ∈ C, ∀ l ∈ k, l ≠ 0) (h : nextC came C = some n) (hn : n ≠ 0) : (∃ k ∈ C, n ∈ k) ∧ came.elem n = false ∧ came.elem (-n) = false := by
  rcases nextG_open hz h hn with e | e
  · exact absurd e hn
  · exact e

theorem filter_le {p q : Int → Bool} : ∀ {F : List Int}, (∀ x ∈ F, q x = true → p x = true) → (F.filter q).length ≤ (F.filter p).length
  | [], _ => by simp
  | x :: r, h => by
    have ih := filter_le (F := r) fun y hy => h y (by simp [hy])
    simp only [List.filter_cons]
    cases hq : q x with
    | true =>
      rw [if_pos rfl, if_pos (h x (by simp) hq)]
      simpa using ih
    | false =>
      rw [if_neg (by simp)]
      split
      · simp only [List.length_cons]; omega
      · exact ih
theorem filter_lt {p q : Int → Bool} {n : Int} : ∀ {F : List Int}, (∀ x ∈ F, q x = true → p x = true) → n ∈ F → p n = true → q n = false → (F.filter q).length < (F.filter p).length
  | [], _, hn, _, _ => by cases hn
  | x :: r, h, hn, hp, hq => by
    simp only [List.filter_cons]
    by_cases e : x = n
    · subst e
      rw [if_neg (by rw [hq]; simp), if_pos hp]
      have := filter_le (F := r) (p := p) (q := q) fun y hy => h y (by simp [hy])
      simp only [List.length_cons]
      omega
    · have hr : n ∈ r := by
        rcases List.mem_cons.1 hn with c | c
        · exact absurd c.symm e
        · exact c
      have ih := filter_lt (F := r) (fun y hy => h y (by simp [hy])) hr hp hq
      cases hx : q x with
      | true =>
        rw [if_pos rfl, if_pos (h x (by simp) hx)]
        simpa using ih
      | false =>
        rw [if_neg (by simp)]
        split
        · simp only [List.length_cons]; omega
        · exact ih
theorem openN_less {C : Cl} {came : List Int} {n : Int} (hk : ∃ k ∈ C, n ∈ k) (hc : came.elem n = false) : openN C (came ++ [n]) < openN C came := by
  unfold openN
  have hin : n ∈ C.flatten := by
    obtain ⟨k, h1, h2⟩ := hk
    exact List.mem_flatten.2 ⟨k, h1, h2⟩
  refine filter_lt (n := n) (fun x _ hx => ?_) hin (by rw [hc]; rfl) (by simp)
  cases hcx : came.elem x with
  | false => rfl
  | true =>
    have : (came ++ [n]).elem x = true := by
      have : x ∈ came := by simpa using hcx
      simp [this]
    rw [this] at hx
    simp at hx

theorem openN_le (C : Cl) (came : List Int) : openN C came ≤ C.flatten.length := by
  unfold openN
  exact List.length_filter_le _ _

/-- The steps, whatever they may be at most. -/
theorem stepsG_more {C : Cl} (hz : ∀ k ∈ C, ∀ l ∈ k, l ≠ 0) : ∀ {f g : Nat} {came : List Int}, openN C came < f → openN C came < g → stepsG C f came = stepsG C g came
  | 0, _, _, h, _ => by omega
  | _, 0, _, _, h => by omega
  | f + 1, g + 1, came, hf, hg => by
    unfold stepsG
    cases h : nextC came C with
    | none => rfl
    | some n =>
      simp only
      by_cases h0 : n = 0
      · rw [if_pos h0, if_pos h0]
      · rw [if_neg h0, if_neg h0]
        obtain ⟨a, b, _⟩ := nextC_open hz h h0
        have := openN_less a b
        exact stepsG_more hz (by omega) (by omega)
/-- What follows, from where it stands. -/
def restU (C : Cl) (came : List Int) : List Int × Bool := stepsG C (openN C came + 1) came
theorem restU_none {C : Cl} {came : List Int} (h : nextC came C = none) : restU C came = (came, false) := by
  unfold restU stepsG
  rw [h]
theorem restU_zero {C : Cl} {came : List Int} (h : nextC came C = some 0) : restU C came = (came, true) := by
  unfold restU stepsG
  rw [h]; simp
theorem restU_some {C : Cl} {came : List Int} {n : Int} (hz : ∀ k ∈ C, ∀ l ∈ k, l ≠ 0) (h : nextC came C = some n) (h0 : n ≠ 0) : restU C came = restU C (came ++ [n]) := by
  obtain ⟨a, b, _⟩ := nextC_open hz h h0
  have := openN_less a b
  unfold restU
  conv => lhs; unfold stepsG
  rw [h]
  simp only
  rw [if_neg h0]
  exact stepsG_more hz (by omega) (by omega)
end Cf
end Go.Proofs.YtcpehdeddgfpmaaDoor
