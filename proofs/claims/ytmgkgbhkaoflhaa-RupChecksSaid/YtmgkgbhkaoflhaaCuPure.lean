/-
  What is left of clauses, and how it goes with what follows: plain facts.
-/
import Derived.Test.YtmgkgbhkaoflhaaCuCome
import Derived.Test.YtmgkgbhkaoflhaaA1
namespace Go.Proofs.Ytmgkgbhkaoflhaa
namespace Cf
set_option maxHeartbeats 1000000

/-- How many literals of a clause there are whose nots didn't come, each once. -/
def cnt (T : List Int) : List Int → List Int → Nat
  | _, [] => 0
  | seen, l :: r => (if seen.elem l || T.elem (-l) then 0 else 1) + cnt T (l :: seen) r
theorem cnt_seen {T : List Int} : ∀ {k s1 s2 : List Int}, (∀ l ∈ k, s1.elem l = s2.elem l) → cnt T s1 k = cnt T s2 k
  | [], _, _, _ => rfl
  | l :: r, s1, s2, h => by
    unfold cnt
    rw [h l (by simp), cnt_seen (k := r) (s1 := l :: s1) (s2 := l :: s2) (fun x hx => by simp only [List.elem_cons]; rw [h x (by simp [hx])])]
theorem cnt_app {T : List Int} {l : Int} : ∀ {k seen : List Int}, cnt T seen (k ++ [l]) = cnt T seen k + (if seen.elem l || k.elem l || T.elem (-l) then 0 else 1)
  | [], seen => by simp [cnt]
  | x :: r, seen => by
    have ih := cnt_app (T := T) (l := l) (k := r) (seen := x :: seen)
    show (if seen.elem x || T.elem (-x) then 0 else 1) + cnt T (x :: seen) (r ++ [l]) = _
    rw [ih]
    have e : ((x :: seen).elem l || r.elem l || T.elem (-l)) = (seen.elem l || (x :: r).elem l || T.elem (-l)) := by
      simp only [List.elem_cons]
      cases seen.elem l <;> cases (l == x) <;> simp
    rw [e]
    show _ = (if seen.elem x || T.elem (-x) then 0 else 1) + cnt T (x :: seen) r + _
    omega
/-- With one that came more. -/
theorem cnt_come {T : List Int} {l : Int} (hl : T.elem l = false) : ∀ {k seen : List Int}, cnt T seen k = cnt (T ++ [l]) seen k + (if k.elem (-l) && !seen.elem (-l) then 1 else 0)
  | [], seen => by simp [cnt]
  | x :: r, seen => by
    have ih := cnt_come (T := T) (l := l) hl (k := r) (seen := x :: seen)
    show (if seen.elem x || T.elem (-x) then 0 else 1) + cnt T (x :: seen) r = (if seen.elem x || (T ++ [l]).elem (-x) then 0 else 1) + cnt (T ++ [l]) (x :: seen) r + _
    rw [ih, elem_app]
    by_cases e : -x = l
    · have ex : x = -l := by omega
      subst ex
      have e1 : - -l = l := by omega
      rw [e1, hl]
      simp only [List.elem_cons, beq_self_eq_true, Bool.or_true, Bool.true_and]
      cases seen.elem (-l) <;> simp <;> omega
    · have e2 : (-x == l) = false := by simpa using e
      have e3 : (-l == x) = false := by simp; omega
      rw [e2]
      simp only [List.elem_cons, e3, Bool.or_false]
      omega
theorem el_mem {l : Int} {k : List Int} (h : l ∈ k) : k.elem l = true := by simpa using h
theorem mem_el {l : Int} {k : List Int} (h : k.elem l = true) : l ∈ k := by simpa using h
theorem el_tail {x l : Int} {r : List Int} (h : (x :: r).elem l = true) (e : l ≠ x) : r.elem l = true := el_mem ((List.mem_cons.1 (mem_el h)).resolve_left e)
theorem el_seen {x l : Int} {r : List Int} (h : r.elem l = false) (e : l ≠ x) : (x :: r).elem l = false := by
  cases hh : (x :: r).elem l with
  | false => rfl
  | true => rw [el_tail hh e] at h; cases h
theorem cnt_pos {T : List Int} {l : Int} : ∀ {k seen : List Int}, k.elem l = true → seen.elem l = false → T.elem (-l) = false → 0 < cnt T seen k
  | [], _, h, _, _ => by simp at h
  | x :: r, seen, h, hs, ht => by
    unfold cnt
    by_cases e : l = x
    · subst e
      rw [hs, ht]; simp; omega
    · have := cnt_pos (T := T) (k := r) (seen := x :: seen) (el_tail h e) (el_seen hs e) ht
      omega
theorem cnt_zero {T : List Int} : ∀ {k seen : List Int}, cnt T seen k = 0 → ∀ l ∈ k, seen.elem l = false → T.elem (-l) = true
  | k, seen, h, l, hl, hs => by
    cases ht : T.elem (-l) with
    | true => rfl
    | false =>
      have := cnt_pos (T := T) (k := k) (seen := seen) (el_mem hl) hs ht
      omega
/-- Two that are left are one, where one is left. -/
theorem cnt_one {T : List Int} : ∀ {k seen : List Int}, cnt T seen k ≤ 1 → ∀ l m, k.elem l = true → k.elem m = true → seen.elem l = false → seen.elem m = false → T.elem (-l) = false → T.elem (-m) = false → l = m
  | [], _, _, _, _, h, _, _, _, _, _ => by simp at h
  | x :: r, seen, h, l, m, hl, hm, sl, sm, tl, tm => by
    unfold cnt at h
    by_cases e : l = x
    · by_cases e2 : m = x
      · rw [e, e2]
      · subst e
        rw [sl, tl] at h
        simp only [Bool.or_self, Bool.false_eq_true, if_false] at h
        have := cnt_pos (T := T) (k := r) (seen := l :: seen) (el_tail hm e2) (el_seen sm e2) tm
        omega
    · by_cases e2 : m = x
      · subst e2
        rw [sm, tm] at h
        simp only [Bool.or_self, Bool.false_eq_true, if_false] at h
        have := cnt_pos (T := T) (k := r) (seen := m :: seen) (el_tail hl e) (el_seen sl e) tl
        omega
      · exact cnt_one (k := r) (seen := x :: seen) (by omega) l m (el_tail hl e) (el_tail hm e2) (el_seen sl e) (el_seen sm e2) tl tm

/-! ### what a clause looks like -/
def Agree (T : List Int) : Prop := ∀ l, T.elem l = true → T.elem (-l) = false
theorem look_true {T : List Int} : ∀ {k : List Int} {o : Int} {many : Bool}, (∃ l ∈ k, T.elem l = true) → lookG T o many k = (0, true)
  | [], _, _, ⟨l, h, _⟩ => by simp at h
  | x :: r, o, many, ⟨l, h, ht⟩ => by
    unfold lookG
    by_cases hx : T.elem x = true
    · rw [if_pos hx]
    · rw [if_neg hx]
      have hr : ∃ l ∈ r, T.elem l = true := by
        rcases List.mem_cons.1 h with e | e
        · subst e; exact absurd ht hx
        · exact ⟨l, e, ht⟩
      split
      · exact look_true hr
      · exact look_true hr
/-- Where none holds: which one is open. -/
theorem look_open {T : List Int} : ∀ {k : List Int} {o : Int} {many : Bool}, (∀ l ∈ k, T.elem l = false) → (∀ l ∈ k, l ≠ 0) → (many = false ∨ o ≠ 0) →
    ((lookG T o many k).2 = false → o = 0 ∧ ∀ l ∈ k, T.elem (-l) = true) ∧
    ((lookG T o many k).1 ≠ 0 → many = false ∧ (lookG T o many k).2 = true ∧ (o = 0 ∨ o = (lookG T o many k).1) ∧ (o = 0 → (lookG T o many k).1 ∈ k ∧ T.elem (-(lookG T o many k).1) = false) ∧ ∀ l ∈ k, T.elem (-l) = false → l = (lookG T o many k).1)
  | [], o, many, _, _, hmo => by
    unfold lookG
    cases many with
    | true => simp
    | false =>
      simp only [Bool.false_eq_true, if_false, decide_eq_false_iff_not, decide_eq_true_eq, ne_eq, Decidable.not_not]
      exact ⟨fun h => ⟨h, by simp⟩, fun h => ⟨trivial, h, .inr trivial, fun c => absurd c h, by simp⟩⟩
  | x :: r, o, many, hn, hz, hmo => by
    have hx : T.elem x = false := hn x (by simp)
    have hr : ∀ l ∈ r, T.elem l = false := fun l hl => hn l (by simp [hl])
    have hzr : ∀ l ∈ r, l ≠ 0 := fun l hl => hz l (by simp [hl])
    have hx0 : x ≠ 0 := hz x (by simp)
    unfold lookG
    rw [if_neg (by rw [hx]; simp)]
    by_cases h1 : T.elem (-x) = true
    · rw [if_pos h1]
      obtain ⟨a, b⟩ := look_open (o := o) (many := many) hr hzr hmo
      refine ⟨fun h => ⟨(a h).1, fun l hl => ?_⟩, fun h => ?_⟩
      · rcases List.mem_cons.1 hl with e | e
        · rw [e]; exact h1
        · exact (a h).2 l e
      · obtain ⟨b1, b2, b3, b4, b5⟩ := b h
        refine ⟨b1, b2, b3, fun c => ⟨by simp [(b4 c).1], (b4 c).2⟩, fun l hl hlt => ?_⟩
        rcases List.mem_cons.1 hl with e | e
        · rw [e, h1] at hlt; cases hlt
        · exact b5 l e hlt
    · rw [if_neg h1]
      have h1' : T.elem (-x) = false := by simpa using h1
      obtain ⟨a, b⟩ := look_open (o := x) (many := many || (decide (o ≠ 0) && decide (o ≠ x))) hr hzr (.inr hx0)
      refine ⟨fun h => absurd (a h).1 hx0, fun h => ?_⟩
      obtain ⟨b1, b2, b3, b4, b5⟩ := b h
      have hm : many = false := by
        cases many with
        | false => rfl
        | true => simp at b1
      subst hm
      simp only [Bool.false_or, Bool.and_eq_false_iff, decide_eq_false_iff_not, ne_eq, Decidable.not_not] at b1
      have hxe : x = (lookG T x (false || (decide (o ≠ 0) && decide (o ≠ x))) r).1 := b3.resolve_left hx0
      refine ⟨rfl, b2, ?_, fun c => ⟨by rw [← hxe]; simp, by rw [← hxe]; exact h1'⟩, fun l hl hlt => ?_⟩
      · rcases b1 with e | e
        · exact .inl e
        · exact .inr (e.trans hxe)
      · rcases List.mem_cons.1 hl with e | e
        · rw [e]; exact hxe
        · exact b5 l e hlt
/-- Two that are open. -/
theorem look_many {T : List Int} : ∀ {k : List Int} {o : Int}, (lookG T o true k).2 = true ∧ (lookG T o true k).1 = 0
  | [], o => by simp [lookG]
  | x :: r, o => by
    unfold lookG
    split
    · exact ⟨rfl, rfl⟩
    · split
      · exact look_many
      · exact look_many
/-- One is open, and no other: it is found. -/
theorem look_one {T : List Int} {m : Int} (hm0 : m ≠ 0) (hmt : T.elem (-m) = false) : ∀ {k : List Int} {o : Int}, (∀ l ∈ k, T.elem l = false) → (∀ l ∈ k, T.elem (-l) = false → l = m) → (o = 0 ∨ o = m) → (o = m ∨ m ∈ k) → lookG T o false k = (m, true)
  | [], o, _, _, _, h => by
    rcases h with rfl | h
    · simp [lookG, hm0]
    · simp at h
  | x :: r, o, hn, hu, ho, h => by
    unfold lookG
    rw [if_neg (by rw [hn x (by simp)]; simp)]
    by_cases h1 : T.elem (-x) = true
    · rw [if_pos h1]
      refine look_one hm0 hmt (fun l hl => hn l (by simp [hl])) (fun l hl => hu l (by simp [hl])) ho ?_
      rcases h with h | h
      · exact .inl h
      · rcases List.mem_cons.1 h with e | e
        · subst e; rw [hmt] at h1; cases h1
        · exact .inr e
    · rw [if_neg h1]
      have hx : x = m := hu x (by simp) (by simpa using h1)
      have hmm : (false || (decide (o ≠ 0) && decide (o ≠ x))) = false := by
        rcases ho with e | e
        · simp [e]
        · simp [e, hx]
      rw [hmm]
      exact look_one hm0 hmt (fun l hl => hn l (by simp [hl])) (fun l hl => hu l (by simp [hl])) (.inr hx) (.inl hx)
/-- In the words of what is left. -/
theorem look_cnt_none {T k : List Int} (hz : ∀ l ∈ k, l ≠ 0) (hT : Agree T) : (lookC T k).2 = false ↔ cnt T [] k = 0 := by
  constructor
  · intro h
    by_cases ht : ∃ l ∈ k, T.elem l = true
    · unfold lookC at h
      rw [look_true ht] at h
      cases h
    · have hn : ∀ l ∈ k, T.elem l = false := fun l hl => by
        cases e : T.elem l with
        | false => rfl
        | true => exact absurd ⟨l, hl, e⟩ ht
      obtain ⟨_, h2⟩ := (look_open (T := T) (k := k) (o := 0) (many := false) hn hz (.inl rfl)).1 h
      have : ∀ {k seen : List Int}, (∀ l ∈ k, T.elem (-l) = true) → cnt T seen k = 0 := by
        intro k
        induction k with
        | nil => intro _ _; rfl
        | cons x r ih =>
          intro seen h
          unfold cnt
          rw [h x (by simp), ih (fun l hl => h l (by simp [hl]))]
          simp
      exact this h2
  · intro h
    have h2 := cnt_zero h
    have hn : ∀ l ∈ k, T.elem l = false := fun l hl => by
      cases e : T.elem l with
      | false => rfl
      | true =>
        have := hT l e
        rw [h2 l hl (by simp)] at this
        cases this
    have : ∀ {k : List Int}, (∀ l ∈ k, T.elem l = false) → (∀ l ∈ k, T.elem (-l) = true) → lookG T 0 false k = (0, false) := by
      intro k
      induction k with
      | nil => intro _ _; simp [lookG]
      | cons x r ih =>
        intro hn h
        unfold lookG
        rw [if_neg (by rw [hn x (by simp)]; simp), if_pos (h x (by simp))]
        exact ih (fun l hl => hn l (by simp [hl])) (fun l hl => h l (by simp [hl]))
    unfold lookC
    rw [this hn (fun l hl => h2 l hl (by simp))]
theorem look_cnt_unit {T k : List Int} (hz : ∀ l ∈ k, l ≠ 0) (h : (lookC T k).1 ≠ 0) : cnt T [] k ≤ 1 ∧ (∀ l ∈ k, T.elem l = false) := by
  by_cases ht : ∃ l ∈ k, T.elem l = true
  · unfold lookC at h
    rw [look_true ht] at h
    exact absurd rfl h
  · have hn : ∀ l ∈ k, T.elem l = false := fun l hl => by
      cases e : T.elem l with
      | false => rfl
      | true => exact absurd ⟨l, hl, e⟩ ht
    obtain ⟨_, _, _, _, h5⟩ := (look_open (T := T) (k := k) (o := 0) (many := false) hn hz (.inl rfl)).2 h
    have : ∀ {k seen : List Int} (m : Int), (∀ l ∈ k, T.elem (-l) = false → l = m) → cnt T seen k ≤ 1 ∧ (seen.elem m = true → cnt T seen k = 0) := by
      intro k
      induction k with
      | nil => intro _ _ _; simp [cnt]
      | cons x r ih =>
        intro seen m h
        obtain ⟨a, b⟩ := ih (seen := x :: seen) m (fun l hl => h l (by simp [hl]))
        unfold cnt
        by_cases e : T.elem (-x) = true
        · rw [e]
          simp only [Bool.or_true, if_true, Nat.zero_add]
          exact ⟨a, fun hs => b (el_mem (List.mem_cons_of_mem _ (mem_el hs)))⟩
        · have hx : x = m := h x (by simp) (by simpa using e)
          have hb := b (el_mem (by rw [hx]; simp))
          rw [hb]
          refine ⟨by split <;> omega, fun hs => ?_⟩
          rw [hx, hs]
          simp
    exact ⟨(this _ h5).1, hn⟩
/-- The one that is left, and did not come: it is what follows of the clause. -/
theorem look_unit_is {T k : List Int} {m : Int} (hz : ∀ l ∈ k, l ≠ 0) (hm : m ∈ k) (h1 : T.elem m = false) (h2 : T.elem (-m) = false) (hc : cnt T [] k ≤ 1) (hT : Agree T) : lookC T k = (m, true) := by
  have hu : ∀ l ∈ k, T.elem (-l) = false → l = m := fun l hl ht => cnt_one hc l m (el_mem hl) (el_mem hm) rfl rfl ht h2
  refine look_one (hz m hm) h2 (fun l hl => ?_) hu (.inl rfl) (.inr hm)
  cases e : T.elem l with
  | false => rfl
  | true =>
    have e2 := hT l e
    rw [hu l hl e2, h1] at e
    cases e
end Cf
end Go.Proofs.Ytmgkgbhkaoflhaa
