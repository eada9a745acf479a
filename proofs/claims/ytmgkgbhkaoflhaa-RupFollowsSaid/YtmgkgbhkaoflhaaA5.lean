/-
What follows by units, said by sets of literals that are closed. Plain facts.
What the checker keeps, as plain data, and what holds of it while literals come. Plain facts.
The checker's steps, as plain facts: a clause's literals change places, it watches another one, one more is gone through.
-/
import Derived.Test.YtmgkgbhkaoflhaaA2
import Derived.Test.YtmgkgbhkaoflhaaCuPure
namespace Go.Proofs.Ytmgkgbhkaoflhaa
namespace Rw
open Cf Rp

/-- A set of literals that is closed under clauses. -/
structure Shut (C : Cl) (A : Int → Prop) : Prop where
  one : ∀ x, A x → ¬ A (-x)
  unit : ∀ k ∈ C, ∀ l ∈ k, (∀ x ∈ k, x ≠ l → A (-x)) → A l
  can : ∀ k ∈ C, ¬ ∀ x ∈ k, A (-x)
def Ent (C : Cl) (g : List Int) (x : Int) : Prop := ∀ A, Shut C A → (∀ l ∈ g, A l) → A x
def Bad (C : Cl) (g : List Int) : Prop := ∀ A, Shut C A → (∀ l ∈ g, A l) → False
theorem Shut.less {C D : Cl} {A : Int → Prop} (h : Shut D A) (hs : ∀ k ∈ C, k ∈ D) : Shut C A :=
  ⟨h.one, fun k hk => h.unit k (hs k hk), fun k hk => h.can k (hs k hk)⟩
theorem Ent.more {C D : Cl} {g : List Int} {x : Int} (h : Ent C [] x) (hs : ∀ k ∈ C, k ∈ D) : Ent D g x := fun A hA _ => h A (hA.less hs) fun l hl => by cases hl
theorem Bad.more {C D : Cl} {g : List Int} (h : Bad C []) (hs : ∀ k ∈ C, k ∈ D) : Bad D g := fun A hA _ => h A (hA.less hs) fun l hl => by cases hl
theorem given_shut {v : Int} {A : Int → Prop} (hA : ∀ x, A x → ¬ A (-x)) : ∀ {g came : List Int}, (∀ l ∈ came, A l) → (∀ l ∈ g, A l) → (givenG v came g).2 = true ∧ ∀ l ∈ (givenG v came g).1, A l
  | [], came, hc, _ => ⟨rfl, hc⟩
  | x :: r, came, hc, hg => by
    rw [givenG]
    split
    · exact given_shut hA hc fun l hl => hg l (List.mem_cons_of_mem _ hl)
    · split
      · rename_i h2
        have h3 : -x ∈ came := by simpa using h2
        exact absurd (hc _ h3) (hA x (hg x (by simp)))
      · refine given_shut hA (fun l hl => ?_) fun l hl => hg l (List.mem_cons_of_mem _ hl)
        rcases List.mem_append.1 hl with hl | hl
        · exact hc l hl
        · simp at hl
          subst hl
          exact hg _ (by simp)
theorem steps_shut {C : Cl} {A : Int → Prop} (hz : ∀ k ∈ C, ∀ l ∈ k, l ≠ 0) (hA : Shut C A) : ∀ {f : Nat} {came : List Int}, (∀ l ∈ came, A l) → (stepsG C f came).2 = true
  | 0, came, _ => rfl
  | f + 1, came, hc => by
    rw [stepsG]
    cases hn : nextC came C with
    | none =>
      obtain ⟨k, hk, hd⟩ := nextG_none hn
      refine absurd (fun x hx => ?_) (hA.can k hk)
      have := (lookC_cannot hd (hz k hk) x hx).2
      exact hc _ (by simpa using this)
    | some n =>
      simp only
      by_cases h0 : n = 0
      · rw [if_pos h0]
      · rw [if_neg h0]
        refine steps_shut hz hA fun l hl => ?_
        rcases List.mem_append.1 hl with hl | hl
        · exact hc l hl
        · simp at hl
          subst hl
          obtain ⟨h1, h2, _⟩ := nextG_some hn
          rcases h2 with e | ⟨k, hk, e⟩
          · exact absurd e h0
          · have e2 : lookC came k = (l, true) := Prod.ext e (h1 k hk)
            have hm := (lookC_open (hz k hk) e2 h0).1
            refine hA.unit k hk l hm fun x hx hne => ?_
            have := (lookC_unit (hz k hk) e2 h0 x hx).2.resolve_left hne
            exact hc _ (by simpa using this)
theorem units_bad {v : Int} {C : Cl} {g : List Int} (hm : mayC v C = true) (h : (unitsC v C g).2 = false) : Bad C g := fun A hA hg => by
  obtain ⟨a, b⟩ := given_shut (v := v) (came := []) hA.one (fun l hl => by cases hl) hg
  unfold unitsC at h
  rw [if_pos hm] at h
  cases hc : givenG v [] g with
  | mk c o =>
    rw [hc] at a b h
    have a : o = true := a
    subst a
    have := steps_shut (f := openN C c + 1) (mayC_ne hm) hA b
    rw [this] at h; cases h
theorem bad_units {v : Int} {C : Cl} {g : List Int} (hm : mayC v C = true) (hg : areL v g = true) (h : Bad C g) : (unitsC v C g).2 = false := by
  cases hu : (unitsC v C g).2 with
  | false => rfl
  | true =>
    exfalso
    have hz := mayC_ne hm
    unfold unitsC at hu
    rw [if_pos hm] at hu
    have hco : Cons (givenG v [] g).1 := givenG_cons (fun l hl => by cases hl)
    cases hc : givenG v [] g with
    | mk c o =>
      rw [hc] at hu hco
      cases o with
      | false => cases hu
      | true =>
        have hu : (stepsG C (openN C c + 1) c).2 = true := hu
        obtain ⟨h1, h2, h3⟩ := stepsG_end hz (f := openN C c + 1) (came := c) (by omega) hco hu
        have hin := (given_has hc).2
        generalize (stepsG C (openN C c + 1) c).1 = X at h1 h2 h3
        obtain ⟨n1, _, n3⟩ := nextG_some h1
        have n3 := (n3 rfl).2
        have dead : ∀ k ∈ C, ¬ ∀ x ∈ k, -x ∈ X := fun k hk hx => by
          have hd : lookG X 0 false k = (0, false) := look_dead fun l hl => by
            have h4 := hx l hl
            have h5 := (h3 (-l) h4).2
            rw [Int.neg_neg] at h5
            exact ⟨by simpa using h5, by simpa using h4⟩
          have := n1 k hk
          unfold lookC at this
          rw [hd] at this; cases this
        refine h (fun x => x ∈ X) ⟨fun x hx => (h3 x hx).2, fun k hk l hl hx => ?_, dead⟩ fun l hl => h2 l (hin l hl (List.all_eq_true.1 hg l hl))
        refine Decidable.byContradiction fun hn => ?_
        by_cases hnl : -l ∈ X
        · exact dead k hk fun x hxk => by
            by_cases e : x = l
            · rw [e]; exact hnl
            · exact hx x hxk e
        · have hl0 := hz k hk l hl
          have := look_one (T := X) (m := l) hl0 (by simpa using hnl) (k := k) (o := 0) (fun x hxk => by
            by_cases e : x = l
            · rw [e]; simpa using hn
            · have h5 := (h3 (-x) (hx x hxk e)).2
              rw [Int.neg_neg] at h5
              simpa using h5) (fun x hxk hf => by
            refine Decidable.byContradiction fun e => ?_
            have h4 := hx x hxk e
            rw [show X.elem (-x) = true by simpa using h4] at hf
            cases hf) (.inl rfl) (.inr hl)
          have h0 := n3 k hk
          unfold lookC at h0
          rw [this] at h0
          exact hl0 h0
end Rw
end Go.Proofs.Ytmgkgbhkaoflhaa

namespace Go.Proofs.Ytmgkgbhkaoflhaa
namespace Rw
open Cf Rp

structure PS where
  W : Nat → List Nat
  ids : List Nat
  lit : Nat → List Int
  ax : Nat → Nat
  S : Int → Bool
  T : List Int
  br : Bool
def PS.hol (s : PS) (x : Int) : Bool := s.S x || s.T.elem x
def pl (v : Nat) (l : Int) : Nat := ((v : Int) + l).toNat
def up {α : Type} (f : Nat → α) (i : Nat) (x : α) : Nat → α := fun j => if j = i then x else f j
theorem up_at {α : Type} (f : Nat → α) (i : Nat) (x : α) : up f i x i = x := if_pos rfl
theorem up_ne {α : Type} {f : Nat → α} {i j : Nat} {x : α} (h : j ≠ i) : up f i x j = f j := if_neg h
theorem pl_inj {v : Nat} {x y : Int} (hx : isL x v = true) (hy : isL y v = true) (h : pl v x = pl v y) : x = y := by
  have a := isL_ne hx
  have b := isL_ne hy
  unfold pl at h
  omega
theorem pl_lt {v : Nat} {x : Int} (hx : isL x v = true) : pl v x < 2 * v + 1 := by
  have a := isL_ne hx
  unfold pl
  omega
/-- What the watchers are. -/
structure WI (v : Nat) (s : PS) : Prop where
  sub : ∀ p id, id ∈ s.W p → id ∈ s.ids ∧ ∃ x y r, s.lit id = x :: y :: r ∧ (p = pl v x ∨ p = pl v y)
  nodup : ∀ p, (s.W p).Nodup
  mem : ∀ id ∈ s.ids, ∃ x y r, s.lit id = x :: y :: r ∧ id ∈ s.W (pl v x) ∧ id ∈ s.W (pl v y)
  ok : ∀ id ∈ s.ids, (s.lit id).Nodup ∧ (∀ x ∈ s.lit id, isL x v = true) ∧ 1 ≤ s.ax id ∧ s.ax id < (s.lit id).length
def Two (s : PS) (id : Nat) (x y : Int) : Prop := ∃ r, s.lit id = x :: y :: r ∨ s.lit id = y :: x :: r
/-- What holds while literals come. -/
structure RI (v : Nat) (C : Cl) (g : List Int) (s : PS) (Pr : Nat → Int → Prop) : Prop where
  wi : WI v s
  i0 : ∀ id ∈ s.ids, ∀ x y, Two s id x y → s.S (-x) = true → s.S y = true
  cons : ∀ x, s.hol x = true → s.hol (-x) = false
  ent : ∀ x ∈ s.T, Ent C g x
  entS : ∀ x, s.S x = true → Ent C [] x
  snd : ∀ id ∈ s.ids, ∃ k ∈ C, (∀ x ∈ k, x ∈ s.lit id ∨ s.S (-x) = true) ∧ ∀ x ∈ s.lit id, x ∈ k
  nod : s.T.Nodup ∧ ∀ x ∈ s.T, isL x v = true ∧ s.S x = false
  pr : ∀ id ∈ s.ids, ∀ x y, Two s id x y → Pr id (-x) → s.hol y = true
  prA : ∀ id z, Pr id z → s.hol z = true

section
variable {v : Nat} {C : Cl} {g : List Int} {s : PS} {Pr : Nat → Int → Prop}
theorem RI.weak (h : RI v C g s Pr) {Qr : Nat → Int → Prop} (hq : ∀ id ∈ s.ids, ∀ z, Qr id z → Pr id z) (hA : ∀ id z, Qr id z → s.hol z = true) : RI v C g s Qr :=
  ⟨h.wi, h.i0, h.cons, h.ent, h.entS, h.snd, h.nod, fun id hid x y ht hp => h.pr id hid x y ht (hq id hid _ hp), hA⟩
theorem RI.so (h : RI v C g s Pr) {x : Int} (hx : s.hol x = true) : Ent C g x := by
  unfold PS.hol at hx
  cases hs : s.S x with
  | true => exact (h.entS x hs).more fun k hk => hk
  | false =>
    rw [hs, Bool.false_or] at hx
    exact h.ent x (by simpa using hx)
/-- One that stands alone comes. -/
theorem RI.one (h : RI v C g s Pr) {c : Nat} (hc : c ∈ s.ids) {o : Int} (ho : o ∈ s.lit c) (hx : ∀ x ∈ s.lit c, x ≠ o → s.hol (-x) = true) : Ent C g o := by
  obtain ⟨k, hk, h1, h2⟩ := h.snd c hc
  intro A hA hg
  refine hA.unit k hk o (h2 o ho) fun x hxk hne => ?_
  rcases h1 x hxk with e | e
  · exact h.so (hx x e hne) A hA hg
  · exact ((h.entS _ e).more fun k hk => hk) A hA hg
theorem RI.none (h : RI v C g s Pr) {c : Nat} (hc : c ∈ s.ids) (hx : ∀ x ∈ s.lit c, s.hol (-x) = true) : Bad C g := by
  obtain ⟨k, hk, h1, _⟩ := h.snd c hc
  intro A hA hg
  refine hA.can k hk fun x hxk => ?_
  rcases h1 x hxk with e | e
  · exact h.so (hx x e) A hA hg
  · exact ((h.entS _ e).more fun k hk => hk) A hA hg

def PS.come (s : PS) (x : Int) : PS := if s.hol x then s else { s with T := s.T ++ [x] }
theorem elem_snoc {T : List Int} {l x : Int} : (T ++ [l]).elem x = (T.elem x || (x == l)) := by
  induction T with
  | nil => cases h : x == l <;> simp_all
  | cons a r ih =>
    simp only [List.cons_append, List.elem_cons, ih]
    cases x == a <;> simp
theorem hol_come {x y : Int} : (s.come x).hol y = (s.hol y || (y == x)) := by
  unfold PS.come
  split
  · rename_i h
    by_cases e : y = x
    · rw [e, h]; rfl
    · have : (y == x) = false := by simpa using e
      rw [this, Bool.or_false]
  · show (s.S y || (s.T ++ [x]).elem y) = (s.S y || s.T.elem y || (y == x))
    rw [elem_snoc, Bool.or_assoc]
theorem come_parts {x : Int} : (s.come x).W = s.W ∧ (s.come x).ids = s.ids ∧ (s.come x).lit = s.lit ∧ (s.come x).ax = s.ax ∧ (s.come x).S = s.S ∧ (s.come x).br = s.br := by
  unfold PS.come; split <;> exact ⟨rfl, rfl, rfl, rfl, rfl, rfl⟩
theorem WI.same {s' : PS} (h : WI v s) (h1 : s'.W = s.W) (h2 : s'.ids = s.ids) (h3 : s'.lit = s.lit) (h4 : s'.ax = s.ax) : WI v s' :=
  ⟨by rw [h1, h2, h3]; exact h.sub, by rw [h1]; exact h.nodup, by rw [h1, h2, h3]; exact h.mem, by rw [h2, h3, h4]; exact h.ok⟩
theorem RI.come (h : RI v C g s Pr) {x : Int} (he : Ent C g x) (hn : s.hol (-x) = false) (hx : isL x v = true) : RI v C g (s.come x) Pr := by
  obtain ⟨p1, p2, p3, p4, p5, p6⟩ := come_parts (s := s) (x := x)
  have hx0 := (isL_ne hx).1
  refine ⟨h.wi.same p1 p2 p3 p4, ?_, fun y hy => ?_, fun y hy => ?_, by rw [p5]; exact h.entS, by rw [p2, p3, p5]; exact h.snd, ?_, fun id hid a b ht hp => ?_, fun id z hz => ?_⟩
  · intro id hid a b ht
    rw [p5]
    rw [p2] at hid
    unfold Two at ht
    rw [p3] at ht
    exact h.i0 id hid a b ht
  · rw [hol_come] at hy ⊢
    simp only [Bool.or_eq_true, beq_iff_eq] at hy
    have e1 : (-y == x) = false := by
      rcases hy with e | e
      · cases e2 : (-y == x) with
        | false => rfl
        | true =>
          have e3 : -x = y := by have : -y = x := by simpa using e2
                                 omega
          rw [e3, e] at hn; cases hn
      · simp; omega
    rw [e1, Bool.or_false]
    rcases hy with e | e
    · exact h.cons y e
    · rw [e]; exact hn
  · unfold PS.come at hy
    split at hy
    · exact h.ent y hy
    · rcases List.mem_append.1 hy with hy | hy
      · exact h.ent y hy
      · simp at hy
        rw [hy]; exact he
  · unfold PS.come
    split
    · exact h.nod
    · rename_i hf
      have hf : s.hol x = false := by simpa using hf
      unfold PS.hol at hf
      simp only [Bool.or_eq_false_iff] at hf
      refine ⟨List.nodup_append.2 ⟨h.nod.1, by simp, fun a ha b hb => ?_⟩, fun y hy => ?_⟩
      · simp at hb
        subst hb
        intro e
        subst e
        have := hf.2
        simp [ha] at this
      · rcases List.mem_append.1 hy with hy | hy
        · exact h.nod.2 y hy
        · simp at hy
          subst hy
          exact ⟨hx, hf.1⟩
  · rw [p2] at hid
    unfold Two at ht
    rw [p3] at ht
    rw [hol_come, h.pr id hid a b ht hp]; rfl
  · rw [hol_come, h.prA id z hz]; rfl
/-- What a clause's literals are in another order. -/
theorem RI.perm (h : RI v C g s Pr) {c : Nat} {l : List Int} {a : Nat} {W : Nat → List Nat} (hc : c ∈ s.ids) (hp : l.Perm (s.lit c)) (hw : WI v { s with lit := up s.lit c l, ax := up s.ax c a, W := W }) {Qr : Nat → Int → Prop}
    (h0 : ∀ x y, Two { s with lit := up s.lit c l, ax := up s.ax c a, W := W } c x y → s.S (-x) = true → s.S y = true)
    (h1 : ∀ x y, Two { s with lit := up s.lit c l, ax := up s.ax c a, W := W } c x y → Qr c (-x) → s.hol y = true) (h2 : ∀ id ∈ s.ids, id ≠ c → ∀ z, Qr id z → Pr id z) (h3 : ∀ id z, Qr id z → s.hol z = true) :
    RI v C g { s with lit := up s.lit c l, ax := up s.ax c a, W := W } Qr := by
  have two : ∀ id, id ≠ c → ∀ x y, Two { s with lit := up s.lit c l, ax := up s.ax c a, W := W } id x y → Two s id x y := fun id hne x y ht => by
    unfold Two at ht ⊢
    simp only [up_ne hne] at ht
    exact ht
  refine ⟨hw, fun id hid x y ht hs => ?_, h.cons, h.ent, h.entS, fun id hid => ?_, h.nod, fun id hid x y ht hq => ?_, h3⟩
  · by_cases e : id = c
    · subst e; exact h0 x y ht hs
    · exact h.i0 id hid x y (two id e x y ht) hs
  · by_cases e : id = c
    · subst e
      obtain ⟨k, hk, a1, a2⟩ := h.snd id hid
      refine ⟨k, hk, fun x hx => ?_, fun x hx => ?_⟩
      · show x ∈ up s.lit id l id ∨ _
        rw [up_at]
        exact (a1 x hx).imp (fun e => hp.mem_iff.2 e) fun e => e
      · have hx : x ∈ up s.lit id l id := hx
        rw [up_at] at hx
        exact a2 x (hp.mem_iff.1 hx)
    · obtain ⟨k, hk, a1, a2⟩ := h.snd id hid
      refine ⟨k, hk, ?_, ?_⟩
      · show ∀ x ∈ k, x ∈ up s.lit c l id ∨ _
        rw [up_ne e]; exact a1
      · show ∀ x ∈ up s.lit c l id, _
        rw [up_ne e]; exact a2
  · by_cases e : id = c
    · subst e; exact h1 x y ht hq
    · exact h.pr id hid x y (two id e x y ht) (h2 id hid e _ hq)
end
end Rw
end Go.Proofs.Ytmgkgbhkaoflhaa

namespace Go.Proofs.Ytmgkgbhkaoflhaa
namespace Rw
open Cf Rp

theorem up_self {α : Type} {f : Nat → α} {i : Nat} {x : α} (h : f i = x) : up f i x = f := by
  funext j
  unfold up
  split
  · rename_i e; rw [e, h]
  · rfl
theorem set_perm {l m : Int} : ∀ {r : List Int} {j : Nat}, r[j]? = some m → (m :: r.set j l).Perm (l :: r)
  | [], j, h => by simp at h
  | x :: r, 0, h => by
    simp at h
    subst h
    exact List.Perm.swap _ _ _
  | x :: r, j + 1, h => by
    have ih := set_perm (l := l) (r := r) (j := j) (by simpa using h)
    exact (List.Perm.swap _ _ _).trans ((ih.cons x).trans (List.Perm.swap _ _ _))
def PrL (P : Int → Prop) (l : Int) (rest : List Nat) : Nat → Int → Prop := fun id z => P z ∨ (z = -l ∧ id ∉ rest)

section
variable {v : Nat} {C D : Cl} {g : List Int} {s : PS} {Pr : Nat → Int → Prop} {P : Int → Prop}
theorem WI.ax (h : WI v s) {c a : Nat} (h1 : 1 ≤ a) (h2 : a < (s.lit c).length) : WI v { s with ax := up s.ax c a } := by
  refine ⟨h.sub, h.nodup, h.mem, fun id hid => ?_⟩
  obtain ⟨a1, a2, a3, a4⟩ := h.ok id hid
  refine ⟨a1, a2, ?_, ?_⟩
  · show 1 ≤ up s.ax c a id
    unfold up; split
    · exact h1
    · exact a3
  · show up s.ax c a id < (s.lit id).length
    unfold up; split
    · rename_i e; rw [e]; exact h2
    · exact a4
theorem RI.ax (h : RI v C g s Pr) {c a : Nat} (h1 : 1 ≤ a) (h2 : a < (s.lit c).length) : RI v C g { s with ax := up s.ax c a } Pr :=
  ⟨h.wi.ax h1 h2, h.i0, h.cons, h.ent, h.entS, h.snd, h.nod, h.pr, h.prA⟩
theorem two_at {c : Nat} {a b : Int} {r : List Int} (hl : s.lit c = a :: b :: r) {x y : Int} (h : Two s c x y) : (x = a ∧ y = b) ∨ (x = b ∧ y = a) := by
  obtain ⟨q, h | h⟩ := h
  · rw [hl] at h
    simp only [List.cons.injEq] at h
    exact .inl ⟨h.1.symm, h.2.1.symm⟩
  · rw [hl] at h
    simp only [List.cons.injEq] at h
    exact .inr ⟨h.2.1.symm, h.1.symm⟩
theorem WI.swap (h : WI v s) {c : Nat} {x y : Int} {r : List Int} (hc : c ∈ s.ids) (hl : s.lit c = x :: y :: r) : WI v { s with lit := up s.lit c (y :: x :: r) } := by
  refine ⟨fun p id hid => ?_, h.nodup, fun id hid => ?_, fun id hid => ?_⟩
  · obtain ⟨a1, a, b, q, a2, a3⟩ := h.sub p id hid
    refine ⟨a1, ?_⟩
    show ∃ a b q, up s.lit c (y :: x :: r) id = _ ∧ _
    by_cases e : id = c
    · subst e
      rw [hl] at a2
      simp only [List.cons.injEq] at a2
      rw [up_at]
      exact ⟨y, x, r, rfl, by rw [a2.1, a2.2.1]; exact a3.symm⟩
    · rw [up_ne e]
      exact ⟨a, b, q, a2, a3⟩
  · obtain ⟨a, b, q, a2, a3, a4⟩ := h.mem id hid
    show ∃ a b q, up s.lit c (y :: x :: r) id = _ ∧ _
    by_cases e : id = c
    · subst e
      rw [hl] at a2
      simp only [List.cons.injEq] at a2
      rw [up_at]
      exact ⟨y, x, r, rfl, by rw [a2.2.1]; exact a4, by rw [a2.1]; exact a3⟩
    · rw [up_ne e]
      exact ⟨a, b, q, a2, a3, a4⟩
  · have ho := h.ok id hid
    show (up s.lit c (y :: x :: r) id).Nodup ∧ (∀ z ∈ up s.lit c (y :: x :: r) id, _) ∧ _ ∧ _ < (up s.lit c (y :: x :: r) id).length
    by_cases e : id = c
    · subst e
      rw [up_at]
      rw [hl] at ho
      have hp : (y :: x :: r).Perm (x :: y :: r) := List.Perm.swap _ _ _
      exact ⟨hp.nodup_iff.2 ho.1, fun z hz => ho.2.1 z (hp.mem_iff.1 hz), ho.2.2.1, by have := ho.2.2.2; simpa using this⟩
    · rw [up_ne e]
      exact ho
theorem RI.swap (h : RI v C g s Pr) {c : Nat} {x y : Int} {r : List Int} (hc : c ∈ s.ids) (hl : s.lit c = x :: y :: r) : RI v C g { s with lit := up s.lit c (y :: x :: r) } Pr := by
  have e : ({ s with lit := up s.lit c (y :: x :: r) } : PS) = { s with lit := up s.lit c (y :: x :: r), ax := up s.ax c (s.ax c), W := s.W } := by rw [up_self (rfl : s.ax c = s.ax c)]
  have hw := h.wi.swap hc hl
  rw [e] at hw ⊢
  have two : ∀ a b, Two { s with lit := up s.lit c (y :: x :: r), ax := up s.ax c (s.ax c), W := s.W } c a b → Two s c a b := fun a b ht => by
    have := two_at (s := { s with lit := up s.lit c (y :: x :: r), ax := up s.ax c (s.ax c), W := s.W }) (c := c) (a := y) (b := x) (r := r) (up_at _ _ _) ht
    rcases this with ⟨rfl, rfl⟩ | ⟨rfl, rfl⟩
    · exact ⟨r, .inr hl⟩
    · exact ⟨r, .inl hl⟩
  exact h.perm hc (by rw [hl]; exact List.Perm.swap _ _ _) hw (fun a b ht => h.i0 c hc a b (two a b ht)) (fun a b ht => h.pr c hc a b (two a b ht)) (fun id _ _ z hz => hz) h.prA
/-- What a move leaves. -/
def PS.move (s : PS) (v c a j : Nat) (o l m : Int) (r : List Int) (stay rest : List Nat) : PS :=
  { s with lit := up s.lit c (o :: m :: r.set j l), ax := up s.ax c a, W := up (up s.W (pl v l) (stay ++ rest)) (pl v m) (s.W (pl v m) ++ [c]) }
theorem WI.move (h : WI v s) {c a j : Nat} {o l m : Int} {r : List Int} {stay rest : List Nat} (hc : c ∈ s.ids) (hl : s.lit c = o :: l :: r) (hj : r[j]? = some m) (hW : s.W (pl v l) = stay ++ c :: rest) (h1 : 1 ≤ a) (h2 : a < r.length + 2) : WI v (s.move v c a j o l m r stay rest) := by
  obtain ⟨k1, k2, _, _⟩ := h.ok c hc
  rw [hl] at k1 k2
  have hm : m ∈ r := List.mem_of_getElem? hj
  simp only [List.nodup_cons, List.mem_cons, not_or] at k1
  have io := k2 o (by simp)
  have il := k2 l (by simp)
  have im := k2 m (by simp [hm])
  have ml : m ≠ l := fun e => k1.2.1 (e ▸ hm)
  have mo : m ≠ o := fun e => k1.1.2 (e ▸ hm)
  have pml : pl v m ≠ pl v l := fun e => ml (pl_inj im il e)
  have pmo : pl v m ≠ pl v o := fun e => mo (pl_inj im io e)
  have pol : pl v o ≠ pl v l := fun e => k1.1.1 (pl_inj io il e)
  have nd := h.nodup (pl v l)
  rw [hW] at nd
  have nd2 := List.nodup_append.1 nd
  have cs : c ∉ stay ++ rest := fun hx => by
    rcases List.mem_append.1 hx with hx | hx
    · exact nd2.2.2 c hx c (by simp) rfl
    · exact (List.nodup_cons.1 nd2.2.1).1 hx
  have cm : c ∉ s.W (pl v m) := fun hx => by
    obtain ⟨_, x, y, q, e1, e2⟩ := h.sub _ _ hx
    rw [hl] at e1
    simp only [List.cons.injEq] at e1
    rcases e2 with e2 | e2
    · rw [← e1.1] at e2; exact pmo e2
    · rw [← e1.2.1] at e2; exact pml e2
  have hp : (o :: m :: r.set j l).Perm (o :: l :: r) := (set_perm hj).cons o
  have w1 : ∀ p, p ≠ pl v m → p ≠ pl v l → (s.move v c a j o l m r stay rest).W p = s.W p := fun p e1 e2 => by
    show up _ _ _ p = _
    rw [up_ne e1, up_ne e2]
  have w2 : (s.move v c a j o l m r stay rest).W (pl v l) = stay ++ rest := by
    show up _ _ _ _ = _
    rw [up_ne pml.symm, up_at]
  have w3 : (s.move v c a j o l m r stay rest).W (pl v m) = s.W (pl v m) ++ [c] := up_at _ _ _
  have lc : (s.move v c a j o l m r stay rest).lit c = o :: m :: r.set j l := up_at _ _ _
  have lo : ∀ id, id ≠ c → (s.move v c a j o l m r stay rest).lit id = s.lit id := fun id e => up_ne e
  refine ⟨fun p id hid => ?_, fun p => ?_, fun id hid => ?_, fun id hid => ?_⟩
  · by_cases e1 : p = pl v m
    · subst e1
      rw [w3] at hid
      rcases List.mem_append.1 hid with hid | hid
      · have hne : id ≠ c := fun e => cm (e ▸ hid)
        rw [lo id hne]
        exact h.sub _ _ hid
      · simp at hid
        subst hid
        exact ⟨hc, o, m, _, lc, .inr rfl⟩
    · by_cases e2 : p = pl v l
      · subst e2
        rw [w2] at hid
        have hne : id ≠ c := fun e => cs (e ▸ hid)
        rw [lo id hne]
        refine h.sub _ _ ?_
        rw [hW]
        rcases List.mem_append.1 hid with hid | hid
        · exact List.mem_append_left _ hid
        · exact List.mem_append_right _ (List.mem_cons_of_mem _ hid)
      · rw [w1 p e1 e2] at hid
        by_cases e3 : id = c
        · subst e3
          obtain ⟨_, x, y, q, f1, f2⟩ := h.sub _ _ hid
          rw [hl] at f1
          simp only [List.cons.injEq] at f1
          rcases f2 with f2 | f2
          · exact ⟨hc, o, m, _, lc, .inl (by rw [f2, f1.1])⟩
          · rw [← f1.2.1] at f2; exact absurd f2 e2
        · rw [lo id e3]
          exact h.sub _ _ hid
  · by_cases e1 : p = pl v m
    · subst e1
      rw [w3]
      exact List.nodup_append.2 ⟨h.nodup _, by simp, fun x hx y hy => by simp at hy; subst hy; exact fun e => cm (e ▸ hx)⟩
    · by_cases e2 : p = pl v l
      · subst e2
        rw [w2]
        exact nd.sublist ((List.Sublist.refl stay).append (List.sublist_cons_self c rest))
      · rw [w1 p e1 e2]; exact h.nodup p
  · by_cases e3 : id = c
    · subst e3
      obtain ⟨x, y, q, f1, f2, f3⟩ := h.mem id hid
      rw [hl] at f1
      simp only [List.cons.injEq] at f1
      refine ⟨o, m, _, lc, ?_, ?_⟩
      · rw [w1 _ pmo.symm pol, f1.1]; exact f2
      · rw [w3]; simp
    · obtain ⟨x, y, q, f1, f2, f3⟩ := h.mem id hid
      have tr : ∀ z, id ∈ s.W (pl v z) → id ∈ (s.move v c a j o l m r stay rest).W (pl v z) := fun z hz => by
        by_cases e1 : pl v z = pl v m
        · rw [e1, w3]; rw [e1] at hz; exact List.mem_append_left _ hz
        · by_cases e2 : pl v z = pl v l
          · rw [e2, w2]
            rw [e2, hW] at hz
            rcases List.mem_append.1 hz with hz | hz
            · exact List.mem_append_left _ hz
            · exact List.mem_append_right _ ((List.mem_cons.1 hz).resolve_left e3)
          · rw [w1 _ e1 e2]; exact hz
      exact ⟨x, y, q, by rw [lo id e3]; exact f1, tr x f2, tr y f3⟩
  · by_cases e3 : id = c
    · subst e3
      rw [lc]
      have ho := h.ok id hid
      rw [hl] at ho
      refine ⟨hp.nodup_iff.2 ho.1, fun z hz => ho.2.1 z (hp.mem_iff.1 hz), ?_, ?_⟩
      · show 1 ≤ up s.ax id a id
        rw [up_at]; exact h1
      · show up s.ax id a id < _
        rw [up_at]; simpa using h2
    · rw [lo id e3]
      have ho := h.ok id hid
      refine ⟨ho.1, ho.2.1, ?_, ?_⟩
      · show 1 ≤ up s.ax c a id
        rw [up_ne e3]; exact ho.2.2.1
      · show up s.ax c a id < _
        rw [up_ne e3]; exact ho.2.2.2
/-- It watches another literal. -/
theorem RI.move {c a j : Nat} {o l m : Int} {r : List Int} {stay rest : List Nat} (h : RI v C g s (PrL P l (c :: rest))) (hc : c ∈ s.ids) (hl : s.lit c = o :: l :: r) (hj : r[j]? = some m) (hW : s.W (pl v l) = stay ++ c :: rest) (h1 : 1 ≤ a) (h2 : a < r.length + 2) (hn : s.hol (-l) = true) (hm : s.hol (-m) = false) :
    RI v C g (s.move v c a j o l m r stay rest) (PrL P l rest) := by
  have hol : s.hol l = false := by have := h.cons _ hn; rwa [Int.neg_neg] at this
  have hPA : ∀ id z, PrL P l rest id z → s.hol z = true := fun id z hz => by
    rcases hz with hz | hz
    · exact h.prA c z (.inl hz)
    · rw [hz.1]; exact hn
  obtain ⟨k1, _, _, _⟩ := h.wi.ok c hc
  rw [hl] at k1
  simp only [List.nodup_cons, List.mem_cons, not_or] at k1
  have ls : ∀ x, s.S x = true → s.hol x = true := fun x hx => by unfold PS.hol; rw [hx]; rfl
  refine h.perm (l := o :: m :: r.set j l) hc (by rw [hl]; exact (set_perm hj).cons o) (h.wi.move hc hl hj hW h1 h2) (fun x y ht hs => ?_) (fun x y ht hq => ?_) (fun id hid hne z hz => hz.imp (fun e => e) fun e => ⟨e.1, fun hx => e.2 ((List.mem_cons.1 hx).resolve_left hne)⟩) hPA
  · rcases two_at (up_at _ _ _) ht with ⟨rfl, rfl⟩ | ⟨rfl, rfl⟩
    · have := ls _ (h.i0 c hc x l ⟨r, .inl hl⟩ hs)
      rw [hol] at this; cases this
    · rw [ls _ hs] at hm; cases hm
  · rcases two_at (up_at _ _ _) ht with ⟨rfl, rfl⟩ | ⟨rfl, rfl⟩
    · rcases hq with hq | hq
      · have := h.pr c hc x l ⟨r, .inl hl⟩ (.inl hq)
        rw [hol] at this; cases this
      · exact absurd (by have := hq.1; omega) k1.1.1
    · rw [hPA c _ hq] at hm; cases hm
/-- It stays as it is. -/
theorem RI.keep {c : Nat} {o l : Int} {r : List Int} {rest : List Nat} (h : RI v C g s (PrL P l (c :: rest))) (hc : c ∈ s.ids) (hl : s.lit c = o :: l :: r) (hn : s.hol (-l) = true) (ho : s.hol o = true) : RI v C g s (PrL P l rest) := by
  obtain ⟨k1, _, _, _⟩ := h.wi.ok c hc
  rw [hl] at k1
  simp only [List.nodup_cons, List.mem_cons, not_or] at k1
  refine ⟨h.wi, h.i0, h.cons, h.ent, h.entS, h.snd, h.nod, fun id hid x y ht hq => ?_, fun id z hz => ?_⟩
  · rcases hq with hq | hq
    · exact h.pr id hid x y ht (.inl hq)
    · by_cases e : id = c
      · subst e
        have hx : x = l := by have := hq.1; omega
        subst hx
        rcases two_at hl ht with ⟨e, _⟩ | ⟨_, rfl⟩
        · exact absurd e.symm k1.1.1
        · exact ho
      · exact h.pr id hid x y ht (.inr ⟨hq.1, fun hx => hq.2 ((List.mem_cons.1 hx).resolve_left e)⟩)
  · rcases hz with hz | hz
    · exact h.prA c z (.inl hz)
    · rw [hz.1]; exact hn
theorem RI.start {l : Int} {rest : List Nat} (h : RI v C g s (fun _ z => P z)) (hW : s.W (pl v l) = rest) (hn : s.hol (-l) = true) : RI v C g s (PrL P l rest) := by
  refine ⟨h.wi, h.i0, h.cons, h.ent, h.entS, h.snd, h.nod, fun id hid x y ht hq => ?_, fun id z hz => ?_⟩
  · rcases hq with hq | hq
    · exact h.pr id hid x y ht hq
    · have hx : x = l := by have := hq.1; omega
      subst hx
      obtain ⟨a, b, q, e1, e2, e3⟩ := h.wi.mem id hid
      rcases two_at e1 ht with ⟨rfl, rfl⟩ | ⟨rfl, rfl⟩
      · exact absurd (hW ▸ e2) hq.2
      · exact absurd (hW ▸ e3) hq.2
  · rcases hz with hz | hz
    · exact h.prA id z hz
    · rw [hz.1]; exact hn
theorem RI.fin {l : Int} (h : RI v C g s (PrL P l [])) : RI v C g s (fun _ z => P z ∨ z = -l) :=
  h.weak (fun id _ z hz => hz.imp (fun e => e) fun e => ⟨e, by simp⟩) fun id z hz => h.prA id z (hz.imp (fun e => e) fun e => ⟨e, by simp⟩)

/-- Each clause is watched, or holds. -/
def Cmp (C : Cl) (s : PS) : Prop := ∀ k ∈ C, (∃ x ∈ k, x ≠ 0 ∧ -x ∈ k) ∨ (∃ x ∈ k, s.S x = true) ∨ ∃ id ∈ s.ids, ∀ x ∈ s.lit id, x ∈ k
def CmpA (C : Cl) (s : PS) : Prop := ∀ k ∈ C, (∃ x ∈ k, x ≠ 0 ∧ -x ∈ k) ∨ (∃ x ∈ k, s.hol x = true) ∨ ∃ id ∈ s.ids, ∀ x ∈ s.lit id, x ∈ k
theorem Cmp.all (h : Cmp C s) : CmpA C s := fun k hk => by
  rcases h k hk with e | ⟨x, e1, e2⟩ | e
  · exact .inl e
  · exact .inr (.inl ⟨x, e1, by unfold PS.hol; rw [e2]; rfl⟩)
  · exact .inr (.inr e)
/-- Where all that came has been gone through, nothing more follows. -/
theorem RI.shut (h : RI v C g s Pr) (hp : ∀ id ∈ s.ids, ∀ x y, Two s id x y → s.hol (-x) = true → s.hol y = true) (hc : CmpA C s) : Shut C fun x => s.hol x = true := by
  have no : ∀ x, s.hol x = true → s.hol (-x) = true → False := fun x h1 h2 => by rw [h.cons x h1] at h2; cases h2
  refine ⟨fun x hx hn => no x hx hn, fun k hk l hl hx => ?_, fun k hk hx => ?_⟩
  · rcases hc k hk with ⟨m, h1, h0, h2⟩ | ⟨m, h1, h2⟩ | ⟨id, h1, h2⟩
    · by_cases e : m = l
      · have := hx (-m) h2 (by omega)
        rw [Int.neg_neg] at this
        rw [← e]; exact this
      · have a := hx m h1 e
        by_cases e2 : -m = l
        · rw [← e2]; exact a
        · have b := hx (-m) h2 e2
          exact (no _ a b).elim
    · by_cases e : m = l
      · rw [← e]; exact h2
      · exact (no m h2 (hx m h1 e)).elim
    · obtain ⟨a, b, q, e1, _, _⟩ := h.wi.mem id h1
      have hnd := (h.wi.ok id h1).1
      rw [e1] at hnd h2
      simp only [List.nodup_cons, List.mem_cons, not_or] at hnd
      by_cases e : a = l
      · have hb := hx b (h2 b (by simp)) (fun e3 => hnd.1.1 (e.trans e3.symm))
        have := hp id h1 b a ⟨q, .inr e1⟩ hb
        rw [← e]; exact this
      · have ha := hx a (h2 a (by simp)) e
        have hb := hp id h1 a b ⟨q, .inl e1⟩ ha
        by_cases e3 : b = l
        · rw [← e3]; exact hb
        · exact (no b hb (hx b (h2 b (by simp)) e3)).elim
  · rcases hc k hk with ⟨m, h1, h0, h2⟩ | ⟨m, h1, h2⟩ | ⟨id, h1, h2⟩
    · exact no _ (hx m h1) (hx (-m) h2)
    · exact no m h2 (hx m h1)
    · obtain ⟨a, b, q, e1, _, _⟩ := h.wi.mem id h1
      rw [e1] at h2
      exact no b (hp id h1 a b ⟨q, .inl e1⟩ (hx a (h2 a (by simp)))) (hx b (h2 b (by simp)))

/-- What holds between two questions. -/
structure CI (v : Nat) (C : Cl) (s : PS) : Prop where
  wi : WI v s
  bad : s.br = true → Bad C []
  i0 : s.br = false → ∀ id ∈ s.ids, ∀ x y, Two s id x y → s.S (-x) = true → s.S y = true
  cons : s.br = false → ∀ x, s.S x = true → s.S (-x) = false
  entS : s.br = false → ∀ x, s.S x = true → Ent C [] x
  snd : s.br = false → ∀ id ∈ s.ids, ∃ k ∈ C, (∀ x ∈ k, x ∈ s.lit id ∨ s.S (-x) = true) ∧ ∀ x ∈ s.lit id, x ∈ k
  cmp : s.br = false → Cmp C s
theorem hol_nil (h : s.T = []) (x : Int) : s.hol x = s.S x := by unfold PS.hol; rw [h]; simp
theorem CI.ri (h : CI v C s) (hb : s.br = false) (hs : ∀ k ∈ C, k ∈ D) (ht : s.T = []) : RI v D g s (fun _ z => s.S z = true) := by
  have ls : ∀ x, s.S x = true → s.hol x = true := fun x hx => by unfold PS.hol; rw [hx]; rfl
  refine ⟨h.wi, h.i0 hb, fun x hx => ?_, fun x hx => absurd (ht ▸ hx) (by simp), fun x hx => (h.entS hb x hx).more hs, fun id hid => ?_, (by rw [ht]; exact ⟨by simp, fun x hx => absurd hx (by simp)⟩), fun id hid x y h2 hp => ls y (h.i0 hb id hid x y h2 hp), fun _ z hz => ls z hz⟩
  · rw [hol_nil ht] at hx ⊢
    exact h.cons hb x hx
  · obtain ⟨k, hk, r⟩ := h.snd hb id hid
    exact ⟨k, hs k hk, r⟩
/-- Behind a clause of one literal. -/
theorem RI.sure (h : RI v C [] s Pr) (hp : ∀ id ∈ s.ids, ∀ x y, Two s id x y → s.hol (-x) = true → s.hol y = true) (hc : CmpA C s) (hb : s.br = false) : CI v C { s with S := s.hol, T := [] } := by
  have ls : ∀ x, s.S x = true → s.hol x = true := fun x hx => by unfold PS.hol; rw [hx]; rfl
  refine ⟨h.wi.same rfl rfl rfl rfl, fun e => ?_, fun _ => hp, fun _ => h.cons, fun _ x hx => h.so hx, fun _ id hid => ?_, fun _ k hk => ?_⟩
  · have e : s.br = true := e
    rw [hb] at e; cases e
  · obtain ⟨k, hk, a, b⟩ := h.snd id hid
    exact ⟨k, hk, fun x hx => (a x hx).imp (fun e => e) fun e => ls _ e, b⟩
  · rcases hc k hk with e | ⟨x, e1, e2⟩ | e
    · exact .inl e
    · exact .inr (.inl ⟨x, e1, e2⟩)
    · exact .inr (.inr e)
theorem CI.broken (h : WI v s) (hb : Bad C []) (e : s.br = true) : CI v C s :=
  ⟨h, fun _ => hb, fun f => absurd (e.symm.trans f) (by decide), fun f => absurd (e.symm.trans f) (by decide), fun f => absurd (e.symm.trans f) (by decide), fun f => absurd (e.symm.trans f) (by decide), fun f => absurd (e.symm.trans f) (by decide)⟩
/-- A clause that holds anyway. -/
theorem CI.skip (h : CI v C s) {k : List Int} (hk : s.br = false → (∃ x ∈ k, x ≠ 0 ∧ -x ∈ k) ∨ ∃ x ∈ k, s.S x = true) : CI v (C ++ [k]) s := by
  have hs : ∀ x ∈ C, x ∈ C ++ [k] := fun x hx => List.mem_append_left _ hx
  refine ⟨h.wi, fun e => (h.bad e).more hs, h.i0, h.cons, fun e x hx => (h.entS e x hx).more hs, fun e id hid => ?_, fun e x hx => ?_⟩
  · obtain ⟨k, hk, r⟩ := h.snd e id hid
    exact ⟨k, hs k hk, r⟩
  · rcases List.mem_append.1 hx with hx | hx
    · exact h.cmp e x hx
    · simp at hx
      subst hx
      exact (hk e).imp (fun e => e) .inl
theorem CI.clear (h : CI v C s) : CI v C { s with T := [] } := ⟨h.wi.same rfl rfl rfl rfl, h.bad, h.i0, h.cons, h.entS, h.snd, h.cmp⟩
end
end Rw
end Go.Proofs.Ytmgkgbhkaoflhaa
