/-
  Plain facts for layer eval: the numbers below those asked for, gone through by a list that grows.
-/
import Derived.Test.YtjhghfndhpaapaaEvSet
import Derived.Test.YtjhghfndhpaapaaTmP5
namespace Go.Proofs.Ytjhghfndhpaapaa
open Go.RowKit Go.Maps Bv
namespace Tm
set_option maxHeartbeats 400000

/-- A list of numbers that was handed in. -/
def IntsAt (W : World) (al : Option Addr) (T : List Int) : Prop :=
  T = [] ∨ ∃ bl ol, al = some ⟨bl, ol, none⟩ ∧ bl < W.heap.size ∧ ∀ (j : Nat) (v : Int), T[j]? = some v → W.cell? ⟨bl, ol + j, none⟩ = some (.int .i64 v)
theorem IntsAt.keep {W w : World} {al : Option Addr} {T : List Int} (h : IntsAt W al T) (hb : Below W.heap.size W w) : IntsAt w al T := by
  refine h.imp id ?_
  rintro ⟨ab, ao, h1, h2, h3⟩
  exact ⟨ab, ao, h1, Nat.lt_of_lt_of_le h2 hb.size, fun j v hj => (hb.cell (p := ⟨ab, ao + j, none⟩) h2).trans (h3 j v hj)⟩
theorem sub_len : ∀ (S Q : List Int), Q.Nodup → (∀ q ∈ Q, q ∈ S) → Q.length ≤ S.length
  | [], Q, _, h => by
    cases Q with
    | nil => simp
    | cons a t => have := h a (by simp); simp at this
  | s :: S, Q, nd, h => by
    by_cases hs : s ∈ Q
    · have ih := sub_len S (Q.erase s) (nd.erase s) (fun q hq => by
        have hm := (List.Nodup.mem_erase_iff nd).1 hq
        have := h q hm.2
        simp [hm.1] at this
        exact this)
      rw [List.length_erase_of_mem hs] at ih
      simp
      omega
    · have ih := sub_len S Q nd (fun q hq => by
        have := h q hq
        rw [List.mem_cons] at this
        exact this.resolve_left (fun e => hs (e ▸ hq)))
      simp
      omega

theorem addQ_mem (Q : List Int) (k : Int) : k ∈ addQ Q k := by unfold addQ; split <;> simp_all
theorem addQ_sub {Q : List Int} {k q : Int} (h : q ∈ Q) : q ∈ addQ Q k := by unfold addQ; split <;> simp [h]
theorem addQ_inv {Q : List Int} {k q : Int} (h : q ∈ addQ Q k) : q ∈ Q ∨ q = k := by
  unfold addQ at h
  split at h
  · exact .inl h
  · simpa using h
theorem addQ_get {Q : List Int} {k : Int} {i : Nat} (h : i < Q.length) : (addQ Q k)[i]? = Q[i]? := by
  unfold addQ
  split
  · rfl
  · rw [List.getElem?_append_left h]
theorem addQ_len (Q : List Int) (k : Int) : Q.length ≤ (addQ Q k).length := by unfold addQ; split <;> simp
theorem addQ_nodup {Q : List Int} {k : Int} (h : Q.Nodup) : (addQ Q k).Nodup := by
  unfold addQ
  split
  · exact h
  · rename_i hn
    rw [List.nodup_append]
    exact ⟨h, by simp, fun a ha b hb e => by simp at hb; subst hb; subst e; exact hn ha⟩

/-- While those asked for are laid into the list. -/
structure Pre (T Q : List Int) (i : Nat) : Prop where
  nd : Q.Nodup
  src : ∀ q ∈ Q, I64 q ∧ q ∈ T
  pre : ∀ (j : Nat) (t : Int), j < i → T[j]? = some t → t ∈ Q
theorem pre_start (T : List Int) : Pre T [] 0 := ⟨by simp, by simp, fun j t h => by omega⟩
theorem Pre.step {T Q : List Int} {i : Nat} {t : Int} (h : Pre T Q i) (ht : T[i]? = some t) (h6 : I64 t) : Pre T (addQ Q t) (i + 1) := by
  refine ⟨addQ_nodup h.nd, fun q hq => ?_, fun j s hj hs => ?_⟩
  · rcases addQ_inv hq with c | c
    · exact h.src q c
    · subst c; exact ⟨h6, List.mem_of_getElem? ht⟩
  · by_cases e : j = i
    · subst e
      rw [ht] at hs
      simp at hs
      subst hs
      exact addQ_mem _ _
    · exact addQ_sub (h.pre j s (by omega) hs)
theorem Pre.len {T Q : List Int} {i : Nat} (h : Pre T Q i) : Q.length ≤ T.length := sub_len T Q h.nd (fun q hq => (h.src q hq).2)

/-- While the list is gone through. -/
structure Grow (L : List Nd) (T Q : List Int) (i : Nat) : Prop where
  nd : Q.Nodup
  src : ∀ q ∈ Q, I64 q ∧ (q ∈ T ∨ inB L q = true)
  pre : ∀ t ∈ T, t ∈ Q
  le : i ≤ Q.length
  done : ∀ (j : Nat) (q : Int), j < i → Q[j]? = some q → inB L q = true ∧ ∀ x, L[q.toNat]? = some x → x.k0 ∈ Q ∧ x.k1 ∈ Q ∧ x.k2 ∈ Q
theorem Pre.grow {L : List Nd} {T Q : List Int} (h : Pre T Q T.length) : Grow L T Q 0 := by
  refine ⟨h.nd, fun q hq => ⟨(h.src q hq).1, .inl (h.src q hq).2⟩, fun t ht => ?_, Nat.zero_le _, fun j q hj => by omega⟩
  obtain ⟨j, hj⟩ := List.getElem?_of_mem ht
  exact h.pre j t (List.getElem?_eq_some_iff.1 hj).1 hj
theorem Grow.add {L : List Nd} {T Q : List Int} {i : Nat} {k : Int} (h : Grow L T Q i) (h6 : I64 k) (hk : inB L k = true) : Grow L T (addQ Q k) i := by
  refine ⟨addQ_nodup h.nd, fun q hq => ?_, fun t ht => addQ_sub (h.pre t ht), Nat.le_trans h.le (addQ_len _ _), fun j q hj hq => ?_⟩
  · rcases addQ_inv hq with c | c
    · exact h.src q c
    · subst c; exact ⟨h6, .inr hk⟩
  · rw [addQ_get (by have := h.le; omega)] at hq
    obtain ⟨a, b⟩ := h.done j q hj hq
    exact ⟨a, fun x hx => ⟨addQ_sub (b x hx).1, addQ_sub (b x hx).2.1, addQ_sub (b x hx).2.2⟩⟩
theorem Grow.step {L : List Nd} {T Q : List Int} {i : Nat} {q : Int} {x : Nd} (h : Grow L T Q i) (hq : Q[i]? = some q) (hb : inB L q = true) (hx : L[q.toNat]? = some x) (h0 : x.k0 ∈ Q) (h1 : x.k1 ∈ Q) (h2 : x.k2 ∈ Q) : Grow L T Q (i + 1) := by
  refine ⟨h.nd, h.src, h.pre, (List.getElem?_eq_some_iff.1 hq).1, fun j p hj hp => ?_⟩
  by_cases e : j = i
  · subst e
    rw [hq] at hp
    simp at hp
    subst hp
    refine ⟨hb, fun y hy => ?_⟩
    rw [hx] at hy
    simp at hy
    subst hy
    exact ⟨h0, h1, h2⟩
  · exact h.done j p (by omega) hp
theorem Grow.len {L : List Nd} {T Q : List Int} {i : Nat} (h : Grow L T Q i) : Q.length ≤ T.length + L.length := by
  have := sub_len (T ++ (List.range L.length).map (fun k => ((k : Nat) : Int))) Q h.nd (fun q hq => by
    rw [List.mem_append]
    refine (h.src q hq).2.imp id (fun hb => ?_)
    unfold inB at hb
    simp at hb
    rw [List.mem_map]
    exact ⟨q.toNat, by simp; omega, by omega⟩)
  simpa using this

/-- A kid, or the nought in its place, is a number of the list of nodes. -/
theorem kid_in {L : List Nd} (g : Gd L) {k : Nat} {x : Nd} (hx : L[k]? = some x) : (I64 x.k0 ∧ inB L x.k0 = true) ∧ (I64 x.k1 ∧ inB L x.k1 = true) ∧ (I64 x.k2 ∧ inB L x.k2 = true) := by
  have hm := List.mem_of_getElem? hx
  have hl := (List.getElem?_eq_some_iff.1 hx).1
  have ho := g.own x hm
  have hlen := g.len
  have main : ∀ j, j < 3 → ∀ v : Int, v = x.kid j → (¬ j < kc x.o → v = 0) → I64 v ∧ inB L v = true := by
    intro j hj v hv h0
    by_cases hc : j < kc x.o
    · have := g.kid k x hx j hc
      rw [← hv] at this
      unfold I64 inB
      simp
      omega
    · rw [h0 hc]
      unfold I64 inB
      simp
      omega
  refine ⟨main 0 (by omega) x.k0 rfl (fun hc => ?_), main 1 (by omega) x.k1 rfl (fun hc => ?_), main 2 (by omega) x.k2 rfl (fun hc => ?_)⟩
  · rw [ho]; show (if 1 ≤ kc x.o then x.k0 else 0) = 0; rw [if_neg (by omega)]
  · rw [ho]; show (if 2 ≤ kc x.o then x.k1 else 0) = 0; rw [if_neg (by omega)]
  · rw [ho]; show (if 3 ≤ kc x.o then x.k2 else 0) = 0; rw [if_neg (by omega)]

/-- The numbers that the call answers: those asked for and all below them, rising. -/
structure Numbers (L : List Nd) (T : List Int) (N : List Nat) : Prop where
  rise : N.Pairwise (· < ·)
  lt : ∀ k ∈ N, k < L.length
  kids : ∀ k ∈ N, ∀ x, L[k]? = some x → ∀ j, j < kc x.o → (x.kid j).toNat ∈ N
  top : ∀ t ∈ T, 0 ≤ t ∧ t.toNat ∈ N
def numbersOf (L : List Nd) (Q : List Int) : List Nat := (List.range L.length).filter (fun k => decide (((k : Nat) : Int) ∈ Q))
theorem mem_numbersOf {L : List Nd} {Q : List Int} {k : Nat} : k ∈ numbersOf L Q ↔ k < L.length ∧ ((k : Nat) : Int) ∈ Q := by simp [numbersOf]
theorem Grow.numbers {L : List Nd} {T Q : List Int} (g : Gd L) (h : Grow L T Q Q.length) : Numbers L T (numbersOf L Q) := by
  have all : ∀ q ∈ Q, inB L q = true ∧ ∀ x, L[q.toNat]? = some x → x.k0 ∈ Q ∧ x.k1 ∈ Q ∧ x.k2 ∈ Q := by
    intro q hq
    obtain ⟨j, hj⟩ := List.getElem?_of_mem hq
    exact h.done j q (List.getElem?_eq_some_iff.1 hj).1 hj
  refine ⟨List.Pairwise.filter _ List.pairwise_lt_range, fun k hk => (mem_numbersOf.1 hk).1, fun k hk x hx j hj => ?_, fun t ht => ?_⟩
  · have hq := all _ (mem_numbersOf.1 hk).2
    have hkid := g.kid k x hx j hj
    have hl := (List.getElem?_eq_some_iff.1 hx).1
    have h3 := kc_le x.o
    rw [mem_numbersOf]
    refine ⟨by omega, ?_⟩
    rw [show (((x.kid j).toNat : Nat) : Int) = x.kid j by omega]
    obtain ⟨a, b, c⟩ := hq.2 x (by simpa using hx)
    rcases (by omega : j = 0 ∨ j = 1 ∨ j = 2) with e | e | e
    · subst e; exact a
    · subst e; exact b
    · subst e; exact c
  · have hb := (all t (h.pre t ht)).1
    unfold inB at hb
    simp at hb
    refine ⟨hb.1, ?_⟩
    rw [mem_numbersOf, show ((t.toNat : Nat) : Int) = t by omega]
    exact ⟨by omega, h.pre t ht⟩
/-- Each number of the list is one of a node: the list as plain numbers. -/
theorem Grow.plain {L : List Nd} {T Q : List Int} (h : Grow L T Q Q.length) : (Q.map Int.toNat).Nodup ∧ intRow Q = todoRow (Q.map Int.toNat) ∧ (∀ k, k ∈ Q.map Int.toNat ↔ k ∈ numbersOf L Q) ∧ Q.length ≤ L.length := by
  have all : ∀ q ∈ Q, 0 ≤ q ∧ q.toNat < L.length := by
    intro q hq
    obtain ⟨j, hj⟩ := List.getElem?_of_mem hq
    have hb := (h.done j q (List.getElem?_eq_some_iff.1 hj).1 hj).1
    unfold inB at hb
    simp at hb
    omega
  have nd : (Q.map Int.toNat).Nodup := by
    rw [List.nodup_iff_pairwise_ne, List.pairwise_map]
    have h1 := h.nd
    rw [List.nodup_iff_pairwise_ne] at h1
    refine List.Pairwise.imp_of_mem (fun {a b} ha hb hne e => hne ?_) h1
    have := all a ha; have := all b hb
    omega
  have hm : ∀ k, k ∈ Q.map Int.toNat ↔ k ∈ numbersOf L Q := by
    intro k
    rw [List.mem_map, mem_numbersOf]
    constructor
    · rintro ⟨q, hq, rfl⟩
      have := all q hq
      exact ⟨this.2, by rw [show ((q.toNat : Nat) : Int) = q by omega]; exact hq⟩
    · rintro ⟨_, hk⟩
      exact ⟨_, hk, by simp⟩
  refine ⟨nd, ?_, hm, ?_⟩
  · unfold intRow todoRow
    rw [List.map_map]
    apply List.map_congr_left
    intro q hq
    have := all q hq
    simp only [Function.comp]
    congr 1
    omega
  · have := nodup_le L.length (Q.map Int.toNat) nd (fun k hk => (mem_numbersOf.1 ((hm k).1 hk)).1)
    simpa using this
end Tm
end Go.Proofs.Ytjhghfndhpaapaa
