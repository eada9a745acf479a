/-
  The program's lay: a clause's literals are noted.
-/
import Derived.Test.YtcpehdeddgfpmaaDoorCuInv
namespace Go.Proofs.YtcpehdeddgfpmaaDoor
open Go.RowKit Go.Maps
namespace Cf
set_option maxHeartbeats 4000000
set_option maxRecDepth 100000

theorem dec_neg {T : List Int} {l : Int} (h0 : l ≠ 0) (hA : Agree T) : decT T (vr l) = -l ↔ T.elem (-l) = true := by
  unfold decT vr
  by_cases hl : 0 < l
  · rw [if_pos hl]
    cases h1 : T.elem l with
    | true =>
      rw [hA l h1]
      simp
      omega
    | false =>
      cases h2 : T.elem (-l) with
      | true => simp
      | false => simp; omega
  · rw [if_neg hl]
    cases h2 : T.elem (-l) with
    | true => simp
    | false =>
      rw [Int.neg_neg]
      cases h1 : T.elem l with
      | true => simp; omega
      | false => simp; omega
theorem dec_zero {T : List Int} {l : Int} (h0 : l ≠ 0) : decT T (vr l) = 0 ↔ T.elem l = false ∧ T.elem (-l) = false := by
  unfold decT vr
  by_cases hl : 0 < l
  · rw [if_pos hl]
    cases h1 : T.elem l with
    | true => simp; omega
    | false =>
      cases h2 : T.elem (-l) with
      | true => simp; omega
      | false => simp
  · rw [if_neg hl, Int.neg_neg]
    cases h2 : T.elem (-l) with
    | true => simp; omega
    | false =>
      cases h1 : T.elem l with
      | true => simp; omega
      | false => simp
theorem Chain.more {P : List (Int × Int)} {x : Int × Int} : ∀ {ch : List Nat} {a : Nat}, Chain P a ch → Chain (P ++ [x]) a ch
  | [], _, h => h
  | k :: r, a, h => by
    obtain ⟨b, o, e, hp, hc⟩ := h
    exact ⟨b, o, e, by rw [List.getElem?_append_left (List.getElem?_eq_some_iff.1 hp).1]; exact hp, hc.more⟩
theorem Chain.le {P : List (Int × Int)} : ∀ {ch : List Nat} {a : Nat}, Chain P a ch → a ≤ P.length
  | [], a, h => by
    have : a = 0 := h
    omega
  | k :: r, a, h => by
    obtain ⟨b, o, e, hp, hc⟩ := h
    have := (List.getElem?_eq_some_iff.1 hp).1
    omega
/-- The clauses below m are laid, and the literals pre of the clause m. -/
structure Laid (C : Cl) (T : List Int) (v m : Nat) (pre : List Int) (lf : List Int) (P : List (Int × Int)) (nw : List Int) : Prop where
  left : ∀ k, k < m → lf[k]? = some ((cnt T [] (C.getD k []) : Nat) : Int)
  here : m < C.length → lf[m]? = some ((cnt T [] pre : Nat) : Int)
  rest : ∀ k, m < k → k < C.length → lf[k]? = some 0
  chain : ∀ i : Nat, i < 2 * v + 1 → ∃ a : Nat, nw[i]? = some ((a : Nat) : Int) ∧ Chain P a ((if pre.elem ((i : Int) - (v : Int)) && !T.elem (-((i : Int) - (v : Int))) then [m] else []) ++ occ C T ((i : Int) - (v : Int)) m)
section
variable {C : Cl} {T : List Int} {v m : Nat} {pre : List Int} {lf : List Int} {P : List (Int × Int)} {nw : List Int}
/-- A literal that is noted already, or whose not came. -/
theorem Laid.pass (h : Laid C T v m pre lf P nw) {l : Int} (hl : pre.elem l = true ∨ T.elem (-l) = true) : Laid C T v m (pre ++ [l]) lf P nw := by
  refine ⟨h.left, fun hm => ?_, h.rest, fun i hi => ?_⟩
  · rw [h.here hm, cnt_app]
    rcases hl with e | e
    · rw [e]; simp
    · rw [e]; simp
  · obtain ⟨a, h1, h2⟩ := h.chain i hi
    refine ⟨a, h1, ?_⟩
    have e : ((pre ++ [l]).elem ((i : Int) - (v : Int)) && !T.elem (-((i : Int) - (v : Int)))) = (pre.elem ((i : Int) - (v : Int)) && !T.elem (-((i : Int) - (v : Int)))) := by
      rw [elem_app]
      by_cases c : ((i : Int) - (v : Int)) = l
      · rw [c]
        rcases hl with e | e
        · rw [e]; simp
        · rw [e]; simp
      · have : (((i : Int) - (v : Int)) == l) = false := by simpa using c
        rw [this, Bool.or_false]
    rw [e]
    exact h2
/-- What stands in a literal's newest place. -/
theorem Laid.at' (h : Laid C T v m pre lf P nw) {l : Int} {i : Nat} (hi : ((v : Nat) : Int) + l = ((i : Nat) : Int)) (hi2 : i < 2 * v + 1) (ht : T.elem (-l) = false) : ∃ a : Nat, nw[i]? = some ((a : Nat) : Int) ∧ a ≤ P.length ∧
    ((pre.elem l = true ∧ ∃ b x, a = b + 1 ∧ P[b]? = some x ∧ x.1 = ((m : Nat) : Int)) ∨ (pre.elem l = false ∧ Other P a m ∧ Chain P a (occ C T l m))) := by
  obtain ⟨a, h1, h2⟩ := h.chain i hi2
  have el : (i : Int) - (v : Int) = l := by omega
  rw [el, ht] at h2
  refine ⟨a, h1, h2.le, ?_⟩
  cases hp : pre.elem l with
  | true =>
    rw [hp] at h2
    simp only [Bool.not_false, Bool.and_self, if_true, List.cons_append, List.nil_append] at h2
    obtain ⟨b, o, e, hb, _⟩ := h2
    exact .inl ⟨rfl, b, _, e, hb, rfl⟩
  | false =>
    rw [hp] at h2
    simp only [Bool.false_and, Bool.false_eq_true, if_false, List.nil_append] at h2
    refine .inr ⟨rfl, ?_, h2⟩
    cases ho : occ C T l m with
    | nil =>
      rw [ho] at h2
      exact .inl h2
    | cons k r =>
      rw [ho] at h2
      obtain ⟨b, o, e, hb, _⟩ := h2
      have hk : k < m := (occ_mem.1 (by rw [ho]; simp : k ∈ occ C T l m)).1
      exact .inr ⟨b, _, e, hb, by simp; omega⟩
/-- A literal that is noted. -/
theorem Laid.note (h : Laid C T v m pre lf P nw) (hm : m < C.length) {l : Int} {i a : Nat} (hi : ((v : Nat) : Int) + l = ((i : Nat) : Int)) (hn : nw[i]? = some ((a : Nat) : Int)) (ht : T.elem (-l) = false) (hp : pre.elem l = false) (hc : Chain P a (occ C T l m)) :
    Laid C T v m (pre ++ [l]) (lf.set m (((cnt T [] pre : Nat) : Int) + 1)) (P ++ [(((m : Nat) : Int), ((a : Nat) : Int))]) (nw.set i (((P.length : Nat) : Int) + 1)) := by
  have hml : m < lf.length := (List.getElem?_eq_some_iff.1 (h.here hm)).1
  have hil : i < nw.length := (List.getElem?_eq_some_iff.1 hn).1
  refine ⟨fun k hk => ?_, fun _ => ?_, fun k hk hkn => ?_, fun j hj => ?_⟩
  · rw [List.getElem?_set_ne (by omega)]; exact h.left k hk
  · rw [List.getElem?_set_self hml, cnt_app, hp, ht]
    simp
  · rw [List.getElem?_set_ne (by omega)]; exact h.rest k hk hkn
  · by_cases e : j = i
    · subst e
      have el : (j : Int) - (v : Int) = l := by omega
      rw [el, List.getElem?_set_self hil, ht]
      refine ⟨P.length + 1, by simp, ?_⟩
      have e1 : ((pre ++ [l]).elem l && !false) = true := by rw [elem_app]; simp
      rw [e1]
      simp only [if_true, List.cons_append, List.nil_append]
      exact ⟨P.length, a, rfl, by simp, hc.more⟩
    · rw [List.getElem?_set_ne (fun c => e c.symm)]
      obtain ⟨b, h1, h2⟩ := h.chain j hj
      refine ⟨b, h1, ?_⟩
      have e2 : ((pre ++ [l]).elem ((j : Int) - (v : Int))) = pre.elem ((j : Int) - (v : Int)) := by
        rw [elem_app]
        have : (((j : Int) - (v : Int)) == l) = false := by simp; omega
        rw [this, Bool.or_false]
      rw [e2]
      exact h2.more
/-- The clause is laid: the next one. -/
theorem Laid.next (h : Laid C T v m (C.getD m []) lf P nw) (hm : m < C.length) : Laid C T v (m + 1) [] lf P nw := by
  refine ⟨fun k hk => ?_, fun hm1 => ?_, fun k hk hkn => h.rest k (by omega) hkn, fun i hi => ?_⟩
  · by_cases e : k = m
    · subst e; exact h.here hm
    · exact h.left k (by omega)
  · rw [h.rest (m + 1) (by omega) hm1]; rfl
  · obtain ⟨a, h1, h2⟩ := h.chain i hi
    refine ⟨a, h1, ?_⟩
    simp only [List.elem_nil, Bool.false_and, Bool.false_eq_true, if_false, List.nil_append]
    unfold occ
    by_cases c : ((C.getD m []).elem ((i : Int) - (v : Int)) && !T.elem (-((i : Int) - (v : Int)))) = true
    · rw [if_pos c] at h2 ⊢
      exact h2
    · rw [if_neg c] at h2 ⊢
      exact h2
end
/-- What the queue and 'broken' are, of the clauses below m. -/
structure Queued (C : Cl) (T : List Int) (m : Nat) (q : List Int) (br : Bool) : Prop where
  heap : HeapL q
  len : q.length ≤ m
  br : br = true ↔ ∃ k, k < m ∧ cnt T [] (C.getD k []) = 0
  qin : ∀ y ∈ q, ∃ k : Nat, k < m ∧ y = (k : Int) ∧ cnt T [] (C.getD k []) ≤ 1
  unit : ∀ k, k < m → cnt T [] (C.getD k []) = 1 → ((k : Nat) : Int) ∈ q
theorem heap_nil : HeapL [] := fun k _ h => by simp at h
theorem Queued.next {C : Cl} {T : List Int} {m : Nat} {q q' : List Int} {br : Bool} (h : Queued C T m q br) (hl : LookR q ((cnt T [] (C.getD m []) : Nat) : Int) m q') : Queued C T (m + 1) q' (br || (((cnt T [] (C.getD m []) : Nat) : Int) == 0)) := by
  obtain ⟨h1, h2⟩ := hl.heap h.heap
  have hm := hl.mem
  refine ⟨h1, by have := h.len; omega, ?_, fun y hy => ?_, fun k hk hc => ?_⟩
  · rw [Bool.or_eq_true, h.br, beq_iff_eq]
    constructor
    · rintro (⟨k, hk, h0⟩ | h0)
      · exact ⟨k, by omega, h0⟩
      · exact ⟨m, by omega, by omega⟩
    · rintro ⟨k, hk, h0⟩
      by_cases e : k = m
      · subst e; exact .inr (by omega)
      · exact .inl ⟨k, by omega, h0⟩
  · rcases (hm y).1 hy with h0 | ⟨h0, h3⟩
    · obtain ⟨k, hk, e, hc⟩ := h.qin y h0
      exact ⟨k, by omega, e, hc⟩
    · exact ⟨m, by omega, h0, by omega⟩
  · by_cases e : k = m
    · subst e; exact (hm _).2 (.inr ⟨rfl, by omega⟩)
    · exact (hm _).2 (.inl (h.unit k (by omega) hc))
/-- All are laid. -/
theorem inv_of {C : Cl} {T : List Int} {v : Nat} {lf : List Int} {P : List (Int × Int)} {nw q : List Int} {br : Bool} (h : Laid C T v C.length [] lf P nw) (hq : Queued C T C.length q br) (hA : Agree T) : Inv C v T T lf P nw q br Never := by
  refine ⟨h.left, fun i hi => ?_, hq.br, hq.qin, fun k hk hc => .inr (.inl (hq.unit k hk hc)), fun _ hx => hx, hA⟩
  obtain ⟨a, h1, h2⟩ := h.chain i hi
  simp only [List.elem_nil, Bool.false_and, Bool.false_eq_true, if_false, List.nil_append] at h2
  exact ⟨a, h1, h2⟩
end Cf
end Go.Proofs.YtcpehdeddgfpmaaDoor
