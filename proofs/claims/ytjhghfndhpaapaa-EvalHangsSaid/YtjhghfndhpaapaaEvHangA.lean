/-
  Plain facts for the statement that a term hangs on the variables below it alone: the list of numbers that its loop makes.
-/
import Derived.Test.YtjhghfndhpaapaaEvTellsA
import Derived.Test.YtjhghfndhpaapaaEvP1
import Derived.Laws.OwnMore
namespace Go.Proofs.Ytjhghfndhpaapaa
open Go.RowKit Go.Maps Bv
namespace Tm
set_option maxHeartbeats 1000000
set_option maxRecDepth 100000

def rowU (C : List Nat) : List Value := C.map (fun v => .int .u64 ((v : Nat) : Int))

/-- The two stores, the variables' list, the list that is made. -/
structure HangAt (W0 : World) (vv : Value) (V : List Nat) (cv : Value) (C : List Nat) (w : World) : Prop where
  bel : Below W0.heap.size W0 w
  vrow : w.ownsRow W0.heap.size 3 1 vv V.length (todoRow V)
  crow : w.ownsRow W0.heap.size 29 1 cv C.length (rowU C)
  ne : ∀ g, cv.ownBlock = some g → vv.ownBlock ≠ some g
  ok : ∀ v ∈ C, v < 18446744073709551616

theorem HangAt.call {W0 w w' : World} {vv cv : Value} {V C : List Nat} (h : HangAt W0 vv V cv C w) (k : Below w.heap.size w w') : HangAt W0 vv V cv C w' :=
  ⟨bel_call h.bel k, row_kept h.vrow (Kept.ofBelow k (fun _ => False)) (fun _ _ x => x), row_kept h.crow (Kept.ofBelow k (fun _ => False)) (fun _ _ x => x), h.ne, h.ok⟩
/-- The list is longer. -/
theorem HangAt.grow {W0 w w2 : World} {vv cv v' : Value} {V C M : List Nat} (h : HangAt W0 vv V cv C w) (K2 : Kept (fun i => cv.ownBlock = some i) w w2) (hrow : w2.ownsRow W0.heap.size 29 1 v' (C.length + M.length) (rowU C ++ rowU M))
    (hloc : v'.ownBlock = cv.ownBlock ∨ ∃ g, w.heap.size ≤ g ∧ v'.ownBlock = some g) (hM : ∀ v ∈ M, v < 18446744073709551616) : HangAt W0 vv V v' (C ++ M) w2 := by
  refine ⟨h.bel.trans (K2.below (fun i hi c => by have := (h.crow.lt i c).1; omega) h.bel.size), row_kept h.vrow K2 (fun g e c => h.ne g c e), ?_, fun g e c => ?_, fun v hv => ?_⟩
  · simpa [rowU] using hrow
  · have hlt := (h.vrow.lt g c).2
    rcases hloc with l | ⟨g2, hg2, l⟩
    · rw [l] at e; exact h.ne g e c
    · rw [l] at e
      simp at e
      omega
  · rcases List.mem_append.1 hv with c | c
    · exact h.ok v c
    · exact hM v c
theorem HangAt.more {W0 w w2 : World} {vv cv v' : Value} {V C M : List Nat} {o : Obj} (h : HangAt W0 vv V cv C w) (hg : (w.alloc o).grownBy w2 cv.ownBlock) (hrow : w2.ownsRow W0.heap.size 29 1 v' (C.length + M.length) (rowU C ++ rowU M))
    (hloc : v'.ownBlock = cv.ownBlock ∨ v'.ownBlock = some (w.alloc o).heap.size) (hM : ∀ v ∈ M, v < 18446744073709551616) : HangAt W0 vv V v' (C ++ M) w2 :=
  h.grow (((Kept.refl (fun i => cv.ownBlock = some i) w).alloc o).thenNew (kept_grown hg (fun i e => e)) (fun _ _ x => x)) hrow (hloc.imp id (fun e => ⟨_, by rw [size_alloc]; omega, e⟩)) hM

/-- A number of the list is set. -/
theorem HangAt.set {W0 w : World} {vv cv : Value} {V C : List Nat} {g cap j u : Nat} (h : HangAt W0 vv V cv C w) (hcv : cv = .slice (some ⟨g, 0, none⟩) C.length cap) (hu : u < 18446744073709551616) :
    HangAt W0 vv V cv (C.set j u) (w.setCell ⟨g, j, none⟩ (.int .u64 ((u : Nat) : Int))) := by
  subst hcv
  obtain ⟨r1, r2⟩ := h.crow.stored j (.int .u64 ((u : Nat) : Int))
  have K := kept_grown r2 (F := fun i => i = g) (fun i e => by simpa using e.symm)
  have hg := (h.crow.lt g rfl).1
  refine ⟨h.bel.trans (K.below (fun i hi c => by omega) h.bel.size), row_kept h.vrow K (fun b e c => h.ne g rfl (by rw [e, c])), ?_, h.ne, fun v hv => ?_⟩
  · have e : rowU (C.set j u) = (rowU C).set j (.int .u64 ((u : Nat) : Int)) := by unfold rowU; rw [List.map_set]
    rw [e, List.length_set]
    exact r1
  · rcases List.mem_or_eq_of_mem_set hv with c | c
    · exact h.ok v c
    · rw [c]; exact hu

/-- The first i variables have the numbers of the one assignment. -/
def Fits (C V a : List Nat) (i : Nat) : Prop := ∀ (j v : Nat), j < i → V[j]? = some v → C.getD v 0 = a.getD v 0 ∧ v < C.length
theorem fits_zero (C V a : List Nat) : Fits C V a 0 := fun j v h => by omega
theorem Fits.more {C V a : List Nat} {i : Nat} (h : Fits C V a i) (M : List Nat) : Fits (C ++ M) V a i := fun j v hj hv => by
  obtain ⟨a1, b1⟩ := h j v hj hv
  refine ⟨?_, by simp; omega⟩
  rw [List.getD_eq_getElem?_getD, List.getElem?_append_left b1, ← List.getD_eq_getElem?_getD]
  exact a1
theorem Fits.step {C V a : List Nat} {i v : Nat} (h : Fits C V a i) (hr : V.Pairwise (· < ·)) (hv : V[i]? = some v) (hl : v < C.length) : Fits (C.set v (a.getD v 0)) V a (i + 1) := fun j s hj hs => by
  obtain ⟨hil, hie⟩ := List.getElem?_eq_some_iff.1 hv
  obtain ⟨hjl, hje⟩ := List.getElem?_eq_some_iff.1 hs
  by_cases e : j = i
  · subst e
    rw [hv] at hs
    simp at hs
    subst hs
    refine ⟨?_, by simpa using hl⟩
    rw [List.getD_eq_getElem?_getD, List.getElem?_set_self hl]
    rfl
  · have hlt := List.pairwise_iff_getElem.1 hr j i hjl hil (by omega)
    rw [hie, hje] at hlt
    obtain ⟨a1, b1⟩ := h j s (by omega) hs
    refine ⟨?_, by simpa using b1⟩
    rw [List.getD_eq_getElem?_getD, List.getElem?_set_ne (by omega), ← List.getD_eq_getElem?_getD]
    exact a1
theorem asg_of_row {w : World} {base cc : Nat} {ca : Option Addr} {C : List Nat} (h : w.ownsRow base 29 1 (.slice ca C.length cc) C.length (rowU C)) (ok : ∀ v ∈ C, v < 18446744073709551616) (hl : C.length < 9223372036854775808) : AsgAt w ca C := by
  refine ⟨?_, ok, hl⟩
  rcases h with ⟨_, ⟨h1, h2⟩ | ⟨g, c2, cur, h1, hb, hh, r⟩⟩
  · exact .inl (List.eq_nil_of_length_eq_zero h2)
  · simp only [Value.slice.injEq] at h1
    obtain ⟨rfl, _, rfl⟩ := h1
    have hr : w.ownsRow base 29 1 (.slice (some ⟨g, 0, none⟩) C.length cc) C.length (rowU C) := ⟨by simp [rowU], .inr ⟨g, cc, cur, rfl, hb, hh, r⟩⟩
    refine .inr ⟨g, 0, rfl, (Array.getElem?_eq_some_iff.1 hh).1, fun j v hj => ?_⟩
    have hjl := (List.getElem?_eq_some_iff.1 hj).1
    rw [Nat.zero_add, hr.cellAt j (by omega)]
    simp [rowU, hj]

theorem mk_split (L : List Nd) (x : Nd) : ∃ R, (mk L x).1 = L ++ R := by
  unfold mk
  (repeat' split)
  all_goals first | exact ⟨[], (List.append_nil L).symm⟩ | exact ⟨[x], rfl⟩
/-- Under both, and with a node behind, it is the same vector. -/
theorem hang_eq {L : List Nd} (hM : MayL L) {a C V : List Nat} {k : Nat} (hk : k < L.length) (hf : Fits C V a V.length) (hV : ∀ v, v ∈ V ↔ Below2 L k v) (x : Nd) :
    evN (mk L x).1 C k = evN L a k ∧ widAt (mk L x).1 ((k : Nat) : Int) = widAt L ((k : Nat) : Int) := by
  obtain ⟨R, hR⟩ := mk_split L x
  have hM' := mayL_step hM x
  rw [hR] at hM' ⊢
  refine ⟨?_, ?_⟩
  · rw [ev_more hM hM' C k hk]
    refine (ev_hangs hM a C k (fun v hv => ?_) k .top hk).symm
    obtain ⟨j, hj⟩ := List.getElem?_of_mem ((hV v).2 hv)
    exact (hf j v (List.getElem?_eq_some_iff.1 hj).1 hj).1.symm
  · unfold widAt
    rw [Int.toNat_natCast, List.getElem?_append_left hk]
end Tm
end Go.Proofs.Ytjhghfndhpaapaa
