/-
  A store beside a list of numbers and a list of nodes, all of the call's own: what stays while nodes are made and the lists grow.
-/
import Derived.Test.YtkiegiofholofaaPt13
namespace Go.Proofs.Ytkiegiofholofaa
open Go.RowKit Go.Maps Bv
namespace Tm
set_option maxHeartbeats 400000
set_option maxRecDepth 100000

/-- The store, the two lists; no two of them share a block; what was there before the call is as it was. -/
structure St (W : World) (p m : Nat) (sv u4 u5 : Value) (L : List Nd) (ids : List Nat) (N : List Nd) (w : World) : Prop where
  s : StoreAt W.heap.size w p m sv L
  r4 : w.ownsRow W.heap.size 3 1 u4 ids.length (todoRow ids)
  r5 : w.ownsRow W.heap.size 57 7 u5 N.length (rowOf N)
  a4 : ∀ g, u4.ownBlock = some g → ¬ foot p m sv g ∧ u5.ownBlock ≠ some g
  a5 : ∀ g, u5.ownBlock = some g → ¬ foot p m sv g
  b : Below W.heap.size W w

def StE (W : World) (p m : Nat) (u4 u5 : Value) (L : List Nd) (ids : List Nat) (N : List Nd) (w : World) : Prop := ∃ sv, St W p m sv u4 u5 L ids N w

theorem foot_lt {B : Nat} {w : World} {p m : Nat} {sv : Value} {L : List Nd} (S : StoreAt B w p m sv L) {i : Nat} (h : foot p m sv i) : B ≤ i ∧ i < w.heap.size := by
  rcases h with c | c | c
  · subst c; exact ⟨S.bp, S.lt⟩
  · subst c; exact ⟨S.bm, S.lm⟩
  · exact S.row.lt i c

theorem St.make {W : World} {p m : Nat} {sv u4 u5 v : Value} {L L' : List Nd} {ids : List Nat} {N : List Nd} {w w' : World} (h : St W p m sv u4 u5 L ids N w) (S' : StoreAt W.heap.size w' p m v L') (K : Kept (foot p m sv) w w') (loc : v.ownBlock = sv.ownBlock ∨ ∃ g, w.heap.size ≤ g ∧ v.ownBlock = some g) :
    St W p m v u4 u5 L' ids N w' := by
  have hf : ∀ g, g < w.heap.size → foot p m v g → foot p m sv g := by
    intro g hg c
    rcases c with c | c | c
    · exact .inl c
    · exact .inr (.inl c)
    · rcases loc with l | ⟨g2, hg2, l⟩
      · rw [l] at c; exact .inr (.inr c)
      · rw [l] at c; simp at c; omega
  refine ⟨S', row_kept h.r4 K (fun g e => (h.a4 g e).1), row_kept h.r5 K (fun g e => h.a5 g e), fun g e => ⟨fun c => (h.a4 g e).1 (hf g (h.r4.lt g e).2 c), (h.a4 g e).2⟩, fun g e c => h.a5 g e (hf g (h.r5.lt g e).2 c), ?_⟩
  exact h.b.trans (K.below (fun i hi c => by have := (foot_lt h.s c).1; omega) h.b.size)

theorem St.call {W : World} {p m : Nat} {sv u4 u5 : Value} {L : List Nd} {ids : List Nat} {N : List Nd} {w w' : World} (h : St W p m sv u4 u5 L ids N w) (k : Below w.heap.size w w') : St W p m sv u4 u5 L ids N w' :=
  ⟨h.s.call k, row_kept h.r4 (Kept.ofBelow k (fun _ => False)) (fun _ _ c => c), row_kept h.r5 (Kept.ofBelow k (fun _ => False)) (fun _ _ c => c), h.a4, h.a5, h.b.trans (k.mono h.b.size)⟩

theorem St.push4 {W : World} {p m : Nat} {sv u4 u5 v : Value} {L : List Nd} {ids : List Nat} {N : List Nd} {w w' : World} {a : Nat} {o : Obj} (h : St W p m sv u4 u5 L ids N w) (hr : w'.ownsRow W.heap.size 3 1 v (ids.length + 1) (todoRow ids ++ [.int .i64 ((a : Nat) : Int)])) (hg : (w.alloc o).grownBy w' u4.ownBlock) (hl : v.ownBlock = u4.ownBlock ∨ v.ownBlock = some (w.alloc o).heap.size) :
    St W p m sv v u5 L (ids ++ [a]) N w' := by
  have K : Kept (fun i => u4.ownBlock = some i) w w' := ((Kept.refl _ w).alloc o).grown hg (fun i e _ => e)
  rw [size_alloc] at hl
  refine ⟨h.s.kept K (fun i hi c => (h.a4 i c).1 hi), by simpa [todoRow] using hr, row_kept h.r5 K (fun g e c => (h.a4 g c).2 e), ?_, h.a5, h.b.trans (K.below (fun i hi c => by have := (h.r4.lt i c).1; omega) h.b.size)⟩
  intro g e
  rcases hl with l | l
  · rw [l] at e; exact h.a4 g e
  · rw [l] at e
    simp at e
    refine ⟨fun c => by have := (foot_lt h.s c).2; omega, fun c => by have := (h.r5.lt g c).2; omega⟩

theorem St.push5 {W : World} {p m : Nat} {sv u4 u5 v : Value} {L : List Nd} {ids : List Nat} {N : List Nd} {w w' : World} {x : Nd} {o : Obj} (h : St W p m sv u4 u5 L ids N w) (hr : w'.ownsRow W.heap.size 57 7 v (N.length + 1) (rowOf N ++ x.cells.toList)) (hg : (w.alloc o).grownBy w' u5.ownBlock) (hl : v.ownBlock = u5.ownBlock ∨ v.ownBlock = some (w.alloc o).heap.size) :
    St W p m sv u4 v L ids (N ++ [x]) w' := by
  have K : Kept (fun i => u5.ownBlock = some i) w w' := ((Kept.refl _ w).alloc o).grown hg (fun i e _ => e)
  rw [size_alloc] at hl
  refine ⟨h.s.kept K (fun i hi c => h.a5 i c hi), row_kept h.r4 K (fun g e c => (h.a4 g e).2 c), by rw [rowOf_append]; simpa using hr, ?_, ?_, h.b.trans (K.below (fun i hi c => by have := (h.r5.lt i c).1; omega) h.b.size)⟩
  · intro g e
    refine ⟨(h.a4 g e).1, ?_⟩
    rcases hl with l | l
    · rw [l]; exact (h.a4 g e).2
    · rw [l]; intro c; simp at c; have := (h.r4.lt g e).2; omega
  · intro g e c
    rcases hl with l | l
    · rw [l] at e; exact h.a5 g e c
    · rw [l] at e
      simp at e
      have := (foot_lt h.s c).2
      omega

/-- Each number is that of its node. -/
structure NumOf (L : List Nd) (ids : List Nat) (N : List Nd) : Prop where
  len : ids.length = N.length
  at1 : ∀ (j a : Nat) (x : Nd), ids[j]? = some a → N[j]? = some x → L[a]? = some x

theorem mk_prefix (L : List Nd) (x : Nd) : ∃ R, (mk L x).1 = L ++ R := by
  unfold mk
  repeat' split
  all_goals first | exact ⟨[], (List.append_nil L).symm⟩ | exact ⟨[x], rfl⟩
theorem idx_at {L : List Nd} {x : Nd} (h : x ∈ L) : L[idx L x]? = some x := by
  have hl := idx_lt h
  have hi := List.findIdx_getElem (xs := L) (p := fun y => decide (y = x)) (w := hl)
  simp at hi
  rw [List.getElem?_eq_getElem hl]
  show some L[idx L x] = some x
  unfold idx
  rw [hi]
theorem mk_ok {L : List Nd} {x : Nd} (h : (mk L x).2.2 = 0) : (mk L x).1[(mk L x).2.1]? = some x := by
  unfold mk at h ⊢
  split at h
  · simp at h
  split at h
  · simp at h
  split at h
  · rename_i h1 h2 h3
    rw [if_neg h1, if_neg h2, if_pos h3]
    exact idx_at h3
  split at h
  · simp at h
  · rename_i h1 h2 h3 h4
    rw [if_neg h1, if_neg h2, if_neg h3, if_neg h4]
    simp
theorem NumOf.more {L L' : List Nd} {ids : List Nat} {N : List Nd} (h : NumOf L ids N) {R : List Nd} (hL : L' = L ++ R) : NumOf L' ids N := by
  refine ⟨h.len, fun j a x h1 h2 => ?_⟩
  have := h.at1 j a x h1 h2
  rw [hL, List.getElem?_append_left (List.getElem?_eq_some_iff.1 this).1]
  exact this
theorem NumOf.push {L : List Nd} {ids : List Nat} {N : List Nd} (h : NumOf L ids N) {a : Nat} {x : Nd} (hx : L[a]? = some x) : NumOf L (ids ++ [a]) (N ++ [x]) := by
  refine ⟨by simp [h.len], fun j b y h1 h2 => ?_⟩
  by_cases hj : j < ids.length
  · rw [List.getElem?_append_left hj] at h1
    rw [List.getElem?_append_left (by rw [← h.len]; exact hj)] at h2
    exact h.at1 j b y h1 h2
  · rw [List.getElem?_append_right (by omega)] at h1
    rw [List.getElem?_append_right (by rw [← h.len]; omega)] at h2
    have h0 : j - ids.length = 0 := by
      have := (List.getElem?_eq_some_iff.1 h1).1
      simp at this
      omega
    rw [h0] at h1
    rw [← h.len, h0] at h2
    simp at h1 h2
    subst h1; subst h2
    exact hx

end Tm
end Go.Proofs.Ytkiegiofholofaa
