/-
  Plain facts for the document's own Vars: what its marks are while it goes from the node down; what is in memory then.
-/
import Derived.Test.YtkfnekhjmnjloaaTmRefB
namespace Go.Proofs.Ytkfnekhjmnjloaa
open Go.RowKit Go.Maps Bv
namespace Tm
set_option maxHeartbeats 400000
set_option maxRecDepth 100000

/-- All nodes from c on have been gone through. -/
structure RInv (L : List Nd) (id : Nat) (bel isv : Nat → Bool) (c : Nat) : Prop where
  b0 : bel id = true
  re : ∀ j, bel j = true → Reach L id j
  cl : ∀ i x j, c ≤ i → bel i = true → L[i]? = some x → j < kc x.o → bel (x.kid j).toNat = true
  vm : ∀ v, isv v = true ↔ ∃ i x, c ≤ i ∧ bel i = true ∧ L[i]? = some x ∧ x.o = 2 ∧ x.n = v
/-- Besides, the first m kids of the node i. -/
structure RMid (L : List Nd) (id : Nat) (bel isv : Nat → Bool) (i : Nat) (x : Nd) (m : Nat) : Prop where
  b0 : bel id = true
  re : ∀ j, bel j = true → Reach L id j
  cl : ∀ i' x j, i < i' → bel i' = true → L[i']? = some x → j < kc x.o → bel (x.kid j).toNat = true
  ck : ∀ j, j < m → j < kc x.o → bel (x.kid j).toNat = true
  vm : ∀ v, isv v = true ↔ ∃ i' x, i ≤ i' ∧ bel i' = true ∧ L[i']? = some x ∧ x.o = 2 ∧ x.n = v
  hi : bel i = true

theorem rinv_start {L : List Nd} {id : Nat} : RInv L id (mark (fun _ => false) id) (fun _ => false) (id + 1) := by
  have h1 : ∀ i, mark (fun _ => false) id i = true → i = id := fun i h => by
    rcases mark_inv h with e | e
    · exact e
    · simp at e
  refine ⟨mark_same _ _, fun j h => by rw [h1 j h]; exact .top, fun i x j hc hb _ _ => by have := h1 i hb; omega, fun v => ?_⟩
  constructor
  · intro h; simp at h
  · rintro ⟨i, x, hc, hb, _⟩
    have := h1 i hb
    omega
theorem RInv.skip {L : List Nd} {id : Nat} {bel isv : Nat → Bool} {i : Nat} (h : RInv L id bel isv (i + 1)) (hb : bel i = false) : RInv L id bel isv i := by
  have hne : ∀ j, i ≤ j → bel j = true → i + 1 ≤ j := fun j hj hbj => by
    by_cases e : j = i
    · subst e; rw [hb] at hbj; simp at hbj
    · omega
  refine ⟨h.b0, h.re, fun i' x j hc hb' hx hj => h.cl i' x j (hne i' hc hb') hb' hx hj, fun v => ?_⟩
  rw [h.vm v]
  constructor
  · rintro ⟨i', x, hc, r⟩; exact ⟨i', x, by omega, r⟩
  · rintro ⟨i', x, hc, hb', r⟩; exact ⟨i', x, hne i' hc hb', hb', r⟩
def isv' (isv : Nat → Bool) (x : Nd) : Nat → Bool := if x.o = 2 then mark isv x.n else isv
theorem RInv.mid {L : List Nd} {id : Nat} {bel isv : Nat → Bool} {i : Nat} {x : Nd} (h : RInv L id bel isv (i + 1)) (hb : bel i = true) (hx : L[i]? = some x) : RMid L id bel (isv' isv x) i x 0 := by
  refine ⟨h.b0, h.re, fun i' y j hc hb' hy hj => h.cl i' y j hc hb' hy hj, fun j hj _ => by omega, fun v => ?_, hb⟩
  unfold isv'
  by_cases ho : x.o = 2
  · rw [if_pos ho]
    constructor
    · intro hm
      rcases mark_inv hm with e | e
      · exact ⟨i, x, Nat.le_refl _, hb, hx, ho, e.symm⟩
      · obtain ⟨i', y, hc, r⟩ := (h.vm v).1 e
        exact ⟨i', y, by omega, r⟩
    · rintro ⟨i', y, hc, hb', hy, hoy, hn⟩
      by_cases e : i' = i
      · subst e
        rw [hx] at hy
        simp at hy
        subst hy
        rw [← hn]
        exact mark_same _ _
      · exact mark_mono ((h.vm v).2 ⟨i', y, by omega, hb', hy, hoy, hn⟩)
  · rw [if_neg ho, h.vm v]
    constructor
    · rintro ⟨i', y, hc, r⟩; exact ⟨i', y, by omega, r⟩
    · rintro ⟨i', y, hc, hb', hy, hoy, hn⟩
      refine ⟨i', y, ?_, hb', hy, hoy, hn⟩
      by_cases e : i' = i
      · subst e
        rw [hx] at hy
        simp at hy
        subst hy
        exact absurd hoy ho
      · omega
theorem RMid.kid {L : List Nd} {id : Nat} {bel isv : Nat → Bool} {i m : Nat} {x : Nd} (g : Gd L) (h : RMid L id bel isv i x m) (hx : L[i]? = some x) (hm : m < kc x.o) : RMid L id (mark bel (x.kid m).toNat) isv i x (m + 1) := by
  have hk := g.kid i x hx m hm
  have old : ∀ j, i ≤ j → mark bel (x.kid m).toNat j = true → bel j = true := fun j hj hb => by
    rcases mark_inv hb with e | e
    · omega
    · exact e
  refine ⟨mark_mono h.b0, fun j hj => ?_, fun i' y j hc hb hy hj => mark_mono (h.cl i' y j hc (old i' (by omega) hb) hy hj), fun j hj hjk => ?_, fun v => ?_, mark_mono h.hi⟩
  · rcases mark_inv hj with e | e
    · rw [e]; exact .kid (h.re i h.hi) hx hm
    · exact h.re j e
  · by_cases e : j = m
    · subst e; exact mark_same _ _
    · exact mark_mono (h.ck j (by omega) hjk)
  · rw [h.vm v]
    constructor
    · rintro ⟨i', y, hc, hb, r⟩; exact ⟨i', y, hc, mark_mono hb, r⟩
    · rintro ⟨i', y, hc, hb, r⟩; exact ⟨i', y, hc, old i' hc hb, r⟩
theorem RMid.done {L : List Nd} {id : Nat} {bel isv : Nat → Bool} {i m : Nat} {x : Nd} (h : RMid L id bel isv i x m) (hx : L[i]? = some x) (hm : kc x.o ≤ m) : RInv L id bel isv i := by
  refine ⟨h.b0, h.re, fun i' y j hc hb hy hj => ?_, h.vm⟩
  by_cases e : i' = i
  · subst e
    rw [hx] at hy
    simp at hy
    subst hy
    exact h.ck j (by omega) hj
  · exact h.cl i' y j (by omega) hb hy hj
open Classical in
theorem RInv.vars {L : List Nd} {id : Nat} {bel isv : Nat → Bool} (h : RInv L id bel isv 0) : (List.range 256).filter isv = varsOf L id := by
  have hr : ∀ i, Reach L id i → bel i = true := by
    intro i hi
    induction hi with
    | top => exact h.b0
    | @kid i j x hi hx hj ih => exact h.cl i x j (Nat.zero_le _) ih hx hj
  unfold varsOf
  apply List.filter_congr
  intro v _
  rw [Bool.eq_iff_iff, decide_eq_true_eq, h.vm v]
  constructor
  · rintro ⟨i, x, _, hb, r⟩; exact ⟨i, x, h.re i hb, r⟩
  · rintro ⟨i, x, hb, r⟩; exact ⟨i, x, Nat.zero_le _, hr i hb, r⟩

/-- The marks and the variables' marks in memory. -/
structure RvAt (W : World) (id : Nat) (bel isv : Nat → Bool) (w : World) : Prop where
  cs : ∀ i, i < id + 1 → w.cell? ⟨W.heap.size, i, none⟩ = some (.bool (bel i))
  fs : ∀ i, w.frozen? ⟨W.heap.size, i, none⟩ = false
  ci : ∀ v, v < 256 → w.cell? ⟨W.heap.size + 1, v, none⟩ = some (.bool (isv v))
  fi : ∀ i, w.frozen? ⟨W.heap.size + 1, i, none⟩ = false
  l : W.heap.size + 1 < w.heap.size
  b : Below W.heap.size W w
theorem RvAt.kept {W w w' : World} {id : Nat} {bel isv : Nat → Bool} {F : Nat → Prop} (h : RvAt W id bel isv w) (k : Kept F w w') (hF : ∀ i, F i → W.heap.size + 1 < i) : RvAt W id bel isv w' := by
  have n0 : ¬ F W.heap.size := fun c => by have := hF _ c; omega
  have n1 : ¬ F (W.heap.size + 1) := fun c => by have := hF _ c; omega
  have l := h.l
  exact ⟨fun i hi => (k.cell (x := ⟨W.heap.size, i, none⟩) (show W.heap.size < _ by omega) n0).trans (h.cs i hi), fun i => (k.frozen (x := ⟨W.heap.size, i, none⟩) (show W.heap.size < _ by omega) n0).trans (h.fs i),
    fun i hi => (k.cell (x := ⟨W.heap.size + 1, i, none⟩) l n1).trans (h.ci i hi), fun i => (k.frozen (x := ⟨W.heap.size + 1, i, none⟩) l n1).trans (h.fi i), Nat.lt_of_lt_of_le l k.size,
    h.b.trans (k.below (fun i hi c => by have := hF i c; omega) h.b.size)⟩
theorem RvAt.alloc {W w : World} {id : Nat} {bel isv : Nat → Bool} (h : RvAt W id bel isv w) (o : Obj) : RvAt W id bel isv (w.alloc o) := h.kept ((Kept.refl (fun _ => False) w).alloc o) (fun _ c => c.elim)
theorem RvAt.drew {W w : World} {id : Nat} {bel isv : Nat → Bool} (h : RvAt W id bel isv w) : RvAt W id bel isv w.drew := h.kept ((Kept.refl (fun _ => False) w).drew) (fun _ c => c.elim)
theorem RvAt.mark {W w : World} {id i : Nat} {bel isv : Nat → Bool} (h : RvAt W id bel isv w) (hi : i < id + 1) : RvAt W id (Tm.mark bel i) isv (w.setCell ⟨W.heap.size, i, none⟩ (.bool true)) := by
  refine ⟨fun j hj => ?_, fun j => (World.frozen?_setCell _ _ _ _).trans (h.fs j), fun v hv => ?_, fun j => (World.frozen?_setCell _ _ _ _).trans (h.fi j), by simpa [World.setCell] using h.l, h.b.setCell (Nat.le_refl _) _⟩
  · unfold Tm.mark
    by_cases e : j = i
    · subst e
      rw [if_pos rfl]
      exact World.cell?_setCell_same' _ _ _ (by rw [h.cs j hj]; rfl)
    · rw [if_neg e, World.cell?_setCell_other _ _ _ _ (by simp; try omega)]
      exact h.cs j hj
  · rw [World.cell?_setCell_far _ _ _ _ (by simp)]
    exact h.ci v hv
theorem RvAt.markv {W w : World} {id n : Nat} {bel isv : Nat → Bool} (h : RvAt W id bel isv w) (hn : n < 256) : RvAt W id bel (Tm.mark isv n) (w.setCell ⟨W.heap.size + 1, n, none⟩ (.bool true)) := by
  refine ⟨fun j hj => ?_, fun j => (World.frozen?_setCell _ _ _ _).trans (h.fs j), fun v hv => ?_, fun j => (World.frozen?_setCell _ _ _ _).trans (h.fi j), by simpa [World.setCell] using h.l, h.b.setCell (Nat.le_succ _) _⟩
  · rw [World.cell?_setCell_far _ _ _ _ (by simp)]
    exact h.cs j hj
  · unfold Tm.mark
    by_cases e : v = n
    · subst e
      rw [if_pos rfl]
      exact World.cell?_setCell_same' _ _ _ (by rw [h.ci v hv]; rfl)
    · rw [if_neg e, World.cell?_setCell_other _ _ _ _ (by simp; try omega)]
      exact h.ci v hv
end Tm
end Go.Proofs.Ytkfnekhjmnjloaa
