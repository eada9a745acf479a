/-
  The document's heap and the program's, side by side in memory.
-/
import Derived.Test.YtdajnmlpghgeeaaHpScale
import Derived.Test.YtdajnmlpghgeeaaHpPopR
import Derived.Test.YtdajnmlpghgeeaaHpPut
import Derived.Test.YtdajnmlpghgeeaaHpLives
namespace Go.Proofs.Ytdajnmlpghgeeaa
open Go.RowKit
namespace Hp
set_option maxHeartbeats 1600000
set_option maxRecDepth 100000

theorem cell_blk {w w' : World} {b : Nat} (h : w'.heap[b]? = w.heap[b]?) (o : Nat) : w'.cell? ⟨b, o, none⟩ = w.cell? ⟨b, o, none⟩ := by
  unfold World.cell?
  rw [h]
theorem frozen_blk {w w' : World} {b : Nat} (h : w'.heap[b]? = w.heap[b]?) (o : Nat) : w'.frozen? ⟨b, o, none⟩ = w.frozen? ⟨b, o, none⟩ := by
  unfold World.frozen?
  rw [h]
theorem RHp.only {w w' : World} {p sb ib : Nat} {S : List Nat} {I : List Bool} {bs : List Nat} (h : RHp w p sb ib S I) (o : Only bs w w') (h1 : p ∉ bs) (h2 : sb ∉ bs) (h3 : ib ∉ bs) : RHp w' p sb ib S I := by
  obtain ⟨l1, l2, l3⟩ := h.lt
  have k1 := o.blk p l1 h1
  have k2 := o.blk sb l2 h2
  have k3 := o.blk ib l3 h3
  exact ⟨(cell_blk k1 _).trans h.c0, (cell_blk k1 _).trans h.c1, fun j x hj => (cell_blk k2 _).trans (h.s j x hj), fun j b hj => (cell_blk k3 _).trans (h.i j b hj), fun j => (frozen_blk k2 _).trans (h.fs j), fun j => (frozen_blk k3 _).trans (h.fi j), h.len, h.pos, ⟨Nat.lt_of_lt_of_le l1 o.size, Nat.lt_of_lt_of_le l2 o.size, Nat.lt_of_lt_of_le l3 o.size⟩, h.sep⟩
theorem HAt.only {w w' : World} {p sb tb qb n m : Nat} {S T P : Nat → Nat} {bs : List Nat} (g : HAt w p sb tb qb n m S T P) (o : Only bs w w') (h1 : p ∉ bs) (h2 : sb ∉ bs) (h3 : tb ∉ bs) (h4 : qb ∉ bs) : HAt w' p sb tb qb n m S T P := by
  have h := g.h
  obtain ⟨l1, l2, l3, l4⟩ := h.lt
  have k1 := o.blk p l1 h1
  have k2 := o.blk sb l2 h2
  have k3 := o.blk tb l3 h3
  have k4 := o.blk qb l4 h4
  exact ⟨⟨(cell_blk k1 _).trans h.c0, (cell_blk k1 _).trans h.c1, (cell_blk k1 _).trans h.c2, fun j hj => (cell_blk k2 _).trans (h.s j hj), fun j hj => (cell_blk k3 _).trans (h.t j hj), fun j hj => (cell_blk k4 _).trans (h.q j hj), fun j => (frozen_blk k1 _).trans (h.fp j), fun j => (frozen_blk k2 _).trans (h.fs j), fun j => (frozen_blk k3 _).trans (h.ft j), fun j => (frozen_blk k4 _).trans (h.fq j), h.le, ⟨Nat.lt_of_lt_of_le l1 o.size, Nat.lt_of_lt_of_le l2 o.size, Nat.lt_of_lt_of_le l3 o.size, Nat.lt_of_lt_of_le l4 o.size⟩, h.sep⟩, g.fit, g.ord⟩

/-- What the document's best one is. -/
theorem best_spec {S : List Nat} {I : List Bool} : ∀ k, (bestP S I k = 0 ∧ ∀ v, 1 ≤ v → v < k → inP I v = false) ∨ (1 ≤ bestP S I k ∧ bestP S I k < k ∧ inP I (bestP S I k) = true ∧ ∀ u, 1 ≤ u → u < k → inP I u = true → u ≠ bestP S I k → aheadF (scP S) (bestP S I k) u = true)
  | 0 => .inl ⟨rfl, fun v _ h => by omega⟩
  | k + 1 => by
    rw [bestP]
    by_cases h0 : k = 0
    · rw [if_pos h0]
      exact .inl ⟨rfl, fun v a b => by omega⟩
    · rw [if_neg h0]
      have ih := best_spec (S := S) (I := I) k
      generalize bestP S I k = b at ih
      cases hin : inP I k with
      | false =>
        simp only [Bool.false_and, Bool.false_eq_true, if_false]
        rcases ih with ⟨i1, i2⟩ | ⟨i1, i2, i3, i4⟩
        · refine .inl ⟨i1, fun v a c => ?_⟩
          by_cases e : v = k
          · rw [e]; exact hin
          · exact i2 v a (by omega)
        · refine .inr ⟨i1, by omega, i3, fun u a c d e => ?_⟩
          by_cases eu : u = k
          · rw [eu, hin] at d; cases d
          · exact i4 u a (by omega) d e
      | true =>
        simp only [Bool.true_and]
        rcases ih with ⟨i1, i2⟩ | ⟨i1, i2, i3, i4⟩
        · rw [i1]
          simp only [beq_self_eq_true, Bool.true_or, if_true]
          refine .inr ⟨by omega, by omega, hin, fun u a c d e => ?_⟩
          rw [i2 u a (by omega)] at d; cases d
        · have hb : (b == 0) = false := by simpa using (by omega : b ≠ 0)
          rw [hb, Bool.false_or]
          cases ha : aboveF (scP S k) (scP S b) with
          | true =>
            rw [if_pos rfl]
            have hkb : aheadF (scP S) k b = true := by unfold aheadF; rw [ha]; rfl
            refine .inr ⟨by omega, by omega, hin, fun u a c d e => ?_⟩
            by_cases eu : u = b
            · rw [eu]; exact hkb
            · exact ahead_trans hkb (i4 u a (by omega) d eu)
          | false =>
            simp only [Bool.false_eq_true, if_false]
            refine .inr ⟨i1, by omega, i3, fun u a c d e => ?_⟩
            by_cases eu : u = k
            · rw [eu]
              unfold aheadF
              rw [ha, decide_eq_true (by omega : b < k)]; simp
            · exact i4 u a (by omega) d e
theorem lenP_cnt {I : List Bool} {P : Nat → Nat} : ∀ k, (∀ v, 1 ≤ v → v ≤ k → ∃ b, I[v]? = some b ∧ (b = true ↔ P v ≠ 0)) → lenP I (k + 1) = cntF P k
  | 0, _ => lenP_one I
  | k + 1, h => by
    obtain ⟨b, hb, hp⟩ := h (k + 1) (by omega) (by omega)
    rw [lenP_step (by omega) hb, lenP_cnt k (fun v a c => h v a (by omega)), cntF]
    cases b with
    | true => rw [if_neg (hp.1 rfl)]; rfl
    | false =>
      have e : P (k + 1) = 0 := Decidable.byContradiction fun e => absurd (hp.2 e) (by simp)
      rw [if_pos e, if_neg (by simp)]
/-- The two heaps say the same. -/
structure Alike (n : Nat) (S P : Nat → Nat) (R : List Nat) (I : List Bool) : Prop where
  rl : R.length = n + 1
  il : I.length = n + 1
  like : ∀ v, 1 ≤ v → v ≤ n → likeF (S v) (scP R v)
  inn : ∀ v, 1 ≤ v → v ≤ n → (inP I v = true ↔ P v ≠ 0)
theorem Alike.len {n m : Nat} {S T P : Nat → Nat} {R : List Nat} {I : List Bool} (h : Alike n S P R I) (hf : Fit n m T P) : lenP I R.length = m := by
  rw [h.rl, lenP_cnt (P := P) n (fun v a b => ?_), hf.cnt]
  obtain ⟨x, hx⟩ : ∃ x, I[v]? = some x := ⟨_, List.getElem?_eq_getElem (by rw [h.il]; omega)⟩
  refine ⟨x, hx, ?_⟩
  have := h.inn v a b
  unfold inP at this
  rw [hx] at this
  exact this
theorem sc_set {R : List Nat} {n v u x : Nat} (hl : R.length = n + 1) (hv : v ≤ n) : scP (R.set v x) u = if u = v then x else scP R u := by
  unfold scP
  by_cases e : u = v
  · subst e
    rw [if_pos rfl, List.getElem?_set_self (by omega)]; rfl
  · rw [if_neg e, List.getElem?_set_ne (fun x => e x.symm)]
theorem in_set {I : List Bool} {n v u : Nat} {x : Bool} (hl : I.length = n + 1) (hv : v ≤ n) : inP (I.set v x) u = if u = v then x else inP I u := by
  unfold inP
  by_cases e : u = v
  · subst e
    rw [if_pos rfl, List.getElem?_set_self (by omega)]; rfl
  · rw [if_neg e, List.getElem?_set_ne (fun x => e x.symm)]
theorem Alike.bump {n v r s y : Nat} {S P Q : Nat → Nat} {R : List Nat} {I : List Bool} (h : Alike n S P R I) (h1 : 1 ≤ v) (h2 : v ≤ n) (hr : mayBe (FloatKind.f64.format.add (S v) y) r) (hs : mayBe (FloatKind.f64.format.add (scP R v) y) s) (hq : SameIn P Q) : Alike n (upd S v r) Q (R.set v s) I := by
  refine ⟨by rw [List.length_set]; exact h.rl, h.il, fun u a b => ?_, fun u a b => (h.inn u a b).trans (not_congr (hq u))⟩
  rw [sc_set h.rl h2]
  by_cases e : u = v
  · subst e
    rw [upd_at, if_pos rfl]
    rw [(h.like u a b).add] at hr
    exact hr.like hs
  · rw [upd_ne e, if_neg e]; exact h.like u a b
theorem Alike.scale {n y : Nat} {S U P Q : Nat → Nat} {R V : List Nat} {I : List Bool} (h : Alike n S P R I) (hu : ScaledF n S y (n + 1) U) (hv : Scaled R y R.length V) (hq : SameIn P Q) : Alike n U Q V I := by
  refine ⟨hv.1.trans h.rl, h.il, fun u a b => ?_, fun u a b => (h.inn u a b).trans (not_congr (hq u))⟩
  have x1 := hu u b
  rw [if_pos ⟨a, by omega⟩] at x1
  obtain ⟨t, ht⟩ : ∃ t, V[u]? = some t := ⟨_, List.getElem?_eq_getElem (by rw [hv.1, h.rl]; omega)⟩
  obtain ⟨x, hx, x2⟩ := hv.2 u t ht
  rw [if_pos ⟨a, by rw [h.rl]; omega⟩] at x2
  have hsc : scP R u = x := by unfold scP; rw [hx]; rfl
  have hst : scP V u = t := by unfold scP; rw [ht]; rfl
  rw [hst]
  have hl := h.like u a b
  rw [hsc] at hl
  rw [hl.mul] at x1
  exact x1.like x2
theorem Alike.pop {n v : Nat} {S P Q : Nat → Nat} {R : List Nat} {I : List Bool} (h : Alike n S P R I) (h2 : v ≤ n) (hz : Q v = 0) (hq : ∀ u, 1 ≤ u → u ≤ n → u ≠ v → (P u = 0 ↔ Q u = 0)) : Alike n S Q R (I.set v false) := by
  refine ⟨h.rl, by rw [List.length_set]; exact h.il, h.like, fun u a b => ?_⟩
  rw [in_set h.il h2]
  by_cases e : u = v
  · subst e
    rw [if_pos rfl]
    exact ⟨fun x => (by cases x), fun x => absurd hz x⟩
  · rw [if_neg e]
    exact (h.inn u a b).trans (not_congr (hq u a b e))
theorem Alike.put {n v : Nat} {S P Q : Nat → Nat} {R : List Nat} {I : List Bool} (h : Alike n S P R I) (h2 : v ≤ n) (hz : Q v ≠ 0) (hq : ∀ u, u ≠ v → (P u = 0 ↔ Q u = 0)) : Alike n S Q R (I.set v true) := by
  refine ⟨h.rl, by rw [List.length_set]; exact h.il, h.like, fun u a b => ?_⟩
  rw [in_set h.il h2]
  by_cases e : u = v
  · subst e
    rw [if_pos rfl]
    exact ⟨fun _ => hz, fun _ => rfl⟩
  · rw [if_neg e]
    exact (h.inn u a b).trans (not_congr (hq u e))
/-- The first one of the tree is the document's best. -/
theorem Alike.first {n m : Nat} {S T P : Nat → Nat} {R : List Nat} {I : List Bool} (h : Alike n S P R I) (ho : Ord S T m 1) (hf : Fit n m T P) : if m = 0 then bestP R I R.length = 0 else bestP R I R.length = T 1 ∧ T 1 ≠ 0 := by
  have hb := best_spec (S := R) (I := I) R.length
  rw [h.rl] at hb ⊢
  by_cases hm : m = 0
  · rw [if_pos hm]
    rcases hb with hb | ⟨b1, b2, b3, _⟩
    · exact hb.1
    · have := (h.inn _ b1 (by omega)).1 b3
      have := (hf.p _ b1 (by omega : bestP R I (n + 1) ≤ n)).1
      omega
  · rw [if_neg hm]
    obtain ⟨a1, a2, a3⟩ := hf.t 1 (Nat.le_refl _) (by omega)
    rcases hb with ⟨_, hb⟩ | ⟨b1, b2, b3, b4⟩
    · have := hb (T 1) a1 (by omega)
      have h9 := (h.inn (T 1) a1 a2).2 (by rw [a3]; omega)
      rw [h9] at this; cases this
    · refine ⟨(first_is ho hf b1 (by omega) ((h.inn _ b1 (by omega)).1 b3) fun u u1 u2 u3 u4 => ?_).symm, by omega⟩
      rw [ahead_same (R := scP R) (h.like _ b1 (by omega)).key (h.like u u1 u2).key]
      exact b4 u u1 (by omega) ((h.inn u u1 u2).2 u3) u4
end Hp
end Go.Proofs.Ytdajnmlpghgeeaa
