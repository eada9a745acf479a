/-
  Plain facts for layer eval: what a node is under an assignment.
-/
import Derived.Test.YthelkbdiedfmfaaGreatTmMath
import Derived.Test.YthelkbdiedfmfaaGreatBvMathD
namespace Go.Proofs.YthelkbdiedfmfaaGreat
open Bv
namespace Tm
set_option maxHeartbeats 400000

/-- The number of the vector in the place k. -/
def vAt (V : List Nat) (k : Int) : Nat := V.getD k.toNat 0
/-- What is left of the variable's number. -/
def asg (a : List Nat) (w n : Nat) : Nat := if n < a.length then low w (a.getD n 0) else 0
/-- What the node x is, when the nodes ahead of it are V. -/
def oneN (L : List Nd) (V a : List Nat) (x : Nd) : Nat :=
  if x.o = 1 then x.n
  else if x.o = 2 then asg a x.w x.n
  else if x.o = 3 ∨ x.o = 4 then low x.w (numU x.o (vAt V x.k0))
  else if x.o = 22 then low x.w (vAt V x.k0 / 2 ^ x.l)
  else if x.o = 23 ∨ x.o = 24 then low x.w (numE x.o (widAt L x.k0) (vAt V x.k0))
  else if x.o = 25 then (if vAt V x.k0 = 1 then vAt V x.k1 else vAt V x.k2)
  else low x.w (numB x.o (widAt L x.k0) (widAt L x.k1) (vAt V x.k0) (vAt V x.k1))
/-- The first i nodes' numbers. -/
def valsN (L : List Nd) (a : List Nat) : Nat → List Nat
  | 0 => []
  | i + 1 => valsN L a i ++ [match L[i]? with | some x => oneN L (valsN L a i) a x | none => 0]
def evN (L : List Nd) (a : List Nat) (i : Nat) : Nat := (valsN L a (i + 1)).getD i 0

theorem valsN_length (L : List Nd) (a : List Nat) : ∀ i, (valsN L a i).length = i
  | 0 => rfl
  | i + 1 => by simp [valsN, valsN_length L a i]
theorem valsN_get (L : List Nd) (a : List Nat) {j : Nat} : ∀ {i : Nat}, j < i → (valsN L a i).getD j 0 = evN L a j
  | 0, h => by omega
  | i + 1, h => by
    by_cases e : j = i
    · subst e; rfl
    · have hj : j < i := by omega
      have ih := valsN_get L a hj
      rw [← ih]
      simp only [valsN, List.getD_eq_getElem?_getD]
      rw [List.getElem?_append_left (by rw [valsN_length]; exact hj)]
theorem valsN_succ {L : List Nd} {a : List Nat} {i : Nat} {x : Nd} (hx : L[i]? = some x) : valsN L a (i + 1) = valsN L a i ++ [oneN L (valsN L a i) a x] := by
  simp only [valsN, hx]
theorem evN_is {L : List Nd} {a : List Nat} {i : Nat} {x : Nd} (hx : L[i]? = some x) : evN L a i = oneN L (valsN L a i) a x := by
  unfold evN
  rw [valsN_succ hx, List.getD_eq_getElem?_getD, List.getElem?_append_right (by rw [valsN_length]; exact Nat.le_refl _)]
  simp [valsN_length]
theorem vAt_ev {L : List Nd} {a : List Nat} {i : Nat} {k : Int} (h0 : 0 ≤ k) (h : k < ((i : Nat) : Int)) : vAt (valsN L a i) k = evN L a k.toNat := valsN_get L a (by omega)

/-- Each node may be, behind the nodes ahead of it. -/
def MayL (L : List Nd) : Prop := ∀ (i : Nat) (x : Nd), L[i]? = some x → mayN (L.take i) x = true
theorem mayL_nil : MayL [] := fun i x h => by simp at h
theorem mayL_step {L : List Nd} (h : MayL L) (x : Nd) : MayL (mk L x).1 := by
  unfold mk
  split
  · exact h
  rename_i h1
  have hm : mayN L x = true := by simpa using h1
  split
  · exact h
  split
  · exact h
  split
  · exact h
  intro i y hy
  by_cases hi : i < L.length
  · rw [List.getElem?_append_left hi] at hy
    rw [show (L ++ [x]).take i = L.take i by rw [List.take_append_of_le_length (by omega)]]
    exact h i y hy
  · rw [List.getElem?_append_right (by omega)] at hy
    have h0 : i - L.length = 0 := by
      have := (List.getElem?_eq_some_iff.1 hy).1
      simp at this
      omega
    rw [h0] at hy
    simp at hy
    subst hy
    rw [show i = L.length by omega, List.take_append_of_le_length (Nat.le_refl _), List.take_length]
    exact hm

theorem widAt_take {L : List Nd} {i : Nat} {k : Int} (h0 : 0 ≤ k) (h : k < ((i : Nat) : Int)) : widAt (L.take i) k = widAt L k := by
  unfold widAt
  rw [List.getElem?_take, if_pos (by omega)]

/-- What holds of the width, by the operator. -/
theorem mayL_kids {L : List Nd} (h : MayL L) {i : Nat} {x : Nd} (hx : L[i]? = some x) (j : Nat) (hj : j < kc x.o) : 0 ≤ x.kid j ∧ x.kid j < ((i : Nat) : Int) := by
  have := mayN_kid (h i x hx) hj
  have hl : (L.take i).length ≤ i := by rw [List.length_take]; omega
  omega
theorem mayL_vec {L : List Nd} (h : MayL L) {i : Nat} {x : Nd} (hx : L[i]? = some x) (h1 : ¬ x.o = 1) (h2 : ¬ x.o = 2) :
    ¬ vecW x.o x.w x.l (wid L x 0) (wid L x 1) (wid L x 2) = 0 ∧ vecW x.o x.w x.l (wid L x 0) (wid L x 1) (wid L x 2) = x.w := by
  have hw : ∀ j, wid (L.take i) x j = wid L x j := fun j => by
    unfold wid
    by_cases hj : j < kc x.o
    · rw [if_pos hj, if_pos hj, widAt_take (mayL_kids h hx j hj).1 (mayL_kids h hx j hj).2]
    · rw [if_neg hj, if_neg hj]
  have hm := h i x hx
  unfold mayN at hm
  rw [if_neg h1, if_neg h2, hw, hw, hw] at hm
  simp only [Bool.and_eq_true, decide_eq_true_eq] at hm
  exact hm.2
theorem mayL_const {L : List Nd} (h : MayL L) {i : Nat} {x : Nd} (hx : L[i]? = some x) (h1 : x.o = 1) : mayB x.w x.n = true := by
  have hm := h i x hx
  unfold mayN at hm
  rw [if_pos h1] at hm
  simp only [Bool.and_eq_true] at hm
  exact hm.2

/-- Each node's number is one of its width. -/
theorem ev_may {L : List Nd} (g : Gd L) (h : MayL L) (a : List Nat) : ∀ (i : Nat) (x : Nd), L[i]? = some x → mayB x.w (evN L a i) = true := by
  intro i
  induction i using Nat.strongRecOn with
  | _ i ih =>
    intro x hx
    have hw := g.w x (List.mem_of_getElem? hx)
    rw [evN_is hx]
    unfold oneN
    by_cases h1 : x.o = 1
    · rw [if_pos h1]; exact mayL_const h hx h1
    rw [if_neg h1]
    by_cases h2 : x.o = 2
    · rw [if_pos h2]
      unfold asg
      split
      · exact may_low hw.1 hw.2 _
      · exact mayB_mk hw.1 hw.2 (pow_pos' _)
    rw [if_neg h2]
    by_cases h3 : x.o = 3 ∨ x.o = 4
    · rw [if_pos h3]; exact may_low hw.1 hw.2 _
    rw [if_neg h3]
    by_cases h22 : x.o = 22
    · rw [if_pos h22]; exact may_low hw.1 hw.2 _
    rw [if_neg h22]
    by_cases h23 : x.o = 23 ∨ x.o = 24
    · rw [if_pos h23]; exact may_low hw.1 hw.2 _
    rw [if_neg h23]
    by_cases h25 : x.o = 25
    · rw [if_pos h25]
      have hk : kc x.o = 3 := by rw [h25]; decide
      have hv := mayL_vec h hx h1 h2
      unfold vecW at hv
      rw [if_neg h3, if_neg h22, if_neg h23, if_pos h25] at hv
      have kid : ∀ j, j < 3 → ∃ y, L[(x.kid j).toNat]? = some y ∧ wid L x j = y.w ∧ mayB y.w (evN L a (x.kid j).toNat) = true ∧ vAt (valsN L a i) (x.kid j) = evN L a (x.kid j).toNat := by
        intro j hj
        have hkj := mayL_kids h hx j (by omega)
        have hl := (List.getElem?_eq_some_iff.1 hx).1
        obtain ⟨y, hy⟩ : ∃ y, L[(x.kid j).toNat]? = some y := ⟨_, List.getElem?_eq_getElem (by omega)⟩
        refine ⟨y, hy, ?_, ih _ (by omega) y hy, vAt_ev hkj.1 hkj.2⟩
        unfold wid widAt
        rw [if_pos (by omega), hy]
        rfl
      obtain ⟨y1, _, w1, m1, e1⟩ := kid 1 (by omega)
      obtain ⟨y2, _, w2, m2, e2⟩ := kid 2 (by omega)
      by_cases hc : wid L x 0 = 1 ∧ wid L x 1 = wid L x 2 ∧ 1 ≤ wid L x 1 ∧ wid L x 1 ≤ 64
      · rw [if_pos hc] at hv
        split
        · show mayB x.w (vAt (valsN L a i) (x.kid 1)) = true
          rw [e1, ← hv.2, w1]; exact m1
        · show mayB x.w (vAt (valsN L a i) (x.kid 2)) = true
          rw [e2, ← hv.2, hc.2.1, w2]; exact m2
      · rw [if_neg hc] at hv; exact absurd rfl hv.1
    · rw [if_neg h25]; exact may_low hw.1 hw.2 _

end Tm
end Go.Proofs.YthelkbdiedfmfaaGreat
