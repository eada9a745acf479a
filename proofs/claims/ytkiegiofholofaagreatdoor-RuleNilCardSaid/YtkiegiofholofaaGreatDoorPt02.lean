/-
Plain facts for layer eval: what a node is under an assignment.
Plain facts on long division, products by adding, and shifts bit by bit.
Plain facts on products by adding and shifts bit by bit.
Plain facts: what shifts, orders and quotients by worths are, bit by bit and by signs.
Plain facts for layer known: the masks of those bits of a node that are sure.
Plain facts for layer rule: what each of the nine rules makes of a node.
A node as a key of a map, two nodes compared: what the model makes of them, in terms of the seven numbers.
-/
import Derived.Test.YtkiegiofholofaaGreatDoorPt01
import Derived.Test.YtkiegiofholofaaGreatDoorProg
import Derived.KernelRfl
import Derived.WalkKit
import Derived.Outline
import Derived.DeepKeys4
import Derived.Maps.Own
import Derived.Maps.OwnOps
import Derived.Maps.OwnSet
import Derived.Maps.Views
import Derived.Laws.Cover3
namespace Go.Proofs.YtkiegiofholofaaGreatDoor
open Bv
namespace Tm
set_option maxHeartbeats 400000

/-- The number of the vector in the place k. -/
def vAt (V : List Nat) (k : Int) : Nat := V.getD k.toNat 0
/-- What is left of the variable's number. -/
def asg (a : List Nat) (w n : Nat) : Nat := if n < a.length then low w (a.getD n 0) else 0
/-- What the node x is, when the nodes ahead of it are V. -/
def oneN (L : List Nd) (V a : List Nat) (x : Nd) : Nat :=
  if x.o = 1 then x.n
  else if x.o = 2 then asg a x.w x.n
  else if x.o = 3 ∨ x.o = 4 then low x.w (numU x.o (vAt V x.k0))
  else if x.o = 22 then low x.w (vAt V x.k0 / 2 ^ x.l)
  else if x.o = 23 ∨ x.o = 24 then low x.w (numE x.o (widAt L x.k0) (vAt V x.k0))
  else if x.o = 25 then (if vAt V x.k0 = 1 then vAt V x.k1 else vAt V x.k2)
  else low x.w (numB x.o (widAt L x.k0) (widAt L x.k1) (vAt V x.k0) (vAt V x.k1))
/-- The first i nodes' numbers. -/
def valsN (L : List Nd) (a : List Nat) : Nat → List Nat
  | 0 => []
  | i + 1 => valsN L a i ++ [match L[i]? with | some x => oneN L (valsN L a i) a x | none => 0]
def evN (L : List Nd) (a : List Nat) (i : Nat) : Nat := (valsN L a (i + 1)).getD i 0

theorem valsN_length (L : List Nd) (a : List Nat) : ∀ i, (valsN L a i).length = i
  | 0 => rfl
  | i + 1 => by simp [valsN, valsN_length L a i]
theorem valsN_get (L : List Nd) (a : List Nat) {j : Nat} : ∀ {i : Nat}, j < i → (valsN L a i).getD j 0 = evN L a j
  | 0, h => by omega
  | i + 1, h => by
    by_cases e : j = i
    · subst e; rfl
    · have hj : j < i := by omega
      have ih := valsN_get L a hj
      rw [← ih]
      simp only [valsN, List.getD_eq_getElem?_getD]
      rw [List.getElem?_append_left (by rw [valsN_length]; exact hj)]
theorem valsN_succ {L : List Nd} {a : List Nat} {i : Nat} {x : Nd} (hx : L[i]? = some x) : valsN L a (i + 1) = valsN L a i ++ [oneN L (valsN L a i) a x] := by
  simp only [valsN, hx]
theorem evN_is {L : List Nd} {a : List Nat} {i : Nat} {x : Nd} (hx : L[i]? = some x) : evN L a i = oneN L (valsN L a i) a x := by
  unfold evN
  rw [valsN_succ hx, List.getD_eq_getElem?_getD, List.getElem?_append_right (by rw [valsN_length]; exact Nat.le_refl _)]
  simp [valsN_length]
theorem vAt_ev {L : List Nd} {a : List Nat} {i : Nat} {k : Int} (h0 : 0 ≤ k) (h : k < ((i : Nat) : Int)) : vAt (valsN L a i) k = evN L a k.toNat := valsN_get L a (by omega)

/-- Each node may be, behind the nodes ahead of it. -/
def MayL (L : List Nd) : Prop := ∀ (i : Nat) (x : Nd), L[i]? = some x → mayN (L.take i) x = true
theorem mayL_nil : MayL [] := fun i x h => by simp at h
theorem mayL_step {L : List Nd} (h : MayL L) (x : Nd) : MayL (mk L x).1 := by
  unfold mk
  split
  · exact h
  rename_i h1
  have hm : mayN L x = true := by simpa using h1
  split
  · exact h
  split
  · exact h
  split
  · exact h
  intro i y hy
  by_cases hi : i < L.length
  · rw [List.getElem?_append_left hi] at hy
    rw [show (L ++ [x]).take i = L.take i by rw [List.take_append_of_le_length (by omega)]]
    exact h i y hy
  · rw [List.getElem?_append_right (by omega)] at hy
    have h0 : i - L.length = 0 := by
      have := (List.getElem?_eq_some_iff.1 hy).1
      simp at this
      omega
    rw [h0] at hy
    simp at hy
    subst hy
    rw [show i = L.length by omega, List.take_append_of_le_length (Nat.le_refl _), List.take_length]
    exact hm

theorem widAt_take {L : List Nd} {i : Nat} {k : Int} (h0 : 0 ≤ k) (h : k < ((i : Nat) : Int)) : widAt (L.take i) k = widAt L k := by
  unfold widAt
  rw [List.getElem?_take, if_pos (by omega)]

/-- What holds of the width, by the operator. -/
theorem mayL_kids {L : List Nd} (h : MayL L) {i : Nat} {x : Nd} (hx : L[i]? = some x) (j : Nat) (hj : j < kc x.o) : 0 ≤ x.kid j ∧ x.kid j < ((i : Nat) : Int) := by
  have := mayN_kid (h i x hx) hj
  have hl : (L.take i).length ≤ i := by rw [List.length_take]; omega
  omega
theorem mayL_vec {L : List Nd} (h : MayL L) {i : Nat} {x : Nd} (hx : L[i]? = some x) (h1 : ¬ x.o = 1) (h2 : ¬ x.o = 2) :
    ¬ vecW x.o x.w x.l (wid L x 0) (wid L x 1) (wid L x 2) = 0 ∧ vecW x.o x.w x.l (wid L x 0) (wid L x 1) (wid L x 2) = x.w := by
  have hw : ∀ j, wid (L.take i) x j = wid L x j := fun j => by
    unfold wid
    by_cases hj : j < kc x.o
    · rw [if_pos hj, if_pos hj, widAt_take (mayL_kids h hx j hj).1 (mayL_kids h hx j hj).2]
    · rw [if_neg hj, if_neg hj]
  have hm := h i x hx
  unfold mayN at hm
  rw [if_neg h1, if_neg h2, hw, hw, hw] at hm
  simp only [Bool.and_eq_true, decide_eq_true_eq] at hm
  exact hm.2
theorem mayL_const {L : List Nd} (h : MayL L) {i : Nat} {x : Nd} (hx : L[i]? = some x) (h1 : x.o = 1) : mayB x.w x.n = true := by
  have hm := h i x hx
  unfold mayN at hm
  rw [if_pos h1] at hm
  simp only [Bool.and_eq_true] at hm
  exact hm.2

/-- Each node's number is one of its width. -/
theorem ev_may {L : List Nd} (g : Gd L) (h : MayL L) (a : List Nat) : ∀ (i : Nat) (x : Nd), L[i]? = some x → mayB x.w (evN L a i) = true := by
  intro i
  induction i using Nat.strongRecOn with
  | _ i ih =>
    intro x hx
    have hw := g.w x (List.mem_of_getElem? hx)
    rw [evN_is hx]
    unfold oneN
    by_cases h1 : x.o = 1
    · rw [if_pos h1]; exact mayL_const h hx h1
    rw [if_neg h1]
    by_cases h2 : x.o = 2
    · rw [if_pos h2]
      unfold asg
      split
      · exact may_low hw.1 hw.2 _
      · exact mayB_mk hw.1 hw.2 (pow_pos' _)
    rw [if_neg h2]
    by_cases h3 : x.o = 3 ∨ x.o = 4
    · rw [if_pos h3]; exact may_low hw.1 hw.2 _
    rw [if_neg h3]
    by_cases h22 : x.o = 22
    · rw [if_pos h22]; exact may_low hw.1 hw.2 _
    rw [if_neg h22]
    by_cases h23 : x.o = 23 ∨ x.o = 24
    · rw [if_pos h23]; exact may_low hw.1 hw.2 _
    rw [if_neg h23]
    by_cases h25 : x.o = 25
    · rw [if_pos h25]
      have hk : kc x.o = 3 := by rw [h25]; decide
      have hv := mayL_vec h hx h1 h2
      unfold vecW at hv
      rw [if_neg h3, if_neg h22, if_neg h23, if_pos h25] at hv
      have kid : ∀ j, j < 3 → ∃ y, L[(x.kid j).toNat]? = some y ∧ wid L x j = y.w ∧ mayB y.w (evN L a (x.kid j).toNat) = true ∧ vAt (valsN L a i) (x.kid j) = evN L a (x.kid j).toNat := by
        intro j hj
        have hkj := mayL_kids h hx j (by omega)
        have hl := (List.getElem?_eq_some_iff.1 hx).1
        obtain ⟨y, hy⟩ : ∃ y, L[(x.kid j).toNat]? = some y := ⟨_, List.getElem?_eq_getElem (by omega)⟩
        refine ⟨y, hy, ?_, ih _ (by omega) y hy, vAt_ev hkj.1 hkj.2⟩
        unfold wid widAt
        rw [if_pos (by omega), hy]
        rfl
      obtain ⟨y1, _, w1, m1, e1⟩ := kid 1 (by omega)
      obtain ⟨y2, _, w2, m2, e2⟩ := kid 2 (by omega)
      by_cases hc : wid L x 0 = 1 ∧ wid L x 1 = wid L x 2 ∧ 1 ≤ wid L x 1 ∧ wid L x 1 ≤ 64
      · rw [if_pos hc] at hv
        split
        · show mayB x.w (vAt (valsN L a i) (x.kid 1)) = true
          rw [e1, ← hv.2, w1]; exact m1
        · show mayB x.w (vAt (valsN L a i) (x.kid 2)) = true
          rw [e2, ← hv.2, hc.2.1, w2]; exact m2
      · rw [if_neg hc] at hv; exact absurd rfl hv.1
    · rw [if_neg h25]; exact may_low hw.1 hw.2 _

end Tm
end Go.Proofs.YtkiegiofholofaaGreatDoor

namespace Go.Proofs.YtkiegiofholofaaGreatDoor
open Go.RowKit
namespace Bv

def dq (n m k : Nat) : Nat := n / 2 ^ k / m * 2 ^ k
def dr (n m k : Nat) : Nat := n / 2 ^ k % m
theorem dq_start {n m : Nat} (hn : n < 18446744073709551616) : dq n m 64 = 0 := by
  have e : n / 2 ^ 64 = 0 := Nat.div_eq_of_lt (by simpa using hn)
  unfold dq; rw [e]; simp
theorem dr_start {n m : Nat} (hn : n < 18446744073709551616) : dr n m 64 = 0 := by
  have e : n / 2 ^ 64 = 0 := Nat.div_eq_of_lt (by simpa using hn)
  unfold dr; rw [e]; simp
theorem dq_end (n m : Nat) : dq n m 0 = n / m := by unfold dq; simp
theorem dr_end (n m : Nat) : dr n m 0 = n % m := by unfold dr; simp
theorem dr_lt (n : Nat) {m : Nat} (k : Nat) (h : 0 < m) : dr n m k < m := Nat.mod_lt _ h
/-- The bit that comes next. -/
def db (n j : Nat) : Nat := n / 2 ^ j % 2
theorem db_lt (n j : Nat) : db n j < 2 := Nat.mod_lt _ (by decide)
theorem pre_step (n j : Nat) : n / 2 ^ j = 2 * (n / 2 ^ (j + 1)) + db n j := by
  unfold db
  rw [Nat.pow_succ, ← Nat.div_div_eq_div_mul]
  omega
theorem dr_yes {n m j : Nat} (hm : 0 < m) (h : m ≤ 2 * dr n m (j + 1) + db n j) : dr n m j = 2 * dr n m (j + 1) + db n j - m ∧ n / 2 ^ j / m = 2 * (n / 2 ^ (j + 1) / m) + 1 := by
  have hp := pre_step n j
  have hb := db_lt n j
  have hr := dr_lt n (j + 1) hm
  unfold dr at *
  have e := Nat.div_add_mod (n / 2 ^ (j + 1)) m
  generalize n / 2 ^ (j + 1) = A at *
  generalize n / 2 ^ j = B at *
  generalize db n j = b at *
  generalize hq : A / m = q at *
  generalize A % m = r at *
  have e2 : B = (2 * q + 1) * m + (2 * r + b - m) := by
    rw [hp, ← e, Nat.add_mul, Nat.mul_assoc, Nat.mul_comm q m]; omega
  have hlt : 2 * r + b - m < m := by omega
  rw [e2]
  constructor
  · rw [Nat.add_comm, Nat.add_mul_mod_self_right, Nat.mod_eq_of_lt hlt]
  · rw [Nat.add_comm, Nat.add_mul_div_right _ _ hm, Nat.div_eq_of_lt hlt]; omega
theorem dr_no {n m j : Nat} (hm : 0 < m) (h : 2 * dr n m (j + 1) + db n j < m) : dr n m j = 2 * dr n m (j + 1) + db n j ∧ n / 2 ^ j / m = 2 * (n / 2 ^ (j + 1) / m) := by
  have hp := pre_step n j
  unfold dr at *
  have e := Nat.div_add_mod (n / 2 ^ (j + 1)) m
  generalize n / 2 ^ (j + 1) = A at *
  generalize n / 2 ^ j = B at *
  generalize db n j = b at *
  generalize hq : A / m = q at *
  generalize A % m = r at *
  have e2 : B = (2 * q) * m + (2 * r + b) := by
    rw [hp, ← e, Nat.mul_assoc, Nat.mul_comm q m]; omega
  rw [e2]
  constructor
  · rw [Nat.add_comm, Nat.add_mul_mod_self_right, Nat.mod_eq_of_lt h]
  · rw [Nat.add_comm, Nat.add_mul_div_right _ _ hm, Nat.div_eq_of_lt h]; omega
theorem dq_yes {n m j : Nat} (hm : 0 < m) (h : m ≤ 2 * dr n m (j + 1) + db n j) : dq n m j = dq n m (j + 1) + 2 ^ j := by
  have e := (dr_yes hm h).2
  unfold dq
  rw [e, Nat.pow_succ, Nat.add_mul, Nat.one_mul, Nat.mul_comm 2, Nat.mul_assoc, Nat.mul_comm 2]
theorem dq_no {n m j : Nat} (hm : 0 < m) (h : 2 * dr n m (j + 1) + db n j < m) : dq n m j = dq n m (j + 1) := by
  have e := (dr_no hm h).2
  unfold dq
  rw [e, Nat.pow_succ, Nat.mul_comm 2, Nat.mul_assoc, Nat.mul_comm 2]
theorem dq_le (n m k : Nat) : dq n m k ≤ n := by
  unfold dq
  exact Nat.le_trans (Nat.mul_le_mul_right _ (Nat.div_le_self _ _)) (Nat.div_mul_le_self n (2 ^ k))
theorem dq_or {n m j : Nat} : dq n m (j + 1) ||| 2 ^ j = dq n m (j + 1) + 2 ^ j := by
  unfold dq
  exact or_join (Nat.pow_lt_pow_right (by decide) (Nat.lt_succ_self j))

theorem and_bit {n j : Nat} (hn : n < 18446744073709551616) : bits BinOp.and IntKind.u64 ((n : Int) / 2 ^ j) 1 = (db n j : Int) := by
  have e : (n : Int) / 2 ^ j = ((n / 2 ^ j : Nat) : Int) := by simp
  rw [e, show (1 : Int) = ((1 : Nat) : Int) from rfl, bits_and_u64_nat _ 1 (Nat.lt_of_le_of_lt (Nat.div_le_self _ _) hn) (by decide), Nat.and_one_is_mod]
  rfl
theorem or_bit {n j x : Nat} (hn : n < 18446744073709551616) (hx : 2 * x < 18446744073709551616) : bits BinOp.or IntKind.u64 ((x : Int) * 2) (bits BinOp.and IntKind.u64 ((n : Int) / 2 ^ j) 1) = ((2 * x + db n j : Nat) : Int) := by
  have hb := db_lt n j
  rw [and_bit hn, show (x : Int) * 2 = ((x * 2 : Nat) : Int) by simp, bits_or_u64_nat _ _ (by omega) (by omega)]
  have := or_join (x := x) (m := db n j) (v := 1) (by simpa using hb)
  rw [Nat.pow_one] at this
  rw [this, Nat.mul_comm]
theorem or_bit' {n j x : Nat} (hn : n < 18446744073709551616) : bits BinOp.or IntKind.u64 (IntKind.u64.wrap ((x : Int) * 2)) (bits BinOp.and IntKind.u64 ((n : Int) / 2 ^ j) 1) = ((2 * x % 18446744073709551616 + db n j : Nat) : Int) := by
  have e : IntKind.u64.wrap ((x : Int) * 2) = ((x % 9223372036854775808 : Nat) : Int) * 2 := by rw [IntKind.wrap_u64]; omega
  rw [e, or_bit hn (by omega)]
  congr 2; omega
theorem or_pow {n m j : Nat} (hn : n < 18446744073709551616) (hj : j < 64) : bits BinOp.or IntKind.u64 ((dq n m (j + 1) : Nat) : Int) (IntKind.u64.wrap (2 ^ j)) = ((dq n m (j + 1) + 2 ^ j : Nat) : Int) := by
  have hpow : 2 ^ j < 18446744073709551616 := by
    have := Nat.pow_lt_pow_right (a := 2) (by omega) hj
    simpa using this
  have e : ((2 : Int) ^ j) = ((2 ^ j : Nat) : Int) := by simp
  have e2 : IntKind.u64.wrap ((2 : Int) ^ j) = ((2 ^ j : Nat) : Int) := by
    rw [e, IntKind.wrap_u64]; clear e; generalize 2 ^ j = b at *; omega
  rw [e2, bits_or_u64_nat _ _ (Nat.lt_of_le_of_lt (dq_le n m _) hn) hpow, dq_or]
end Bv
end Go.Proofs.YtkiegiofholofaaGreatDoor

namespace Go.Proofs.YtkiegiofholofaaGreatDoor
open Go.RowKit
namespace Bv

/-- The product with the k lowest bits of m. -/
def tm (n m k : Nat) : Nat := n * (m % 2 ^ k) % 18446744073709551616
theorem tm_start (n m : Nat) : tm n m 0 = 0 := by unfold tm; simp [Nat.mod_one]
theorem tm_lt (n m k : Nat) : tm n m k < 18446744073709551616 := Nat.mod_lt _ (by decide)
theorem mod_step (m k : Nat) : m % 2 ^ (k + 1) = m % 2 ^ k + (m.testBit k).toNat * 2 ^ k := by
  rw [Nat.mod_pow_succ, Nat.testBit_eq_decide_div_mod_eq]
  rcases Nat.mod_two_eq_zero_or_one (m / 2 ^ k) with h | h <;> simp [h]
theorem tm_no {n m k : Nat} (h : m.testBit k = false) : tm n m (k + 1) = tm n m k := by unfold tm; rw [mod_step, h]; simp
theorem tm_yes {n m k : Nat} (h : m.testBit k = true) : IntKind.u64.wrap ((tm n m k : Nat) + IntKind.u64.wrap ((n : Int) * 2 ^ k)) = (tm n m (k + 1) : Nat) := by
  have e : ((2 : Int) ^ k) = ((2 ^ k : Nat) : Int) := by simp
  unfold tm
  rw [mod_step, h, Bool.toNat_true, Nat.one_mul, Nat.mul_add, e, ← Int.natCast_mul, IntKind.wrap_u64, IntKind.wrap_u64]
  generalize n * (m % 2 ^ k) = p
  generalize n * 2 ^ k = q
  omega
theorem tm_end {n m w : Nat} (hm : m < 2 ^ w) (h2 : w ≤ 64) : low w (tm n m w) = low w (n * m) := by
  unfold tm; rw [low_mod64 _ h2, Nat.mod_eq_of_lt hm]

/-- The k lowest bits of T. -/
def sh (T k : Nat) : Nat := T % 2 ^ k
theorem sh_start (T : Nat) : sh T 0 = 0 := by unfold sh; simp [Nat.mod_one]
theorem sh_lt (T : Nat) {k : Nat} (hk : k ≤ 64) : sh T k < 18446744073709551616 := Nat.lt_of_lt_of_le (Nat.mod_lt _ (pow_pos' k)) (pow_le64 hk)
theorem sh_no {T k : Nat} (h : T.testBit k = false) : sh T (k + 1) = sh T k := by unfold sh; rw [mod_step, h]; simp
theorem sh_yes {T k : Nat} (hk : k < 64) (h : T.testBit k = true) : bits BinOp.or IntKind.u64 ((sh T k : Nat) : Int) (IntKind.u64.wrap (2 ^ k)) = (sh T (k + 1) : Nat) := by
  have hpow : 2 ^ k < 18446744073709551616 := by
    have := Nat.pow_lt_pow_right (a := 2) (by omega) hk
    simpa using this
  have e : ((2 : Int) ^ k) = ((2 ^ k : Nat) : Int) := by simp
  have e2 : IntKind.u64.wrap ((2 : Int) ^ k) = ((2 ^ k : Nat) : Int) := by
    rw [e, IntKind.wrap_u64]; clear e; generalize 2 ^ k = b at *; omega
  rw [e2, bits_or_u64_nat _ _ (sh_lt T (by omega)) hpow]
  have hl : sh T k < 2 ^ k := Nat.mod_lt _ (pow_pos' k)
  have := or_join (x := 1) hl
  rw [Nat.one_mul] at this
  rw [Nat.or_comm, this]
  unfold sh
  rw [mod_step, h]; simp; omega
theorem sh_end {T w : Nat} (h : T < 2 ^ w) : sh T w = T := Nat.mod_eq_of_lt h
end Bv
end Go.Proofs.YtkiegiofholofaaGreatDoor

namespace Go.Proofs.YtkiegiofholofaaGreatDoor
open Go.RowKit
namespace Bv

theorem low_bit (w x k : Nat) (hk : k < w) : (low w x).testBit k = x.testBit k := by
  unfold low; rw [Nat.testBit_mod_two_pow]; simp [hk]
theorem mod64_bit (x k : Nat) (hk : k < 64) : (x % 18446744073709551616).testBit k = x.testBit k := by
  have : (18446744073709551616 : Nat) = 2 ^ 64 := by decide
  rw [this, Nat.testBit_mod_two_pow]; simp [hk]
theorem high_bit {w n k : Nat} (hn : n < 2 ^ w) (hk : w ≤ k) : n.testBit k = false :=
  Nat.testBit_lt_two_pow (Nat.lt_of_lt_of_le hn (Nat.pow_le_pow_right (by decide) hk))

theorem shl_bits {w v n m : Nat} (h2 : w ≤ 64) {k : Nat} (hk : k < w) :
    (low w (numB 15 w v n m)).testBit k = (decide (m ≤ k) && n.testBit (k - m)) := by
  rw [low_bit _ _ _ hk]
  show (n * 2 ^ min m 64 % 18446744073709551616).testBit k = _
  rw [mod64_bit _ _ (by omega), Nat.testBit_mul_two_pow]
  by_cases h : m ≤ k
  · rw [Nat.min_eq_left (by omega)]
  · have : ¬ min m 64 ≤ k := by omega
    simp [h, this]
theorem lshr_bits {w v n m : Nat} (h2 : w ≤ 64) (hn : n < 2 ^ w) {k : Nat} (hk : k < w) :
    (low w (numB 16 w v n m)).testBit k = (decide (m < w ∧ k + m < w) && n.testBit (k + m)) := by
  rw [low_bit _ _ _ hk]
  show (n / 2 ^ min m 64).testBit k = _
  rw [Nat.testBit_div_two_pow]
  by_cases h : k + m < w
  · rw [Nat.min_eq_left (by omega)]
    have : m < w := by omega
    simp [h, this]
  · have e : n.testBit (k + min m 64) = false := high_bit hn (by omega)
    simp [h, e]

theorem xor_low {i r : Nat} (h : r < 2 ^ i) : r ^^^ 2 ^ i = r + 2 ^ i := by
  have e : r ^^^ 2 ^ i = 2 ^ i ||| r := by
    apply Nat.eq_of_testBit_eq
    intro j
    rw [Nat.testBit_xor, Nat.testBit_or, Nat.testBit_two_pow]
    by_cases hj : i = j
    · subst hj
      have : r.testBit i = false := Nat.testBit_lt_two_pow h
      simp [this]
    · simp [hj]
  have e2 := Nat.two_pow_add_eq_or_of_lt h 1
  rw [Nat.mul_one] at e2
  rw [e, ← e2, Nat.add_comm]
theorem xor_top {w n : Nat} (h1 : 1 ≤ w) (hn : n < 2 ^ w) : n ^^^ 2 ^ (w - 1) = if 2 ^ (w - 1) ≤ n then n - 2 ^ (w - 1) else n + 2 ^ (w - 1) := by
  have hh := pow_half h1
  split
  · have hr : n - 2 ^ (w - 1) < 2 ^ (w - 1) := by omega
    have e := xor_low hr
    have e2 : n = n - 2 ^ (w - 1) + 2 ^ (w - 1) := by omega
    conv => lhs; rw [e2, ← e, Nat.xor_assoc, Nat.xor_self, Nat.xor_zero]
  · exact xor_low (by omega)
theorem slt_is {w n m : Nat} (h1 : 1 ≤ w) (hn : n < 2 ^ w) (hm : m < 2 ^ w) :
    decide (n ^^^ 2 ^ (w - 1) < m ^^^ 2 ^ (w - 1)) = (if decide (2 ^ (w - 1) ≤ n) = decide (2 ^ (w - 1) ≤ m) then decide (n < m) else decide (2 ^ (w - 1) ≤ n)) := by
  have hh := pow_half h1
  rw [xor_top h1 hn, xor_top h1 hm]
  by_cases a : 2 ^ (w - 1) ≤ n <;> by_cases b : 2 ^ (w - 1) ≤ m <;> simp [a, b] <;> omega

/-- Shifted down with the sign. -/
theorem ashr_low {w v n m : Nat} (h2 : w ≤ 64) : ((low w (numB 17 w v n m) : Nat) : Int) = (wo w n / 2 ^ min m 64) % ((2 ^ w : Nat) : Int) := by
  show ((low w ((wo w n / 2 ^ min m 64) % 18446744073709551616).toNat : Nat) : Int) = _
  exact low_int h2 _
theorem ashr_neg {w n s : Nat} (hn : n < 2 ^ w) (hs : s ≤ w) :
    (((n : Int) - ((2 ^ w : Nat) : Int)) / 2 ^ s) % ((2 ^ w : Nat) : Int) = (((2 ^ s - 1) * 2 ^ (w - s) + n / 2 ^ s : Nat) : Int) := by
  have hp := pow_pos' s
  have hq := pow_pos' (w - s)
  have hw : 2 ^ w = 2 ^ (w - s) * 2 ^ s := by rw [← Nat.pow_add]; congr 1; omega
  have hlt : n / 2 ^ s < 2 ^ (w - s) := by rw [Nat.div_lt_iff_lt_mul hp, ← hw]; exact hn
  have e1 : ((2 : Int) ^ s) = ((2 ^ s : Nat) : Int) := by simp
  rw [e1, hw]
  generalize 2 ^ s = a at *
  generalize 2 ^ (w - s) = b at *
  have e2 : ((n : Int) - ((b * a : Nat) : Int)) / (a : Int) = ((n / a : Nat) : Int) - (b : Int) := by
    rw [Int.natCast_mul, Int.sub_eq_add_neg, ← Int.neg_mul, Int.add_mul_ediv_right _ _ (by omega), Int.natCast_ediv]; omega
  rw [e2]
  clear e2
  generalize n / a = t at *
  have hb : (a - 1) * b + b = b * a := by
    rw [← Nat.succ_mul, Nat.mul_comm]; congr 1; omega
  have e3 : (t : Int) - (b : Int) + ((b * a : Nat) : Int) = (((a - 1) * b + t : Nat) : Int) := by
    rw [← hb]
    generalize (a - 1) * b = z
    omega
  rw [← Int.add_emod_right, e3]
  rw [← hb]
  generalize (a - 1) * b = z
  exact Int.emod_eq_of_lt (by omega) (by omega)
theorem ashr_far {w n s : Nat} (hn : n < 2 ^ w) (hs : w ≤ s) :
    (((n : Int) - ((2 ^ w : Nat) : Int)) / 2 ^ s) % ((2 ^ w : Nat) : Int) = ((2 ^ w - 1 : Nat) : Int) := by
  have hp := pow_pos' w
  have hle : 2 ^ w ≤ 2 ^ s := Nat.pow_le_pow_right (by decide) hs
  have e1 : ((2 : Int) ^ s) = ((2 ^ s : Nat) : Int) := by simp
  rw [e1]
  generalize 2 ^ s = a at *
  generalize 2 ^ w = b at *
  have e2 : ((n : Int) - (b : Int)) / (a : Int) = -1 := by
    rw [Int.ediv_eq_iff_of_pos (by omega)]; omega
  rw [e2, ← Int.add_emod_right, show (-1 : Int) + (b : Int) = ((b - 1 : Nat) : Int) by omega]
  exact Int.emod_eq_of_lt (by omega) (by omega)
theorem ones_bit (s j : Nat) : (2 ^ s - 1).testBit j = decide (j < s) := Nat.testBit_two_pow_sub_one s j
theorem ashr_bits {w v n m : Nat} (h1 : 1 ≤ w) (h2 : w ≤ 64) (hn : n < 2 ^ w) {k : Nat} (hk : k < w) :
    (low w (numB 17 w v n m)).testBit k = if m < w ∧ k + m < w then n.testBit (k + m) else decide (2 ^ (w - 1) ≤ n) := by
  have hT := ashr_low (w := w) (v := v) (n := n) (m := m) h2
  by_cases hs : 2 ^ (w - 1) ≤ n
  · rw [wo_neg hs] at hT
    by_cases hm : min m 64 ≤ w
    · rw [ashr_neg hn hm] at hT
      have e := Int.ofNat_inj.1 hT
      rw [e]
      have hlt : n / 2 ^ min m 64 < 2 ^ (w - min m 64) := by
        rw [Nat.div_lt_iff_lt_mul (pow_pos' _), ← Nat.pow_add, show w - min m 64 + min m 64 = w by omega]; exact hn
      rw [← or_join hlt, Nat.testBit_or, Nat.testBit_mul_two_pow, Nat.testBit_div_two_pow, ones_bit]
      by_cases hc : m < w ∧ k + m < w
      · rw [if_pos hc, Nat.min_eq_left (by omega)]
        have : ¬ w - m ≤ k := by omega
        simp [this]
      · rw [if_neg hc]
        have a : w - min m 64 ≤ k := by omega
        have b : k - (w - min m 64) < min m 64 := by omega
        simp [a, b, hs]
    · rw [ashr_far hn (by omega)] at hT
      have e := Int.ofNat_inj.1 hT
      rw [e, ones_bit, if_neg (by omega)]
      simp [hk, hs]
  · rw [wo_pos (by omega)] at hT
    have e0 : (n : Int) / 2 ^ min m 64 = ((n / 2 ^ min m 64 : Nat) : Int) := by simp
    rw [e0, Int.emod_eq_of_lt (Int.natCast_nonneg _) (Int.ofNat_lt.2 (Nat.lt_of_le_of_lt (Nat.div_le_self _ _) hn))] at hT
    have e := Int.ofNat_inj.1 hT
    rw [e, Nat.testBit_div_two_pow]
    by_cases hc : m < w ∧ k + m < w
    · rw [if_pos hc, Nat.min_eq_left (by omega)]
    · rw [if_neg hc]
      have hn' : n < 2 ^ (w - 1) := by omega
      have e : n.testBit (k + min m 64) = false := high_bit hn' (by omega)
      simp [e, hs]
end Bv
end Go.Proofs.YtkiegiofholofaaGreatDoor

namespace Go.Proofs.YtkiegiofholofaaGreatDoor
open Bv Tm
namespace Kn
set_option maxHeartbeats 400000

/-- The lowest bits that are set, up to the first that is not. -/
def lows (m : Nat) : Nat := m &&& (18446744073709551615 - (m + 1) % 18446744073709551616)
/-- On how many kids the bits of an operator hang. -/
def ka (o : Nat) : Nat :=
  if o = 3 ∨ o = 15 ∨ o = 16 ∨ o = 17 ∨ o = 22 ∨ o = 23 ∨ o = 24 then 1
  else if o = 5 ∨ o = 6 ∨ o = 7 ∨ o = 8 ∨ o = 9 ∨ o = 10 ∨ o = 18 ∨ o = 21 then 2
  else if o = 25 then 3 else 0
/-- Masks: of those bits that are 0, of those that are 1. -/
abbrev Kb : Type := Nat × Nat
def shK (o w : Nat) (a : Kb) (far : Nat) : Kb :=
  if o = 15 then (low w (a.1 * 2 ^ min far 64 % 18446744073709551616 ||| (18446744073709551615 - 18446744073709551615 * 2 ^ min far 64 % 18446744073709551616)), low w (a.2 * 2 ^ min far 64 % 18446744073709551616))
  else if o = 16 then (low w (a.1 / 2 ^ min far 64 ||| (18446744073709551615 - (2 ^ w - 1) / 2 ^ min far 64)), low w (a.2 / 2 ^ min far 64))
  else (low w (numB 17 w w a.1 far), low w (numB 17 w w a.2 far))
def iteK (w : Nat) (c a b : Kb) : Kb := if c.2 = 1 then a else if c.1 = 1 then b else (low w (a.1 &&& b.1), low w (a.2 &&& b.2))
def eqK (w : Nat) (a b : Kb) : Kb := if ¬ (a.1 &&& b.2 ||| a.2 &&& b.1) = 0 then (1, 0) else if (a.1 ||| a.2) &&& (b.1 ||| b.2) = 2 ^ w - 1 then (0, 1) else (0, 0)
def farK (o w : Nat) (a : Kb) (far : Option Nat) : Kb :=
  match far with
  | some k => shK o w a k
  | none => (0, 0)
/-- What is sure of an operator's answer, by what is sure of its kids. -/
def opK (o w n l w0 w1 : Nat) (a b c : Kb) (far : Option Nat) : Kb :=
  if o = 1 then (low w (18446744073709551615 - n), low w n)
  else if o = 3 then (low w a.2, low w a.1)
  else if o = 5 then (low w (a.1 ||| b.1), low w (a.2 &&& b.2))
  else if o = 6 then (low w (a.1 &&& b.1), low w (a.2 ||| b.2))
  else if o = 7 then (low w (a.1 &&& b.1 ||| a.2 &&& b.2), low w (a.1 &&& b.2 ||| a.2 &&& b.1))
  else if o = 8 ∨ o = 9 then (low w (lows (a.1 &&& b.1)), 0)
  else if o = 10 then (low w (lows a.1 ||| lows b.1), 0)
  else if o = 15 ∨ o = 16 ∨ o = 17 then farK o w0 a far
  else if o = 21 then (low w (a.1 * 2 ^ min w1 64 % 18446744073709551616 ||| b.1), low w (a.2 * 2 ^ min w1 64 % 18446744073709551616 ||| b.2))
  else if o = 22 then (low w (a.1 / 2 ^ min l 64), low w (a.2 / 2 ^ min l 64))
  else if o = 23 then (low w (a.1 ||| (18446744073709551615 - (2 ^ w0 - 1))), low w a.2)
  else if o = 24 then (low w (numE 24 w0 a.1), low w (numE 24 w0 a.2))
  else if o = 25 then iteK w1 a b c
  else if o = 18 then eqK w0 a b
  else (0, 0)
/-- The number that a node is, if it is one. -/
def farOf (L : List Nd) (k : Int) : Option Nat :=
  match L[k.toNat]? with
  | some y => if y.o = 1 then some y.n else none
  | none => none
def kbAt (V : List Kb) (k : Int) : Kb := V.getD k.toNat (0, 0)
def oneK (L : List Nd) (V : List Kb) (x : Nd) : Kb := opK x.o x.w x.n x.l (widAt L x.k0) (widAt L x.k1) (kbAt V x.k0) (kbAt V x.k1) (kbAt V x.k2) (farOf L x.k1)
def kvals (L : List Nd) : Nat → List Kb
  | 0 => []
  | i + 1 => kvals L i ++ [match L[i]? with | some x => oneK L (kvals L i) x | none => (0, 0)]
/-- The masks of the node i. -/
def kn (L : List Nd) (i : Nat) : Kb := (kvals L (i + 1)).getD i (0, 0)

theorem kvals_length (L : List Nd) : ∀ i, (kvals L i).length = i
  | 0 => rfl
  | i + 1 => by simp [kvals, kvals_length L i]
theorem kvals_get (L : List Nd) {j : Nat} : ∀ {i : Nat}, j < i → (kvals L i).getD j (0, 0) = kn L j
  | 0, h => by omega
  | i + 1, h => by
    by_cases e : j = i
    · subst e; rfl
    · have hj : j < i := by omega
      rw [← kvals_get L hj]
      simp only [kvals, List.getD_eq_getElem?_getD]
      rw [List.getElem?_append_left (by rw [kvals_length]; exact hj)]
theorem kn_is {L : List Nd} {i : Nat} {x : Nd} (hx : L[i]? = some x) : kn L i = oneK L (kvals L i) x := by
  unfold kn
  simp only [kvals, hx]
  rw [List.getD_eq_getElem?_getD, List.getElem?_append_right (by rw [kvals_length]; exact Nat.le_refl _)]
  simp [kvals_length]
theorem kbAt_kn {L : List Nd} {i : Nat} {k : Int} (h0 : 0 ≤ k) (h : k < ((i : Nat) : Int)) : kbAt (kvals L i) k = kn L k.toNat := kvals_get L (by omega)
/-- A node hangs on no more kids than it has. -/
theorem ka_le (o : Nat) : ka o ≤ kc o := by
  unfold ka
  split
  · rename_i h
    rcases h with h | h | h | h | h | h | h <;> subst h <;> decide
  · split
    · rename_i h
      rcases h with h | h | h | h | h | h | h | h <;> subst h <;> decide
    · split
      · rename_i h
        subst h
        decide
      · omega
theorem low_le (w n : Nat) : low w n < 2 ^ w := Nat.mod_lt _ (pow_pos' w)
theorem low_same {w n : Nat} (h : n < 2 ^ w) : low w n = n := Nat.mod_eq_of_lt h

/-- What is sure is so. -/
def Sure (K : Kb) (n : Nat) : Prop := (∀ b, K.1.testBit b = true → n.testBit b = false) ∧ (∀ b, K.2.testBit b = true → n.testBit b = true)
end Kn
end Go.Proofs.YtkiegiofholofaaGreatDoor

namespace Go.Proofs.YtkiegiofholofaaGreatDoor
open Bv Tm Kn
namespace Ru
set_option maxHeartbeats 400000

/-- What a rule does: it doesn't fit; a node that is there; a node that is made; of 0 that is made, Eq of it. -/
inductive Out where
  | no
  | num (i : Int)
  | make (y : Nd)
  | two (w : Nat) (k : Int)
deriving DecidableEq

def z0 : Nd := ⟨0, 0, 0, 0, 0, 0, 0⟩
/-- The node of a Const. -/
def cn (w n : Nat) : Nd := ⟨1, w, 0, 0, 0, n, 0⟩
def ndAt (L : List Nd) (k : Int) : Nd := (L[k.toNat]?).getD z0
/-- The kid i of x, of noughts where x has none. -/
def kd (L : List Nd) (x : Nd) (i : Nat) : Nd := if i < kc x.o then ndAt L (x.kid i) else z0
/-- What bv says of Consts. -/
def worthC (x y0 y1 : Nd) : Nat :=
  if x.o = 3 ∨ x.o = 4 then low x.w (numU x.o y0.n)
  else if x.o = 22 then low x.w (y0.n / 2 ^ x.l)
  else if x.o = 23 ∨ x.o = 24 then low x.w (numE x.o y0.w y0.n)
  else low x.w (numB x.o y0.w y1.w y0.n y1.n)
def ou1 (x y0 y1 : Nd) : Out :=
  if x.o = 25 then (if y0 = cn 1 1 then .num x.k1 else if y0 = cn 1 0 then .num x.k2 else .no)
  else if y0.o = 1 ∧ (kc x.o = 1 ∨ y1.o = 1) then .make (cn x.w (worthC x y0 y1)) else .no
def ou2 (w : Nat) (K : Kb) : Out := if K.1 ||| K.2 = 2 ^ w - 1 then .make (cn w K.2) else .no
def ou3 (x y0 y1 : Nd) : Out :=
  if ¬ (x.o = 5 ∨ x.o = 6 ∨ x.o = 7 ∨ x.o = 8 ∨ x.o = 10 ∨ x.o = 18) then .no
  else if y1.o = 1 ∨ (¬ y0.o = 1 ∧ x.k0 ≤ x.k1) then .no
  else .make ⟨x.o, x.w, x.k1, x.k0, x.k2, x.n, x.l⟩
def ou4 (x y0 y1 : Nd) : Out :=
  if x.o = 5 ∧ y1 = cn x.w (2 ^ x.w - 1) then .num x.k0
  else if x.o = 6 ∧ y1 = cn x.w 0 then .num x.k0
  else if x.o = 7 ∧ y1 = cn x.w 0 then .num x.k0
  else if x.o = 8 ∧ y1 = cn x.w 0 then .num x.k0
  else if x.o = 9 ∧ y1 = cn x.w 0 then .num x.k0
  else if x.o = 15 ∧ y1 = cn x.w 0 then .num x.k0
  else if x.o = 16 ∧ y1 = cn x.w 0 then .num x.k0
  else if x.o = 17 ∧ y1 = cn x.w 0 then .num x.k0
  else if x.o = 10 ∧ y1 = cn x.w 1 then .num x.k0
  else if x.o = 11 ∧ y1 = cn x.w 1 then .num x.k0
  else if x.o = 5 ∧ y1 = cn x.w 0 then .num x.k1
  else if x.o = 6 ∧ y1 = cn x.w (2 ^ x.w - 1) then .num x.k1
  else if x.o = 10 ∧ y1 = cn x.w 0 then .num x.k1
  else if x.o = 7 ∧ y1 = cn x.w (2 ^ x.w - 1) then .make ⟨3, y0.w, x.k0, 0, 0, 0, 0⟩
  else if x.o = 12 ∧ y1 = cn x.w 1 then .make (cn x.w 0)
  else .no
def ou5 (x : Nd) : Out :=
  if x.o = 25 ∧ x.k1 = x.k2 then .num x.k1
  else if x.o = 25 ∨ ¬ x.k0 = x.k1 then .no
  else if x.o = 5 ∨ x.o = 6 then .num x.k0
  else if x.o = 7 ∨ x.o = 9 ∨ x.o = 19 ∨ x.o = 20 then .make (cn x.w 0)
  else if x.o = 18 then .make (cn x.w 1)
  else .no
def ou6 (x y0 : Nd) : Out := if ¬ x.o = y0.o ∨ (¬ x.o = 3 ∧ ¬ x.o = 4) then .no else .num y0.k0
def ou7 (x y0 y1 y2 : Nd) : Out :=
  if ¬ x.o = 25 then .no
  else if y0.o = 3 then .make ⟨x.o, x.w, y0.k0, x.k2, x.k1, x.n, x.l⟩
  else if y1 = cn 1 1 ∧ y2 = cn 1 0 then .num x.k0
  else if y1 = cn 1 0 ∧ y2 = cn 1 1 then .make ⟨3, y0.w, x.k0, 0, 0, 0, 0⟩
  else .no
/-- Extract of fewer bits than all; b: the width of the second kid's .., c: of the first one's. -/
def ouP (x y0 : Nd) (c b : Nat) : Out :=
  if y0.o = 22 then .make ⟨x.o, x.w, y0.k0, x.k1, x.k2, x.n, x.l + y0.l⟩
  else if y0.o = 21 then
    (if x.l + x.w ≤ b then .make ⟨x.o, x.w, y0.k1, x.k1, x.k2, x.n, x.l⟩
     else if b ≤ x.l then .make ⟨x.o, x.w, y0.k0, x.k1, x.k2, x.n, x.l - b⟩
     else .no)
  else if y0.o = 23 ∨ y0.o = 24 then (if c < x.l + x.w then .no else .make ⟨x.o, x.w, y0.k0, x.k1, x.k2, x.n, x.l⟩)
  else .no
def ou8 (L : List Nd) (x y0 : Nd) : Out :=
  if ¬ (x.o = 22 ∨ x.o = 23 ∨ x.o = 24) then .no
  else if x.w = y0.w then .num x.k0
  else if x.o = 22 then ouP x y0 (widAt L y0.k0) (widAt L y0.k1)
  else if x.o = y0.o then .make ⟨x.o, x.w, y0.k0, x.k1, x.k2, x.n, x.l⟩
  else .no
def ou9 (x y0 y1 : Nd) : Out :=
  if x.o = 18 ∧ y1 = cn 1 1 then .num x.k0
  else if x.o = 18 ∧ y1 = cn 1 0 then .make ⟨3, y0.w, x.k0, 0, 0, 0, 0⟩
  else if x.o = 19 ∧ y1 = cn y0.w 0 then .make (cn 1 0)
  else if x.o = 19 ∧ y1 = cn y0.w 1 then .two y0.w x.k0
  else .no
/-- What the rule r does of the node x, whose number is k. -/
def ou (L : List Nd) (k : Nat) (x : Nd) (r : Nat) : Out :=
  match r with
  | 1 => ou1 x (kd L x 0) (kd L x 1)
  | 2 => ou2 x.w (kn L k)
  | 3 => ou3 x (kd L x 0) (kd L x 1)
  | 4 => ou4 x (kd L x 0) (kd L x 1)
  | 5 => ou5 x
  | 6 => ou6 x (kd L x 0)
  | 7 => ou7 x (kd L x 0) (kd L x 1) (kd L x 2)
  | 8 => ou8 L x (kd L x 0)
  | _ => ou9 x (kd L x 0) (kd L x 1)
/-- The first rule from r on, of n, that fits. -/
def firstR (L : List Nd) (k : Nat) (x : Nd) : Nat → Nat → Option Nat
  | _, 0 => none
  | r, n + 1 => if ou L k x r = .no then firstR L k x (r + 1) n else some r
/-- What an outcome makes of the nodes: the nodes behind it, the number, the error. -/
def outL (L : List Nd) : Out → List Nd × Nat × Nat
  | .no => (L, 0, 0)
  | .num i => (L, i.toNat, 0)
  | .make y => mk L y
  | .two w k => if (mk L (cn w 0)).2.2 = 0 then mk (mk L (cn w 0)).1 ⟨18, 1, k, ((mk L (cn w 0)).2.1 : Nat), 0, 0, 0⟩ else ((mk L (cn w 0)).1, 0, (mk L (cn w 0)).2.2)
/-- What Step answers: the nodes behind it, the number, the rule, the error. -/
def stp (L : List Nd) (k : Nat) : List Nd × Nat × Nat × Nat :=
  match L[k]? with
  | none => (L, 0, 0, 2)
  | some x =>
    if kc x.o = 0 then (L, k, 0, 0)
    else match firstR L k x 1 9 with
      | none => (L, k, 0, 0)
      | some r => if (outL L (ou L k x r)).2.2 = 0 then ((outL L (ou L k x r)).1, (outL L (ou L k x r)).2.1, r, 0) else ((outL L (ou L k x r)).1, 0, 0, (outL L (ou L k x r)).2.2)

theorem cn_ok {w n : Nat} (hw : w ≤ 255) (hn : n < 18446744073709551616) : (cn w n).Ok :=
  ⟨by simp [cn], hw, by simp [cn, I64], by simp [cn, I64], by simp [cn, I64], hn, by simp [cn]⟩
theorem z0_ok : z0.Ok := ⟨by simp [z0], by simp [z0], by simp [z0, I64], by simp [z0, I64], by simp [z0, I64], by simp [z0], by simp [z0]⟩
theorem ndAt_ok {L : List Nd} (g : Gd L) (k : Int) : (ndAt L k).Ok := by
  unfold ndAt
  cases h : L[k.toNat]? with
  | none => exact z0_ok
  | some y => exact g.ok y (List.mem_of_getElem? h)
theorem kd_ok {L : List Nd} (g : Gd L) (x : Nd) (i : Nat) : (kd L x i).Ok := by
  unfold kd
  split
  · exact ndAt_ok g _
  · exact z0_ok
theorem ndAt_at {L : List Nd} {k : Int} (h1 : k.toNat < L.length) : L[k.toNat]? = some (ndAt L k) := by
  unfold ndAt
  rw [List.getElem?_eq_getElem h1]
  rfl
/-- A kid of a node of L is a node of L, ahead of it. -/
theorem kd_at {L : List Nd} (g : Gd L) {k : Nat} {x : Nd} (hx : L[k]? = some x) {i : Nat} (hi : i < kc x.o) : 0 ≤ x.kid i ∧ x.kid i < ((k : Nat) : Int) ∧ L[(x.kid i).toNat]? = some (kd L x i) := by
  obtain ⟨h0, h1⟩ := g.kid k x hx i hi
  have hk := (List.getElem?_eq_some_iff.1 hx).1
  refine ⟨h0, h1, ?_⟩
  unfold kd
  rw [if_pos hi]
  exact ndAt_at (by omega)
theorem widAt_kd {L : List Nd} (g : Gd L) {k : Nat} {x : Nd} (hx : L[k]? = some x) {i : Nat} (hi : i < kc x.o) : widAt L (x.kid i) = (kd L x i).w := by
  unfold widAt
  rw [(kd_at g hx hi).2.2]
  rfl
theorem kd_w {L : List Nd} (g : Gd L) {k : Nat} {x : Nd} (hx : L[k]? = some x) {i : Nat} (hi : i < kc x.o) : 1 ≤ (kd L x i).w ∧ (kd L x i).w ≤ 64 :=
  g.w _ (List.mem_of_getElem? (kd_at g hx hi).2.2)
end Ru
end Go.Proofs.YtkiegiofholofaaGreatDoor

namespace Go.Proofs.YtkiegiofholofaaGreatDoor
open Go.RowKit Go.Maps Bv
namespace Tm
set_option maxHeartbeats 400000
set_option maxRecDepth 100000

theorem cells_nd : Tryz.prog.cellsOf 36 = 7 := by kernel_rfl
theorem cells_kids : Tryz.prog.cellsOf 33 = 3 := by kernel_rfl
theorem cells_op : Tryz.prog.cellsOf 32 = 1 := by kernel_rfl
theorem cells_u8 : Tryz.prog.cellsOf 5 = 1 := by kernel_rfl
theorem cells_int : Tryz.prog.cellsOf 3 = 1 := by kernel_rfl
theorem cells_u64 : Tryz.prog.cellsOf 34 = 1 := by kernel_rfl

def Nd.lits (x : Nd) : List Lit := [.int .u8 x.o, .int .u8 x.w, .int .i64 x.k0, .int .i64 x.k1, .int .i64 x.k2, .int .u64 x.n, .int .u8 x.l]
theorem Nd.lits_inj {x y : Nd} (h : x.lits = y.lits) : x = y := by
  simp only [Nd.lits, List.cons.injEq, Lit.int.injEq, Int.natCast_inj, true_and, and_true] at h
  exact Nd.same h.1 h.2.1 h.2.2.1 h.2.2.2.1 h.2.2.2.2.1 h.2.2.2.2.2.1 h.2.2.2.2.2.2

theorem wf_u8 {n : Nat} (h : n ≤ 255) : (Lit.int .u8 (n : Int)).wf = true := by
  simp [Lit.wf, IntKind.min, IntKind.max, IntKind.signed, IntKind.bits]; omega
theorem wf_u64 {n : Nat} (h : n < 18446744073709551616) : (Lit.int .u64 (n : Int)).wf = true := by
  simp [Lit.wf, IntKind.min, IntKind.max, IntKind.signed, IntKind.bits]; omega
theorem wf_i64 {n : Int} (h : I64 n) : (Lit.int .i64 n).wf = true := by
  unfold I64 at h
  simp [Lit.wf, IntKind.min, IntKind.max, IntKind.signed, IntKind.bits]; omega

theorem lits_at (d : Nat) (x : Nd) (hx : x.Ok) : Tryz.prog.keyLits (d + 3) 36 x.val.cells.toList = some x.lits := by
  have a0 := wf_u8 hx.o
  have a1 := wf_u8 hx.w
  have a2 := wf_i64 hx.k0
  have a3 := wf_i64 hx.k1
  have a4 := wf_i64 hx.k2
  have a5 := wf_u64 hx.n
  have a6 := wf_u8 hx.l
  simp [Program.keyLits, Tryz.underlying36, Tryz.underlying33, Tryz.underlying32, Tryz.underlying5, Tryz.underlying3, Tryz.underlying34, cells_nd, cells_kids, cells_op, cells_u8, cells_int, cells_u64,
    Nd.val, Value.cells, Nd.lits, List.range, List.range.loop, a0, a1, a2, a3, a4, a5, a6]

theorem deep_nd : Tryz.prog.keyTypeAt 3 36 = true := by kernel_rfl
theorem wide_nd : (match Tryz.prog.underlying 36 with | some (.array _ _) | some (.struct _) => true | _ => false) = true := by rw [Tryz.underlying36]
theorem row_nd : (36 : TypeId) < Tryz.prog.types.size := of_decide_eq_true (by kernel_rfl)
theorem law_nd : Keyed Tryz.prog 36 := Keyed.of_law (deep_law_laid (by kernel_rfl) (m := 3) (by omega) row_nd deep_nd wide_nd)
theorem formed_nd (x : Nd) : x.val.formed Tryz.prog 36 = true := by simp [Nd.val, Value.formed, Tryz.underlying36, cells_nd]

def Nd.key (x : Nd) : Lit := .string (keyBytes x.lits)
theorem keyType_nd : Tryz.prog.keyType 36 = true := by kernel_rfl
theorem size_types : Tryz.prog.types.size + 1 = (Tryz.prog.types.size - 2) + 3 := by
  have : 3 ≤ Tryz.prog.types.size := of_decide_eq_true (by kernel_rfl)
  omega
theorem key_nd (x : Nd) (hx : x.Ok) : keyOf Tryz.prog 36 x.val = some x.key := by
  unfold keyOf
  rw [Tryz.underlying36]
  simp only [keyType_nd, formed_nd, Bool.and_self, if_true]
  rw [size_types, lits_at _ x hx]
  rfl
theorem key_inj {x y : Nd} (hx : x.Ok) (hy : y.Ok) (h : x.key = y.key) : x = y :=
  Nd.val_inj (law_nd.inj (key_nd x hx) (by rw [h]; exact key_nd y hy))

theorem equal_nd (x y : Nd) (hx : x.Ok) (hy : y.Ok) (W : World) : (Op.equalIn 10000 36 x.val y.val).run Tryz.prog W = .ok (decide (x = y)) W := by
  obtain ⟨r, hr, hi⟩ := run_equalIn_deep 9997 3 36 deep_nd W 3 3 x.val y.val x.lits y.lits (formed_nd x) (formed_nd y) (lits_at 0 x hx) (lits_at 0 y hy)
  have : r = decide (x = y) := by
    by_cases e : x = y
    · subst e; simp [hi.2 rfl]
    · have : ¬ r = true := fun h => e (Nd.lits_inj (hi.1 h))
      simp [e, this]
  rw [this] at hr
  exact hr
theorem eql_nd (x y : Nd) (hx : x.Ok) (hy : y.Ok) (W : World) : (binOp .eql 36 x.val y.val).run Tryz.prog W = .ok (.bool (decide (x = y))) W := by
  have h := equal_nd x y hx hy W
  unfold Nd.val at h ⊢
  rw [run_eql_struct, h]
  rfl
theorem neq_nd (x y : Nd) (hx : x.Ok) (hy : y.Ok) (W : World) : (binOp .neq 36 x.val y.val).run Tryz.prog W = .ok (.bool (decide (¬ x = y))) W := by
  have h := equal_nd x y hx hy W
  unfold Nd.val at h ⊢
  rw [run_neq_struct, h]
  simp

theorem eql_map (r : Option Nat) (W : World) : (binOp .eql 55 (.map r) (.map none)).run Tryz.prog W = .ok (.bool r.isNone) W := by
  simp only [binOp]
  simp [Op.equal, Op.maxDepth, run_equalIn_map_nil _ _ _ _ _ _ Tryz.underlying55]
theorem zero_int (W : World) : (zeroValue 3).run Tryz.prog W = .ok (.int .i64 0) W := by kernel_rfl

/-- What the map of the store reads as. -/
structure Table {H : Type} (L : List Nd) (D : DataW H) : Prop where
  isMap : IsMap D
  has : ∀ x : Nd, x.Ok → Maps.has D x.key = decide (x ∈ L)
  get : ∀ x : Nd, x.Ok → x ∈ L → ∀ z, D.atKey x.key z = .lit (.int .i64 ((idx L x : Nat) : Int))

theorem table_nil {H : Type} : Table [] (.map [] : DataW H) := ⟨isMap_empty, fun x _ => by simp [has_eq], fun x _ h => by simp at h⟩

theorem idx_lt {L : List Nd} {x : Nd} (h : x ∈ L) : idx L x < L.length := by
  unfold idx
  exact List.findIdx_lt_length_of_exists ⟨x, h, by simp⟩
theorem idx_append_old {L : List Nd} {x y : Nd} (h : x ∈ L) : idx (L ++ [y]) x = idx L x := by
  unfold idx
  rw [List.findIdx_append, if_pos]
  exact List.findIdx_lt_length_of_exists ⟨x, h, by simp⟩
theorem idx_append_new {L : List Nd} {x : Nd} (h : ¬ x ∈ L) : idx (L ++ [x]) x = L.length := by
  unfold idx
  rw [List.findIdx_append, if_neg]
  · simp [List.findIdx_cons]
  · intro hc
    have := (List.findIdx_lt_length).1 hc
    obtain ⟨y, hy, e⟩ := this
    simp at e
    subst e
    exact h hy

theorem Table.add {H : Type} {L : List Nd} {D : DataW H} (h : Table L D) (_hL : ∀ x ∈ L, x.Ok) {x : Nd} (hx : x.Ok) (hn : ¬ x ∈ L) :
    Table (L ++ [x]) (D.put x.key (.lit (.int .i64 ((L.length : Nat) : Int)))) := by
  have hk : WideAt.IsKeyLit x.key := law_nd.key (key_nd x hx)
  refine ⟨h.isMap.put _ _, ?_, ?_⟩
  · intro y hy
    by_cases e : y = x
    · subst e; rw [has_put_same h.isMap hk]; simp
    · rw [has_put_other (fun c => e (key_inj hy hx c)), h.has y hy]; simp [e]
  · intro y hy hm z
    by_cases e : y = x
    · subst e; rw [atKey_put_same h.isMap hk, idx_append_new hn]
    · have hm' : y ∈ L := by simpa [e] using hm
      rw [atKey_put_other (fun c => e (key_inj hy hx c)), h.get y hy hm', idx_append_old hm']

end Tm
end Go.Proofs.YtkiegiofholofaaGreatDoor
