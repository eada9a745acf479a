/-
  Plain facts for layer known: the masks of those bits of a node that are sure.
-/
import Derived.Test.YtbemkaninedonaaEvMath
import Derived.Test.YtbemkaninedonaaBvMathG
namespace Go.Proofs.Ytbemkaninedonaa
open Bv Tm
namespace Kn
set_option maxHeartbeats 400000

/-- The lowest bits that are set, up to the first that is not. -/
def lows (m : Nat) : Nat := m &&& (18446744073709551615 - (m + 1) % 18446744073709551616)
/-- On how many kids the bits of an operator hang. -/
def ka (o : Nat) : Nat :=
  if o = 3 ∨ o = 15 ∨ o = 16 ∨ o = 17 ∨ o = 22 ∨ o = 23 ∨ o = 24 then 1
  else if o = 5 ∨ o = 6 ∨ o = 7 ∨ o = 8 ∨ o = 9 ∨ o = 10 ∨ o = 18 ∨ o = 21 then 2
  else if o = 25 then 3 else 0
/-- Masks: of those bits that are 0, of those that are 1. -/
abbrev Kb : Type := Nat × Nat
def shK (o w : Nat) (a : Kb) (far : Nat) : Kb :=
  if o = 15 then (low w (a.1 * 2 ^ min far 64 % 18446744073709551616 ||| (18446744073709551615 - 18446744073709551615 * 2 ^ min far 64 % 18446744073709551616)), low w (a.2 * 2 ^ min far 64 % 18446744073709551616))
  else if o = 16 then (low w (a.1 / 2 ^ min far 64 ||| (18446744073709551615 - (2 ^ w - 1) / 2 ^ min far 64)), low w (a.2 / 2 ^ min far 64))
  else (low w (numB 17 w w a.1 far), low w (numB 17 w w a.2 far))
def iteK (w : Nat) (c a b : Kb) : Kb := if c.2 = 1 then a else if c.1 = 1 then b else (low w (a.1 &&& b.1), low w (a.2 &&& b.2))
def eqK (w : Nat) (a b : Kb) : Kb := if ¬ (a.1 &&& b.2 ||| a.2 &&& b.1) = 0 then (1, 0) else if (a.1 ||| a.2) &&& (b.1 ||| b.2) = 2 ^ w - 1 then (0, 1) else (0, 0)
def farK (o w : Nat) (a : Kb) (far : Option Nat) : Kb :=
  match far with
  | some k => shK o w a k
  | none => (0, 0)
/-- What is sure of an operator's answer, by what is sure of its kids. -/
def opK (o w n l w0 w1 : Nat) (a b c : Kb) (far : Option Nat) : Kb :=
  if o = 1 then (low w (18446744073709551615 - n), low w n)
  else if o = 3 then (low w a.2, low w a.1)
  else if o = 5 then (low w (a.1 ||| b.1), low w (a.2 &&& b.2))
  else if o = 6 then (low w (a.1 &&& b.1), low w (a.2 ||| b.2))
  else if o = 7 then (low w (a.1 &&& b.1 ||| a.2 &&& b.2), low w (a.1 &&& b.2 ||| a.2 &&& b.1))
  else if o = 8 ∨ o = 9 then (low w (lows (a.1 &&& b.1)), 0)
  else if o = 10 then (low w (lows a.1 ||| lows b.1), 0)
  else if o = 15 ∨ o = 16 ∨ o = 17 then farK o w0 a far
  else if o = 21 then (low w (a.1 * 2 ^ min w1 64 % 18446744073709551616 ||| b.1), low w (a.2 * 2 ^ min w1 64 % 18446744073709551616 ||| b.2))
  else if o = 22 then (low w (a.1 / 2 ^ min l 64), low w (a.2 / 2 ^ min l 64))
  else if o = 23 then (low w (a.1 ||| (18446744073709551615 - (2 ^ w0 - 1))), low w a.2)
  else if o = 24 then (low w (numE 24 w0 a.1), low w (numE 24 w0 a.2))
  else if o = 25 then iteK w1 a b c
  else if o = 18 then eqK w0 a b
  else (0, 0)
/-- The number that a node is, if it is one. -/
def farOf (L : List Nd) (k : Int) : Option Nat :=
  match L[k.toNat]? with
  | some y => if y.o = 1 then some y.n else none
  | none => none
def kbAt (V : List Kb) (k : Int) : Kb := V.getD k.toNat (0, 0)
def oneK (L : List Nd) (V : List Kb) (x : Nd) : Kb := opK x.o x.w x.n x.l (widAt L x.k0) (widAt L x.k1) (kbAt V x.k0) (kbAt V x.k1) (kbAt V x.k2) (farOf L x.k1)
def kvals (L : List Nd) : Nat → List Kb
  | 0 => []
  | i + 1 => kvals L i ++ [match L[i]? with | some x => oneK L (kvals L i) x | none => (0, 0)]
/-- The masks of the node i. -/
def kn (L : List Nd) (i : Nat) : Kb := (kvals L (i + 1)).getD i (0, 0)

theorem kvals_length (L : List Nd) : ∀ i, (kvals L i).length = i
  | 0 => rfl
  | i + 1 => by simp [kvals, kvals_length L i]
theorem kvals_get (L : List Nd) {j : Nat} : ∀ {i : Nat}, j < i → (kvals L i).getD j (0, 0) = kn L j
  | 0, h => by omega
  | i + 1, h => by
    by_cases e : j = i
    · subst e; rfl
    · have hj : j < i := by omega
      rw [← kvals_get L hj]
      simp only [kvals, List.getD_eq_getElem?_getD]
      rw [List.getElem?_append_left (by rw [kvals_length]; exact hj)]
theorem kn_is {L : List Nd} {i : Nat} {x : Nd} (hx : L[i]? = some x) : kn L i = oneK L (kvals L i) x := by
  unfold kn
  simp only [kvals, hx]
  rw [List.getD_eq_getElem?_getD, List.getElem?_append_right (by rw [kvals_length]; exact Nat.le_refl _)]
  simp [kvals_length]
theorem kbAt_kn {L : List Nd} {i : Nat} {k : Int} (h0 : 0 ≤ k) (h : k < ((i : Nat) : Int)) : kbAt (kvals L i) k = kn L k.toNat := kvals_get L (by omega)
/-- A node hangs on no more kids than it has. -/
theorem ka_le (o : Nat) : ka o ≤ kc o := by
  unfold ka
  split
  · rename_i h
    rcases h with h | h | h | h | h | h | h <;> subst h <;> decide
  · split
    · rename_i h
      rcases h with h | h | h | h | h | h | h | h <;> subst h <;> decide
    · split
      · rename_i h
        subst h
        decide
      · omega
theorem low_le (w n : Nat) : low w n < 2 ^ w := Nat.mod_lt _ (pow_pos' w)
theorem low_same {w n : Nat} (h : n < 2 ^ w) : low w n = n := Nat.mod_eq_of_lt h

/-- What is sure is so. -/
def Sure (K : Kb) (n : Nat) : Prop := (∀ b, K.1.testBit b = true → n.testBit b = false) ∧ (∀ b, K.2.testBit b = true → n.testBit b = true)
end Kn
end Go.Proofs.Ytbemkaninedonaa
