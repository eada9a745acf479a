/-
  Scores: how two of them stand to each other. Plain facts.
-/
import Derived.Laws.FloatArith
import Derived.Laws.NewFold
namespace Go.Proofs.Ytdajnmlpghgeeaa
open Go.RowKit
namespace Hp
set_option maxHeartbeats 1600000
set_option maxRecDepth 100000

def rd (x : Nat) : Ieee.Datum := FloatKind.f64.format.read x
def pw (n : Nat) : Nat := 2 ^ n
theorem pw_le {a b : Nat} (h : a ≤ b) : pw a ≤ pw b := Nat.pow_le_pow_right (Nat.le_succ 1) h
def bigN : Nat := pw 2200
/-- A number's size, in units of the least place; the infinities lie beyond all. -/
def keyD : Ieee.Datum → Option Int
  | .nan .. => none
  | .infinity s => some (if s then -(bigN : Int) else (bigN : Int))
  | .number s m i => some (Ieee.signed s m (i + 1074).toNat)
def keyF (x : Nat) : Option Int := keyD (rd x)
/-- What reading a word may give. -/
def okD : Ieee.Datum → Prop
  | .nan .. => True
  | .infinity _ => True
  | .number _ m i => m < 2 ^ 53 ∧ -1074 ≤ i ∧ i ≤ 1000
theorem least_place : Ieee.double.leastPlace = -1074 := by decide
theorem binade_is : Ieee.double.binade = 2 ^ 52 := by decide
theorem inf_is : Ieee.double.infRung = 2047 * 2 ^ 52 := by decide
theorem sign_is : Ieee.double.signWeight = 2 ^ 63 := by decide
theorem rd_ok (x : Nat) : okD (rd x) := by
  show okD (Ieee.double.read x)
  unfold Ieee.Format.read
  simp only [least_place, binade_is, inf_is, sign_is]
  split
  · unfold okD; omega
  · split
    · unfold okD; omega
    · split <;> trivial
theorem signed_shift (s : Bool) (m a b : Nat) : Ieee.signed s m (a + b) = Ieee.signed s m a * 2 ^ b := by
  unfold Ieee.signed
  cases s
  · simp only [Bool.false_eq_true, if_false, Nat.shiftLeft_eq, Nat.pow_add, ← Nat.mul_assoc, Int.natCast_mul, Int.natCast_pow]; rfl
  · simp only [if_true, Nat.shiftLeft_eq, Nat.pow_add, ← Nat.mul_assoc, Int.natCast_mul, Int.natCast_pow, Int.neg_mul]; rfl
theorem big_le (E : Nat) (hE : E ≤ 2100) : 2 ^ 53 * 2 ^ E ≤ bigN := by
  have h : 2 ^ 53 * 2 ^ E = pw (53 + E) := (Nat.pow_add 2 53 E).symm
  rw [h]
  exact pw_le (by omega)
theorem big_pos : (0 : Int) < (bigN : Int) := by
  have : 0 < bigN := Nat.lt_of_lt_of_le (Nat.mul_pos (Nat.two_pow_pos 53) (Nat.two_pow_pos 0)) (big_le 0 (by omega))
  omega
theorem signed_lt (s : Bool) {m a : Nat} (hm : m < 2 ^ 53) (ha : a ≤ 2100) : -(bigN : Int) < Ieee.signed s m a ∧ Ieee.signed s m a < (bigN : Int) := by
  have h1 : m <<< a < bigN := by
    rw [Nat.shiftLeft_eq]
    exact Nat.lt_of_lt_of_le (Nat.mul_lt_mul_of_pos_right hm (Nat.two_pow_pos a)) (big_le a ha)
  have hS : Ieee.signed s m a = if s then -((m <<< a : Nat) : Int) else ((m <<< a : Nat) : Int) := rfl
  rw [hS]
  generalize m <<< a = x at h1
  have hp := big_pos
  generalize bigN = K at h1 hp
  cases s
  · simp only [Bool.false_eq_true, if_false]; omega
  · simp only [if_true]; omega
/-- How two stand to each other. -/
def cmpO : Option Int → Option Int → Option Ordering
  | some p, some q => some (compare p q)
  | _, _ => none
theorem cmp_scale {p q : Int} (b : Nat) : compare (p * 2 ^ b) (q * 2 ^ b) = compare p q := by
  have hb : (0 : Int) < 2 ^ b := Int.pow_pos (by decide)
  simp only [compare, compareOfLessAndEq]
  have h1 : p * 2 ^ b < q * 2 ^ b ↔ p < q := Int.mul_lt_mul_right hb
  have h2 : p * 2 ^ b = q * 2 ^ b ↔ p = q := ⟨fun h => Int.eq_of_mul_eq_mul_right (by omega) h, fun h => by rw [h]⟩
  simp only [h1, h2]
theorem order_d (d e : Ieee.Datum) (hd : okD d) (he : okD e) : d.order e = cmpO (keyD d) (keyD e) := by
  cases d with
  | nan s t => rfl
  | infinity s =>
    cases e with
    | nan t u => rfl
    | infinity t =>
      have hp := big_pos
      cases s <;> cases t <;> simp only [Ieee.Datum.order, keyD, cmpO, Bool.toNat_true, Bool.toNat_false, if_true, Bool.false_eq_true, if_false, compare, compareOfLessAndEq]
      all_goals generalize (bigN : Int) = K at hp ⊢
      · rw [if_neg (by omega)]; simp
      · rw [if_neg (by omega), if_neg (by omega), if_neg (by omega), if_neg (by omega)]
      · rw [if_pos (by omega), if_pos (by omega)]
      · rw [if_neg (by omega)]; simp
    | number t n j =>
      obtain ⟨h1, h2⟩ := signed_lt t he.1 (show (j + 1074).toNat ≤ 2100 by have := he.2; omega)
      generalize hk : Ieee.signed t n (j + 1074).toNat = k at h1 h2
      simp only [Ieee.Datum.order, keyD, cmpO, hk, compare, compareOfLessAndEq]
      generalize (bigN : Int) = K at h1 h2 ⊢
      cases s
      · simp only [Bool.false_eq_true, if_false]; rw [if_neg (by omega), if_neg (by omega)]
      · simp only [if_true]; rw [if_pos (by omega)]
  | number s m i =>
    cases e with
    | nan t u => rfl
    | infinity t =>
      obtain ⟨h1, h2⟩ := signed_lt s hd.1 (show (i + 1074).toNat ≤ 2100 by have := hd.2; omega)
      generalize hk : Ieee.signed s m (i + 1074).toNat = k at h1 h2
      simp only [Ieee.Datum.order, keyD, cmpO, hk, compare, compareOfLessAndEq]
      generalize (bigN : Int) = K at h1 h2 ⊢
      cases t
      · simp only [Bool.false_eq_true, if_false]; rw [if_pos (by omega)]
      · simp only [if_true]; rw [if_neg (by omega), if_neg (by omega)]
    | number t n j =>
      have h1 := hd.2
      have h2 := he.2
      simp only [Ieee.Datum.order, keyD, cmpO]
      have e1 : (i + 1074).toNat = (i - min i j).toNat + (min i j + 1074).toNat := by omega
      have e2 : (j + 1074).toNat = (j - min i j).toNat + (min i j + 1074).toNat := by omega
      rw [e1, e2, signed_shift, signed_shift, cmp_scale]
theorem order_key (a b : Nat) : FloatKind.f64.format.order a b = cmpO (keyF a) (keyF b) := order_d _ _ (rd_ok a) (rd_ok b)
/-- Is a score greater? -/
def aboveF (a b : Nat) : Bool := match keyF a, keyF b with
  | none, _ => false
  | some _, none => true
  | some p, some q => decide (q < p)
theorem above_asym {a b : Nat} (h : aboveF a b = true) : aboveF b a = false := by
  unfold aboveF at *
  cases ha : keyF a <;> cases hb : keyF b <;> simp_all
  omega
theorem above_trans {a b c : Nat} (h : aboveF a b = true) (k : aboveF b c = true) : aboveF a c = true := by
  unfold aboveF at *
  cases ha : keyF a <;> cases hb : keyF b <;> cases hc : keyF c <;> simp_all
  omega
/-- A NaN of whatever bits. -/
theorem nan_key (x y t : Nat) : keyF ((Question.nanBits .f64 x y).cut t) = none := by
  have h : ∃ u n, Ieee.double.read ((Question.nanBits .f64 x y).cut t) = .nan u n := by
    unfold Ieee.Format.read
    simp only [least_place, binade_is, inf_is, sign_is, Question.cut]
    have : (t / 2) % (2 ^ 52 - 1) < 2 ^ 52 - 1 := Nat.mod_lt _ (by decide)
    generalize (t / 2) % (2 ^ 52 - 1) = r at this
    have h2 : t % 2 < 2 := Nat.mod_lt _ (by decide)
    generalize t % 2 = s at h2
    rw [if_neg (by omega), if_neg (by omega), if_neg (by omega)]
    exact ⟨_, _, rfl⟩
  obtain ⟨u, n, h⟩ := h
  show keyD (Ieee.double.read _) = none
  rw [h]; rfl
/-- The same score, or none both. -/
def likeF (x y : Nat) : Prop := x = y ∨ (keyF x = none ∧ keyF y = none)
theorem likeF.refl (x : Nat) : likeF x x := .inl rfl
theorem likeF.key {x y : Nat} (h : likeF x y) : keyF x = keyF y := by
  rcases h with h | h
  · rw [h]
  · rw [h.1, h.2]
theorem key_none {x : Nat} (h : keyF x = none) : ∃ s t, rd x = .nan s t := by
  unfold keyF at h
  cases hd : rd x <;> rw [hd] at h
  · cases h
  · cases h
  · exact ⟨_, _, rfl⟩
theorem add_nan {x y : Nat} (h : keyF x = none) : FloatKind.f64.format.add x y = none := by
  obtain ⟨s, t, e⟩ := key_none h
  have e : FloatKind.f64.format.read x = .nan s t := e
  unfold Ieee.Format.add
  rw [e]; rfl
theorem mul_nan {x y : Nat} (h : keyF x = none) : FloatKind.f64.format.mul x y = none := by
  obtain ⟨s, t, e⟩ := key_none h
  have e : FloatKind.f64.format.read x = .nan s t := e
  unfold Ieee.Format.mul
  rw [e]; rfl
theorem likeF.add {x y b : Nat} (h : likeF x y) : FloatKind.f64.format.add x b = FloatKind.f64.format.add y b := by
  rcases h with h | h
  · rw [h]
  · rw [add_nan h.1, add_nan h.2]
theorem likeF.mul {x y b : Nat} (h : likeF x y) : FloatKind.f64.format.mul x b = FloatKind.f64.format.mul y b := by
  rcases h with h | h
  · rw [h]
  · rw [mul_nan h.1, mul_nan h.2]
end Hp
end Go.Proofs.Ytdajnmlpghgeeaa
