/-
Plain facts for layer known: each bit of a node, as the document tells it: 0, 1, or not known (2).
The document's rows of bits, in memory.
The document's bits: one bit of a not, an and, an or, a xor; are two rows the same?
Are two rows of bits the same, surely, or surely not?
-/
import Derived.Test.YtigjbngedbbdbaaPt22
import Derived.Test.YtigjbngedbbdbaaPt14
import Derived.Laws.MakeOwn
import Derived.Deep.LoopGhost
import Derived.BigQuiet
import Derived.Deep.QuietTactic
import Derived.IntWalk
namespace Go.Proofs.Ytigjbngedbbdbaa
open Bv Tm Kn
namespace Kr
set_option maxHeartbeats 400000

/-- The bit j of masks: 0, 1, or 2. -/
def tri (K : Kb) (j : Nat) : Nat := if K.1.testBit j then 0 else if K.2.testBit j then 1 else 2
/-- No bit is both. -/
def Dj (K : Kb) : Prop := ∀ j, K.1.testBit j = true → K.2.testBit j = false
theorem dj_kn {L : List Nd} (g : Gd L) (h : MayL L) {i : Nat} {x : Nd} (hx : L[i]? = some x) : Dj (kn L i) := by
  intro j h1
  have s := sure_kn g h [] i x hx
  cases h2 : (kn L i).2.testBit j with
  | false => rfl
  | true =>
    have a := s.1 j h1
    have b := s.2 j h2
    rw [a] at b
    cases b
theorem tri_zero {K : Kb} {j : Nat} : tri K j = 0 ↔ K.1.testBit j = true := by
  unfold tri
  cases K.1.testBit j <;> cases K.2.testBit j <;> simp
theorem tri_le (K : Kb) (j : Nat) : tri K j ≤ 2 := by
  unfold tri
  cases K.1.testBit j <;> cases K.2.testBit j <;> simp
theorem tri_low {w z o j : Nat} (hj : j < w) : tri (low w z, low w o) j = tri (z, o) j := by
  unfold tri
  simp [tb_low, hj]
theorem tri_low0 {w z j : Nat} (hj : j < w) : tri (low w z, 0) j = tri (z, 0) j := by
  unfold tri
  simp [tb_low, hj]
theorem tri_one {z j : Nat} : tri (z, 0) j = if z.testBit j = true then 0 else 2 := by
  unfold tri
  cases z.testBit j <;> simp
/-- One bit of a not, an and, an or, a xor. -/
def bwT (o a b : Nat) : Nat := if o = 3 then (if a < 2 then 1 - a else 2) else if o = 5 ∧ (a = 0 ∨ b = 0) then 0 else if o = 6 ∧ (a = 1 ∨ b = 1) then 1 else if a = 2 ∨ b = 2 then 2 else if o = 5 ∨ o = 6 then a else if a = b then 0 else 1
theorem tri_not {a : Kb} (h : Dj a) (j y : Nat) : tri (a.2, a.1) j = bwT 3 (tri a j) y := by
  have := h j
  unfold tri bwT
  revert this
  cases a.1.testBit j <;> cases a.2.testBit j <;> simp
theorem tri_and (a b : Kb) (j : Nat) : tri (a.1 ||| b.1, a.2 &&& b.2) j = bwT 5 (tri a j) (tri b j) := by
  unfold tri bwT
  simp only [Nat.testBit_or, Nat.testBit_and]
  cases a.1.testBit j <;> cases a.2.testBit j <;> cases b.1.testBit j <;> cases b.2.testBit j <;> simp
theorem tri_or {a b : Kb} (ha : Dj a) (hb : Dj b) (j : Nat) : tri (a.1 &&& b.1, a.2 ||| b.2) j = bwT 6 (tri a j) (tri b j) := by
  have h1 := ha j
  have h2 := hb j
  unfold tri bwT
  simp only [Nat.testBit_or, Nat.testBit_and]
  revert h1 h2
  cases a.1.testBit j <;> cases a.2.testBit j <;> cases b.1.testBit j <;> cases b.2.testBit j <;> simp
theorem tri_xor {a b : Kb} (ha : Dj a) (hb : Dj b) (j : Nat) : tri (a.1 &&& b.1 ||| a.2 &&& b.2, a.1 &&& b.2 ||| a.2 &&& b.1) j = bwT 7 (tri a j) (tri b j) := by
  have h1 := ha j
  have h2 := hb j
  unfold tri bwT
  simp only [Nat.testBit_or, Nat.testBit_and]
  revert h1 h2
  cases a.1.testBit j <;> cases a.2.testBit j <;> cases b.1.testBit j <;> cases b.2.testBit j <;> simp
theorem tri_const {w n j : Nat} (hn : n < 18446744073709551616) (hw : w ≤ 64) (hj : j < w) : tri (low w (18446744073709551615 - n), low w n) j = n / 2 ^ j % 2 := by
  rw [tri_low hj]
  unfold tri
  simp only [tb_not hn (show j < 64 by omega), Nat.testBit_eq_decide_div_mod_eq]
  rcases Nat.mod_two_eq_zero_or_one (n / 2 ^ j) with h | h <;> simp [h]
theorem lows_iff {m b : Nat} (hm : m < 18446744073709551616) (hb : b < 64) : (lows m).testBit b = true ↔ ∀ j, j ≤ b → m.testBit j = true := by
  refine ⟨lows_bit hm hb, fun h => ?_⟩
  unfold lows
  rw [Nat.testBit_and, Bool.and_eq_true, tb_not (Nat.mod_lt _ (by decide)) hb]
  refine ⟨h b (Nat.le_refl _), ?_⟩
  rw [show (18446744073709551616 : Nat) = 2 ^ 64 by decide, Nat.testBit_mod_two_pow]
  have hp := pow_pos' (b + 1)
  have e : m % 2 ^ (b + 1) = 2 ^ (b + 1) - 1 := by
    apply Nat.eq_of_testBit_eq
    intro j
    rw [Nat.testBit_mod_two_pow, Nat.testBit_two_pow_sub_one]
    by_cases hj : j < b + 1
    · simp [hj, h j (by omega)]
    · simp [hj]
  have e1 : m + 1 = 2 ^ (b + 1) * (m / 2 ^ (b + 1) + 1) := by
    have := Nat.div_add_mod m (2 ^ (b + 1))
    rw [Nat.mul_add]
    omega
  rw [e1, Nat.testBit_two_pow_mul]
  simp
open Classical in
noncomputable def addT (a b : Nat → Nat) (j : Nat) : Nat := if ∀ i, i ≤ j → a i = 0 ∧ b i = 0 then 0 else 2
open Classical in
noncomputable def mulT (a b : Nat → Nat) (j : Nat) : Nat := if (∀ i, i ≤ j → a i = 0) ∨ (∀ i, i ≤ j → b i = 0) then 0 else 2
theorem tri_add {a b : Kb} {j : Nat} (ha : a.1 < 18446744073709551616) (hj : j < 64) : tri (lows (a.1 &&& b.1), 0) j = addT (tri a) (tri b) j := by
  rw [tri_one]
  unfold addT
  have hm : a.1 &&& b.1 < 18446744073709551616 := Nat.lt_of_le_of_lt Nat.and_le_left ha
  have e : (lows (a.1 &&& b.1)).testBit j = true ↔ ∀ i, i ≤ j → tri a i = 0 ∧ tri b i = 0 := by
    rw [lows_iff hm hj]
    simp only [Nat.testBit_and, Bool.and_eq_true, tri_zero]
  by_cases h : (lows (a.1 &&& b.1)).testBit j = true
  · rw [if_pos h, if_pos (e.1 h)]
  · rw [if_neg h, if_neg (fun c => h (e.2 c))]
theorem tri_mul {a b : Kb} {j : Nat} (ha : a.1 < 18446744073709551616) (hb : b.1 < 18446744073709551616) (hj : j < 64) : tri (lows a.1 ||| lows b.1, 0) j = mulT (tri a) (tri b) j := by
  rw [tri_one]
  unfold mulT
  have e : (lows a.1 ||| lows b.1).testBit j = true ↔ (∀ i, i ≤ j → tri a i = 0) ∨ (∀ i, i ≤ j → tri b i = 0) := by
    rw [Nat.testBit_or, Bool.or_eq_true, lows_iff ha hj, lows_iff hb hj]
    simp only [tri_zero]
  by_cases h : (lows a.1 ||| lows b.1).testBit j = true
  · rw [if_pos h, if_pos (e.1 h)]
  · rw [if_neg h, if_neg (fun c => h (e.2 c))]
theorem tri_concat {a b : Kb} {v j : Nat} (hv : v ≤ 64) (hj : j < 64) (h1 : b.1 < 2 ^ v) (h2 : b.2 < 2 ^ v) : tri (a.1 * 2 ^ min v 64 % 18446744073709551616 ||| b.1, a.2 * 2 ^ min v 64 % 18446744073709551616 ||| b.2) j = if j < v then tri b j else tri a (j - v) := by
  rw [Nat.min_eq_left hv]
  unfold tri
  simp only [Nat.testBit_or, shl_bit hj]
  by_cases h : j < v
  · rw [if_pos h]
    have e : decide (v ≤ j) = false := decide_eq_false (by omega)
    simp [e]
  · rw [if_neg h, high_bit h1 (by omega), high_bit h2 (by omega)]
    have e : decide (v ≤ j) = true := decide_eq_true (by omega)
    simp [e]
theorem tri_extract {a : Kb} {l j : Nat} (hl : l ≤ 64) : tri (a.1 / 2 ^ min l 64, a.2 / 2 ^ min l 64) j = tri a (l + j) := by
  rw [Nat.min_eq_left hl]
  unfold tri
  simp only [Nat.testBit_div_two_pow]
  rw [Nat.add_comm]
theorem tri_zext {a : Kb} {v j : Nat} (hv : v ≤ 64) (hj : j < 64) : tri (a.1 ||| (18446744073709551615 - (2 ^ v - 1)), a.2) j = if j < v then tri a j else 0 := by
  have hle := pow_le64 hv
  have hp := pow_pos' v
  unfold tri
  simp only [Nat.testBit_or, tb_not (show 2 ^ v - 1 < 18446744073709551616 by omega) hj, Nat.testBit_two_pow_sub_one]
  by_cases h : j < v
  · simp [h]
  · simp [h]
theorem tri_sext {a : Kb} {v j : Nat} (h1 : 1 ≤ v) (hv : v ≤ 64) (hj : j < 64) (ha : a.1 < 2 ^ v) (hb : a.2 < 2 ^ v) : tri (numE 24 v a.1, numE 24 v a.2) j = if j < v then tri a j else tri a (v - 1) := by
  unfold tri
  simp only [numE_bit h1 hv ha hj, numE_bit h1 hv hb hj, sign_bit h1 ha, sign_bit h1 hb]
  by_cases h : j < v
  · simp [h]
  · simp [h]
def iteT (c a b : Nat → Nat) (j : Nat) : Nat := if c 0 = 1 then a j else if c 0 = 0 then b j else if a j = b j then a j else 2
theorem tri_ite {w j : Nat} {c a b : Kb} (hc : Dj c) (h1 : c.1 < 2) (h2 : c.2 < 2) (ha : Dj a) (hb : Dj b) (hj : j < w) : tri (iteK w c a b) j = iteT (tri c) (tri a) (tri b) j := by
  have e1 : c.1.testBit 0 = decide (c.1 = 1) := by rw [Nat.testBit_zero]; rw [Bool.eq_iff_iff]; simp; omega
  have e2 : c.2.testBit 0 = decide (c.2 = 1) := by rw [Nat.testBit_zero]; rw [Bool.eq_iff_iff]; simp; omega
  have d := hc 0
  rw [e1, e2] at d
  unfold iteK iteT
  have t : tri c 0 = if c.1 = 1 then 0 else if c.2 = 1 then 1 else 2 := by unfold tri; rw [e1, e2]; simp
  rw [t]
  by_cases k2 : c.2 = 1
  · have k1 : ¬ c.1 = 1 := by intro k; simp [k, k2] at d
    simp [k1, k2]
  · by_cases k1 : c.1 = 1
    · simp [k1, k2]
    · simp only [k1, k2, if_false]
      rw [if_neg (by decide), if_neg (by decide), tri_low hj]
      have g1 := ha j
      have g2 := hb j
      unfold tri
      simp only [Nat.testBit_and]
      revert g1 g2
      cases a.1.testBit j <;> cases a.2.testBit j <;> cases b.1.testBit j <;> cases b.2.testBit j <;> simp
open Classical in
noncomputable def eqT (n : Nat) (a b : Nat → Nat) : Nat := if ∃ i, i < n ∧ a i ≠ 2 ∧ b i ≠ 2 ∧ a i ≠ b i then 0 else if ∀ i, i < n → a i ≠ 2 ∧ b i ≠ 2 then 1 else 2
theorem tri_eq {w : Nat} {a b : Kb} (ha : Dj a) (hb : Dj b) (a1 : a.1 < 2 ^ w) (a2 : a.2 < 2 ^ w) (_b1 : b.1 < 2 ^ w) (_b2 : b.2 < 2 ^ w) : tri (eqK w a b) 0 = eqT w (tri a) (tri b) := by
  unfold eqK eqT
  have d1 : ¬ (a.1 &&& b.2 ||| a.2 &&& b.1) = 0 ↔ ∃ i, i < w ∧ tri a i ≠ 2 ∧ tri b i ≠ 2 ∧ tri a i ≠ tri b i := by
    constructor
    · intro h
      have hne : ∃ i, (a.1 &&& b.2 ||| a.2 &&& b.1).testBit i = true := by
        refine Classical.byContradiction fun hn => h ?_
        apply Nat.eq_of_testBit_eq
        intro i
        rw [Nat.zero_testBit]
        cases hi : (a.1 &&& b.2 ||| a.2 &&& b.1).testBit i with
        | false => rfl
        | true => exact absurd ⟨i, hi⟩ hn
      obtain ⟨i, hi⟩ := hne
      have hiw : i < w := by
        refine Classical.byContradiction fun hn => ?_
        simp [Nat.testBit_or, Nat.testBit_and, high_bit a1 (show w ≤ i by omega), high_bit a2 (show w ≤ i by omega)] at hi
      refine ⟨i, hiw, ?_⟩
      have g1 := ha i
      have g2 := hb i
      rw [Nat.testBit_or, Nat.testBit_and, Nat.testBit_and] at hi
      unfold tri
      revert g1 g2 hi
      cases a.1.testBit i <;> cases a.2.testBit i <;> cases b.1.testBit i <;> cases b.2.testBit i <;> simp
    · rintro ⟨i, _, h⟩ hz
      have hi : (a.1 &&& b.2 ||| a.2 &&& b.1).testBit i = false := by rw [hz]; simp
      rw [Nat.testBit_or, Nat.testBit_and, Nat.testBit_and] at hi
      unfold tri at h
      revert h hi
      cases a.1.testBit i <;> cases a.2.testBit i <;> cases b.1.testBit i <;> cases b.2.testBit i <;> simp
  have d2 : (a.1 ||| a.2) &&& (b.1 ||| b.2) = 2 ^ w - 1 ↔ ∀ i, i < w → tri a i ≠ 2 ∧ tri b i ≠ 2 := by
    constructor
    · intro h i hi
      have e : ((a.1 ||| a.2) &&& (b.1 ||| b.2)).testBit i = true := by rw [h, Nat.testBit_two_pow_sub_one]; simp [hi]
      rw [Nat.testBit_and, Nat.testBit_or, Nat.testBit_or] at e
      unfold tri
      revert e
      cases a.1.testBit i <;> cases a.2.testBit i <;> cases b.1.testBit i <;> cases b.2.testBit i <;> simp
    · intro h
      apply Nat.eq_of_testBit_eq
      intro i
      rw [Nat.testBit_two_pow_sub_one, Nat.testBit_and, Nat.testBit_or, Nat.testBit_or]
      by_cases hi : i < w
      · have e := h i hi
        unfold tri at e
        rw [decide_eq_true hi]
        revert e
        cases a.1.testBit i <;> cases a.2.testBit i <;> cases b.1.testBit i <;> cases b.2.testBit i <;> simp
      · rw [high_bit a1 (by omega), high_bit a2 (by omega)]
        simp [hi]
  by_cases h1 : (a.1 &&& b.2 ||| a.2 &&& b.1) = 0
  · rw [if_neg (fun c => c h1), if_neg (fun c => d1.2 c h1)]
    by_cases h2 : (a.1 ||| a.2) &&& (b.1 ||| b.2) = 2 ^ w - 1
    · rw [if_pos h2, if_pos (d2.1 h2)]
      decide
    · rw [if_neg h2, if_neg (fun c => h2 (d2.2 c))]
      decide
  · rw [if_pos h1, if_pos (d1.1 h1)]
    decide
/-- The bits of a shift by a number. -/
def shT (o n : Nat) (a : Nat → Nat) (by_ j : Nat) : Nat :=
  if o = 15 then (if by_ ≤ j then a (j - by_) else 0) else if by_ < n - j then a (j + by_) else if o = 17 then a (n - 1) else 0
theorem tri_shl {w far j : Nat} {a : Kb} (h2 : w ≤ 64) (hj : j < w) : tri (shK 15 w a far) j = shT 15 w (tri a) far j := by
  unfold shK shT
  rw [if_pos rfl, if_pos rfl, tri_low hj]
  have ez : ∀ x, (x * 2 ^ min far 64 % 18446744073709551616).testBit j = (decide (far ≤ j) && x.testBit (j - far)) := fun x => by
    rw [← low_bit w _ j hj]; exact shl_bits (v := w) h2 hj
  unfold tri
  simp only [Nat.testBit_or, ez, tb_not (Nat.mod_lt _ (by decide)) (show j < 64 by omega)]
  by_cases hf : far ≤ j
  · have hall : (18446744073709551615 : Nat).testBit (j - far) = true := by
      rw [show (18446744073709551615 : Nat) = 2 ^ 64 - 1 by decide, Nat.testBit_two_pow_sub_one]
      simp
      omega
    simp [hf, hall]
  · simp [hf]
theorem tri_lshr {w far j : Nat} {a : Kb} (h2 : w ≤ 64) (ha : a.1 < 2 ^ w) (hb : a.2 < 2 ^ w) (hj : j < w) : tri (shK 16 w a far) j = shT 16 w (tri a) far j := by
  unfold shK shT
  rw [if_neg (by decide), if_pos rfl, if_neg (by decide), if_neg (show ¬ (16 : Nat) = 17 by decide), tri_low hj]
  have ez : ∀ x, x < 2 ^ w → (x / 2 ^ min far 64).testBit j = (decide (far < w ∧ j + far < w) && x.testBit (j + far)) := fun x hx => by
    rw [← low_bit w _ j hj]; exact lshr_bits (v := w) h2 hx hj
  have hp := pow_pos' w
  have hle := pow_le64 h2
  unfold tri
  simp only [Nat.testBit_or, ez _ ha, ez _ hb, tb_not (Nat.lt_of_le_of_lt (Nat.div_le_self (2 ^ w - 1) (2 ^ min far 64)) (by omega)) (show j < 64 by omega), ez _ (show 2 ^ w - 1 < 2 ^ w by omega), Nat.testBit_two_pow_sub_one]
  by_cases hf : far < w - j
  · have k1 : far < w := by omega
    have k2 : j + far < w := by omega
    rw [if_pos hf, decide_eq_true (And.intro k1 k2), decide_eq_true k2]
    cases a.1.testBit (j + far) <;> simp
  · have k : ¬ (far < w ∧ j + far < w) := by omega
    simp only [k, hf, decide_false, Bool.false_and, if_false]
    simp
theorem tri_ashr {w far j : Nat} {a : Kb} (h1 : 1 ≤ w) (h2 : w ≤ 64) (ha : a.1 < 2 ^ w) (hb : a.2 < 2 ^ w) (hj : j < w) : tri (shK 17 w a far) j = shT 17 w (tri a) far j := by
  unfold shK shT
  rw [if_neg (by decide), if_neg (by decide), if_neg (by decide), if_pos rfl, tri_low hj]
  have ez : ∀ v x, x < 2 ^ w → (numB 17 w v x far).testBit j = if far < w ∧ j + far < w then x.testBit (j + far) else x.testBit (w - 1) := fun v x hx => by
    rw [← low_bit w _ j hj, ashr_bits h1 h2 hx hj, sign_bit h1 hx]
  unfold tri
  simp only [ez _ _ ha, ez _ _ hb]
  by_cases hf : far < w - j
  · have k : far < w ∧ j + far < w := by omega
    simp [k, hf]
  · have k : ¬ (far < w ∧ j + far < w) := by omega
    simp [k, hf]
end Kr
end Go.Proofs.Ytigjbngedbbdbaa

namespace Go.Proofs.Ytigjbngedbbdbaa
open Go.RowKit Go.Maps Bv Tm Kn
namespace Kr
set_option maxHeartbeats 1000000
set_option maxRecDepth 100000

/-- A row of n bits stands in the block b. -/
def RowAt (w : World) (b n : Nat) (f : Nat → Nat) : Prop := b < w.heap.size ∧ ∀ j, j < n → w.cell? ⟨b, j, none⟩ = some (.int .u8 ((f j : Nat) : Int))
theorem RowAt.call {w w' : World} {b n B : Nat} {f : Nat → Nat} (h : RowAt w b n f) (k : Below B w w') (hB : b < B) : RowAt w' b n f :=
  ⟨Nat.lt_of_lt_of_le h.1 k.size, fun j hj => (k.cell (p := ⟨b, j, none⟩) hB).trans (h.2 j hj)⟩
theorem info_u8 : (Try.prog.info? 5).map (fun i => (i.zero, i.size, i.bytes)) = some (some (.int .u8 0), 1, 1) := by kernel_rfl
theorem made_one (z : Value) (hz : z.cells = #[z]) (n : Nat) : madeCells z.cells (n * 1) = Array.replicate n z := by
  apply Array.ext_getElem?
  intro j
  by_cases hj : j < n
  · simp [madeCells, hz, hj, Nat.mod_one]
  · simp [madeCells, hz, hj]
theorem make_bytes (n : Nat) (hn : n ≤ 4096) (W : World) : (Instr.makeSlice 68 (.int .i64 ((n : Nat) : Int)) (.int .i64 ((n : Nat) : Int))).run Try.prog W = .ok (.slice (some ⟨W.heap.size, 0, none⟩) n n) (W.alloc (.cells (Array.replicate n (Value.int .u8 0)) 5)) := by
  obtain ⟨i0, hinfo, hz0, hz1, hz2⟩ := info_parts info_u8
  have h := run_makeSlice (P := Try.prog) (w := W) 68 5 i0 (.int .u8 0) Try.underlying68 hinfo hz0 .i64 .i64 ((n : Nat) : Int) ((n : Nat) : Int) (by omega) (Int.le_refl _) (by rw [hz1]; simp; omega) (by rw [hz2]; omega) (by omega)
  rw [hz1] at h
  simp only [Int.toNat_natCast] at h
  rw [made_one _ rfl] at h
  exact h
/-- The row that is being made stands behind the node's own box. -/
structure OutAt (W w : World) (v0 v1 v2 v3 v4 v5 v6 : Value) (n : Nat) (f : Nat → Nat) : Prop where
  bel : Below W.heap.size W w
  box : At7 w W.heap.size v0 v1 v2 v3 v4 v5 v6
  cs : ∀ j, j < n → w.cell? ⟨W.heap.size + 1, j, none⟩ = some (.int .u8 ((f j : Nat) : Int))
  fr : ∀ j, w.frozen? ⟨W.heap.size + 1, j, none⟩ = false
  lt : W.heap.size + 1 < w.heap.size
theorem cell_of {w : World} {b : Nat} {A : Array Value} {t : TypeId} (h : w.heap[b]? = some (.cells A t)) (j : Nat) : w.cell? ⟨b, j, none⟩ = A[j]? ∧ w.frozen? ⟨b, j, none⟩ = false := by
  unfold World.cell? World.frozen?
  rw [h]
  simp
section
variable {W w w' : World} {v0 v1 v2 v3 v4 v5 v6 : Value} {n : Nat} {f : Nat → Nat}
theorem out_new (W : World) (v0 v1 v2 v3 v4 v5 v6 : Value) (n : Nat) : OutAt W ((W.alloc (.cells #[v0, v1, v2, v3, v4, v5, v6] 57)).alloc (.cells (Array.replicate n (Value.int .u8 0)) 5)) v0 v1 v2 v3 v4 v5 v6 n (fun _ => 0) := by
  have h2 : ((W.alloc (.cells #[v0, v1, v2, v3, v4, v5, v6] 57)).alloc (.cells (Array.replicate n (Value.int .u8 0)) 5)).heap[W.heap.size + 1]? = some (.cells (Array.replicate n (Value.int .u8 0)) 5) := by
    have := (MapKept.heap_alloc (W.alloc (.cells #[v0, v1, v2, v3, v4, v5, v6] 57)) (.cells (Array.replicate n (Value.int .u8 0)) 5)).1
    rw [size_alloc] at this
    exact this
  refine ⟨bel_alloc (bel_alloc (Below.refl _ _) _) _, (At7.new W v0 v1 v2 v3 v4 v5 v6 57).keep (bel_alloc (Below.refl _ _) _), fun j hj => ?_, fun j => (cell_of h2 j).2, by rw [size_alloc, size_alloc]; omega⟩
  rw [(cell_of h2 j).1, Array.getElem?_replicate, if_pos hj]
  rfl
theorem OutAt.drewN (h : OutAt W w v0 v1 v2 v3 v4 v5 v6 n f) (q : Nat) : OutAt W (w.drewN q) v0 v1 v2 v3 v4 v5 v6 n f :=
  ⟨bel_drewN h.bel q, by have := h.box; unfold At7 at this ⊢; simpa using this, fun j hj => by simpa using h.cs j hj, fun j => by simpa using h.fr j, by simpa using h.lt⟩
theorem OutAt.call (h : OutAt W w v0 v1 v2 v3 v4 v5 v6 n f) (k : Below w.heap.size w w') : OutAt W w' v0 v1 v2 v3 v4 v5 v6 n f :=
  ⟨bel_call h.bel k, h.box.keep k, fun j hj => (k.cell (p := ⟨W.heap.size + 1, j, none⟩) h.lt).trans (h.cs j hj), fun j => (k.frozen (p := ⟨W.heap.size + 1, j, none⟩) h.lt).trans (h.fr j), Nat.lt_of_lt_of_le h.lt k.size⟩
theorem OutAt.ext {g : Nat → Nat} (h : OutAt W w v0 v1 v2 v3 v4 v5 v6 n f) (e : ∀ j, j < n → f j = g j) : OutAt W w v0 v1 v2 v3 v4 v5 v6 n g :=
  ⟨h.bel, h.box, fun j hj => by rw [h.cs j hj, e j hj], h.fr, h.lt⟩
theorem OutAt.set (h : OutAt W w v0 v1 v2 v3 v4 v5 v6 n f) {i y : Nat} (hi : i < n) : OutAt W (w.setCell ⟨W.heap.size + 1, i, none⟩ (.int .u8 ((y : Nat) : Int))) v0 v1 v2 v3 v4 v5 v6 n (fun j => if j = i then y else f j) := by
  refine ⟨h.bel.setCell (by simp) _, ?_, fun j hj => ?_, fun j => by rw [World.frozen?_setCell]; exact h.fr j, by simpa [World.setCell] using h.lt⟩
  · have hb := h.box
    unfold At7 at hb ⊢
    have hne : ∀ o, (w.setCell ⟨W.heap.size + 1, i, none⟩ (.int .u8 ((y : Nat) : Int))).cell? ⟨W.heap.size, o, none⟩ = w.cell? ⟨W.heap.size, o, none⟩ := fun o => World.cell?_setCell_other _ _ _ _ (by simp)
    simp only [hne]
    exact hb
  · by_cases e : j = i
    · subst e
      rw [if_pos rfl]
      exact World.cell?_setCell_same' _ _ _ (by rw [h.cs j hj]; rfl)
    · rw [if_neg e]
      exact (World.cell?_setCell_other _ _ _ _ (by first | (simp; done) | (simp; exact fun q => e q.symm))).trans (h.cs j hj)
/-- The first i of them are told. -/
def mix (T : Nat → Nat) (i : Nat) : Nat → Nat := fun j => if j < i then T j else 2
theorem OutAt.step {T : Nat → Nat} {i y : Nat} (h : OutAt W w v0 v1 v2 v3 v4 v5 v6 n (mix T i)) (hi : i < n) (hy : T i = y) : OutAt W (w.setCell ⟨W.heap.size + 1, i, none⟩ (.int .u8 ((y : Nat) : Int))) v0 v1 v2 v3 v4 v5 v6 n (mix T (i + 1)) :=
  (h.set hi).ext (fun j _ => by
    unfold mix
    by_cases e : j = i
    · subst e; rw [if_pos rfl, if_pos (by omega), hy]
    · rw [if_neg e]
      by_cases c : j < i
      · rw [if_pos c, if_pos (by omega)]
      · rw [if_neg c, if_neg (by omega)])
theorem OutAt.done {T : Nat → Nat} (h : OutAt W w v0 v1 v2 v3 v4 v5 v6 n (mix T n)) : RowAt w (W.heap.size + 1) n T ∧ Below W.heap.size W w :=
  ⟨⟨h.lt, fun j hj => by rw [h.cs j hj]; unfold mix; rw [if_pos hj]⟩, h.bel⟩
theorem OutAt.old (h : OutAt W w v0 v1 v2 v3 v4 v5 v6 n f) {b : Nat} (hb : b < W.heap.size) (j : Nat) : w.cell? ⟨b, j, none⟩ = W.cell? ⟨b, j, none⟩ := h.bel.cell (p := ⟨b, j, none⟩) hb
end
/-- What a row's maker answers: a new row. -/
def NewRow (W : World) (n : Nat) (T : Nat → Nat) (e : Ending) (w : World) : Prop := ∃ b, e = .returned (.slice (some ⟨b, 0, none⟩) n n) ∧ W.heap.size ≤ b ∧ RowAt w b n T ∧ Below W.heap.size W w
end Kr
end Go.Proofs.Ytigjbngedbbdbaa

namespace Go.Proofs.Ytigjbngedbbdbaa
open Go.RowKit Go.Maps Bv Tm Kn
namespace Kr
set_option maxHeartbeats 1000000
set_option maxRecDepth 100000

theorem three {p : Nat} (h : p ≤ 2) : p = 0 ∨ p = 1 ∨ p = 2 := by omega
theorem bw_not {W : World} {a na ca i p y : Nat} {bv : Value} (hi : i < na) (hp : p ≤ 2) (h : W.cell? ⟨a, i, none⟩ = some (.int .u8 ((p : Nat) : Int))) :
    Calls Try.prog 39 #[.int .u8 3, .slice (some ⟨a, 0, none⟩) na ca, bv, .int .i64 ((i : Nat) : Int)] W fun e w => e = .returned (.int .u8 ((bwT 3 p y : Nat) : Int)) ∧ Below W.heap.size W w := by
  have i0 : (0 : Int) ≤ ((i : Nat) : Int) := by omega
  have i1 : ((i : Nat) : Int) < ((na : Nat) : Int) := by omega
  rcases three hp with rfl | rfl | rfl
  · have hc : W.cell? ⟨a, i, none⟩ = some (.int .u8 0) := h
    clear h hp
    go_enter Try.func39, Try.ntmps39
    go_wp2_with fail
    go_ret
    exact ⟨rfl, Below.refl _ _⟩
  · have hc : W.cell? ⟨a, i, none⟩ = some (.int .u8 1) := h
    clear h hp
    go_enter Try.func39, Try.ntmps39
    go_wp2_with fail
    go_ret
    exact ⟨rfl, Below.refl _ _⟩
  · have hc : W.cell? ⟨a, i, none⟩ = some (.int .u8 2) := h
    clear h hp
    go_enter Try.func39, Try.ntmps39
    go_wp2_with fail
    go_ret
    exact ⟨rfl, Below.refl _ _⟩
theorem bw_and {W : World} {a na ca b nb cb i p q : Nat} (hi : i < na) (hj : i < nb) (hp : p ≤ 2) (hq : q ≤ 2) (h : W.cell? ⟨a, i, none⟩ = some (.int .u8 ((p : Nat) : Int))) (h2 : W.cell? ⟨b, i, none⟩ = some (.int .u8 ((q : Nat) : Int))) :
    Calls Try.prog 39 #[.int .u8 5, .slice (some ⟨a, 0, none⟩) na ca, .slice (some ⟨b, 0, none⟩) nb cb, .int .i64 ((i : Nat) : Int)] W fun e w => e = .returned (.int .u8 ((bwT 5 p q : Nat) : Int)) ∧ Below W.heap.size W w := by
  have i0 : (0 : Int) ≤ ((i : Nat) : Int) := by omega
  have i1 : ((i : Nat) : Int) < ((na : Nat) : Int) := by omega
  have i2 : ((i : Nat) : Int) < ((nb : Nat) : Int) := by omega
  rcases three hp with rfl | rfl | rfl <;> rcases three hq with rfl | rfl | rfl
  · have hc : W.cell? ⟨a, i, none⟩ = some (.int .u8 0) := h
    have hd : W.cell? ⟨b, i, none⟩ = some (.int .u8 0) := h2
    clear h h2 hp hq
    go_enter Try.func39, Try.ntmps39
    go_wp2_with fail
    go_ret
    exact ⟨rfl, Below.refl _ _⟩
  · have hc : W.cell? ⟨a, i, none⟩ = some (.int .u8 0) := h
    have hd : W.cell? ⟨b, i, none⟩ = some (.int .u8 1) := h2
    clear h h2 hp hq
    go_enter Try.func39, Try.ntmps39
    go_wp2_with fail
    go_ret
    exact ⟨rfl, Below.refl _ _⟩
  · have hc : W.cell? ⟨a, i, none⟩ = some (.int .u8 0) := h
    have hd : W.cell? ⟨b, i, none⟩ = some (.int .u8 2) := h2
    clear h h2 hp hq
    go_enter Try.func39, Try.ntmps39
    go_wp2_with fail
    go_ret
    exact ⟨rfl, Below.refl _ _⟩
  · have hc : W.cell? ⟨a, i, none⟩ = some (.int .u8 1) := h
    have hd : W.cell? ⟨b, i, none⟩ = some (.int .u8 0) := h2
    clear h h2 hp hq
    go_enter Try.func39, Try.ntmps39
    go_wp2_with fail
    go_ret
    exact ⟨rfl, Below.refl _ _⟩
  · have hc : W.cell? ⟨a, i, none⟩ = some (.int .u8 1) := h
    have hd : W.cell? ⟨b, i, none⟩ = some (.int .u8 1) := h2
    clear h h2 hp hq
    go_enter Try.func39, Try.ntmps39
    go_wp2_with fail
    go_ret
    exact ⟨rfl, Below.refl _ _⟩
  · have hc : W.cell? ⟨a, i, none⟩ = some (.int .u8 1) := h
    have hd : W.cell? ⟨b, i, none⟩ = some (.int .u8 2) := h2
    clear h h2 hp hq
    go_enter Try.func39, Try.ntmps39
    go_wp2_with fail
    go_ret
    exact ⟨rfl, Below.refl _ _⟩
  · have hc : W.cell? ⟨a, i, none⟩ = some (.int .u8 2) := h
    have hd : W.cell? ⟨b, i, none⟩ = some (.int .u8 0) := h2
    clear h h2 hp hq
    go_enter Try.func39, Try.ntmps39
    go_wp2_with fail
    go_ret
    exact ⟨rfl, Below.refl _ _⟩
  · have hc : W.cell? ⟨a, i, none⟩ = some (.int .u8 2) := h
    have hd : W.cell? ⟨b, i, none⟩ = some (.int .u8 1) := h2
    clear h h2 hp hq
    go_enter Try.func39, Try.ntmps39
    go_wp2_with fail
    go_ret
    exact ⟨rfl, Below.refl _ _⟩
  · have hc : W.cell? ⟨a, i, none⟩ = some (.int .u8 2) := h
    have hd : W.cell? ⟨b, i, none⟩ = some (.int .u8 2) := h2
    clear h h2 hp hq
    go_enter Try.func39, Try.ntmps39
    go_wp2_with fail
    go_ret
    exact ⟨rfl, Below.refl _ _⟩
theorem bw_or {W : World} {a na ca b nb cb i p q : Nat} (hi : i < na) (hj : i < nb) (hp : p ≤ 2) (hq : q ≤ 2) (h : W.cell? ⟨a, i, none⟩ = some (.int .u8 ((p : Nat) : Int))) (h2 : W.cell? ⟨b, i, none⟩ = some (.int .u8 ((q : Nat) : Int))) :
    Calls Try.prog 39 #[.int .u8 6, .slice (some ⟨a, 0, none⟩) na ca, .slice (some ⟨b, 0, none⟩) nb cb, .int .i64 ((i : Nat) : Int)] W fun e w => e = .returned (.int .u8 ((bwT 6 p q : Nat) : Int)) ∧ Below W.heap.size W w := by
  have i0 : (0 : Int) ≤ ((i : Nat) : Int) := by omega
  have i1 : ((i : Nat) : Int) < ((na : Nat) : Int) := by omega
  have i2 : ((i : Nat) : Int) < ((nb : Nat) : Int) := by omega
  rcases three hp with rfl | rfl | rfl <;> rcases three hq with rfl | rfl | rfl
  · have hc : W.cell? ⟨a, i, none⟩ = some (.int .u8 0) := h
    have hd : W.cell? ⟨b, i, none⟩ = some (.int .u8 0) := h2
    clear h h2 hp hq
    go_enter Try.func39, Try.ntmps39
    go_wp2_with fail
    go_ret
    exact ⟨rfl, Below.refl _ _⟩
  · have hc : W.cell? ⟨a, i, none⟩ = some (.int .u8 0) := h
    have hd : W.cell? ⟨b, i, none⟩ = some (.int .u8 1) := h2
    clear h h2 hp hq
    go_enter Try.func39, Try.ntmps39
    go_wp2_with fail
    go_ret
    exact ⟨rfl, Below.refl _ _⟩
  · have hc : W.cell? ⟨a, i, none⟩ = some (.int .u8 0) := h
    have hd : W.cell? ⟨b, i, none⟩ = some (.int .u8 2) := h2
    clear h h2 hp hq
    go_enter Try.func39, Try.ntmps39
    go_wp2_with fail
    go_ret
    exact ⟨rfl, Below.refl _ _⟩
  · have hc : W.cell? ⟨a, i, none⟩ = some (.int .u8 1) := h
    have hd : W.cell? ⟨b, i, none⟩ = some (.int .u8 0) := h2
    clear h h2 hp hq
    go_enter Try.func39, Try.ntmps39
    go_wp2_with fail
    go_ret
    exact ⟨rfl, Below.refl _ _⟩
  · have hc : W.cell? ⟨a, i, none⟩ = some (.int .u8 1) := h
    have hd : W.cell? ⟨b, i, none⟩ = some (.int .u8 1) := h2
    clear h h2 hp hq
    go_enter Try.func39, Try.ntmps39
    go_wp2_with fail
    go_ret
    exact ⟨rfl, Below.refl _ _⟩
  · have hc : W.cell? ⟨a, i, none⟩ = some (.int .u8 1) := h
    have hd : W.cell? ⟨b, i, none⟩ = some (.int .u8 2) := h2
    clear h h2 hp hq
    go_enter Try.func39, Try.ntmps39
    go_wp2_with fail
    go_ret
    exact ⟨rfl, Below.refl _ _⟩
  · have hc : W.cell? ⟨a, i, none⟩ = some (.int .u8 2) := h
    have hd : W.cell? ⟨b, i, none⟩ = some (.int .u8 0) := h2
    clear h h2 hp hq
    go_enter Try.func39, Try.ntmps39
    go_wp2_with fail
    go_ret
    exact ⟨rfl, Below.refl _ _⟩
  · have hc : W.cell? ⟨a, i, none⟩ = some (.int .u8 2) := h
    have hd : W.cell? ⟨b, i, none⟩ = some (.int .u8 1) := h2
    clear h h2 hp hq
    go_enter Try.func39, Try.ntmps39
    go_wp2_with fail
    go_ret
    exact ⟨rfl, Below.refl _ _⟩
  · have hc : W.cell? ⟨a, i, none⟩ = some (.int .u8 2) := h
    have hd : W.cell? ⟨b, i, none⟩ = some (.int .u8 2) := h2
    clear h h2 hp hq
    go_enter Try.func39, Try.ntmps39
    go_wp2_with fail
    go_ret
    exact ⟨rfl, Below.refl _ _⟩
theorem bw_xor {W : World} {a na ca b nb cb i p q : Nat} (hi : i < na) (hj : i < nb) (hp : p ≤ 2) (hq : q ≤ 2) (h : W.cell? ⟨a, i, none⟩ = some (.int .u8 ((p : Nat) : Int))) (h2 : W.cell? ⟨b, i, none⟩ = some (.int .u8 ((q : Nat) : Int))) :
    Calls Try.prog 39 #[.int .u8 7, .slice (some ⟨a, 0, none⟩) na ca, .slice (some ⟨b, 0, none⟩) nb cb, .int .i64 ((i : Nat) : Int)] W fun e w => e = .returned (.int .u8 ((bwT 7 p q : Nat) : Int)) ∧ Below W.heap.size W w := by
  have i0 : (0 : Int) ≤ ((i : Nat) : Int) := by omega
  have i1 : ((i : Nat) : Int) < ((na : Nat) : Int) := by omega
  have i2 : ((i : Nat) : Int) < ((nb : Nat) : Int) := by omega
  rcases three hp with rfl | rfl | rfl <;> rcases three hq with rfl | rfl | rfl
  · have hc : W.cell? ⟨a, i, none⟩ = some (.int .u8 0) := h
    have hd : W.cell? ⟨b, i, none⟩ = some (.int .u8 0) := h2
    clear h h2 hp hq
    go_enter Try.func39, Try.ntmps39
    go_wp2_with fail
    go_quiet (fail)
    go_wp2_with fail
    go_ret
    exact ⟨rfl, bel_drewN (Below.refl _ _) _⟩
  · have hc : W.cell? ⟨a, i, none⟩ = some (.int .u8 0) := h
    have hd : W.cell? ⟨b, i, none⟩ = some (.int .u8 1) := h2
    clear h h2 hp hq
    go_enter Try.func39, Try.ntmps39
    go_wp2_with fail
    go_quiet (fail)
    go_wp2_with fail
    go_ret
    exact ⟨rfl, bel_drewN (Below.refl _ _) _⟩
  · have hc : W.cell? ⟨a, i, none⟩ = some (.int .u8 0) := h
    have hd : W.cell? ⟨b, i, none⟩ = some (.int .u8 2) := h2
    clear h h2 hp hq
    go_enter Try.func39, Try.ntmps39
    go_wp2_with fail
    go_ret
    exact ⟨rfl, Below.refl _ _⟩
  · have hc : W.cell? ⟨a, i, none⟩ = some (.int .u8 1) := h
    have hd : W.cell? ⟨b, i, none⟩ = some (.int .u8 0) := h2
    clear h h2 hp hq
    go_enter Try.func39, Try.ntmps39
    go_wp2_with fail
    go_quiet (fail)
    go_wp2_with fail
    go_ret
    exact ⟨rfl, bel_drewN (Below.refl _ _) _⟩
  · have hc : W.cell? ⟨a, i, none⟩ = some (.int .u8 1) := h
    have hd : W.cell? ⟨b, i, none⟩ = some (.int .u8 1) := h2
    clear h h2 hp hq
    go_enter Try.func39, Try.ntmps39
    go_wp2_with fail
    go_quiet (fail)
    go_wp2_with fail
    go_ret
    exact ⟨rfl, bel_drewN (Below.refl _ _) _⟩
  · have hc : W.cell? ⟨a, i, none⟩ = some (.int .u8 1) := h
    have hd : W.cell? ⟨b, i, none⟩ = some (.int .u8 2) := h2
    clear h h2 hp hq
    go_enter Try.func39, Try.ntmps39
    go_wp2_with fail
    go_ret
    exact ⟨rfl, Below.refl _ _⟩
  · have hc : W.cell? ⟨a, i, none⟩ = some (.int .u8 2) := h
    have hd : W.cell? ⟨b, i, none⟩ = some (.int .u8 0) := h2
    clear h h2 hp hq
    go_enter Try.func39, Try.ntmps39
    go_wp2_with fail
    go_ret
    exact ⟨rfl, Below.refl _ _⟩
  · have hc : W.cell? ⟨a, i, none⟩ = some (.int .u8 2) := h
    have hd : W.cell? ⟨b, i, none⟩ = some (.int .u8 1) := h2
    clear h h2 hp hq
    go_enter Try.func39, Try.ntmps39
    go_wp2_with fail
    go_ret
    exact ⟨rfl, Below.refl _ _⟩
  · have hc : W.cell? ⟨a, i, none⟩ = some (.int .u8 2) := h
    have hd : W.cell? ⟨b, i, none⟩ = some (.int .u8 2) := h2
    clear h h2 hp hq
    go_enter Try.func39, Try.ntmps39
    go_wp2_with fail
    go_ret
    exact ⟨rfl, Below.refl _ _⟩
end Kr
end Go.Proofs.Ytigjbngedbbdbaa

namespace Go.Proofs.Ytigjbngedbbdbaa
open Go.RowKit Go.Maps Bv Tm Kn
namespace Kr
set_option maxHeartbeats 1000000
set_option maxRecDepth 100000

open Classical in
/-- Are the first i bits of both known? -/
noncomputable def knT (a b : Nat → Nat) (i : Nat) : Bool := decide (∀ j, j < i → a j ≠ 2 ∧ b j ≠ 2)
theorem knT_zero (a b : Nat → Nat) : knT a b 0 = true := by unfold knT; rw [decide_eq_true_eq]; intro j hj; omega
theorem knT_no {a b : Nat → Nat} {i : Nat} (h : a i = 2 ∨ b i = 2) : knT a b (i + 1) = false := by
  unfold knT
  rw [decide_eq_false_iff_not]
  intro c
  have := c i (by omega)
  omega
theorem knT_yes {a b : Nat → Nat} {i : Nat} (h : a i ≠ 2 ∧ b i ≠ 2) : knT a b (i + 1) = knT a b i := by
  unfold knT
  apply decide_eq_decide.2
  constructor
  · intro c j hj; exact c j (by omega)
  · intro c j hj
    by_cases e : j = i
    · subst e; exact h
    · exact c j (by omega)
theorem requal_any {W : World} {a b n ca cb : Nat} {f g : Nat → Nat} (hn : n ≤ 64) (ha : RowAt W a n f) (hb : RowAt W b n g) (hf : ∀ j, f j ≤ 2) (hg : ∀ j, g j ≤ 2) :
    Calls Try.prog 40 #[.slice (some ⟨a, 0, none⟩) n ca, .slice (some ⟨b, 0, none⟩) n cb] W fun e w => e = .returned (.int .u8 ((eqT n f g : Nat) : Int)) ∧ Below W.heap.size W w := by
  have HA := Lib.hid ha
  have HB := Lib.hid hb
  have HF := Lib.hid hf
  have HG := Lib.hid hg
  have n0 : (0 : Int) ≤ ((n : Nat) : Int) := by omega
  clear ha hb hf hg
  go_enter Try.func40, Try.ntmps40
  go_wp2_with fail
  go_loopg [5, 6] n (fun gk v5 v6 wr => ∃ i q : Nat, v5 = .bool (knT f g i) ∧ v6 = .int .i64 ((i : Nat) : Int) ∧ i + gk = n ∧ (∀ j, j < i → ¬ (f j ≠ 2 ∧ g j ≠ 2 ∧ f j ≠ g j)) ∧ wr = W.drewN q)
  case atStart => exact ⟨0, 0, by rw [knT_zero], rfl, by omega, fun j hj => by omega, rfl⟩
  case round =>
    obtain ⟨i, q, rfl, rfl, hgk, hd, rfl⟩ := hrel
    have HGK := Lib.hid hgk
    have HD := Lib.hid hd
    have i0 : (0 : Int) ≤ ((i : Nat) : Int) := by omega
    by_cases hlt : i < n
    · have g1 : decide (((i : Nat) : Int) < ((n : Nat) : Int)) = true := decide_eq_true (by omega)
      have g2 : ((i : Nat) : Int) < ((n : Nat) : Int) := by omega
      have c1 : (W.drewN q).cell? ⟨a, i, none⟩ = some (.int .u8 ((f i : Nat) : Int)) := by simpa using HA.out.2 i hlt
      have c2 : (W.drewN q).cell? ⟨b, i, none⟩ = some (.int .u8 ((g i : Nat) : Int)) := by simpa using HB.out.2 i hlt
      obtain ⟨V, hV⟩ : ∃ V, V = W.drewN q := ⟨_, rfl⟩
      have HV := Lib.hid hV
      rw [← hV] at c1 c2 ⊢
      obtain ⟨x, hx⟩ : ∃ x, f i = x := ⟨_, rfl⟩
      obtain ⟨y, hy⟩ : ∃ y, g i = y := ⟨_, rfl⟩
      have hx2 := HF.out i
      have hy2 := HG.out i
      rw [hx] at c1 hx2
      rw [hy] at c2 hy2
      have HX := Lib.hid hx
      have HY := Lib.hid hy
      obtain ⟨kb, hkb⟩ : ∃ kb, knT f g i = kb := ⟨_, rfl⟩
      have HKB := Lib.hid hkb
      rw [hkb]
      have HLT := Lib.hid hlt
      have hx3 : x = 0 ∨ x = 1 ∨ x = 2 := by omega
      have hy3 : y = 0 ∨ y = 1 ∨ y = 2 := by omega
      clear hgk hV hx hy hd hkb hx2 hy2 hlt
      rcases hx3 with rfl | rfl | rfl <;> rcases hy3 with rfl | rfl | rfl
      · have c3 : V.cell? ⟨a, i, none⟩ = some (.int .u8 0) := c1
        have c4 : V.cell? ⟨b, i, none⟩ = some (.int .u8 0) := c2
        clear c1 c2
        go_wp2_with fail
        go_quiet (fail)
        go_wp2_with fail
        go_roundg (gk - 1)
        case measure => have := HGK.out; have := HLT.out; omega
        case rel => exact ⟨i + 1, q + nq, by rw [knT_yes (by have := HX.out; have := HY.out; omega), HKB.out], by go_num, by have := HGK.out; have := HLT.out; omega, fun j hj => by
          by_cases e : j = i
          · subst e; rw [HX.out, HY.out]; omega
          · exact HD.out j (by omega), by rw [HV.out]; simp⟩
      · have c3 : V.cell? ⟨a, i, none⟩ = some (.int .u8 0) := c1
        have c4 : V.cell? ⟨b, i, none⟩ = some (.int .u8 1) := c2
        clear c1 c2
        go_wp2_with fail
        go_quiet (fail)
        go_wp2_with fail
        go_ret
        have e0 : eqT n f g = 0 := by unfold eqT; rw [if_pos ⟨i, HLT.out, by rw [HX.out]; omega, by rw [HY.out]; omega, by rw [HX.out, HY.out]; omega⟩]
        rw [e0]
        exact ⟨rfl, by rw [HV.out]; exact bel_drewN (bel_drewN (Below.refl _ _) _) _⟩
      · have c3 : V.cell? ⟨a, i, none⟩ = some (.int .u8 0) := c1
        have c4 : V.cell? ⟨b, i, none⟩ = some (.int .u8 2) := c2
        clear c1 c2
        go_wp2_with fail
        go_roundg (gk - 1)
        case measure => have := HGK.out; have := HLT.out; omega
        case rel => exact ⟨i + 1, q, by rw [knT_no (by have := HX.out; have := HY.out; omega)], by go_num, by have := HGK.out; have := HLT.out; omega, fun j hj => by
          by_cases e : j = i
          · subst e; rw [HX.out, HY.out]; omega
          · exact HD.out j (by omega), HV.out⟩
      · have c3 : V.cell? ⟨a, i, none⟩ = some (.int .u8 1) := c1
        have c4 : V.cell? ⟨b, i, none⟩ = some (.int .u8 0) := c2
        clear c1 c2
        go_wp2_with fail
        go_quiet (fail)
        go_wp2_with fail
        go_ret
        have e0 : eqT n f g = 0 := by unfold eqT; rw [if_pos ⟨i, HLT.out, by rw [HX.out]; omega, by rw [HY.out]; omega, by rw [HX.out, HY.out]; omega⟩]
        rw [e0]
        exact ⟨rfl, by rw [HV.out]; exact bel_drewN (bel_drewN (Below.refl _ _) _) _⟩
      · have c3 : V.cell? ⟨a, i, none⟩ = some (.int .u8 1) := c1
        have c4 : V.cell? ⟨b, i, none⟩ = some (.int .u8 1) := c2
        clear c1 c2
        go_wp2_with fail
        go_quiet (fail)
        go_wp2_with fail
        go_roundg (gk - 1)
        case measure => have := HGK.out; have := HLT.out; omega
        case rel => exact ⟨i + 1, q + nq, by rw [knT_yes (by have := HX.out; have := HY.out; omega), HKB.out], by go_num, by have := HGK.out; have := HLT.out; omega, fun j hj => by
          by_cases e : j = i
          · subst e; rw [HX.out, HY.out]; omega
          · exact HD.out j (by omega), by rw [HV.out]; simp⟩
      · have c3 : V.cell? ⟨a, i, none⟩ = some (.int .u8 1) := c1
        have c4 : V.cell? ⟨b, i, none⟩ = some (.int .u8 2) := c2
        clear c1 c2
        go_wp2_with fail
        go_roundg (gk - 1)
        case measure => have := HGK.out; have := HLT.out; omega
        case rel => exact ⟨i + 1, q, by rw [knT_no (by have := HX.out; have := HY.out; omega)], by go_num, by have := HGK.out; have := HLT.out; omega, fun j hj => by
          by_cases e : j = i
          · subst e; rw [HX.out, HY.out]; omega
          · exact HD.out j (by omega), HV.out⟩
      · have c3 : V.cell? ⟨a, i, none⟩ = some (.int .u8 2) := c1
        have c4 : V.cell? ⟨b, i, none⟩ = some (.int .u8 0) := c2
        clear c1 c2
        go_wp2_with fail
        go_roundg (gk - 1)
        case measure => have := HGK.out; have := HLT.out; omega
        case rel => exact ⟨i + 1, q, by rw [knT_no (by have := HX.out; have := HY.out; omega)], by go_num, by have := HGK.out; have := HLT.out; omega, fun j hj => by
          by_cases e : j = i
          · subst e; rw [HX.out, HY.out]; omega
          · exact HD.out j (by omega), HV.out⟩
      · have c3 : V.cell? ⟨a, i, none⟩ = some (.int .u8 2) := c1
        have c4 : V.cell? ⟨b, i, none⟩ = some (.int .u8 1) := c2
        clear c1 c2
        go_wp2_with fail
        go_roundg (gk - 1)
        case measure => have := HGK.out; have := HLT.out; omega
        case rel => exact ⟨i + 1, q, by rw [knT_no (by have := HX.out; have := HY.out; omega)], by go_num, by have := HGK.out; have := HLT.out; omega, fun j hj => by
          by_cases e : j = i
          · subst e; rw [HX.out, HY.out]; omega
          · exact HD.out j (by omega), HV.out⟩
      · have c3 : V.cell? ⟨a, i, none⟩ = some (.int .u8 2) := c1
        have c4 : V.cell? ⟨b, i, none⟩ = some (.int .u8 2) := c2
        clear c1 c2
        go_wp2_with fail
        go_roundg (gk - 1)
        case measure => have := HGK.out; have := HLT.out; omega
        case rel => exact ⟨i + 1, q, by rw [knT_no (by have := HX.out; have := HY.out; omega)], by go_num, by have := HGK.out; have := HLT.out; omega, fun j hj => by
          by_cases e : j = i
          · subst e; rw [HX.out, HY.out]; omega
          · exact HD.out j (by omega), HV.out⟩
    · obtain rfl : i = n := by omega
      have g1 : decide (((i : Nat) : Int) < ((i : Nat) : Int)) = false := decide_eq_false (by omega)
      have hne : ¬ ∃ j, j < i ∧ f j ≠ 2 ∧ g j ≠ 2 ∧ f j ≠ g j := by rintro ⟨j, hj, c⟩; exact hd j hj c
      have HNE := Lib.hid hne
      obtain ⟨kb, hkb⟩ : ∃ kb, knT f g i = kb := ⟨_, rfl⟩
      have HKB := Lib.hid hkb
      rw [hkb]
      clear hgk hd hne hkb
      cases kb
      · go_wp2_with fail
        go_ret
        have e0 : eqT i f g = 2 := by
          have k := HKB.out
          unfold knT at k
          rw [decide_eq_false_iff_not] at k
          unfold eqT
          rw [if_neg HNE.out, if_neg k]
        rw [e0]
        exact ⟨rfl, bel_drewN (Below.refl _ _) _⟩
      · go_wp2_with fail
        go_ret
        have e0 : eqT i f g = 1 := by
          have k := HKB.out
          unfold knT at k
          rw [decide_eq_true_eq] at k
          unfold eqT
          rw [if_neg HNE.out, if_pos k]
        rw [e0]
        exact ⟨rfl, bel_drewN (Below.refl _ _) _⟩
end Kr
end Go.Proofs.Ytigjbngedbbdbaa
