/-
  What the library's decimal reader makes of a number as it is written, and that what the document reads as a number is so written. Plain facts.
-/
import Derived.Lib.AtoiTie
import Derived.Test.YtcpehdeddgfpmaaDoorCfText
namespace Go.Proofs.YtcpehdeddgfpmaaDoor
namespace Cf
theorem dfrom_snoc : ∀ (l : By) (a m d : Nat) (c : UInt8), Lib.decFrom a l = some m → Lib.digitVal c = some d → Lib.decFrom a (l ++ [c]) = some (m * 10 + d)
  | [], a, m, d, c, h, hc => by
    simp only [Lib.decFrom, Option.some.injEq] at h
    subst h
    simp [Lib.decFrom, hc]
  | b :: r, a, m, d, c, h, hc => by
    unfold Lib.decFrom at h
    cases hb : Lib.digitVal b with
    | none => rw [hb] at h; cases h
    | some e =>
      rw [hb] at h
      have := dfrom_snoc r _ m d c h hc
      rw [List.cons_append]
      unfold Lib.decFrom
      rw [hb]
      exact this
theorem digit_of {d : Nat} (h : d < 10) : Lib.digitVal (UInt8.ofNat (48 + d)) = some d := by
  unfold Lib.digitVal
  rw [dig_nat h, if_pos (by omega)]
  congr 1
  omega
theorem dfrom_dec (u : Nat) : Lib.decFrom 0 (dec u) = some u := by
  induction u using Nat.strongRecOn with
  | _ u ih =>
    by_cases h : u < 10
    · rw [dec_small h]
      simp only [Lib.decFrom]
      rw [digit_of h]
      simp
    · rw [dec_big h, dfrom_snoc _ _ _ _ _ (ih (u / 10) (by omega)) (digit_of (by omega))]
      congr 1
      omega
theorem dnat_dec (u : Nat) : Lib.decNat (dec u) = some u := by
  unfold Lib.decNat
  have : (dec u).isEmpty = false := by
    have := dec_ne u
    cases h : dec u with
    | nil => exact absurd h this
    | cons _ _ => rfl
  rw [this]
  exact dfrom_dec u
/-- A number as it is written is read as itself. -/
theorem atoi_dec {z : Int} (h1 : -1000000000 < z) (h2 : z < 1000000000) : Lib.atoiAll (decI z) = .ok z := by
  have hl : ∀ u : Nat, u < 1000000000 → (dec u).length ≤ 9 := fun u hu => dec_len (k := 8) (by simpa using hu)
  unfold decI
  by_cases hz : z < 0
  · rw [if_pos hz, Lib.atoiAll_short _ (by have := hl (-z).toNat (by omega); simp; omega)]
    simp only [Lib.atoi, beq_self_eq_true, if_true, dnat_dec]
    show Lib.NumEnd.ok (-(((-z).toNat : Nat) : Int)) = Lib.NumEnd.ok z
    rw [show -(((-z).toNat : Nat) : Int) = z by omega]
  · rw [if_neg hz, Lib.atoiAll_short _ (by have := hl z.toNat (by omega); omega)]
    have hd := dec_digits z.toNat
    have hn := dnat_dec z.toNat
    cases hc : dec z.toNat with
    | nil => exact absurd hc (dec_ne _)
    | cons b r =>
      rw [hc] at hd hn
      have hb := hd b (by simp)
      have e1 : (b == 45) = false := by
        have := digB_not hb (d := 45) (by decide)
        simpa using this
      have e2 : (b == 43) = false := by
        have := digB_not hb (d := 43) (by decide)
        simpa using this
      simp only [Lib.atoi, e1, e2, Bool.false_eq_true, if_false, hn]
      show Lib.NumEnd.ok ((z.toNat : Nat) : Int) = Lib.NumEnd.ok z
      rw [show ((z.toNat : Nat) : Int) = z by omega]
theorem snoc_ind {p : By → Prop} (h0 : p []) (h1 : ∀ s c, p s → p (s ++ [c])) (l : By) : p l := by
  rw [← List.reverse_reverse l]
  induction l.reverse with
  | nil => exact h0
  | cons c t ih => rw [List.reverse_cons]; exact h1 _ _ ih
/-- Digits without a needless nought are how their worth is written. -/
theorem dec_val : ∀ (d : By), d.all digB = true → d ≠ [] → (d.head? = some 48 → d.length = 1) → dec (valB d) = d := by
  intro d
  refine snoc_ind (p := fun d => d.all digB = true → d ≠ [] → (d.head? = some 48 → d.length = 1) → dec (valB d) = d) ?_ ?_ d
  · intro _ h; exact absurd rfl h
  · intro s c ih ha _ hh
    rw [List.all_append, Bool.and_eq_true] at ha
    have hc : digB c = true := by simpa using ha.2
    unfold digB at hc
    simp only [Bool.and_eq_true, decide_eq_true_eq] at hc
    have hcn : UInt8.ofNat (48 + (c.toNat - 48)) = c := by
      rw [show 48 + (c.toNat - 48) = c.toNat by omega]
      simp
    rw [val_snoc]
    by_cases hs : s = []
    · subst hs
      simp only [valB, List.foldl_nil, List.nil_append]
      rw [dec_small (by omega), show 10 * 0 + (c.toNat - 48) = c.toNat - 48 by omega, hcn]
    · have hs48 : s.head? ≠ some 48 := by
        intro e
        have := hh (by rw [List.head?_append, e]; rfl)
        rw [List.length_append, List.length_singleton] at this
        have h0 : 0 < s.length := List.length_pos_iff.2 hs
        omega
      have i := ih ha.1 hs (fun e => absurd e hs48)
      have hv : 1 ≤ valB s := by
        rcases Nat.eq_zero_or_pos (valB s) with h0 | h0
        · rw [h0, dec_small (by omega)] at i
          exact absurd (by rw [← i]; rfl) hs48
        · exact h0
      rw [dec_big (by omega), show (10 * valB s + (c.toNat - 48)) / 10 = valB s by omega, show (10 * valB s + (c.toNat - 48)) % 10 = c.toNat - 48 by omega, i, hcn]
theorem val_lt : ∀ (d : By), d.all digB = true → valB d < 10 ^ d.length := by
  intro d
  refine snoc_ind (p := fun d => d.all digB = true → valB d < 10 ^ d.length) ?_ ?_ d
  · intro _; simp [valB]
  · intro s c ih ha
    rw [List.all_append, Bool.and_eq_true] at ha
    have hc : digB c = true := by simpa using ha.2
    unfold digB at hc
    simp only [Bool.and_eq_true, decide_eq_true_eq] at hc
    have := ih ha.1
    rw [val_snoc, List.length_append, List.length_singleton, Nat.pow_succ]
    omega
/-- What is read is so written, and small. -/
theorem read_is {s : By} {z : Int} (h : readB s = some z) : decI z = s ∧ -1000000000 < z ∧ z < 1000000000 := by
  unfold readB at h
  simp only at h
  have hp : ∀ d : By, d.length ≤ 9 → d.all digB = true → valB d < 1000000000 := fun d hl ha => Nat.lt_of_lt_of_le (val_lt d ha) (by
    have : (10 : Nat) ^ d.length ≤ 10 ^ 9 := Nat.pow_le_pow_right (by omega) hl
    simpa using this)
  by_cases hm : s.head? = some 45
  · have hmb : (s.head? == some 45) = true := by simpa using hm
    rw [hmb] at h
    simp only [if_true, or_true, and_true] at h
    split at h
    · cases h
    · rename_i hc
      split at h
      · rename_i ha
        injection h with h
        have hne : s.tail ≠ [] := fun e => hc (.inl e)
        have h48 : ¬ s.tail.head? = some 48 := fun e => hc (.inr (.inr e))
        have hv := dec_val s.tail ha hne (fun e => absurd e h48)
        have hlt := hp s.tail (by have : ¬ 9 < s.tail.length := fun e => hc (.inr (.inl e)); omega) ha
        have hpos : 1 ≤ valB s.tail := by
          rcases Nat.eq_zero_or_pos (valB s.tail) with h0 | h0
          · rw [h0, dec_small (by omega)] at hv
            exact absurd (by rw [← hv]; rfl) h48
          · exact h0
        subst h
        refine ⟨?_, by omega, by omega⟩
        unfold decI
        rw [if_pos (by omega), show (-(-(valB s.tail : Int))).toNat = valB s.tail by omega, hv]
        cases s with
        | nil => simp at hm
        | cons b r => simp at hm; rw [hm]; rfl
      · cases h
  · have hmb : (s.head? == some 45) = false := by simpa using hm
    rw [hmb] at h
    simp only [Bool.false_eq_true, if_false, or_false] at h
    split at h
    · cases h
    · rename_i hc
      split at h
      · rename_i ha
        injection h with h
        have hne : s ≠ [] := fun e => hc (.inl e)
        have hv := dec_val s ha hne (fun e => by
          have : ¬ 1 < s.length := fun g => hc (.inr (.inr ⟨e, g⟩))
          have : 0 < s.length := List.length_pos_iff.2 hne
          omega)
        have hlt := hp s (by have : ¬ 9 < s.length := fun e => hc (.inr (.inl e)); omega) ha
        subst h
        refine ⟨?_, by omega, by omega⟩
        unfold decI
        rw [if_neg (by omega), Int.toNat_natCast, hv]
      · cases h
end Cf
end Go.Proofs.YtcpehdeddgfpmaaDoor
