/-
  The program's Get and Put, as plain data, are the document's. Plain facts.
-/
import Derived.Test.YtbgcgomefdblpaaDoorDqMore
import Derived.Test.YtbgcgomefdblpaaDoorDqRead
import Derived.Test.YtbgcgomefdblpaaDoorDeEql
namespace Go.Proofs.YtbgcgomefdblpaaDoor
namespace De
set_option maxHeartbeats 6400000
set_option maxRecDepth 100000

theorem fitQ_of {q : Qr} {r : Row} (h : fitQ q r = true) : q.form = formOf r ∧ q.lo ≤ r.op ∧ r.op ≤ q.hi ∧ wOf r = q.word + 4096 * (r.op - q.lo) := of_decide_eq_true h
theorem has_k {q : Qr} {w : Nat} (hq : q ∈ rowsQ) (hw : w < 4294967296) (h : hasP q w = true) :
    ∃ k, k ≤ q.hi - q.lo ∧ w &&& (fmQ q.form).fixed = q.word + 4096 * k ∧ aboveP q w / 4096 = k := by
  have hk := (rowQ_ok q hq).2.2.2.2
  have hm : w &&& (fmQ q.form).fixed ≤ w := Nat.and_le_left
  have h := of_decide_eq_true h
  unfold aboveP at h ⊢
  generalize w &&& (fmQ q.form).fixed = m at hm h ⊢
  obtain ⟨h1, h2⟩ := h
  exact ⟨_, h2, by omega, rfl⟩
theorem k_above {q : Qr} {w k : Nat} (hq : q ∈ rowsQ) (hk : k ≤ q.hi - q.lo) (h : w &&& (fmQ q.form).fixed = q.word + 4096 * k) : aboveP q w = 4096 * k := by
  have hk2 := (rowQ_ok q hq).2.2.2.2
  unfold aboveP
  rw [h]
  omega
theorem fit_read {q : Qr} {r : Row} {w : Nat} (hq : q ∈ rowsQ) (hr : r ∈ rowsP) (hw : w < 4294967296) (hf : fitQ q r = true) (h : fitsP r w = true) : readP r w = instrP q w ∧ hasP q w = true := by
  obtain ⟨f1, f2, f3, f4⟩ := fitQ_of hf
  have hg := rows_good r hr
  have h2 := h
  rw [fits_msk hg hw, ← f1, f4] at h2
  have ha := k_above hq (by omega) (of_decide_eq_true h2)
  have hb := (rowQ_ok q hq).2.2.1
  refine ⟨?_, ?_⟩
  · rw [read_form hg hw h, ← f1]
    unfold instrP
    rw [ha, show (q.lo + 4096 * (r.op - q.lo) / 4096) % 256 = r.op by omega]
  · unfold hasP
    rw [ha]
    exact decide_eq_true ⟨by omega, by omega⟩
theorem has_get {q : Qr} {w : Nat} (hq : q ∈ rowsQ) (hw : w < 4294967296) (h : hasP q w = true) : getP w = some (instrP q w) := by
  obtain ⟨k, hk, hm, _⟩ := has_k hq hw h
  obtain ⟨r, hr, ho, hf⟩ := fit_row q hq k hk
  obtain ⟨f1, f2, f3, f4⟩ := fitQ_of hf
  have hfit : fitsP r w = true := by
    rw [fits_msk (rows_good r hr) hw, ← f1, f4]
    exact decide_eq_true (by rw [hm, ho]; congr 2; omega)
  rw [get_fits hr hfit, (fit_read hq hr hw hf hfit).1]
theorem get_no {w : Nat} (hw : w < 4294967296) (h : ∀ q ∈ rowsQ, hasP q w = false) : getP w = none := by
  cases hg : getP w with
  | none => rfl
  | some i =>
    obtain ⟨r, hr, hf, _⟩ := fits_get hg
    obtain ⟨q, hq, hqr⟩ := row_fit r hr
    have := (fit_read hq hr hw hqr hf).2
    rw [h q hq] at this
    cases this
/-- Each field within what the form has. -/
def zq (f : Fm) (i : Ins) : Prop := i.rd ≤ 31 ∧ i.a ≤ 31 ∧ i.b ≤ 31 ∧ i.csr ≤ 4095 ∧ (f.has % 2 ≠ 1 → i.rd = 0) ∧ (f.has / 2 % 2 ≠ 1 → i.a = 0) ∧ (f.has / 4 % 2 ≠ 1 → i.b = 0) ∧ (f.has / 8 % 2 ≠ 1 → i.csr = 0)
theorem fields_z (f : Fm) {w : Nat} (hw : w < 4294967296) (o : Nat) : zq f { fieldsP f w with op := o } := by
  unfold zq fieldsP
  refine ⟨?_, ?_, ?_, ?_, fun h => by simp only []; rw [if_neg h], fun h => by simp only []; rw [if_neg h], fun h => by simp only []; rw [if_neg h], fun h => by simp only []; rw [if_neg h]⟩
  all_goals (simp only []; split <;> omega)
theorem fld_z (w n : Nat) : fld w 0 n < 2 ^ n := fld_le w 0 n
theorem orp (x v j m : Nat) (hv : v < 2 ^ m) (h : x / 2 ^ j % 2 ^ m = 0) : x ||| v * 2 ^ j = x + v * 2 ^ j := or_mid x v j m h hv
theorem sc_fld (n a b m : Nat) : scP n ⟨a, b, m⟩ = fld n b m * 2 ^ a := rfl
theorem or_left (a b c : Nat) : a ||| (b ||| c) = (a ||| b) ||| c := (Nat.or_assoc a b c).symm
/-- The word of an instruction whose fields its form has is the least one. -/
theorem putW_least {q : Qr} {r : Row} {i : Ins} (hr : r ∈ rowsP) (hf : fitQ q r = true) (ho : r.op = i.op) (hz : zq (fmQ q.form) i) : putW q i = leastP r i := by
  obtain ⟨f1, f2, f3, f4⟩ := fitQ_of hf
  have hg := rows_good r hr
  unfold good at hg
  simp only [Bool.and_eq_true, decide_eq_true_eq] at hg
  obtain ⟨⟨⟨⟨⟨⟨⟨g1, g2⟩, g3⟩, g4⟩, g5⟩, g6⟩, gz⟩, g7⟩ := hg
  obtain ⟨b0, b1, b2, b3, b4, b5, b6, b7, b8, b9, b10, b11, b12⟩ := has_of
  unfold putW
  rw [← ho, ← f4]
  rw [f1] at hz ⊢
  clear f1 f2 f3 f4 hf hr g3 g4
  obtain ⟨z1, z2, z3, z4, k1, k2, k3, k4⟩ := hz
  unfold bitsP leastP
  generalize u32 i.imm = v
  have y1 : i.rd * 128 = i.rd * 2 ^ 7 := rfl
  have y2 : i.a * 32768 = i.a * 2 ^ 15 := rfl
  have y3 : i.b * 1048576 = i.b * 2 ^ 20 := rfl
  have y4 : i.csr * 1048576 % 4294967296 = i.csr * 2 ^ 20 := by omega
  rw [y1, y2, y3, y4]
  have x1 : i.rd < 2 ^ 5 := by omega
  have x2 : i.a < 2 ^ 5 := by omega
  have x3 : i.b < 2 ^ 5 := by omega
  have x4 : i.csr < 2 ^ 12 := by omega
  clear y1 y2 y3 y4 z1 z2 z3 z4
  unfold formOf at k1 k2 k3 k4 ⊢
  unfold wOf
  rcases g7 with c | c | c | c | c | c | c | c | c | c | c | c
  all_goals simp only [c, Nat.reduceEqDiff, ↓reduceIte, or_self, or_true, true_or, forall_const, false_implies, decide_eq_true_eq] at g5 g6 gz k1 k2 k3 k4 ⊢
  case inl =>
    rw [b0] at k1 k2 k3 k4
    rw [k2 (by decide), k3 (by decide), k4 (by decide), fm0]
    simp only [scatP, sc_z, sc_fld, Nat.zero_mul, Nat.zero_or, Nat.or_zero, or_left]
    have e := fld_le v 12 20
    generalize fld v 12 20 = s at e ⊢
    rw [orp _ _ 7 5 x1, orp _ _ 12 20 e]
    all_goals omega
  case inr.inl =>
    rw [b1] at k1 k2 k3 k4
    rw [k2 (by decide), k3 (by decide), k4 (by decide), fm1]
    simp only [scatP, sc_fld, Nat.zero_mul, Nat.zero_or, Nat.or_zero, or_left]
    have e := fld_le v 20 1
    have e2 := fld_le v 1 10
    have e3 := fld_le v 11 1
    have e4 := fld_le v 12 8
    generalize fld v 20 1 = s at e ⊢
    generalize fld v 1 10 = s2 at e2 ⊢
    generalize fld v 11 1 = s3 at e3 ⊢
    generalize fld v 12 8 = s4 at e4 ⊢
    rw [orp _ _ 7 5 x1, orp _ _ 31 1 e, orp _ _ 21 10 e2, orp _ _ 20 1 e3, orp _ _ 12 8 e4]
    all_goals omega
  case inr.inr.inl =>
    rw [b2] at k1 k2 k3 k4
    rw [k3 (by decide), k4 (by decide), fm2]
    simp only [scatP, sc_z, sc_fld, Nat.zero_mul, Nat.zero_or, Nat.or_zero, or_left]
    have e := fld_le v 0 12
    generalize fld v 0 12 = s at e ⊢
    rw [orp _ _ 7 5 x1, orp _ _ 15 5 x2, orp _ _ 20 12 e]
    all_goals omega
  case inr.inr.inr.inl =>
    rw [b3] at k1 k2 k3 k4
    rw [k3 (by decide), k4 (by decide), fm3]
    simp only [scatP, sc_z, sc_fld, Nat.zero_mul, Nat.zero_or, Nat.or_zero, or_left]
    have e := fld_le v 0 5
    generalize fld v 0 5 = s at e ⊢
    rw [orp _ _ 7 5 x1, orp _ _ 15 5 x2, orp _ _ 20 5 e]
    all_goals omega
  case inr.inr.inr.inr.inl =>
    rw [b4] at k1 k2 k3 k4
    rw [k1 (by decide), k4 (by decide), fm4]
    simp only [scatP, sc_z, sc_fld, Nat.zero_mul, Nat.zero_or, Nat.or_zero, or_left]
    have e := fld_le v 5 7
    have e2 := fld_le v 0 5
    generalize fld v 5 7 = s at e ⊢
    generalize fld v 0 5 = s2 at e2 ⊢
    rw [orp _ _ 15 5 x2, orp _ _ 20 5 x3, orp _ _ 25 7 e, orp _ _ 7 5 e2]
    all_goals omega
  case inr.inr.inr.inr.inr.inl =>
    rw [b5] at k1 k2 k3 k4
    rw [k1 (by decide), k4 (by decide), fm5]
    simp only [scatP, sc_fld, Nat.zero_mul, Nat.zero_or, Nat.or_zero, or_left]
    have e := fld_le v 12 1
    have e2 := fld_le v 5 6
    have e3 := fld_le v 1 4
    have e4 := fld_le v 11 1
    generalize fld v 12 1 = s at e ⊢
    generalize fld v 5 6 = s2 at e2 ⊢
    generalize fld v 1 4 = s3 at e3 ⊢
    generalize fld v 11 1 = s4 at e4 ⊢
    rw [orp _ _ 15 5 x2, orp _ _ 20 5 x3, orp _ _ 31 1 e, orp _ _ 25 6 e2, orp _ _ 8 4 e3, orp _ _ 7 1 e4]
    all_goals omega
  case inr.inr.inr.inr.inr.inr.inl =>
    rw [b6] at k1 k2 k3 k4
    rw [k4 (by decide), fm6]
    simp only [scatP, sc_z, Nat.zero_mul, Nat.or_zero, or_left]
    rw [orp _ _ 7 5 x1, orp _ _ 15 5 x2, orp _ _ 20 5 x3]
    all_goals omega
  case inr.inr.inr.inr.inr.inr.inr.inl =>
    by_cases c2 : r.op = 46
    · simp only [c2, ↓reduceIte] at k1 k2 k3 k4 ⊢
      rw [b7] at k1 k2 k3 k4
      rw [k3 (by decide), k4 (by decide), fm7]
      simp only [scatP, sc_z, Nat.zero_mul, Nat.or_zero, or_left]
      rw [orp _ _ 7 5 x1, orp _ _ 15 5 x2]
      all_goals omega
    · simp only [c2, ↓reduceIte] at k1 k2 k3 k4 ⊢
      rw [b8] at k1 k2 k3 k4
      rw [k4 (by decide), fm8]
      simp only [scatP, sc_z, Nat.zero_mul, Nat.or_zero, or_left]
      rw [orp _ _ 7 5 x1, orp _ _ 15 5 x2, orp _ _ 20 5 x3]
      all_goals omega
  case inr.inr.inr.inr.inr.inr.inr.inr.inl =>
    rw [b9] at k1 k2 k3 k4
    rw [k3 (by decide), fm9]
    simp only [scatP, sc_z, Nat.zero_mul, Nat.or_zero, or_left]
    rw [orp _ _ 7 5 x1, orp _ _ 15 5 x2, orp _ _ 20 12 x4]
    all_goals omega
  case inr.inr.inr.inr.inr.inr.inr.inr.inr.inl =>
    rw [b10] at k1 k2 k3 k4
    rw [k2 (by decide), k3 (by decide), fm10]
    simp only [scatP, sc_z, sc_fld, Nat.zero_mul, Nat.zero_or, Nat.or_zero, or_left]
    have e := fld_le v 0 5
    generalize fld v 0 5 = s at e ⊢
    rw [orp _ _ 7 5 x1, orp _ _ 20 12 x4, orp _ _ 15 5 e]
    all_goals omega
  case inr.inr.inr.inr.inr.inr.inr.inr.inr.inr.inl =>
    rw [b11] at k1 k2 k3 k4
    rw [k1 (by decide), k2 (by decide), k3 (by decide), k4 (by decide), fm11]
    simp only [scatP, sc_z, Nat.zero_mul, Nat.or_zero]
  case inr.inr.inr.inr.inr.inr.inr.inr.inr.inr.inr =>
    rw [b12] at k1 k2 k3 k4
    rw [k1 (by decide), k2 (by decide), k3 (by decide), k4 (by decide), fm12]
    simp only [scatP, sc_z, Nat.zero_mul, Nat.or_zero]
end De
end Go.Proofs.YtbgcgomefdblpaaDoor
