/-
  What the program reads a word as is what the document's row reads it as. Plain facts.
-/
import Derived.Test.YtbgcgomefdblpaaDoorDqMath
import Derived.Laws.BitsLemmas
namespace Go.Proofs.YtbgcgomefdblpaaDoor
namespace De
set_option maxHeartbeats 6400000
set_option maxRecDepth 100000

theorem sx32 {x : Nat} (h : x < 4294967296) : IntKind.i32.wrap ((x * 2 ^ 0 % 4294967296 : Nat) : Int) / 2 ^ 0 = sgn x 32 := by
  rw [IntKind.wrap_i32]; unfold sgn; simp only [Nat.pow_zero, Nat.mul_one, Int.pow_zero, Int.ediv_one]; split <;> omega
theorem sx21 {x : Nat} (h : x < 2097152) : IntKind.i32.wrap ((x * 2 ^ 11 % 4294967296 : Nat) : Int) / 2 ^ 11 = sgn x 21 := by
  rw [IntKind.wrap_i32]; unfold sgn; split <;> omega
theorem sx12 {x : Nat} (h : x < 4096) : IntKind.i32.wrap ((x * 2 ^ 20 % 4294967296 : Nat) : Int) / 2 ^ 20 = sgn x 12 := by
  rw [IntKind.wrap_i32]; unfold sgn; split <;> omega
theorem sx13 {x : Nat} (h : x < 8192) : IntKind.i32.wrap ((x * 2 ^ 19 % 4294967296 : Nat) : Int) / 2 ^ 19 = sgn x 13 := by
  rw [IntKind.wrap_i32]; unfold sgn; split <;> omega
theorem sx5 {x : Nat} (h : x < 32) : IntKind.i32.wrap ((x * 2 ^ 0 % 4294967296 : Nat) : Int) / 2 ^ 0 = ((x : Nat) : Int) := by
  rw [IntKind.wrap_i32]; simp only [Nat.pow_zero, Nat.mul_one, Int.pow_zero, Int.ediv_one]; omega
theorem pc_z (w : Nat) : pcP w pz = 0 := by simp [pcP, pz, Nat.mod_one]
theorem sc_z (w : Nat) : scP w pz = 0 := by simp [scP, pz, Nat.mod_one]
theorem fld_le (w lo n : Nat) : fld w lo n < 2 ^ n := Nat.mod_lt _ (Nat.two_pow_pos n)
theorem or4 (a b c d : Nat) (ka kb kc kd ma mb mc md : Nat) (ha : a < 2 ^ ma) (hb : b < 2 ^ mb) (hc : c < 2 ^ mc) (hd : d < 2 ^ md)
    (h1 : a * 2 ^ ka / 2 ^ kb % 2 ^ mb = 0) (h2 : (a * 2 ^ ka + b * 2 ^ kb) / 2 ^ kc % 2 ^ mc = 0) (h3 : (a * 2 ^ ka + b * 2 ^ kb + c * 2 ^ kc) / 2 ^ kd % 2 ^ md = 0) :
    (((0 ||| a * 2 ^ ka) ||| b * 2 ^ kb) ||| c * 2 ^ kc) ||| d * 2 ^ kd = a * 2 ^ ka + b * 2 ^ kb + c * 2 ^ kc + d * 2 ^ kd := by
  have _ := ha
  rw [Nat.zero_or, or_mid _ b kb mb h1 hb, or_mid _ c kc mc h2 hc, or_mid _ d kd md h3 hd]
theorem or2 (a b : Nat) (ka kb ma mb : Nat) (ha : a < 2 ^ ma) (hb : b < 2 ^ mb) (h1 : a * 2 ^ ka / 2 ^ kb % 2 ^ mb = 0) : (((0 ||| a * 2 ^ ka) ||| b * 2 ^ kb) ||| 0) ||| 0 = a * 2 ^ ka + b * 2 ^ kb := by
  have _ := ha
  rw [Nat.zero_or, or_mid _ b kb mb h1 hb, Nat.or_zero, Nat.or_zero]
theorem or1 (a : Nat) : (((0 ||| a) ||| 0) ||| 0) ||| 0 = a := by simp
theorem fm0 : fmQ 0 = ⟨127, 1, 0, ⟨12, 12, 20⟩, pz, pz, pz⟩ := rfl
theorem fm1 : fmQ 1 = ⟨127, 1, 11, ⟨31, 20, 1⟩, ⟨21, 1, 10⟩, ⟨20, 11, 1⟩, ⟨12, 12, 8⟩⟩ := rfl
theorem fm2 : fmQ 2 = ⟨28799, 3, 20, ⟨20, 0, 12⟩, pz, pz, pz⟩ := rfl
theorem fm3 : fmQ 3 = ⟨4261441663, 3, 0, ⟨20, 0, 5⟩, pz, pz, pz⟩ := rfl
theorem fm4 : fmQ 4 = ⟨28799, 6, 20, ⟨25, 5, 7⟩, ⟨7, 0, 5⟩, pz, pz⟩ := rfl
theorem fm5 : fmQ 5 = ⟨28799, 6, 19, ⟨31, 12, 1⟩, ⟨25, 5, 6⟩, ⟨8, 1, 4⟩, ⟨7, 11, 1⟩⟩ := rfl
theorem fm6 : fmQ 6 = ⟨4261441663, 7, 0, pz, pz, pz, pz⟩ := rfl
theorem fm7 : fmQ 7 = ⟨4193284223, 3, 0, pz, pz, pz, pz⟩ := rfl
theorem fm8 : fmQ 8 = ⟨4160778367, 7, 0, pz, pz, pz, pz⟩ := rfl
theorem fm9 : fmQ 9 = ⟨28799, 11, 0, pz, pz, pz, pz⟩ := rfl
theorem fm10 : fmQ 10 = ⟨28799, 9, 0, ⟨15, 0, 5⟩, pz, pz, pz⟩ := rfl
theorem fm11 : fmQ 11 = ⟨28799, 0, 0, pz, pz, pz, pz⟩ := rfl
theorem fm12 : fmQ 12 = ⟨4294967295, 0, 0, pz, pz, pz, pz⟩ := rfl
theorem or_U (w : Nat) : orP (fmQ 0) w = 4096 * fld w 12 20 := by
  rw [fm0]; simp only [orP, pc_z, or1]; show fld w 12 20 * 2 ^ 12 = _; omega
theorem or_J (w : Nat) : orP (fmQ 1) w = immJ w := by
  have h1 := fld_le w 31 1
  have h2 := fld_le w 21 10
  have h3 := fld_le w 20 1
  have h4 := fld_le w 12 8
  rw [fm1]
  show (((0 ||| fld w 31 1 * 2 ^ 20) ||| fld w 21 10 * 2 ^ 1) ||| fld w 20 1 * 2 ^ 11) ||| fld w 12 8 * 2 ^ 12 = _
  rw [or4 _ _ _ _ 20 1 11 12 1 10 1 8 h1 h2 h3 h4 (by omega) (by omega) (by omega)]
  unfold immJ; omega
theorem or_I (w : Nat) : orP (fmQ 2) w = fld w 20 12 := by
  rw [fm2]; simp only [orP, pc_z, or1]; show fld w 20 12 * 2 ^ 0 = _; omega
theorem or_H (w : Nat) : orP (fmQ 3) w = fld w 20 5 := by
  rw [fm3]; simp only [orP, pc_z, or1]; show fld w 20 5 * 2 ^ 0 = _; omega
theorem or_S (w : Nat) : orP (fmQ 4) w = immS w := by
  have h1 := fld_le w 25 7
  have h2 := fld_le w 7 5
  rw [fm4]
  simp only [orP, pc_z]
  show (((0 ||| fld w 25 7 * 2 ^ 5) ||| fld w 7 5 * 2 ^ 0) ||| 0) ||| 0 = _
  rw [or2 _ _ 5 0 7 5 h1 h2 (by omega)]
  unfold immS; omega
theorem or_B (w : Nat) : orP (fmQ 5) w = immB w := by
  have h1 := fld_le w 31 1
  have h2 := fld_le w 25 6
  have h3 := fld_le w 8 4
  have h4 := fld_le w 7 1
  rw [fm5]
  show (((0 ||| fld w 31 1 * 2 ^ 12) ||| fld w 25 6 * 2 ^ 5) ||| fld w 8 4 * 2 ^ 1) ||| fld w 7 1 * 2 ^ 11 = _
  rw [or4 _ _ _ _ 12 5 1 11 1 6 4 1 h1 h2 h3 h4 (by omega) (by omega) (by omega)]
  unfold immB; omega
theorem or_D (w : Nat) : orP (fmQ 10) w = fld w 15 5 := by
  rw [fm10]; simp only [orP, pc_z, or1]; show fld w 15 5 * 2 ^ 0 = _; omega
theorem or_no {f : Fm} (h0 : f.p0 = pz) (h1 : f.p1 = pz) (h2 : f.p2 = pz) (h3 : f.p3 = pz) (w : Nat) : orP f w = 0 := by
  simp [orP, h0, h1, h2, h3, pc_z]
theorem num_no {f : Fm} (h0 : f.p0 = pz) (h1 : f.p1 = pz) (h2 : f.p2 = pz) (h3 : f.p3 = pz) (hs : f.spare = 0) (w : Nat) : numP f w = 0 := by
  unfold numP; rw [or_no h0 h1 h2 h3, hs]; decide
theorem num_U (w : Nat) : numP (fmQ 0) w = sgn (4096 * fld w 12 20) 32 := by
  unfold numP; rw [or_U]; exact sx32 (by have := fld_le w 12 20; omega)
theorem num_J (w : Nat) : numP (fmQ 1) w = sgn (immJ w) 21 := by
  unfold numP; rw [or_J]; exact sx21 (by unfold immJ; have := fld_le w 31 1; have := fld_le w 12 8; have := fld_le w 20 1; have := fld_le w 21 10; omega)
theorem num_I (w : Nat) : numP (fmQ 2) w = sgn (fld w 20 12) 12 := by
  unfold numP; rw [or_I]; exact sx12 (fld_le w 20 12)
theorem num_H (w : Nat) : numP (fmQ 3) w = ((fld w 20 5 : Nat) : Int) := by
  unfold numP; rw [or_H]; exact sx5 (fld_le w 20 5)
theorem num_S (w : Nat) : numP (fmQ 4) w = sgn (immS w) 12 := by
  unfold numP; rw [or_S]; exact sx12 (by unfold immS; have := fld_le w 25 7; have := fld_le w 7 5; omega)
theorem num_B (w : Nat) : numP (fmQ 5) w = sgn (immB w) 13 := by
  unfold numP; rw [or_B]; exact sx13 (by unfold immB; have := fld_le w 31 1; have := fld_le w 7 1; have := fld_le w 25 6; have := fld_le w 8 4; omega)
theorem num_D (w : Nat) : numP (fmQ 10) w = ((fld w 15 5 : Nat) : Int) := by
  unfold numP; rw [or_D]; exact sx5 (fld_le w 15 5)
theorem num_6 (w : Nat) : numP (fmQ 6) w = 0 := num_no rfl rfl rfl rfl rfl w
theorem num_7 (w : Nat) : numP (fmQ 7) w = 0 := num_no rfl rfl rfl rfl rfl w
theorem num_8 (w : Nat) : numP (fmQ 8) w = 0 := num_no rfl rfl rfl rfl rfl w
theorem num_9 (w : Nat) : numP (fmQ 9) w = 0 := num_no rfl rfl rfl rfl rfl w
theorem num_11 (w : Nat) : numP (fmQ 11) w = 0 := num_no rfl rfl rfl rfl rfl w
theorem num_12 (w : Nat) : numP (fmQ 12) w = 0 := num_no rfl rfl rfl rfl rfl w
theorem has_of : (fmQ 0).has = 1 ∧ (fmQ 1).has = 1 ∧ (fmQ 2).has = 3 ∧ (fmQ 3).has = 3 ∧ (fmQ 4).has = 6 ∧ (fmQ 5).has = 6 ∧ (fmQ 6).has = 7 ∧ (fmQ 7).has = 3 ∧ (fmQ 8).has = 7 ∧ (fmQ 9).has = 11 ∧ (fmQ 10).has = 9 ∧ (fmQ 11).has = 0 ∧ (fmQ 12).has = 0 := by decide
/-- What the row reads, by the program's form. -/
theorem read_form {r : Row} {w : Nat} (hg : good r = true) (hw : w < 4294967296) (h : fitsP r w = true) : readP r w = { fieldsP (fmQ (formOf r)) w with op := r.op } := by
  have hf : r.fm = 85 ∨ r.fm = 74 ∨ r.fm = 73 ∨ r.fm = 72 ∨ r.fm = 83 ∨ r.fm = 66 ∨ r.fm = 82 ∨ r.fm = 65 ∨ r.fm = 67 ∨ r.fm = 68 ∨ r.fm = 70 ∨ r.fm = 88 := by
    unfold good at hg
    simp only [Bool.and_eq_true, decide_eq_true_eq] at hg
    exact hg.2
  have hc : fld w 20 12 = w / 1048576 := by unfold fld; omega
  have h7 : fld w 7 5 = w / 128 % 32 := rfl
  have h15 : fld w 15 5 = w / 32768 % 32 := rfl
  have h20 : fld w 20 5 = w / 1048576 % 32 := rfl
  obtain ⟨b0, b1, b2, b3, b4, b5, b6, b7, b8, b9, b10, b11, b12⟩ := has_of
  have hL : r.fm = 65 → r.op = 46 → fld w 20 5 = 0 := fun c o => by
    rcases (fits_f5 h c).2 with h | h
    · exact absurd o h
    · exact h
  unfold readP formOf fieldsP
  rcases hf with c | c | c | c | c | c | c | c | c | c | c | c
  all_goals simp only [c, Nat.reduceEqDiff, ↓reduceIte, or_self, or_true, true_or]
  case inr.inr.inr.inr.inr.inr.inr.inl =>
    by_cases o : r.op = 46
    · have := hL c o
      rw [if_pos o]
      simp only [b7, num_7, this, h7, h15]
      simp
    · rw [if_neg o]
      simp only [b8, num_8, h7, h15, h20]
      simp
  all_goals simp only [b0, b1, b2, b3, b4, b5, b6, b9, b10, b11, b12, num_U, num_J, num_I, num_H, num_S, num_B, num_D, num_6, num_9, num_11, num_12]
  all_goals simp [h7, h15, h20, hc]
end De
end Go.Proofs.YtbgcgomefdblpaaDoor
