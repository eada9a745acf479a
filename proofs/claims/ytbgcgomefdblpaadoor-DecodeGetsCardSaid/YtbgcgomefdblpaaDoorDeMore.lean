/-
  What is got is put as a word that is not above it, and means the same. Plain facts.
-/
import Derived.Test.YtbgcgomefdblpaaDoorDeMath
namespace Go.Proofs.YtbgcgomefdblpaaDoor
namespace De
set_option maxHeartbeats 3200000
set_option maxRecDepth 100000

theorem sgn12 {x : Nat} (h : x < 4096) : u32 (sgn x 12) % 4096 = x := by
  unfold u32 sgn
  simp only [show (2 : Nat) ^ (12 - 1) = 2048 from rfl, show (2 : Int) ^ (12 - 1) = 2048 from rfl]
  split <;> omega
theorem sgn13 {x : Nat} (h : x < 8192) : u32 (sgn x 13) % 8192 = x := by
  unfold u32 sgn
  simp only [show (2 : Nat) ^ (13 - 1) = 4096 from rfl, show (2 : Int) ^ (13 - 1) = 4096 from rfl]
  split <;> omega
theorem sgn21 {x : Nat} (h : x < 2097152) : u32 (sgn x 21) % 2097152 = x := by
  unfold u32 sgn
  simp only [show (2 : Nat) ^ (21 - 1) = 1048576 from rfl, show (2 : Int) ^ (21 - 1) = 1048576 from rfl]
  split <;> omega
theorem sgn32 {x : Nat} (h : x < 4294967296) : u32 (sgn x 32) = x := by
  unfold u32 sgn
  simp only [show (2 : Nat) ^ (32 - 1) = 2147483648 from rfl, show (2 : Int) ^ (32 - 1) = 2147483648 from rfl]
  split <;> omega
theorem u32_nat {x : Nat} (h : x < 4294967296) : u32 (x : Int) = x := by unfold u32; omega
theorem good_code {r : Row} (hg : good r = true) : (r.fm ≠ 88 → r.code < 128) := by
  intro c
  unfold good at hg
  simp only [Bool.and_eq_true, decide_eq_true_eq] at hg
  have := hg.1.1.1.2
  rw [if_neg c] at this
  exact of_decide_eq_true this
theorem step (w a b c : Nat) (h : a * b = c) : w / a = b * (w / c) + w / a % b := by
  rw [← h, ← Nat.div_div_eq_div_mul]
  exact (Nat.div_add_mod _ _).symm
theorem parts_J (w : Nat) (hw : w < 4294967296) : w = w % 128 + 128 * fld w 7 5 + 4096 * fld w 12 8 + 1048576 * fld w 20 1 + 2097152 * fld w 21 10 + 2147483648 * fld w 31 1 := by
  have s0 := step w 1 128 128 rfl
  have s1 := step w 128 32 4096 rfl
  have s2 := step w 4096 256 1048576 rfl
  have s3 := step w 1048576 2 2097152 rfl
  have s4 := step w 2097152 1024 2147483648 rfl
  have s5 := step w 2147483648 2 4294967296 rfl
  have s6 : w / 4294967296 = 0 := by omega
  rw [Nat.div_one] at s0
  simp only [fld, Nat.reducePow]
  rw [s6] at s5
  generalize w / 128 % 32 = x1 at *
  generalize w / 4096 % 256 = x2 at *
  generalize w / 1048576 % 2 = x3 at *
  generalize w / 2097152 % 1024 = x4 at *
  generalize w / 2147483648 % 2 = x5 at *
  generalize w % 128 = x0 at *
  generalize w / 128 = y1 at *
  generalize w / 4096 = y2 at *
  generalize w / 1048576 = y3 at *
  generalize w / 2097152 = y4 at *
  generalize w / 2147483648 = y5 at *
  clear s6
  omega
theorem parts_R (w : Nat) (hw : w < 4294967296) : w = w % 128 + 128 * fld w 7 5 + 4096 * fld w 12 3 + 32768 * fld w 15 5 + 1048576 * fld w 20 5 + 33554432 * fld w 25 7 := by
  have s0 := step w 1 128 128 rfl
  have s1 := step w 128 32 4096 rfl
  have s2 := step w 4096 8 32768 rfl
  have s3 := step w 32768 32 1048576 rfl
  have s4 := step w 1048576 32 33554432 rfl
  have s5 := step w 33554432 128 4294967296 rfl
  have s6 : w / 4294967296 = 0 := by omega
  rw [Nat.div_one] at s0
  simp only [fld, Nat.reducePow]
  rw [s6] at s5
  generalize w / 128 % 32 = x1 at *
  generalize w / 4096 % 8 = x2 at *
  generalize w / 32768 % 32 = x3 at *
  generalize w / 1048576 % 32 = x4 at *
  generalize w / 33554432 % 128 = x5 at *
  generalize w % 128 = x0 at *
  generalize w / 128 = y1 at *
  generalize w / 4096 = y2 at *
  generalize w / 32768 = y3 at *
  generalize w / 1048576 = y4 at *
  generalize w / 33554432 = y5 at *
  clear s6
  omega
theorem parts_B (w : Nat) : fld w 7 5 = fld w 7 1 + 2 * fld w 8 4 ∧ fld w 25 7 = fld w 25 6 + 64 * fld w 31 1 := by
  simp only [fld, Nat.reducePow]
  constructor
  · have h := step w 128 2 256 rfl
    generalize w / 256 = y at *
    omega
  · have h := step w 33554432 64 2147483648 rfl
    generalize w / 2147483648 = y at *
    omega
theorem vJ {v s c b e : Nat} (q : v % 2097152 = 1048576 * s + 4096 * c + 2048 * b + 2 * e) (_hs : s < 2) (hc : c < 256) (hb : b < 2) (he : e < 1024) : fld v 20 1 = s ∧ fld v 12 8 = c ∧ fld v 11 1 = b ∧ fld v 1 10 = e := by
  simp only [fld, Nat.reducePow]
  refine ⟨?_, ?_, ?_, ?_⟩ <;> omega
theorem vS {v s c : Nat} (q : v % 4096 = 32 * s + c) (_hs : s < 128) (hc : c < 32) : fld v 5 7 = s ∧ fld v 0 5 = c := by
  simp only [fld, Nat.reducePow]
  refine ⟨?_, ?_⟩ <;> omega
theorem vB {v s c b e : Nat} (q : v % 8192 = 4096 * s + 2048 * b + 32 * c + 2 * e) (_hs : s < 2) (hc : c < 64) (hb : b < 2) (he : e < 16) : fld v 12 1 = s ∧ fld v 5 6 = c ∧ fld v 11 1 = b ∧ fld v 1 4 = e := by
  simp only [fld, Nat.reducePow]
  refine ⟨?_, ?_, ?_, ?_⟩ <;> omega
/-- All but the forms A, F: the least word is the word. -/
theorem least_same {r : Row} {w : Nat} (hg : good r = true) (hw : w < 4294967296) (h : fitsP r w = true) (n1 : r.fm ≠ 65) (n2 : r.fm ≠ 70) : leastP r (readP r w) = w := by
  have h1 := fits_code hg h
  have hc := good_code hg
  have h7 : r.fm = 72 ∨ r.fm = 82 → fld w 25 7 = r.f7 := fits_f7 h
  have hm : r.fm = 85 ∨ r.fm = 74 ∨ r.fm = 73 ∨ r.fm = 72 ∨ r.fm = 83 ∨ r.fm = 66 ∨ r.fm = 82 ∨ r.fm = 65 ∨ r.fm = 67 ∨ r.fm = 68 ∨ r.fm = 70 ∨ r.fm = 88 := by
    unfold good at hg
    simp only [Bool.and_eq_true, decide_eq_true_eq] at hg
    exact hg.2
  have hz : r.fm = 85 ∨ r.fm = 74 → r.f3 = 0 := by
    unfold good at hg
    simp only [Bool.and_eq_true, decide_eq_true_eq] at hg
    exact hg.1.2
  obtain ⟨op, fm, code, f3, f7⟩ := r
  simp only [] at n1 n2 h1 hc h7 hm hz
  obtain ⟨h1, h3⟩ := h1
  rcases hm with c | c | c | c | c | c | c | c | c | c | c | c <;> subst c
  · have q := sgn32 (x := 4096 * fld w 12 20) (by have := fld_lt w 12 20; omega)
    have hc := hc (by decide)
    have hz := hz (by decide)
    simp [leastP, readP, q]
    simp only [fld, Nat.reducePow] at *
    omega
  · have q := sgn21 (x := immJ w) (by unfold immJ; have := fld_lt w 31 1; have := fld_lt w 12 8; have := fld_lt w 20 1; have := fld_lt w 21 10; omega)
    have hc := hc (by decide)
    have hz := hz (by decide)
    obtain ⟨e1, e2, e3, e4⟩ := vJ (v := u32 (sgn (immJ w) 21)) (by rw [q]; rfl) (fld_lt w 31 1) (fld_lt w 12 8) (fld_lt w 20 1) (fld_lt w 21 10)
    have hp := parts_J w hw
    simp [leastP, readP, e1, e2, e3, e4, hz]
    omega
  · have q := sgn12 (x := fld w 20 12) (fld_lt w 20 12)
    have hc := hc (by decide)
    have h3 := h3 (by decide) (by decide)
    simp [leastP, readP]
    simp only [fld, Nat.reducePow] at *
    generalize u32 _ = v at q ⊢
    omega
  · have q := u32_nat (x := fld w 20 5) (by have := fld_lt w 20 5; omega)
    have hc := hc (by decide)
    have h3 := h3 (by decide) (by decide)
    have h7 := h7 (by decide)
    simp [leastP, readP, q]
    simp only [fld, Nat.reducePow] at *
    omega
  · have q := sgn12 (x := immS w) (by unfold immS; have := fld_lt w 25 7; have := fld_lt w 7 5; omega)
    have hc := hc (by decide)
    have h3 := h3 (by decide) (by decide)
    obtain ⟨e1, e2⟩ := vS (v := u32 (sgn (immS w) 12)) (by rw [q]; rfl) (fld_lt w 25 7) (fld_lt w 7 5)
    have hp := parts_R w hw
    simp [leastP, readP, e1, e2]
    omega
  · have q := sgn13 (x := immB w) (by unfold immB; have := fld_lt w 31 1; have := fld_lt w 7 1; have := fld_lt w 25 6; have := fld_lt w 8 4; omega)
    have hc := hc (by decide)
    have h3 := h3 (by decide) (by decide)
    obtain ⟨e1, e2, e3, e4⟩ := vB (v := u32 (sgn (immB w) 13)) (by rw [q]; rfl) (fld_lt w 31 1) (fld_lt w 25 6) (fld_lt w 7 1) (fld_lt w 8 4)
    have hp := parts_R w hw
    have hq := parts_B w
    simp [leastP, readP, e1, e2, e3, e4]
    omega
  · have hc := hc (by decide)
    have h3 := h3 (by decide) (by decide)
    have h7 := h7 (by decide)
    simp [leastP, readP]
    simp only [fld, Nat.reducePow] at *
    omega
  · exact absurd rfl n1
  · have hc := hc (by decide)
    have h3 := h3 (by decide) (by decide)
    simp [leastP, readP]
    simp only [fld, Nat.reducePow] at *
    omega
  · have q := u32_nat (x := fld w 15 5) (by have := fld_lt w 15 5; omega)
    have hc := hc (by decide)
    have h3 := h3 (by decide) (by decide)
    simp [leastP, readP, q]
    simp only [fld, Nat.reducePow] at *
    omega
  · exact absurd rfl n2
  · simp [leastP]
    unfold fitsP at h
    have h : w = code := by simpa using h
    exact h.symm
theorem least_A {r : Row} {w : Nat} (hg : good r = true) (hw : w < 4294967296) (h : fitsP r w = true) (c : r.fm = 65) : fitsP r (leastP r (readP r w)) = true ∧ readP r (leastP r (readP r w)) = readP r w ∧ leastP r (readP r w) ≤ w := by
  have h1 := fits_code hg h
  have hc := good_code hg
  have h7 := fits_f5 h c
  have hb : r.f3 < 8 := by
    unfold good at hg
    simp only [Bool.and_eq_true, decide_eq_true_eq] at hg
    exact hg.1.1.1.1.1.1.1
  obtain ⟨op, fm, code, f3, f7⟩ := r
  simp only [] at c h1 hc h7 hb
  subst c
  obtain ⟨h1, h3⟩ := h1
  have hc := hc (by decide)
  have h3 := h3 (by decide) (by decide)
  obtain ⟨v, hv⟩ : ∃ v, v = leastP ⟨op, 65, code, f3, f7⟩ (readP ⟨op, 65, code, f3, f7⟩ w) := ⟨_, rfl⟩
  rw [← hv]
  simp [leastP, readP] at hv
  have e1 : fld v 0 7 = code := by simp only [fld, Nat.reducePow] at *; omega
  have e2 : fld v 12 3 = f3 := by simp only [fld, Nat.reducePow] at *; omega
  have e3 : fld v 7 5 = fld w 7 5 := by simp only [fld, Nat.reducePow] at *; omega
  have e4 : fld v 15 5 = fld w 15 5 := by simp only [fld, Nat.reducePow] at *; omega
  have e5 : fld v 20 5 = fld w 20 5 := by simp only [fld, Nat.reducePow] at *; omega
  have e6 : fld v 27 5 = f7 := by simp only [fld, Nat.reducePow] at *; omega
  refine ⟨?_, ?_, ?_⟩
  · unfold fitsP
    simp [e1, e2, e6, e5]
    omega
  · simp [readP, e3, e4, e5]
  · simp only [fld, Nat.reducePow] at *; omega
theorem least_F {r : Row} {w : Nat} (hg : good r = true) (hw : w < 4294967296) (h : fitsP r w = true) (c : r.fm = 70) : fitsP r (leastP r (readP r w)) = true ∧ readP r (leastP r (readP r w)) = readP r w ∧ leastP r (readP r w) ≤ w := by
  have h1 := fits_code hg h
  have hc := good_code hg
  have hb : r.f3 < 8 := by
    unfold good at hg
    simp only [Bool.and_eq_true, decide_eq_true_eq] at hg
    exact hg.1.1.1.1.1.1.1
  obtain ⟨op, fm, code, f3, f7⟩ := r
  simp only [] at c h1 hc hb
  subst c
  obtain ⟨h1, h3⟩ := h1
  have hc := hc (by decide)
  have h3 := h3 (by decide) (by decide)
  obtain ⟨v, hv⟩ : ∃ v, v = leastP ⟨op, 70, code, f3, f7⟩ (readP ⟨op, 70, code, f3, f7⟩ w) := ⟨_, rfl⟩
  rw [← hv]
  simp [leastP] at hv
  have e1 : fld v 0 7 = code := by simp only [fld, Nat.reducePow] at *; omega
  have e2 : fld v 12 3 = f3 := by simp only [fld, Nat.reducePow] at *; omega
  refine ⟨?_, ?_, ?_⟩
  · unfold fitsP
    simp [e1, e2]
  · simp [readP]
  · simp only [fld, Nat.reducePow] at *; omega
/-- What is got is put as a word that is not above it, and means the same. -/
theorem put_least {w : Nat} {i : Ins} (hw : w < 4294967296) (h : getP w = some i) : ∃ v, putP i = some v ∧ v ≤ w ∧ getP v = some i ∧ 1 ≤ i.op ∧ i.op ≤ 68 := by
  obtain ⟨r, hr, hf, rfl⟩ := fits_get h
  have hg := rows_good r hr
  have hop : 1 ≤ r.op ∧ r.op ≤ 68 := by
    have hg := hg
    unfold good at hg
    simp only [Bool.and_eq_true, decide_eq_true_eq] at hg
    exact hg.1.1.1.1.2
  have key : fitsP r (leastP r (readP r w)) = true ∧ readP r (leastP r (readP r w)) = readP r w ∧ leastP r (readP r w) ≤ w := by
    by_cases c : r.fm = 65
    · exact least_A hg hw hf c
    by_cases c2 : r.fm = 70
    · exact least_F hg hw hf c2
    rw [least_same hg hw hf c c2]
    exact ⟨hf, rfl, Nat.le_refl _⟩
  obtain ⟨k1, k2, k3⟩ := key
  have hgv := get_fits hr k1
  rw [k2] at hgv
  refine ⟨leastP r (readP r w), ?_, k3, hgv, by rw [read_op]; exact hop.1, by rw [read_op]; exact hop.2⟩
  rw [put_row hr read_op.symm]
  unfold putOne
  rw [if_pos ⟨read_op.symm, read_bounds, hgv⟩]
end De
end Go.Proofs.YtbgcgomefdblpaaDoor
