/-
  Instructions of four bytes as plain data: their rows, and what a word means. Plain facts.
-/
import Derived.Test.YtbgcgomefdblpaaDoorProg
namespace Go.Proofs.YtbgcgomefdblpaaDoor
namespace De
set_option maxHeartbeats 1600000
set_option maxRecDepth 100000

/-- A row: its Op, form (a letter's number), opcode, funct3, funct7. -/
structure Row where
  op : Nat
  fm : Nat
  code : Nat
  f3 : Nat
  f7 : Nat
  deriving DecidableEq, Repr
/-- An instruction. -/
structure Ins where
  op : Nat
  rd : Nat
  a : Nat
  b : Nat
  imm : Int
  csr : Nat
  deriving DecidableEq, Repr
def runP (op fm code : Nat) (f3 f7 : List Nat) : List Row := (List.range f3.length).map fun i => ⟨op + i, fm, code, f3.getD i 0, f7.getD i 0⟩
def headP : List Row := [⟨1, 85, 55, 0, 0⟩, ⟨2, 85, 23, 0, 0⟩, ⟨3, 74, 111, 0, 0⟩, ⟨4, 73, 103, 0, 0⟩]
def tailP : List Row := [⟨65, 88, 115, 0, 0⟩, ⟨66, 88, 1048691, 0, 0⟩, ⟨67, 88, 807403635, 0, 0⟩, ⟨68, 88, 273678451, 0, 0⟩]
def rowsP : List Row := headP ++ runP 5 73 3 [0, 1, 2, 4, 5] [0, 0, 0, 0, 0] ++ runP 10 73 19 [0, 2, 3, 4, 6, 7] [0, 0, 0, 0, 0, 0] ++ runP 16 72 19 [1, 5, 5] [0, 0, 32] ++ runP 19 83 35 [0, 1, 2] [0, 0, 0] ++ runP 22 66 99 [0, 1, 4, 5, 6, 7] [0, 0, 0, 0, 0, 0] ++
  runP 28 82 51 [0, 0, 1, 2, 3, 4, 5, 5, 6, 7] [0, 32, 0, 0, 0, 0, 0, 32, 0, 0] ++ runP 38 82 51 [0, 1, 2, 3, 4, 5, 6, 7] [1, 1, 1, 1, 1, 1, 1, 1] ++ runP 46 65 47 [2, 2, 2, 2, 2, 2, 2, 2, 2, 2, 2] [2, 3, 1, 0, 4, 12, 8, 16, 20, 24, 28] ++ runP 57 67 115 [1, 2, 3] [0, 0, 0] ++ runP 60 68 115 [5, 6, 7] [0, 0, 0] ++ runP 63 70 15 [0, 1] [0, 0] ++ tailP
/-- So many bits of a word, from a lowest one on. -/
def fld (w lo n : Nat) : Nat := w / 2 ^ lo % 2 ^ n
/-- A number of so many bits, with its sign. -/
def sgn (v n : Nat) : Int := if v ≥ 2 ^ (n - 1) then (v : Int) - 2 * 2 ^ (n - 1) else v
def u32 (z : Int) : Nat := (z % 4294967296).toNat
def fitsP (r : Row) (w : Nat) : Bool :=
  if r.fm = 88 then decide (w = r.code) else
  if fld w 0 7 ≠ r.code then false else
  if r.fm = 85 ∨ r.fm = 74 then true else
  if r.fm = 72 ∨ r.fm = 82 then decide (fld w 12 3 = r.f3 ∧ fld w 25 7 = r.f7) else
  if r.fm = 65 then decide (fld w 12 3 = r.f3 ∧ fld w 27 5 = r.f7 ∧ (r.op ≠ 46 ∨ fld w 20 5 = 0)) else
  decide (fld w 12 3 = r.f3)
def immJ (w : Nat) : Nat := 1048576 * fld w 31 1 + 4096 * fld w 12 8 + 2048 * fld w 20 1 + 2 * fld w 21 10
def immS (w : Nat) : Nat := 32 * fld w 25 7 + fld w 7 5
def immB (w : Nat) : Nat := 4096 * fld w 31 1 + 2048 * fld w 7 1 + 32 * fld w 25 6 + 2 * fld w 8 4
def readP (r : Row) (w : Nat) : Ins :=
  let d := fld w 7 5; let a := fld w 15 5; let b := fld w 20 5
  if r.fm = 85 then ⟨r.op, d, 0, 0, sgn (4096 * fld w 12 20) 32, 0⟩ else
  if r.fm = 74 then ⟨r.op, d, 0, 0, sgn (immJ w) 21, 0⟩ else
  if r.fm = 73 then ⟨r.op, d, a, 0, sgn (fld w 20 12) 12, 0⟩ else
  if r.fm = 72 then ⟨r.op, d, a, 0, (b : Int), 0⟩ else
  if r.fm = 83 then ⟨r.op, 0, a, b, sgn (immS w) 12, 0⟩ else
  if r.fm = 66 then ⟨r.op, 0, a, b, sgn (immB w) 13, 0⟩ else
  if r.fm = 82 ∨ r.fm = 65 then ⟨r.op, d, a, b, 0, 0⟩ else
  if r.fm = 67 then ⟨r.op, d, a, 0, 0, fld w 20 12⟩ else
  if r.fm = 68 then ⟨r.op, d, 0, 0, (a : Int), fld w 20 12⟩ else
  ⟨r.op, 0, 0, 0, 0, 0⟩
def getP (w : Nat) : Option Ins := (rowsP.find? (fitsP · w)).map (readP · w)
def leastP (r : Row) (i : Ins) : Nat :=
  let v := u32 i.imm; let w := r.code + 4096 * r.f3; let d := 128 * i.rd; let a := 32768 * i.a; let b := 1048576 * i.b
  if r.fm = 88 then r.code else
  if r.fm = 85 then w + d + 4096 * fld v 12 20 else
  if r.fm = 74 then w + d + 2147483648 * fld v 20 1 + 2097152 * fld v 1 10 + 1048576 * fld v 11 1 + 4096 * fld v 12 8 else
  if r.fm = 73 then w + d + a + 1048576 * fld v 0 12 else
  if r.fm = 72 then w + d + a + 1048576 * fld v 0 5 + 33554432 * r.f7 else
  if r.fm = 83 then w + a + b + 33554432 * fld v 5 7 + 128 * fld v 0 5 else
  if r.fm = 66 then w + a + b + 2147483648 * fld v 12 1 + 33554432 * fld v 5 6 + 256 * fld v 1 4 + 128 * fld v 11 1 else
  if r.fm = 82 then w + d + a + b + 33554432 * r.f7 else
  if r.fm = 65 then w + d + a + b + 134217728 * r.f7 else
  if r.fm = 67 then w + d + a + 1048576 * i.csr else
  if r.fm = 68 then w + d + 32768 * fld v 0 5 + 1048576 * i.csr else w
def boundsP (i : Ins) : Bool := decide (i.rd ≤ 31 ∧ i.a ≤ 31 ∧ i.b ≤ 31 ∧ i.csr ≤ 4095)
def putOne (r : Row) (i : Ins) : Option Nat := if r.op = i.op ∧ boundsP i = true ∧ getP (leastP r i) = some i then some (leastP r i) else none
def putP (i : Ins) : Option Nat := rowsP.findSome? (putOne · i)

/-- No word is two rows'. -/
def apart (r s : Row) : Bool :=
  decide (r = s) || decide (r.code % 128 ≠ s.code % 128) || (decide (r.fm ≠ 85 ∧ r.fm ≠ 74 ∧ s.fm ≠ 85 ∧ s.fm ≠ 74) && decide (r.f3 ≠ s.f3)) ||
  (decide ((r.fm = 72 ∨ r.fm = 82) ∧ (s.fm = 72 ∨ s.fm = 82)) && decide (r.f7 ≠ s.f7)) || (decide (r.fm = 65 ∧ s.fm = 65) && decide (r.f7 ≠ s.f7)) || (decide (r.fm = 88 ∧ s.fm = 88) && decide (r.code ≠ s.code))
/-- What holds of each row. -/
def good (r : Row) : Bool :=
  decide (r.f3 < 8) && decide (r.f7 < 128) && decide (r.code % 4 = 3) && decide (1 ≤ r.op ∧ r.op ≤ 68) &&
  (if r.fm = 88 then decide (r.code < 4294967296 ∧ r.code / 4096 % 8 = 0 ∧ r.f3 = 0) else decide (r.code < 128)) && decide (r.fm = 65 → r.f7 < 32) && decide (r.fm = 85 ∨ r.fm = 74 → r.f3 = 0) &&
  decide (r.fm = 85 ∨ r.fm = 74 ∨ r.fm = 73 ∨ r.fm = 72 ∨ r.fm = 83 ∨ r.fm = 66 ∨ r.fm = 82 ∨ r.fm = 65 ∨ r.fm = 67 ∨ r.fm = 68 ∨ r.fm = 70 ∨ r.fm = 88)
theorem rows_good : ∀ r ∈ rowsP, good r = true := by decide +kernel
theorem rows_apart : ∀ r ∈ rowsP, ∀ s ∈ rowsP, apart r s = true := by decide +kernel
theorem rows_len : rowsP.length = 68 := by decide +kernel
theorem rows_op : ∀ k, k < 68 → (rowsP[k]?.map Row.op) = some (k + 1) := by decide +kernel
theorem fits_code {r : Row} {w : Nat} (hg : good r = true) (h : fitsP r w = true) : w % 128 = r.code % 128 ∧ (r.fm ≠ 85 → r.fm ≠ 74 → fld w 12 3 = r.f3) := by
  unfold good at hg
  simp only [Bool.and_eq_true, decide_eq_true_eq] at hg
  obtain ⟨⟨⟨⟨⟨⟨⟨g1, g2⟩, g3⟩, g4⟩, g5⟩, g6⟩, gz⟩, g7⟩ := hg
  unfold fitsP at h
  by_cases c : r.fm = 88
  · rw [if_pos c] at h g5
    have h := of_decide_eq_true h
    have g5 := of_decide_eq_true g5
    subst h
    refine ⟨rfl, fun _ _ => ?_⟩
    unfold fld
    rw [g5.2.2]
    have := g5.2.1
    omega
  · rw [if_neg c] at h g5
    have g5 := of_decide_eq_true g5
    by_cases c1 : fld w 0 7 ≠ r.code
    · rw [if_pos c1] at h; cases h
    · rw [if_neg c1] at h
      have c1 : fld w 0 7 = r.code := by simpa using c1
      refine ⟨?_, fun n1 n2 => ?_⟩
      · unfold fld at c1; omega
      · rw [if_neg (by omega)] at h
        by_cases c2 : r.fm = 72 ∨ r.fm = 82
        · rw [if_pos c2] at h; exact (of_decide_eq_true h).1
        · rw [if_neg c2] at h
          by_cases c3 : r.fm = 65
          · rw [if_pos c3] at h; exact (of_decide_eq_true h).1
          · rw [if_neg c3] at h; exact of_decide_eq_true h
theorem fits_f7 {r : Row} {w : Nat} (h : fitsP r w = true) (c : r.fm = 72 ∨ r.fm = 82) : fld w 25 7 = r.f7 := by
  unfold fitsP at h
  rw [if_neg (by omega)] at h
  by_cases c1 : fld w 0 7 ≠ r.code
  · rw [if_pos c1] at h; cases h
  · rw [if_neg c1, if_neg (by omega), if_pos c] at h
    exact (of_decide_eq_true h).2
theorem fits_f5 {r : Row} {w : Nat} (h : fitsP r w = true) (c : r.fm = 65) : fld w 27 5 = r.f7 ∧ (r.op ≠ 46 ∨ fld w 20 5 = 0) := by
  unfold fitsP at h
  rw [if_neg (by omega)] at h
  by_cases c1 : fld w 0 7 ≠ r.code
  · rw [if_pos c1] at h; cases h
  · rw [if_neg c1, if_neg (by omega), if_neg (by omega), if_pos c] at h
    exact (of_decide_eq_true h).2
theorem fits_one {r s : Row} {w : Nat} (hr : r ∈ rowsP) (hs : s ∈ rowsP) (h : fitsP r w = true) (k : fitsP s w = true) : r = s := by
  have ha := rows_apart r hr s hs
  have h1 := fits_code (rows_good r hr) h
  have k1 := fits_code (rows_good s hs) k
  unfold apart at ha
  simp only [Bool.or_eq_true, Bool.and_eq_true, decide_eq_true_eq] at ha
  rcases ha with ((((ha | ha) | ha) | ha) | ha) | ha
  · exact ha
  · exact absurd (h1.1.symm.trans k1.1) ha
  · exact absurd ((h1.2 ha.1.1 ha.1.2.1).symm.trans (k1.2 ha.1.2.2.1 ha.1.2.2.2)) ha.2
  · exact absurd ((fits_f7 h ha.1.1).symm.trans (fits_f7 k ha.1.2)) ha.2
  · exact absurd ((fits_f5 h ha.1.1).1.symm.trans (fits_f5 k ha.1.2).1) ha.2
  · unfold fitsP at h k
    rw [if_pos ha.1.1] at h
    rw [if_pos ha.1.2] at k
    exact absurd ((of_decide_eq_true h).symm.trans (of_decide_eq_true k)) ha.2
theorem get_fits {r : Row} {w : Nat} (hr : r ∈ rowsP) (h : fitsP r w = true) : getP w = some (readP r w) := by
  unfold getP
  cases hf : rowsP.find? (fitsP · w) with
  | none =>
    rw [List.find?_eq_none] at hf
    exact absurd h (hf r hr)
  | some s =>
    have h1 : fitsP s w = true := List.find?_some (p := (fitsP · w)) hf
    have h2 := List.mem_of_find?_eq_some hf
    rw [fits_one hr h2 h h1]; rfl
theorem fits_get {w : Nat} {i : Ins} (h : getP w = some i) : ∃ r ∈ rowsP, fitsP r w = true ∧ i = readP r w := by
  unfold getP at h
  cases hf : rowsP.find? (fitsP · w) with
  | none => rw [hf] at h; cases h
  | some s =>
    rw [hf] at h
    injection h with h
    exact ⟨s, List.mem_of_find?_eq_some hf, List.find?_some (p := (fitsP · w)) hf, h.symm⟩
/-- What is put is got. -/
theorem put_back {i : Ins} {w : Nat} (h : putP i = some w) : getP w = some i ∧ w % 4 = 3 := by
  unfold putP at h
  obtain ⟨r, hr, h⟩ := List.exists_of_findSome?_eq_some h
  unfold putOne at h
  split at h
  · rename_i c
    injection h with h
    rw [h] at c
    refine ⟨c.2.2, ?_⟩
    obtain ⟨s, hs, hf, _⟩ := fits_get c.2.2
    have h1 := fits_code (rows_good s hs) hf
    have hg := rows_good s hs
    unfold good at hg
    simp only [Bool.and_eq_true, decide_eq_true_eq] at hg
    have := hg.1.1.1.1.1.2
    omega
  · cases h
theorem read_op {r : Row} {w : Nat} : (readP r w).op = r.op := by
  unfold readP
  simp only []
  repeat' split
  all_goals rfl
theorem fld_lt (w lo n : Nat) : fld w lo n < 2 ^ n := Nat.mod_lt _ (Nat.two_pow_pos n)
theorem read_bounds {r : Row} {w : Nat} : boundsP (readP r w) = true := by
  have h1 := fld_lt w 7 5
  have h2 := fld_lt w 15 5
  have h3 := fld_lt w 20 5
  have h4 := fld_lt w 20 12
  unfold boundsP
  refine decide_eq_true ?_
  unfold readP
  simp only []
  repeat' split
  all_goals (refine ⟨?_, ?_, ?_, ?_⟩ <;> simp only [] <;> omega)
theorem row_inj {r s : Row} (hr : r ∈ rowsP) (hs : s ∈ rowsP) (h : r.op = s.op) : r = s := by
  obtain ⟨i, hi⟩ := List.mem_iff_getElem?.1 hr
  obtain ⟨j, hj⟩ := List.mem_iff_getElem?.1 hs
  have li := (List.getElem?_eq_some_iff.1 hi).1
  have lj := (List.getElem?_eq_some_iff.1 hj).1
  rw [rows_len] at li lj
  have oi := rows_op i li
  have oj := rows_op j lj
  rw [hi] at oi
  rw [hj] at oj
  simp only [Option.map_some, Option.some.injEq] at oi oj
  have : i = j := by omega
  subst this
  rw [hi] at hj
  injection hj
/-- What Put answers, by the one row that may. -/
theorem put_row {r : Row} {i : Ins} (hr : r ∈ rowsP) (ho : r.op = i.op) : putP i = putOne r i := by
  unfold putP
  cases hf : rowsP.findSome? (putOne · i) with
  | none =>
    rw [List.findSome?_eq_none_iff] at hf
    exact (hf r hr).symm
  | some w =>
    obtain ⟨s, hs, h⟩ := List.exists_of_findSome?_eq_some hf
    have h2 := h
    unfold putOne at h2
    split at h2
    · rename_i c
      rw [row_inj hr hs (ho.trans c.1.symm)]
      exact h.symm
    · cases h2
theorem put_none {i : Ins} (ho : ∀ r ∈ rowsP, r.op ≠ i.op) : putP i = none := by
  unfold putP
  rw [List.findSome?_eq_none_iff]
  intro r hr
  unfold putOne
  rw [if_neg (fun c => ho r hr c.1)]
end De
end Go.Proofs.YtbgcgomefdblpaaDoor
