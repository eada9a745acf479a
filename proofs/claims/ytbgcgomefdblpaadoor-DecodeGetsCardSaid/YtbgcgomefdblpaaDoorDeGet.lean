/-
  The document's rows in memory, and what it reads of a word by each.
-/
import Derived.Test.YtbgcgomefdblpaaDoorDeRows
import Derived.Test.YtbgcgomefdblpaaDoorDeReadB
import Derived.Test.YtbgcgomefdblpaaDoorDeReadC
import Derived.Test.YtbgcgomefdblpaaDoorDeReadD
namespace Go.Proofs.YtbgcgomefdblpaaDoor
open Go.RowKit
namespace De
set_option maxHeartbeats 3200000
set_option maxRecDepth 100000

theorem good_form {r : Row} (h : good r = true) : r.fm = 85 ∨ r.fm = 74 ∨ r.fm = 73 ∨ r.fm = 72 ∨ r.fm = 83 ∨ r.fm = 66 ∨ r.fm = 82 ∨ r.fm = 65 ∨ r.fm = 67 ∨ r.fm = 68 ∨ r.fm = 70 ∨ r.fm = 88 := by
  unfold good at h
  simp only [Bool.and_eq_true, decide_eq_true_eq] at h
  exact h.2
theorem read_any {r : Row} {s : ByteArray} {w : Nat} (hg : good r = true) (hw : w < 4294967296) (W : World) :
    Calls Tryd.prog 18 #[.agg (rowV r s), .int .u32 ((w : Nat) : Int)] W fun e W' => e = .returned (.agg (insV (readP r w))) ∧ Below W.heap.size W W' := by
  have hf := good_form hg
  obtain ⟨op, fm, code, f3, f7⟩ := r
  rcases hf with h | h | h | h | h | h | h | h | h | h | h | h
  · exact read_U h hw W
  · exact read_J h hw W
  · exact read_I h hw W
  · exact read_H h hw W
  · exact read_S h hw W
  · exact read_B h hw W
  · exact read_R h hw W
  · exact read_A h hw W
  · exact read_C h hw W
  · exact read_D h hw W
  · exact read_F h hw W
  · exact read_X h hw W
/-- The cells of one row. -/
theorem rowsV_get : ∀ (R : List Row) (S : List ByteArray) (i : Nat) (r : Row), R.length = S.length → R[i]? = some r → ∃ s, S[i]? = some s ∧ ∀ j, j < 6 → (rowsV R S)[i * 6 + j]? = (rowV r s)[j]?
  | [], _, i, r, _, h => by simp at h
  | r0 :: rs, [], _, _, h, _ => by simp at h
  | r0 :: rs, s0 :: ss, 0, r, _, h => by
    simp at h
    subst h
    refine ⟨s0, rfl, fun j hj => ?_⟩
    simp only [rowsV, Nat.zero_mul, Nat.zero_add]
    rw [List.getElem?_append_left (by simp [rowV]; omega)]
    simp
  | r0 :: rs, s0 :: ss, i + 1, r, hl, h => by
    obtain ⟨s, h1, h2⟩ := rowsV_get rs ss i r (by simpa using hl) (by simpa using h)
    refine ⟨s, by simpa using h1, fun j hj => ?_⟩
    simp only [rowsV]
    rw [List.getElem?_append_right (by simp [rowV]; omega)]
    rw [← h2 j hj]
    congr 1
    simp [rowV]; omega
/-- The rows in memory: one row's cells. -/
structure RAt (w : World) (b i : Nat) (r : Row) (s : ByteArray) : Prop where
  c0 : w.cell? ⟨b, i * 6, none⟩ = some (.int .u8 ((r.op : Nat) : Int))
  c1 : w.cell? ⟨b, i * 6 + 1, none⟩ = some (.int .u8 ((r.fm : Nat) : Int))
  c2 : w.cell? ⟨b, i * 6 + 2, none⟩ = some (.int .u32 ((r.code : Nat) : Int))
  c3 : w.cell? ⟨b, i * 6 + 3, none⟩ = some (.int .u32 ((r.f3 : Nat) : Int))
  c4 : w.cell? ⟨b, i * 6 + 4, none⟩ = some (.int .u32 ((r.f7 : Nat) : Int))
  c5 : w.cell? ⟨b, i * 6 + 5, none⟩ = some (.string s)
theorem names_len : namesP.length = 68 := by decide
/-- The document's rows, laid. -/
def Laid (w : World) (b : Nat) : Prop := b < w.heap.size ∧ ∀ i r, rowsP[i]? = some r → ∃ s, namesP[i]? = some s ∧ RAt w b i r s
theorem Laid.below {w w' : World} {b : Nat} (h : Laid w b) (hb : Below w.heap.size w w') : Laid w' b :=
  ⟨Nat.lt_of_lt_of_le h.1 hb.size, fun i r hi => by
    obtain ⟨s, h1, h2⟩ := h.2 i r hi
    have k := fun (j : Nat) => hb.cell (p := ⟨b, j, none⟩) h.1
    exact ⟨s, h1, (k _).trans h2.c0, (k _).trans h2.c1, (k _).trans h2.c2, (k _).trans h2.c3, (k _).trans h2.c4, (k _).trans h2.c5⟩⟩
theorem rows_laid (W : World) : Calls Tryd.prog 16 #[] W fun e w => ∃ g c, e = .returned (.slice (some ⟨g, 0, none⟩) 68 c) ∧ Laid w g ∧ Below W.heap.size W w := by
  refine (rows_any W).mono ?_
  rintro e w ⟨v, rfl, ha⟩
  have hr := ha.r
  rcases hr.2 with ⟨_, h0⟩ | ⟨g, cap, cur, rfl, _⟩
  · omega
  · refine ⟨g, cap, rfl, ⟨(hr.lt g rfl).2, fun i r hi => ?_⟩, ha.b⟩
    obtain ⟨s, h1, h2⟩ := rowsV_get rowsP namesP i r (by rw [rows_len, names_len]) hi
    have k : ∀ j u, j < 6 → (rowV r s)[j]? = some u → w.cell? ⟨g, i * 6 + j, none⟩ = some u := fun j u hj hu => by
      rw [← add_at]
      exact hr.cells rfl _ u ((h2 j hj).trans hu)
    exact ⟨s, h1, k 0 _ (by decide) rfl, k 1 _ (by decide) rfl, k 2 _ (by decide) rfl, k 3 _ (by decide) rfl, k 4 _ (by decide) rfl, k 5 _ (by decide) rfl⟩
end De
end Go.Proofs.YtbgcgomefdblpaaDoor
