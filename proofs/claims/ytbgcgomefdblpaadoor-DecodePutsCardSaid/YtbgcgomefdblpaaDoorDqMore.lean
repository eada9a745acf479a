/-
  What the program's tables say of a word is what the document's rows say. Plain facts.
-/
import Derived.Test.YtbgcgomefdblpaaDoorDqMath
namespace Go.Proofs.YtbgcgomefdblpaaDoor
namespace De
set_option maxHeartbeats 6400000
set_option maxRecDepth 100000

theorem formQ_lt {r : Row} : formOf r ≤ 12 := by
  unfold formOf
  repeat' split
  all_goals omega
/-- A word is a row's just if its fixed bits are the row's. -/
theorem fits_msk {r : Row} {w : Nat} (hg : good r = true) (hw : w < 4294967296) : fitsP r w = decide (w &&& (fmQ (formOf r)).fixed = wOf r) := by
  unfold good at hg
  simp only [Bool.and_eq_true, decide_eq_true_eq] at hg
  obtain ⟨⟨⟨⟨⟨⟨⟨g1, g2⟩, g3⟩, g4⟩, g5⟩, g6⟩, gz⟩, g7⟩ := hg
  have hU := msk7 w
  have hI := mskI w
  have hR := mskR w hw
  have hA := mskA w hw
  have hL := mskL w hw
  have hX := mskX w hw
  unfold fitsP formOf wOf fld
  rcases g7 with c | c | c | c | c | c | c | c | c | c | c | c
  all_goals simp only [c] at g5 g6 gz ⊢
  all_goals simp only [Nat.reduceEqDiff, ↓reduceIte, or_self, or_true, or_false, decide_eq_true_eq, ne_eq, forall_const, false_implies] at g5 g6 gz ⊢
  all_goals try simp only [fmQ, formsQ, List.getD_cons_zero, List.getD_cons_succ]
  case inr.inr.inr.inr.inr.inr.inr.inl =>
    by_cases c2 : r.op = 46
    · simp only [c2, ↓reduceIte, List.getD_cons_zero, List.getD_cons_succ, hL, not_true_eq_false, false_or, Nat.reducePow, Nat.div_one]
      by_cases c3 : w % 128 = r.code
      · rw [if_neg (by simpa using c3)]
        exact decide_eq_decide.2 ⟨fun h => by omega, fun h => by omega⟩
      · rw [if_pos (by simpa using c3)]
        exact (decide_eq_false (by omega)).symm
    · simp only [c2, ↓reduceIte, List.getD_cons_zero, List.getD_cons_succ, hA, not_false_eq_true, true_or, and_true, Nat.reducePow, Nat.div_one]
      by_cases c3 : w % 128 = r.code
      · rw [if_neg (by simpa using c3)]
        exact decide_eq_decide.2 ⟨fun h => by omega, fun h => by omega⟩
      · rw [if_pos (by simpa using c3)]
        exact (decide_eq_false (by omega)).symm
  all_goals simp only [hU, hI, hR, hX, Nat.reducePow, Nat.div_one]
  all_goals
    by_cases c3 : w % 128 = r.code
    · rw [if_neg (by simpa using c3)]
      first | exact decide_eq_decide.2 ⟨fun h => by omega, fun h => by omega⟩ | exact (decide_eq_true (by omega)).symm
    · rw [if_pos (by simpa using c3)]
      exact (decide_eq_false (by omega)).symm
end De
end Go.Proofs.YtbgcgomefdblpaaDoor
