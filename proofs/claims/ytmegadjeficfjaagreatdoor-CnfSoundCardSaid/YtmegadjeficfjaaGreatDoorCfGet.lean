/-
  The document's Get, as a fact on one call.
-/
import Derived.Test.YtmegadjeficfjaaGreatDoorCfGetA
namespace Go.Proofs.YtmegadjeficfjaaGreatDoor
open Go.RowKit
namespace Cf
set_option maxHeartbeats 4000000
set_option maxRecDepth 100000

/-- What Get answers of a text. -/
def GetE (W : World) (G : Option (Int × Cl)) (e : Ending) (w : World) : Prop := Below W.heap.size W w ∧
  match G with
  | none => e = .returned (.tuple #[.agg #[.int .i64 0, .slice none 0 0], .int .i64 5])
  | some (v, C) => ∃ a c, e = .returned (.tuple #[.agg #[.int .i64 v, .slice a C.length c], .int .i64 0]) ∧ ClsAt w a C
theorem build_zero (w : World) : (Instr.build 24 #[]).run Tryz.prog w = .ok (.agg #[.int .i64 0, .slice none 0 0]) w := run_build w _ _ _ (by kernel_rfl)
theorem build_v (w : World) (v : Int) : (Instr.build 24 #[(0, .int .i64 v)]).run Tryz.prog w = .ok (.agg #[.int .i64 v, .slice none 0 0]) w := run_build w _ _ _ (by kernel_rfl)
theorem two_put {b : Nat} {v v0 : Int} {s u : Value} {w : World} (h : ResAt b v0 s w) : (w.setCell ⟨b, 0, none⟩ (.int .i64 v)).cell? ⟨b, 0, none⟩ = some (.int .i64 v) ∧ ((w.setCell ⟨b, 0, none⟩ (.int .i64 v)).setCell ⟨b, 1, none⟩ u).cell? ⟨b, 1, none⟩ = some u := by
  refine ⟨World.cell?_setCell_same' _ _ _ (by rw [h.c0]; rfl), World.cell?_setCell_same' _ _ _ ?_⟩
  rw [World.cell?_setCell_other _ _ _ _ (by simp), h.c1]; rfl
theorem getE_none {W w : World} {G : Option (Int × Cl)} (h : G = none) (hb : Below W.heap.size W w) : GetE W G (.returned (.tuple #[.agg #[.int .i64 0, .slice none 0 0], .int .i64 5])) w := by
  subst h; exact ⟨hb, rfl⟩
theorem getE_some {W w : World} {G : Option (Int × Cl)} {v : Int} {C : Cl} {a : Option Addr} {c : Nat} (h : G = some (v, C)) (hb : Below W.heap.size W w) (hc : ClsAt w a C) : GetE W G (.returned (.tuple #[.agg #[.int .i64 v, .slice a C.length c], .int .i64 0])) w := by
  subst h; exact ⟨hb, a, c, rfl, hc⟩
theorem str_one {x : By} {X : ByteArray} (h : X = ⟨x.toArray⟩) : X.toList = x := by rw [h, ByteArray.toList_eq]
theorem getB_end {S : By} (h : (splitB 10 S).length < 2 ∨ (splitB 10 S).getLast? ≠ some []) : getB S = none := by
  unfold getB
  rw [if_pos h]
theorem getB_head {S x0 : By} (h2 : ¬ (splitB 10 S).length < 2) (hl : (splitB 10 S).getLast? = some []) (h0 : (splitB 10 S)[0]? = some x0) (h : (splitB 32 x0).length ≠ 4 ∨ (splitB 32 x0)[0]? ≠ some [112] ∨ (splitB 32 x0)[1]? ≠ some [99, 110, 102]) : getB S = none := by
  unfold getB
  have e : (splitB 10 S).headD [] = x0 := by
    cases hs : splitB 10 S with
    | nil => rw [hs] at h0; simp at h0
    | cons y z => rw [hs] at h0; simpa using h0
  simp only [e]
  rw [if_neg (by rintro (c | c); exact h2 c; exact c hl), if_pos h]
theorem getB_nums {S x0 a0 a1 a2 a3 : By} (h2 : ¬ (splitB 10 S).length < 2) (hl : (splitB 10 S).getLast? = some []) (h0 : (splitB 10 S)[0]? = some x0) (hk : splitB 32 x0 = [a0, a1, a2, a3])
    (h : ¬ ∃ v m : Int, readB a2 = some v ∧ readB a3 = some m ∧ 0 ≤ v ∧ v ≤ 1000000 ∧ m = ((splitB 10 S).length : Int) - 2) : getB S = none := by
  unfold getB
  have e : (splitB 10 S).headD [] = x0 := by
    cases hs : splitB 10 S with
    | nil => rw [hs] at h0; simp at h0
    | cons y z => rw [hs] at h0; simpa using h0
  simp only [e, hk]
  rw [if_neg (by rintro (c | c); exact h2 c; exact c hl)]
  split
  · rfl
  · simp only [List.getD_cons_succ, List.getD_cons_zero]
    cases r2 : readB a2 with
    | none => rfl
    | some v =>
      cases r3 : readB a3 with
      | none => rfl
      | some m =>
        simp only
        rw [if_neg (fun c => h ⟨v, m, r2, r3, c.1, c.2.1, c.2.2⟩)]
/-- What Get answers, of the clauses that were read and the lines that are left. -/
def tailG (v : Int) (C : Cl) (l : List By) : Option (Int × Cl) := match l.mapM (lineC v) with
  | some D => some (v, C ++ D)
  | none => none
theorem tailG_nil (v : Int) (C : Cl) : tailG v C [] = some (v, C) := by simp [tailG]
theorem tailG_cons {v : Int} {C : Cl} {y : By} {l : List By} {k : List Int} (h : lineC v y = some k) : tailG v C (y :: l) = tailG v (C ++ [k]) l := by
  unfold tailG
  rw [List.mapM_cons, h]
  cases l.mapM (lineC v) <;> simp
theorem tailG_none {v : Int} {C : Cl} {y : By} {l : List By} (h : lineC v y = none) : tailG v C (y :: l) = none := by
  unfold tailG
  rw [List.mapM_cons, h]; rfl
theorem getB_lines {S x0 a2 a3 : By} {v m : Int} (hl : (splitB 10 S).getLast? = some []) (h0 : (splitB 10 S)[0]? = some x0) (hk : splitB 32 x0 = [[112], [99, 110, 102], a2, a3])
    (r2 : readB a2 = some v) (r3 : readB a3 = some m) (hv0 : 0 ≤ v) (hv1 : v ≤ 1000000) (hm : m = ((splitB 10 S).length : Int) - 2) (h2 : ¬ (splitB 10 S).length < 2) : getB S = tailG v [] ((splitB 10 S).tail.dropLast) := by
  unfold getB tailG
  have e : (splitB 10 S).headD [] = x0 := by
    cases hs : splitB 10 S with
    | nil => rw [hs] at h0; simp at h0
    | cons y z => rw [hs] at h0; simpa using h0
  simp only [e, hk]
  rw [if_neg (by rintro (c | c); exact h2 c; exact c hl), if_neg (by simp)]
  simp only [List.getD_cons_succ, List.getD_cons_zero, r2, r3]
  rw [if_pos ⟨hv0, hv1, hm⟩]
  rfl
theorem getD_some {r : Option Int} {z : Int} (h1 : z = r.getD 0) (h2 : true = r.isSome) : r = some z := by
  cases r with
  | none => cases h2
  | some x => simp at h1; rw [h1]
/-- The literals of a line: those that were read, the words that are left. -/
def tailL (v : Int) (T : List Int) (l : List By) : Option (List Int) := match l.mapM (fun x => match readB x with
    | some z => if isL z v = true then some z else none
    | none => none) with
  | some D => some (T ++ D)
  | none => none
theorem tailL_nil (v : Int) (T : List Int) : tailL v T [] = some T := by simp [tailL]
theorem tailL_cons {v : Int} {T : List Int} {x : By} {l : List By} {z : Int} (h : readB x = some z) (h2 : isL z v = true) : tailL v T (x :: l) = tailL v (T ++ [z]) l := by
  unfold tailL
  rw [List.mapM_cons, h]
  simp only
  rw [if_pos h2]
  generalize (l.mapM fun x => match readB x with
    | some z => if isL z v = true then some z else none
    | none => none) = r
  cases r <;> simp
theorem tailL_none {v : Int} {T : List Int} {x : By} {l : List By} (h : readB x = none ∨ ∃ z, readB x = some z ∧ isL z v = false) : tailL v T (x :: l) = none := by
  unfold tailL
  rw [List.mapM_cons]
  rcases h with h | ⟨z, h, h2⟩
  · rw [h]; rfl
  · rw [h]; simp only; rw [h2]; rfl
theorem drop_line {L : List By} {i : Nat} {y : By} (h : L[i]? = some y) (hl : i + 1 < L.length) : (L.drop i).dropLast = y :: (L.drop (i + 1)).dropLast := by
  obtain ⟨hi, he⟩ := List.getElem?_eq_some_iff.1 h
  rw [List.drop_eq_getElem_cons hi, he]
  cases hd : L.drop (i + 1) with
  | nil =>
    have := congrArg List.length hd
    rw [List.length_drop] at this
    simp at this
    omega
  | cons a b => rfl
theorem bel_of {B : Nat} {W w : World} (_h : Below B W w) : Below w.heap.size w w := Below.refl _ _
theorem str_eq {X : ByteArray} {x c : By} (h : X = ⟨x.toArray⟩) (e : x = c) : X.toList = c ∧ (X.toList == c) = true ∧ (!X.toList == c) = false := by
  have := str_one h
  subst e
  rw [this]; simp
theorem str_ne {X : ByteArray} {x c : By} (h : X = ⟨x.toArray⟩) (e : ¬ x = c) : ¬ X.toList = c ∧ (X.toList == c) = false ∧ (!X.toList == c) = true := by
  have := str_one h
  rw [this]; simp [e]
theorem last_at {L : List By} {n : Nat} {x : By} (h : L.length = n + 1) (hx : L[n]? = some x) : L.getLast? = some x := by
  rw [List.getLast?_eq_getElem?, h]; exact hx

end Cf
end Go.Proofs.YtmegadjeficfjaaGreatDoor
