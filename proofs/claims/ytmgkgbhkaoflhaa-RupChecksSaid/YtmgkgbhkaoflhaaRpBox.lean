/-
  A struct of clauses in memory; how a proof runs on. 
-/
import Derived.Test.YtmgkgbhkaoflhaaB9
import Derived.Test.YtmgkgbhkaoflhaaCfDRow
import Derived.Test.YtmgkgbhkaoflhaaCfGreat
import Derived.Laws.NewFold
namespace Go.Proofs.Ytmgkgbhkaoflhaa
open Go.RowKit
namespace Rp
open Cf
set_option maxHeartbeats 1600000
set_option maxRecDepth 100000

/-- A struct of clauses of the call's own, at block b. -/
structure ResAt (b : Nat) (v : Int) (s : Value) (w : World) : Prop where
  lt : b < w.heap.size
  c0 : w.cell? ⟨b, 0, none⟩ = some (.int .i64 v)
  c1 : w.cell? ⟨b, 1, none⟩ = some s
  fr : ∀ o, w.frozen? ⟨b, o, none⟩ = false
theorem ResAt.call {b : Nat} {v : Int} {s : Value} {w w' : World} (h : ResAt b v s w) (k : Below w.heap.size w w') : ResAt b v s w' :=
  ⟨Nat.lt_of_lt_of_le h.lt k.size, (k.cell (p := ⟨b, 0, none⟩) h.lt).trans h.c0, (k.cell (p := ⟨b, 1, none⟩) h.lt).trans h.c1, fun o => (k.frozen (p := ⟨b, o, none⟩) h.lt).trans (h.fr o)⟩
theorem ResAt.new {v : Int} {s : Value} {W : World} : ResAt W.heap.size v s (W.alloc (.cells #[.int .i64 v, s] 24)) := by
  refine ⟨by simp, new_cell _ _ _ _, new_cell _ _ _ _, fun o => ?_⟩
  have h : (W.alloc (.cells #[.int .i64 v, s] 24)).heap[W.heap.size]? = some (.cells #[.int .i64 v, s] 24) := by
    show (W.heap.push _)[W.heap.size]? = _
    simp
  unfold World.frozen?
  rw [h]
  simp
theorem ResAt.grown {b : Nat} {v : Int} {s : Value} {w w' : World} {r : Option Nat} (h : ResAt b v s w) (k : w.grownBy w' r) (hr : some b ≠ r) : ResAt b v s w' :=
  ⟨Nat.lt_of_lt_of_le h.lt k.size, (World.cell?_of_block (a := ⟨b, 0, none⟩) (k.block b h.lt hr)).trans h.c0, (World.cell?_of_block (a := ⟨b, 1, none⟩) (k.block b h.lt hr)).trans h.c1, fun o => (World.frozen?_of_block (a := ⟨b, o, none⟩) (k.block b h.lt hr)).trans (h.fr o)⟩
theorem ResAt.other {b : Nat} {v : Int} {s u : Value} {w : World} {p : Addr} (h : ResAt b v s w) (hp : p.block ≠ b) : ResAt b v s (w.setCell p u) := by
  refine ⟨by simpa [World.setCell] using h.lt, ?_, ?_, fun o => by rw [World.frozen?_setCell]; exact h.fr o⟩
  · rw [World.cell?_setCell_other _ _ _ _ (by intro e; exact hp (by rw [e])), h.c0]
  · rw [World.cell?_setCell_other _ _ _ _ (by intro e; exact hp (by rw [e])), h.c1]
theorem ResAt.put {b : Nat} {v : Int} {s u : Value} {w : World} (h : ResAt b v s w) : ResAt b v u (w.setCell ⟨b, 1, none⟩ u) := by
  refine ⟨by simpa [World.setCell] using h.lt, ?_, ?_, fun o => by rw [World.frozen?_setCell]; exact h.fr o⟩
  · rw [World.cell?_setCell_other _ _ _ _ (by simp), h.c0]
  · exact World.cell?_setCell_same' _ _ _ (by rw [h.c1]; rfl)
theorem build_v (w : World) (v : Int) : (Instr.build 24 #[(0, .int .i64 v)]).run Try.prog w = .ok (.agg #[.int .i64 v, .slice none 0 0]) w := run_build w _ _ _ (by kernel_rfl)
theorem run_is {v : Int} : ∀ {p C D : Cl}, runP v C p = some D → D = C ++ p
  | [], C, D, h => by injection h with h; rw [← h]; simp
  | k :: r, C, D, h => by
    rw [runP] at h
    cases hf : followsP v C k with
    | false => rw [hf] at h; cases h
    | true =>
      rw [hf, if_pos rfl] at h
      rw [run_is h]; simp
theorem run_cat {v : Int} : ∀ {p C D q : Cl}, runP v C p = some D → runP v C (p ++ q) = runP v D q
  | [], C, D, q, h => by injection h with h; rw [← h]; rfl
  | k :: r, C, D, q, h => by
    rw [runP] at h
    show runP v C (k :: (r ++ q)) = _
    rw [runP]
    cases hf : followsP v C k with
    | false => rw [hf] at h; cases h
    | true =>
      rw [hf, if_pos rfl] at h
      rw [if_pos rfl]
      exact run_cat h
theorem run_stop {v : Int} {C P : Cl} {i : Nat} {k : List Int} (h : runP v C (P.take i) = some (C ++ P.take i)) (hk : P[i]? = some k) (hf : followsP v (C ++ P.take i) k = false) : runP v C P = none := by
  have e : P = P.take i ++ k :: P.drop (i + 1) := by
    obtain ⟨hl, he⟩ := List.getElem?_eq_some_iff.1 hk
    rw [← he, ← List.drop_eq_getElem_cons hl, List.take_append_drop]
  rw [e, run_cat h, runP, hf]; rfl
theorem run_next {v : Int} {C P : Cl} {i : Nat} {k : List Int} (h : runP v C (P.take i) = some (C ++ P.take i)) (hk : P[i]? = some k) (hf : followsP v (C ++ P.take i) k = true) : runP v C (P.take (i + 1)) = some (C ++ P.take (i + 1)) := by
  rw [List.take_add_one, hk]
  show runP v C (P.take i ++ [k]) = some (C ++ (P.take i ++ [k]))
  rw [run_cat h, runP, hf, if_pos rfl, runP, List.append_assoc]
theorem all_take {v : Int} {P : Cl} {i : Nat} {k : List Int} (h : ((P.take i).all fun k => areL v k) = true) (hk : P[i]? = some k) (ha : areL v k = true) : ((P.take (i + 1)).all fun k => areL v k) = true := by
  rw [List.take_add_one, hk, List.all_append, h]
  simpa using ha
theorem all_not {v : Int} {P : Cl} {i : Nat} {k : List Int} (hk : P[i]? = some k) (ha : areL v k = false) : (P.all fun k => areL v k) = false := by
  rw [List.all_eq_false]
  exact ⟨k, List.mem_of_getElem? hk, by rw [ha]; simp⟩
theorem okC_app {C P : Cl} (hC : OkC C) (hP : OkC P) (hl : C.length + P.length ≤ 1000000) : OkC (C ++ P) :=
  ⟨by rw [List.length_append]; omega, fun k hk => by
    rcases List.mem_append.1 hk with h | h
    · exact hC.k k h
    · exact hP.k k h, fun k hk => by
    rcases List.mem_append.1 hk with h | h
    · exact hC.l k h
    · exact hP.l k h⟩
theorem okC_take {P : Cl} (hP : OkC P) (i : Nat) : OkC (P.take i) :=
  ⟨by have := hP.n; rw [List.length_take]; omega, fun k hk => hP.k k (List.mem_of_mem_take hk), fun k hk => hP.l k (List.mem_of_mem_take hk)⟩
end Rp
end Go.Proofs.Ytmgkgbhkaoflhaa
