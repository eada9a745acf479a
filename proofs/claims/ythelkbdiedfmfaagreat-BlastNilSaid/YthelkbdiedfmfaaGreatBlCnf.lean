/-
  Cnf of a blaster with one clause, as a fact on one call.
-/
import Derived.Test.YthelkbdiedfmfaaGreatBlNew
import Derived.Test.YthelkbdiedfmfaaGreatBlMiss
import Derived.RegionTactic
import Derived.BigRegion
namespace Go.Proofs.YthelkbdiedfmfaaGreat
open Go.RowKit Go.Maps Bv Tm
namespace Bl
set_option maxHeartbeats 1000000
set_option maxRecDepth 100000

theorem make_lists (w : World) : (Instr.makeSlice 41 (.int .i64 1) (.int .i64 1)).run Tryz.prog w = .ok (.slice (some ⟨w.heap.size, 0, none⟩) 1 1) (w.alloc (.cells #[.slice none 0 0] 31)) := by kernel_rfl

/-- What Cnf answers: one variable, one clause, of the literal 1. -/
def OneClause (W : World) (e : Ending) (W' : World) : Prop :=
  ∃ gc ga, e = .returned (.agg #[.int .i64 1, .slice (some ⟨gc, 0, none⟩) 1 1]) ∧ W.heap.size ≤ gc ∧ W.heap.size ≤ ga ∧ gc < W'.heap.size ∧ ga < W'.heap.size ∧ W'.cell? ⟨gc, 0, none⟩ = some (.slice (some ⟨ga, 0, none⟩) 1 1) ∧ W'.cell? ⟨ga, 0, none⟩ = some (.int .i64 1) ∧ Below W.heap.size W W'

theorem bcnf_one {B : Nat} {W : World} {b s mb n : Nat} {lv ev : Value} {T : Tab} (h : BlAt B W b s mb lv ev [1] [1] n T) :
    Calls Tryz.prog 6 #[.pointer (some ⟨b, 0, none⟩)] W (OneClause W) := by
  have hm1 := make_one
  have hm2 := make_lists
  obtain ⟨gl, cl, rfl, ll, hl⟩ := one_row h.lrow
  obtain ⟨ge, ce, rfl, le, he⟩ := one_row h.erow
  have lb := h.lb
  have c0 := h.c0
  have c5 := h.c5
  have c6 := h.c6
  have c7 := h.c7
  clear h
  have HNN := Lib.hid (bnone_made b s (W.alloc (.cells #[.int .i64 0, .slice none 0 0] 43)) (by rw [World.cell?_alloc_lt _ _ _ (show b < _ from lb)]; exact c0))
  go_enter Tryz.func6, Tryz.ntmps6
  go_wp2_with (go_at_call 12; refine HNN.out.mono ?_; rintro e w1 ⟨rfl, rfl⟩)
  have lb1 : b < W.heap.size + 1 := by omega
  have lb2 : b < W.heap.size + 1 + 1 := by omega
  have lb3 : b < W.heap.size + 1 + 1 + 1 := by omega
  have ll1 : gl < W.heap.size + 1 := by omega
  have ll2 : gl < W.heap.size + 1 + 1 := by omega
  have ll3 : gl < W.heap.size + 1 + 1 + 1 := by omega
  have le1 : ge < W.heap.size + 1 := by omega
  have le2 : ge < W.heap.size + 1 + 1 := by omega
  have le3 : ge < W.heap.size + 1 + 1 + 1 := by omega
  go_region
  all_goals go_wp2_with fail
  all_goals refine wp_loop_rounds 2 ?_
  all_goals rw [rounds_succ]
  all_goals go_wp2_with fail
  all_goals rw [rounds_succ]
  all_goals go_wp2_with fail
  all_goals refine wp_loop_rounds 2 ?_
  all_goals rw [rounds_succ]
  all_goals go_wp2_with fail
  all_goals go_region
  all_goals go_wp2_with fail
  all_goals rw [rounds_succ]
  all_goals go_wp2_with fail
  · refine bodyPost_ret (v := .agg #[.int .i64 1, .slice (some ⟨W.heap.size + 1, 0, none⟩) 1 1]) (by simp [results, Tryz.results6, go_sem]) rfl ?_
    refine ⟨W.heap.size + 1, W.heap.size + 1 + 1 + 1, rfl, by omega, by omega, by simp, by simp, ?_, ?_, ?_⟩
    · go_simp
    · go_simp
    · repeat (first | exact Below.refl _ _ | (refine Below.setCell ?_ (by simp; try omega) _) | (refine bel_alloc ?_ _) | (refine Below.drew ?_))
  · refine bodyPost_ret (v := .agg #[.int .i64 1, .slice (some ⟨W.heap.size + 1 + 1, 0, none⟩) 1 1]) (by simp [results, Tryz.results6, go_sem]) rfl ?_
    refine ⟨W.heap.size + 1 + 1, W.heap.size + 1 + 1 + 1, rfl, by omega, by omega, by simp, by simp, ?_, ?_, ?_⟩
    · go_simp
    · go_simp
    · repeat (first | exact Below.refl _ _ | (refine Below.setCell ?_ (by simp; try omega) _) | (refine bel_alloc ?_ _) | (refine Below.drew ?_))
end Bl
end Go.Proofs.YthelkbdiedfmfaaGreat
