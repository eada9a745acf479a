/-
  The small functions of layer blast that the statement on none comes to, each as a fact on one call.
-/
import Derived.Test.YthelkbdiedfmfaaGreatTmAddA
namespace Go.Proofs.YthelkbdiedfmfaaGreat
open Go.RowKit Go.Maps Bv
namespace Bl
set_option maxHeartbeats 1000000
set_option maxRecDepth 100000

theorem bnone_nil (W : World) :
    Calls Tryz.prog 12 #[.pointer none] W fun e W' => e = .returned (.bool true) ∧ W = W' := by
  go_enter Tryz.func12, Tryz.ntmps12
  go_wp2
  go_ret
  exact ⟨rfl, rfl⟩
theorem bnone_zero (p : Nat) (W : World) (h : W.cell? ⟨p, 0, none⟩ = some (.pointer none)) :
    Calls Tryz.prog 12 #[.pointer (some ⟨p, 0, none⟩)] W fun e W' => e = .returned (.bool true) ∧ W = W' := by
  go_enter Tryz.func12, Tryz.ntmps12
  go_wp2
  go_ret
  exact ⟨rfl, rfl⟩
theorem bnone_made (p s : Nat) (W : World) (h : W.cell? ⟨p, 0, none⟩ = some (.pointer (some ⟨s, 0, none⟩))) :
    Calls Tryz.prog 12 #[.pointer (some ⟨p, 0, none⟩)] W fun e W' => e = .returned (.bool false) ∧ W = W' := by
  go_enter Tryz.func12, Tryz.ntmps12
  go_wp2
  go_ret
  exact ⟨rfl, rfl⟩

theorem bkids_const (W : World) : Calls Tryz.prog 22 #[.int .u8 1] W fun e W' => e = .returned (.int .i64 0) ∧ W = W' := by
  go_enter Tryz.func22, Tryz.ntmps22
  go_wp2
  go_ret
  exact ⟨rfl, rfl⟩

/-- A slice of one number, in new memory. -/
def OneAt (B : Nat) (w : World) (v : Value) (k : Int) : Prop := ∃ g c, v = .slice (some ⟨g, 0, none⟩) 1 c ∧ B ≤ g ∧ g < w.heap.size ∧ w.cell? ⟨g, 0, none⟩ = some (.int .i64 k)
theorem OneAt.keep {B : Nat} {w w' : World} {v : Value} {k : Int} (h : OneAt B w v k) (hb : Below w.heap.size w w') : OneAt B w' v k := by
  obtain ⟨g, c, e, hB, hl, hc⟩ := h
  exact ⟨g, c, e, hB, Nat.lt_of_lt_of_le hl hb.size, (hb.cell (p := ⟨g, 0, none⟩) hl).trans hc⟩

theorem make_one (w : World) : (Instr.makeSlice 31 (.int .i64 1) (.int .i64 1)).run Tryz.prog w = .ok (.slice (some ⟨w.heap.size, 0, none⟩) 1 1) (w.alloc (.cells #[.int .i64 0] 3)) := by kernel_rfl

theorem const_no (W : World) : Calls Tryz.prog 24 #[.int .i64 1, .int .u64 0] W fun e W' => e = .returned (.slice (some ⟨W.heap.size, 0, none⟩) 1 1) ∧ W' = W.alloc (.cells #[.int .i64 (-1)] 3) := by
  have hmk := make_one
  go_enter Tryz.func24, Tryz.ntmps24
  go_wp2_with fail
  refine wp_loop_rounds 2 ?_
  rw [rounds_succ]
  go_wp2_with fail
  rw [rounds_succ]
  go_wp2_with fail
  go_ret
  exact ⟨rfl, rfl⟩
theorem const_yes (W : World) : Calls Tryz.prog 24 #[.int .i64 1, .int .u64 1] W fun e W' => e = .returned (.slice (some ⟨W.heap.size, 0, none⟩) 1 1) ∧ W' = W.alloc (.cells #[.int .i64 1] 3) := by
  have hmk := make_one
  go_enter Tryz.func24, Tryz.ntmps24
  go_wp2_with fail
  refine wp_loop_rounds 2 ?_
  rw [rounds_succ]
  go_wp2_with fail
  rw [rounds_succ]
  go_wp2_with fail
  go_ret
  exact ⟨rfl, rfl⟩
end Bl
end Go.Proofs.YthelkbdiedfmfaaGreat
