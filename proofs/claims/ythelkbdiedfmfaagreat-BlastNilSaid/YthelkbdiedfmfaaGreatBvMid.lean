/-
  What the middle functions of layer bv and of its reference return, each as a fact on one call.
-/
import Derived.Test.YthelkbdiedfmfaaGreatBvLeaf
import Derived.Deep.RegionHeld3
import Derived.Lib.Hide
namespace Go.Proofs.YthelkbdiedfmfaaGreat
open Go.RowKit
namespace Bv
set_option maxHeartbeats 400000

theorem bcell {W w1 : World} (hb : Below W.heap.size W w1) : (∀ b o, b < W.heap.size → w1.cell? ⟨b, o, none⟩ = W.cell? ⟨b, o, none⟩) ∧ (∀ b o, b < W.heap.size → w1.frozen? ⟨b, o, none⟩ = W.frozen? ⟨b, o, none⟩) :=
  ⟨fun b o h => hb.cell (p := ⟨b, o, none⟩) h, fun b o h => hb.frozen (p := ⟨b, o, none⟩) h⟩
theorem bel_call {W w w' : World} (h : Below W.heap.size W w) (k : Below w.heap.size w w') : Below W.heap.size W w' := h.trans (k.mono h.size)
theorem bel_alloc {W w : World} (h : Below W.heap.size W w) (o : Obj) : Below W.heap.size W (w.alloc o) := h.alloc h.size o
theorem bel_drewN {W w : World} (h : Below W.heap.size W w) (n : Nat) : Below W.heap.size W (w.drewN n) := below_drewN h n

theorem width_same (o v w : Nat) (h1 : 5 ≤ o) (h2 : o ≤ 17) (W : World) :
    Calls Tryz.prog 95 #[.int .u8 o, .int .u8 v, .int .u8 w] W fun e W' => e = .returned (.int .u8 ((if v = w then v else 0 : Nat) : Int)) ∧ W = W' := by
  by_cases hvw : v = w
  · subst hvw
    go_enter Tryz.func95, Tryz.ntmps95
    go_wp2
    all_goals (go_ret; exact ⟨rfl, rfl⟩)
  · have d1 : ((v : Int) == (w : Int)) = false := by simp; omega
    go_enter Tryz.func95, Tryz.ntmps95
    go_wp2
    all_goals (go_ret; exact ⟨by simp, rfl⟩)
theorem width_test (o v w : Nat) (h1 : 18 ≤ o) (h2 : o ≤ 20) (W : World) :
    Calls Tryz.prog 95 #[.int .u8 o, .int .u8 v, .int .u8 w] W fun e W' => e = .returned (.int .u8 ((if v = w then 1 else 0 : Nat) : Int)) ∧ W = W' := by
  by_cases hvw : v = w
  · subst hvw
    go_enter Tryz.func95, Tryz.ntmps95
    go_wp2
    all_goals (go_ret; exact ⟨rfl, rfl⟩)
  · have d1 : ((v : Int) == (w : Int)) = false := by simp; omega
    go_enter Tryz.func95, Tryz.ntmps95
    go_wp2
    all_goals (go_ret; exact ⟨by simp, rfl⟩)
theorem width_concat (v w : Nat) (hv : v ≤ 64) (hw : w ≤ 64) (W : World) :
    Calls Tryz.prog 95 #[.int .u8 21, .int .u8 v, .int .u8 w] W fun e W' => e = .returned (.int .u8 ((if v + w ≤ 64 then v + w else 0 : Nat) : Int)) ∧ W = W' := by
  by_cases hvw : v + w ≤ 64
  · have d1 : decide ((v : Int) ≤ 64 - (w : Int)) = true := by simp; omega
    go_enter Tryz.func95, Tryz.ntmps95
    go_wp2
    all_goals (go_ret; exact ⟨by simp, rfl⟩)
  · have d1 : decide ((v : Int) ≤ 64 - (w : Int)) = false := by simp; omega
    go_enter Tryz.func95, Tryz.ntmps95
    go_wp2
    all_goals (go_ret; exact ⟨by simp, rfl⟩)
theorem width_none (o v w : Nat) (h1 : o < 5 ∨ 21 < o) (W : World) :
    Calls Tryz.prog 95 #[.int .u8 o, .int .u8 v, .int .u8 w] W fun e W' => e = .returned (.int .u8 0) ∧ W = W' := by
  rcases h1 with h1 | h1
  all_goals
    go_enter Tryz.func95, Tryz.ntmps95
    go_wp2
    go_ret
    exact ⟨rfl, rfl⟩

end Bv
end Go.Proofs.YthelkbdiedfmfaaGreat
