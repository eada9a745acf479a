/-
  A width cut to a byte, as a fact on one call.
-/
import Derived.Test.YthelkbdiedfmfaaGreatTmLeaf
namespace Go.Proofs.YthelkbdiedfmfaaGreat
open Go.RowKit Bv
namespace Tm
set_option maxHeartbeats 400000
set_option maxRecDepth 100000

theorem narrow_ok (w : Int) (h0 : 0 ≤ w) (h1 : w ≤ 255) (W : World) :
    Calls Tryz.prog 44 #[.int .i64 w] W fun e W' => e = .returned (.int .u8 w) ∧ W = W' := by
  have d0 : decide (w < (0 : Int)) = false := decide_eq_false (by omega)
  have d1 : decide ((255 : Int) < w) = false := decide_eq_false (by omega)
  go_enter Tryz.func44, Tryz.ntmps44
  go_wp2
  go_ret
  have e : IntKind.u8.wrap w = w := by simp [IntKind.wrap, IntKind.bits, IntKind.signed]; omega
  first | exact ⟨rfl, rfl⟩ | (rw [e]; exact ⟨rfl, rfl⟩) | (simp only [e]; exact ⟨rfl, rfl⟩)

theorem narrow_bad (w : Int) (h : w < 0 ∨ 255 < w) (W : World) :
    Calls Tryz.prog 44 #[.int .i64 w] W fun e W' => e = .returned (.int .u8 0) ∧ W = W' := by
  by_cases h0 : w < 0
  · have d0 : decide (w < (0 : Int)) = true := decide_eq_true (by omega)
    go_enter Tryz.func44, Tryz.ntmps44
    go_wp2
    go_ret
    exact ⟨rfl, rfl⟩
  · have d0 : decide (w < (0 : Int)) = false := decide_eq_false (by omega)
    have d1 : decide ((255 : Int) < w) = true := decide_eq_true (by omega)
    go_enter Tryz.func44, Tryz.ntmps44
    go_wp2
    go_ret
    exact ⟨rfl, rfl⟩

end Tm
end Go.Proofs.YthelkbdiedfmfaaGreat
