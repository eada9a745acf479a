/-
  Whether a vector may be, as the program tells it, as a fact on the call.
-/
import Derived.Test.YthelkbdiedfmfaaGreatBvBin
import Derived.Test.YthelkbdiedfmfaaGreatBvUn
import Derived.Test.YthelkbdiedfmfaaGreatBvAt
import Derived.Test.YthelkbdiedfmfaaGreatBvMathC
import Derived.Deep.RegionHeld3
namespace Go.Proofs.YthelkbdiedfmfaaGreat
open Go.RowKit
namespace Bv
set_option maxHeartbeats 1000000
set_option maxRecDepth 100000

theorem may_yes {w n : Nat} (h : mayB w n = true) (W : World) :
    Calls Tryz.prog 75 #[.agg #[.int .u8 w, .int .u64 n]] W fun e W' => e = .returned (.bool true) ∧ Below W.heap.size W W' := by
  have := may_any w n W; rw [h] at this; exact this
theorem may_no {w n : Nat} (h : mayB w n = false) (W : World) :
    Calls Tryz.prog 75 #[.agg #[.int .u8 w, .int .u64 n]] W fun e W' => e = .returned (.bool false) ∧ Below W.heap.size W W' := by
  have := may_any w n W; rw [h] at this; exact this

end Bv
end Go.Proofs.YthelkbdiedfmfaaGreat
