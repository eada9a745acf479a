/-
  The document's least word of an instruction by a row, walked.
-/
import Derived.Test.YtbgcgomefdblpaaDoorDeGet
import Derived.Test.YtbgcgomefdblpaaDoorDeLeastB
import Derived.Test.YtbgcgomefdblpaaDoorDeLeastC
import Derived.Test.YtbgcgomefdblpaaDoorDeLeastD
namespace Go.Proofs.YtbgcgomefdblpaaDoor
open Go.RowKit
namespace De
set_option maxHeartbeats 3200000
set_option maxRecDepth 100000

theorem least_any {r : Row} {s : ByteArray} {i : Ins} (hg : good r = true) (hi : boundsP i = true) (him : -2147483648 ≤ i.imm ∧ i.imm < 2147483648) (W : World) :
    Calls Tryd.prog 20 #[.agg (rowV r s), .agg (insV i)] W fun e W' => e = .returned (.int .u32 ((leastP r i : Nat) : Int)) ∧ Below W.heap.size W W' := by
  have hf := good_form hg
  obtain ⟨op, fm, code, f3, f7⟩ := r
  rcases hf with h | h | h | h | h | h | h | h | h | h | h | h
  · exact dleast_U h hg hi him W
  · exact dleast_J h hg hi him W
  · exact dleast_I h hg hi him W
  · exact dleast_H h hg hi him W
  · exact dleast_S h hg hi him W
  · exact dleast_B h hg hi him W
  · exact dleast_R h hg hi him W
  · exact dleast_A h hg hi him W
  · exact dleast_C h hg hi him W
  · exact dleast_D h hg hi him W
  · exact dleast_F h hg hi him W
  · exact dleast_X h hg hi him W
end De
end Go.Proofs.YtbgcgomefdblpaaDoor
