/-
  Whether clauses are more than the statements go through, and whether two are the same, as facts on one call.
-/
import Derived.Test.YtmgkgbhkaoflhaaCfGrow
namespace Go.Proofs.Ytmgkgbhkaoflhaa
open Go.RowKit
namespace Cf
set_option maxHeartbeats 1000000
set_option maxRecDepth 100000

def greatC (C : Cl) : Bool := decide (400 < C.flatten.length) || decide (200 < C.length)
theorem greatC_no {C : Cl} (h : greatC C = false) : C.flatten.length ≤ 400 ∧ C.length ≤ 200 := by
  unfold greatC at h
  rw [Bool.or_eq_false_iff] at h
  have a := of_decide_eq_false h.1
  have b := of_decide_eq_false h.2
  omega
theorem flat_take {C : Cl} {j : Nat} {k : List Int} (h : C[j]? = some k) : (C.take (j + 1)).flatten.length = (C.take j).flatten.length + k.length := by
  rw [List.take_add_one, h]; simp
theorem flat_le (C : Cl) (j : Nat) : (C.take j).flatten.length ≤ C.flatten.length := by
  conv => rhs; rw [← List.take_append_drop j C]
  rw [List.flatten_append, List.length_append]; omega

end Cf
end Go.Proofs.Ytmgkgbhkaoflhaa
