/-
  For every number: the law LubySums returns true, and what is handed in reads as it did. No condition.
-/
import Derived.Test.YtbkjmhpmaclbeaaLuApi
namespace Go.Proofs.Ytbkjmhpmaclbeaa
theorem lubySums_holds : Rows.LubySumsSaid := Lu.lubySums_row Lu.api
#print axioms lubySums_holds
end Go.Proofs.Ytbkjmhpmaclbeaa
