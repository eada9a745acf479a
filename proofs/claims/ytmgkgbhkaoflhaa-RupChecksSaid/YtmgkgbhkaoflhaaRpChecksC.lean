/-
  For all clauses, assumptions, proofs and models: the law RupChecks returns true, and what is handed in reads as it did: whether any proof refutes any clauses under any assumptions, and whether a clause follows, is the document's. No condition.
-/
import Derived.Test.YtmgkgbhkaoflhaaRpRowA
import Derived.Test.YtmgkgbhkaoflhaaRwApi
namespace Go.Proofs.Ytmgkgbhkaoflhaa
theorem rupChecks_holds : Rows.RupChecksSaid := Rp.rupChecks_row Rw.api
#print axioms rupChecks_holds
end Go.Proofs.Ytmgkgbhkaoflhaa
