/-
  For all clauses, assumptions, proofs and models: the law RupFollows returns true, and what is handed in reads as it did: a clause that follows holds in each model of the clauses. No condition.
-/
import Derived.Test.YtmgkgbhkaoflhaaRpRowA
import Derived.Test.YtmgkgbhkaoflhaaRwApi
namespace Go.Proofs.Ytmgkgbhkaoflhaa
theorem rupFollows_holds : Rows.RupFollowsSaid := Rp.rupFollows_row Rw.api
#print axioms rupFollows_holds
end Go.Proofs.Ytmgkgbhkaoflhaa
