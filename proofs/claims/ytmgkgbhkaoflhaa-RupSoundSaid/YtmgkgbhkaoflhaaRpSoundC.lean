/-
  For all clauses, assumptions, proofs and models: the law RupSound returns true, and what is handed in reads as it did: where Check refutes, no model is one of the clauses and the assumptions. No condition.
-/
import Derived.Test.YtmgkgbhkaoflhaaRpRowA
import Derived.Test.YtmgkgbhkaoflhaaRwApi
namespace Go.Proofs.Ytmgkgbhkaoflhaa
theorem rupSound_holds : Rows.RupSoundSaid := Rp.rupSound_row Rw.api
#print axioms rupSound_holds
end Go.Proofs.Ytmgkgbhkaoflhaa
