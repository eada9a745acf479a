/-
  For all clauses, assumptions, proofs and models: the law RupMore returns true, and what is handed in reads as it did: what refutes refutes with a clause more, with an assumption more, with a step behind it that is one of the clauses. No condition.
-/
import Derived.Test.YtmgkgbhkaoflhaaB7
import Derived.Test.YtmgkgbhkaoflhaaRwApi
namespace Go.Proofs.Ytmgkgbhkaoflhaa
theorem rupMore_holds : Rows.RupMoreSaid := Rp.rupMore_row Rw.api
#print axioms rupMore_holds
end Go.Proofs.Ytmgkgbhkaoflhaa
