/-
  For every number and every list of ints: the law LubyTells returns true, and what is handed in reads as it did. No condition.
-/
import Derived.Test.YtbkjmhpmaclbeaaLuApi
namespace Go.Proofs.Ytbkjmhpmaclbeaa
theorem lubyTells_holds : Rows.LubyTellsSaid := Lu.lubyTells_row Lu.api
#print axioms lubyTells_holds
end Go.Proofs.Ytbkjmhpmaclbeaa
