/-
  For every number of 16 bits: the law LubySteps returns true, and what is handed in reads as it did. No condition.
-/
import Derived.Test.YtbkjmhpmaclbeaaLuApi
namespace Go.Proofs.Ytbkjmhpmaclbeaa
theorem lubySteps_holds : Rows.LubyStepsSaid := Lu.lubySteps_row Lu.api
#print axioms lubySteps_holds
end Go.Proofs.Ytbkjmhpmaclbeaa
