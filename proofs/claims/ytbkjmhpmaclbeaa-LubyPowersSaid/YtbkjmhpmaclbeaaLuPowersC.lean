/-
  For every number of 32 bits and every k of 8 bits: the law LubyPowers returns true, and what is handed in reads as it did. No condition.
-/
import Derived.Test.YtbkjmhpmaclbeaaLuApi
namespace Go.Proofs.Ytbkjmhpmaclbeaa
theorem lubyPowers_holds : Rows.LubyPowersSaid := Lu.lubyPowers_row Lu.api
#print axioms lubyPowers_holds
end Go.Proofs.Ytbkjmhpmaclbeaa
