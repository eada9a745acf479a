/-
  For every size, every list of acts, every addresses and numbers of bytes: the law RamPlays returns true, and what is handed in reads as it did. No condition.
-/
import Derived.Test.YtjcdpdfchjhjhaaRmRow
import Derived.Test.YtjcdpdfchjhjhaaRmOwn
namespace Go.Proofs.Ytjcdpdfchjhjhaa
theorem ramPlays_holds : Rows.RamPlaysSaid := Rm.ramPlays_row Rm.api
#print axioms ramPlays_holds
end Go.Proofs.Ytjcdpdfchjhjhaa
