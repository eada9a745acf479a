/-
  For every size, every bytes, every address, number of bytes and value: the law RamBack returns true, and what is handed in reads as it did. No condition.
-/
import Derived.Test.YtjcdpdfchjhjhaaRmRow
import Derived.Test.YtjcdpdfchjhjhaaRmOwn
namespace Go.Proofs.Ytjcdpdfchjhjhaa
theorem ramBack_holds : Rows.RamBackSaid := Rm.ramBack_row Rm.api
#print axioms ramBack_holds
end Go.Proofs.Ytjcdpdfchjhjhaa
