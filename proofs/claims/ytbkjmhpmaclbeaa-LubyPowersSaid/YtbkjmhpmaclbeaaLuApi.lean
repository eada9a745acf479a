/-
  What the program's own functions Luby, Sum and Levels answer, in one structure.
-/
import Derived.Test.YtbkjmhpmaclbeaaLuSum
import Derived.Test.YtbkjmhpmaclbeaaLuLevW
import Derived.Test.YtbkjmhpmaclbeaaLuRow
namespace Go.Proofs.Ytbkjmhpmaclbeaa
open Go.RowKit
namespace Lu
/-- What the program's functions answer. -/
theorem api : Api := ⟨luby_yes, luby_no, sum_yes, sum_no, fun W al T len cap h hl hn => levels_any W al T len cap h hl hn⟩
end Lu
end Go.Proofs.Ytbkjmhpmaclbeaa
