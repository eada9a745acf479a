/-
  The type int, as memory has it.
-/
import Derived.Test.YthelkbdiedfmfaaGreatTmTodo
namespace Go.Proofs.YthelkbdiedfmfaaGreat
open Go.RowKit Go.Maps Bv
namespace Tm

theorem info_int : (Tryz.prog.info? 3).map (fun i => (i.zero, i.size, i.bytes)) = some (some (.int .i64 0), 1, 8) := by kernel_rfl
end Tm
end Go.Proofs.YthelkbdiedfmfaaGreat
