/-
  What the statement's own words on package-level variables give: the powers of ten.
-/
import Derived.Test.YtmegadjeficfjaaGreatDoorCuPut
import Derived.Test.YtmegadjeficfjaaGreatDoorTie
import Derived.Lib.LaidTab
import Derived.Lib.LaidU8
import Derived.Stop.LaidErr
import Derived.LaidMore
namespace Go.Proofs.YtmegadjeficfjaaGreatDoor
open Go.RowKit Go.Maps
namespace Cf
set_option maxHeartbeats 1600000
set_option maxRecDepth 100000

theorem laidOut : laidOutB Tryz.prog = true := by kernel_rfl
theorem gpow : Tryz.prog.globalNamed "internal/strconv.uint64pow10" = some 1 := by kernel_rfl
theorem yPW : (Tryz.prog.globals[1]?).map (·.type) = some 114 := by kernel_rfl
theorem cU : Tryz.prog.cellsOf 104 = 1 := by kernel_rfl
theorem cP : Tryz.prog.cellsOf 114 = 20 := by kernel_rfl
theorem tens_of_laid {W : World} {rest : List (String × DataW Unit)} (h : laidMet Tryz.prog (("math/bits.deBruijn32tab", Rows.laid_math_bits_deBruijn32tab) :: ("math/bits.deBruijn64tab", Rows.laid_math_bits_deBruijn64tab) :: ("internal/strconv.uint64pow10", Rows.laid_internal_strconv_uint64pow10) :: rest) W) : Tens W := by
  have h2 : laidMet Tryz.prog (("internal/strconv.uint64pow10", Lib.tabData .u64 Lib.pow10Tab) :: rest) W := h.tail.tail
  exact Lib.tabIs_of_head gpow yPW Tryz.underlying114 Tryz.underlying104 cU cP h2
end Cf
end Go.Proofs.YtmegadjeficfjaaGreatDoor
