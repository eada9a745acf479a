/-
What the statement's own words on package-level variables give: the powers of ten.
What the statement's own words on package-level variables give: what strconv looks at.
-/
import Derived.Test.YtcpehdeddgfpmaaDoorCuPut
import Derived.Test.YtcpehdeddgfpmaaDoorTie
import Derived.Lib.LaidTab
import Derived.Lib.LaidU8
import Derived.Stop.LaidErr
import Derived.LaidMore
import Derived.Test.YtcpehdeddgfpmaaDoorCuNumA
namespace Go.Proofs.YtcpehdeddgfpmaaDoor
open Go.RowKit Go.Maps
namespace Cf
set_option maxHeartbeats 1600000
set_option maxRecDepth 100000

theorem laidOut : laidOutB Tryd.prog = true := by kernel_rfl
theorem gpow : Tryd.prog.globalNamed "internal/strconv.uint64pow10" = some 1 := by kernel_rfl
theorem yPW : (Tryd.prog.globals[1]?).map (·.type) = some 120 := by kernel_rfl
theorem cU : Tryd.prog.cellsOf 103 = 1 := by kernel_rfl
theorem cP : Tryd.prog.cellsOf 120 = 20 := by kernel_rfl
theorem tens_of_laid {W : World} {rest : List (String × DataW Unit)} (h : laidMet Tryd.prog (("math/bits.deBruijn32tab", Rows.laid_math_bits_deBruijn32tab) :: ("math/bits.deBruijn64tab", Rows.laid_math_bits_deBruijn64tab) :: ("internal/strconv.uint64pow10", Rows.laid_internal_strconv_uint64pow10) :: rest) W) : Tens W := by
  have h2 : laidMet Tryd.prog (("internal/strconv.uint64pow10", Lib.tabData .u64 Lib.pow10Tab) :: rest) W := h.tail.tail
  exact Lib.tabIs_of_head gpow yPW Tryd.underlying120 Tryd.underlying103 cU cP h2
end Cf
end Go.Proofs.YtcpehdeddgfpmaaDoor

namespace Go.Proofs.YtcpehdeddgfpmaaDoor
open Go.RowKit Go.Maps
namespace Cf
set_option maxHeartbeats 1600000
set_option maxRecDepth 100000

def laidL : List (String × DataW Unit) := [("math/bits.deBruijn32tab", Rows.laid_math_bits_deBruijn32tab), ("math/bits.deBruijn64tab", Rows.laid_math_bits_deBruijn64tab), ("internal/strconv.uint64pow10", Rows.laid_internal_strconv_uint64pow10), ("unicode/utf8.acceptRanges", Rows.laid_unicode_utf8_acceptRanges), ("strconv.ErrRange", Rows.laid_strconv_ErrRange), ("strconv.ErrSyntax", Rows.laid_strconv_ErrSyntax), ("unicode/utf8.first", Rows.laid_unicode_utf8_first)]
theorem gER : Tryd.prog.globalNamed "strconv.ErrRange" = some 3 := by kernel_rfl
theorem gES : Tryd.prog.globalNamed "strconv.ErrSyntax" = some 2 := by kernel_rfl
theorem yER : (Tryd.prog.globals[3]?).map (·.type) = some 58 := by kernel_rfl
theorem yES : (Tryd.prog.globals[2]?).map (·.type) = some 58 := by kernel_rfl
theorem cS : Tryd.prog.cellsOf 9 = 1 := by kernel_rfl
theorem cE : Tryd.prog.cellsOf 138 = 1 := by kernel_rfl
theorem starE : "*" ++ "errors.errorString" = "*errors.errorString" := by decide
theorem rowE (u : TypeId) (h : Tryd.prog.typeName? 3 u = some "*errors.errorString") : u = 136 :=
  typeName_ptr_named (nm := "errors.errorString") (by rw [starE]; kernel_rfl) (by kernel_rfl) (by decide) u (by rw [starE]; exact h)
theorem sees_of_laid {W : World} (h : laidMet Tryd.prog laidL W) : Sees W := by
  obtain ⟨a3, s3, hv3, -, -, -⟩ := laid_sentinel (h.tail.tail.tail.tail) gER yER Tryd.underlying58 rowE Tryd.underlying136 Tryd.underlying138 rfl rfl Tryd.underlying9 cE cS
  obtain ⟨a4, s4, hv4, -, -, -⟩ := laid_sentinel (h.tail.tail.tail.tail.tail) gES yES Tryd.underlying58 rowE Tryd.underlying136 Tryd.underlying138 rfl rfl Tryd.underlying9 cE cS
  have cer : W.cell? ⟨3, 0, none⟩ = some (.iface 136 (.pointer (some a3))) := by have h0 := World.var?_cell gER hv3 0; simpa using h0
  have ces : W.cell? ⟨2, 0, none⟩ = some (.iface 136 (.pointer (some a4))) := by have h0 := World.var?_cell gES hv4 0; simpa using h0
  exact ⟨tens_of_laid h, ⟨_, _, ces⟩, ⟨_, _, cer⟩⟩
end Cf
end Go.Proofs.YtcpehdeddgfpmaaDoor
