/-
  The document's Number, as a fact on one call.
-/
import Derived.Test.YtcpehdeddgfpmaaDoorCfGrow
import Derived.Test.YtcpehdeddgfpmaaDoorCfText
import Derived.OwnWalk
import Derived.Laws.Bits64
import Derived.Laws.IdiomStrings
namespace Go.Proofs.YtcpehdeddgfpmaaDoor
open Go.RowKit
namespace Cf
set_option maxHeartbeats 1000000
set_option maxRecDepth 100000

theorem str_app (a b : By) : ((⟨a.toArray⟩ : ByteArray) ++ ⟨b.toArray⟩) = ⟨(a ++ b).toArray⟩ := by
  apply ByteArray.ext
  simp [ByteArray.data_append]
theorem str_size (a : By) : (⟨a.toArray⟩ : ByteArray).size = a.length := by simp [ByteArray.size]
theorem u64_of_i {z : Int} (h1 : -9223372036854775808 ≤ z) (h2 : z < 9223372036854775808) : IntKind.u64.wrap z = (((if z < 0 then 18446744073709551616 - (-z).toNat else z.toNat : Nat) : Nat) : Int) := by
  rw [IntKind.wrap_u64]
  split <;> omega
theorem dec_len20 {u : Nat} (h : u < 18446744073709551616) : (dec u).length ≤ 20 := dec_len (k := 19) (by omega)

/-- A text of one byte that was laid as a list of one. -/
theorem conv_one {W : World} {x : Int} (h0 : 0 ≤ x) (h1 : x < 256) :
    (convert 54 9 (.slice (some ⟨W.heap.size, 0, none⟩) 1 1)).run Tryd.prog (W.alloc (.cells #[.int .u8 x] 5)) = .ok (.string ⟨[UInt8.ofNat x.toNat].toArray⟩) (W.alloc (.cells #[.int .u8 x] 5)) := by
  refine run_convert_bytes_back _ _ _ _ _ 1 [UInt8.ofNat x.toNat] Tryd.underlying54 Tryd.underlying5 Tryd.underlying9 (fun j hj => ?_)
  obtain rfl : j = 0 := by simpa using hj
  have e : (⟨W.heap.size, 0, none⟩ : Addr).add 0 = ⟨W.heap.size, 0, none⟩ := by
    unfold Addr.add
    split <;> simp_all
  rw [e, new_cell]
  have : ((UInt8.ofNat x.toNat).toNat : Int) = x := by
    rw [UInt8.toNat_ofNat', Nat.mod_eq_of_lt (by omega)]
    omega
  simp only [List.getElem_cons_zero]
  rw [this]
  rfl
def signB (z : Int) : By := if z < 0 then [45] else []
theorem decI_sign (z : Int) : decI z = signB z ++ dec z.natAbs := by
  unfold decI signB
  split
  · rw [show (-z).toNat = z.natAbs by omega]; rfl
  · rw [show z.toNat = z.natAbs by omega]; rfl

end Cf
end Go.Proofs.YtcpehdeddgfpmaaDoor
