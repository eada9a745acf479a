/-
  strings.Cut by one byte, as facts on one call.
-/
import Derived.Test.YtcpehdeddgfpmaaDoorCuShelf
import Derived.Test.YtcpehdeddgfpmaaDoorCuStand
import Derived.Test.YtcpehdeddgfpmaaDoorCfData
import Derived.Laws.DeepStrings4
namespace Go.Proofs.YtcpehdeddgfpmaaDoor
open Go.RowKit Go.Shelf
namespace Cf
set_option maxHeartbeats 3200000
set_option maxRecDepth 100000
theorem bel_drew (w : World) : Below w.heap.size w w.drew := ⟨rfl, rfl, rfl, Nat.le_refl _, fun _ _ => rfl⟩
theorem slcut_no (s : ByteArray) (c : UInt8) (W : World) (h : Lib.indexByte s.data.toList c = -1) : Calls Tryd.prog 33 #[.string s, .string ⟨#[c]⟩] W fun e w => e = .returned (.tuple #[.string s, .string ⟨#[]⟩, .bool false]) ∧ w = W := by
  have HI := Lib.hid (Tryd.stringslite_Index_one s c W)
  rw [h] at HI
  go_enter Tryd.func33, Tryd.ntmps33
  go_wp2_with fail
  refine HI.out.mono ?_
  rintro e w ⟨rfl, rfl⟩
  go_wp2_with fail
  exact bodyPost_ret (by simp [results, Tryd.results33, go_sem]) rfl ⟨rfl, rfl⟩
theorem slcut_yes (s : ByteArray) (c : UInt8) (W : World) (i : Nat) (hi : i < s.size) (hs : s.size ≤ 1000000000) (h : Lib.indexByte s.data.toList c = (i : Int)) : Calls Tryd.prog 33 #[.string s, .string ⟨#[c]⟩] W fun e w => e = .returned (.tuple #[.string (s.extract 0 i), .string (s.extract (i + 1) s.size), .bool true]) ∧ Below W.heap.size W w := by
  have HI := Lib.hid (Tryd.stringslite_Index_one s c W)
  rw [h] at HI
  have q0 : (0 : Int) ≤ ((i : Nat) : Int) := by omega
  have q1 : wrap64 (((i : Nat) : Int) + 1) = ((i : Nat) : Int) + 1 := by rw [(step_i (j := i) (by omega)).1]; omega
  have q2 : ((i : Nat) : Int) ≤ ((s.size : Nat) : Int) := by omega
  have q3 : (0 : Int) ≤ ((i : Nat) : Int) + 1 := by omega
  have q4 : ((i : Nat) : Int) + 1 ≤ ((s.size : Nat) : Int) := by omega
  go_enter Tryd.func33, Tryd.ntmps33
  go_wp2_with fail
  refine HI.out.mono ?_
  rintro e w ⟨rfl, rfl⟩
  go_wp2_with fail
  go_region
  all_goals go_wp2_with fail
  exact bodyPost_ret (by simp [results, Tryd.results33, go_sem]) rfl ⟨rfl, bel_drew _⟩
theorem scut_no (s : ByteArray) (c : UInt8) (W : World) (h : Lib.indexByte s.data.toList c = -1) : Calls Tryd.prog 14 #[.string s, .string ⟨#[c]⟩] W fun e w => e = .returned (.tuple #[.string s, .string ⟨#[]⟩, .bool false]) ∧ w = W := by
  have HI := Lib.hid (slcut_no s c W h)
  go_enter Tryd.func14, Tryd.ntmps14
  go_wp2_with fail
  refine HI.out.mono ?_
  rintro e w ⟨rfl, rfl⟩
  go_wp2_with fail
  exact bodyPost_ret (by simp [results, Tryd.results14, go_sem]) rfl ⟨rfl, rfl⟩
theorem scut_yes (s : ByteArray) (c : UInt8) (W : World) (i : Nat) (hi : i < s.size) (hs : s.size ≤ 1000000000) (h : Lib.indexByte s.data.toList c = (i : Int)) : Calls Tryd.prog 14 #[.string s, .string ⟨#[c]⟩] W fun e w => e = .returned (.tuple #[.string (s.extract 0 i), .string (s.extract (i + 1) s.size), .bool true]) ∧ Below W.heap.size W w := by
  have HI := Lib.hid (slcut_yes s c W i hi hs h)
  go_enter Tryd.func14, Tryd.ntmps14
  go_wp2_with fail
  refine HI.out.mono ?_
  rintro e w ⟨rfl, hb⟩
  go_wp2_with fail
  exact bodyPost_ret (by simp [results, Tryd.results14, go_sem]) rfl ⟨rfl, hb⟩
end Cf
end Go.Proofs.YtcpehdeddgfpmaaDoor
