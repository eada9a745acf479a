/-
  The program's memory where it is none; the law RamNil, walked.
-/
import Derived.Test.YtjcdpdfchjhjhaaRmOwn
namespace Go.Proofs.Ytjcdpdfchjhjhaa
open Go.RowKit
namespace Rm
set_option maxHeartbeats 1600000
set_option maxRecDepth 100000

/-- No memory, or a zero one. -/
def NoneAt (w : World) (v : Value) : Prop := v = .pointer none ∨ ∃ p, v = .pointer (some ⟨p, 0, none⟩) ∧ w.cell? ⟨p, 0, none⟩ = some (.slice none 0 0)
theorem isnone_of {W : World} {v : Value} (h : NoneAt W v) : Calls Try.prog 19 #[v] W fun e w => e = .returned (.bool true) ∧ W = w := by
  rcases h with rfl | ⟨p, rfl, h⟩
  · exact isnone_nil W
  · exact isnone_zero h
theorem none_piece {W : World} {v : Value} (h : NoneAt W v) (a n : Int) : Calls Try.prog 17 #[v, .int .u32 a, .int .i64 n] W fun e w => e = .returned (.tuple #[.slice none 0 0, .int .i64 1]) ∧ W = w := by
  have HN := Lib.hid (isnone_of h)
  clear h
  go_enter Try.func17, Try.ntmps17
  go_wp2_with fail
  refine HN.out.mono ?_
  rintro e w ⟨rfl, rfl⟩
  go_wp2_with fail
  go_ret2
  exact ⟨rfl, rfl⟩
theorem none_load {W : World} {v : Value} (h : NoneAt W v) (a n : Int) : Calls Try.prog 12 #[v, .int .u32 a, .int .i64 n] W fun e w => e = .returned (.tuple #[.int .u32 0, .int .i64 1]) ∧ W = w := by
  have HN := Lib.hid (none_piece h a n)
  clear h
  go_enter Try.func12, Try.ntmps12
  go_wp2_with fail
  refine HN.out.mono ?_
  rintro e w ⟨rfl, rfl⟩
  go_wp2_with fail
  go_ret2
  exact ⟨rfl, rfl⟩
theorem none_store {W : World} {v : Value} (h : NoneAt W v) (a n x : Int) : Calls Try.prog 9 #[v, .int .u32 a, .int .i64 n, .int .u32 x] W fun e w => e = .returned (.int .i64 1) ∧ W = w := by
  have HN := Lib.hid (none_piece h a n)
  clear h
  go_enter Try.func9, Try.ntmps9
  go_wp2_with fail
  refine HN.out.mono ?_
  rintro e w ⟨rfl, rfl⟩
  go_wp2_with fail
  go_ret
  exact ⟨rfl, rfl⟩
theorem none_bytes {W : World} {v : Value} (h : NoneAt W v) : Calls Try.prog 16 #[v] W fun e w => e = .returned (.slice none 0 0) ∧ W = w := by
  have HN := Lib.hid (isnone_of h)
  clear h
  go_enter Try.func16, Try.ntmps16
  go_wp2_with fail
  refine HN.out.mono ?_
  rintro e w ⟨rfl, rfl⟩
  go_wp2_with fail
  go_ret
  exact ⟨rfl, rfl⟩
theorem none_size {W : World} {v : Value} (h : NoneAt W v) : Calls Try.prog 14 #[v] W fun e w => e = .returned (.int .i64 0) ∧ W = w := by
  have HN := Lib.hid (isnone_of h)
  clear h
  go_enter Try.func14, Try.ntmps14
  go_wp2_with fail
  refine HN.out.mono ?_
  rintro e w ⟨rfl, rfl⟩
  go_wp2_with fail
  go_ret
  exact ⟨rfl, rfl⟩
theorem none_copy {W : World} {v : Value} (h : NoneAt W v) : Calls Try.prog 11 #[v] W fun e w => e = .returned (.pointer none) ∧ W = w := by
  have HN := Lib.hid (isnone_of h)
  clear h
  go_enter Try.func11, Try.ntmps11
  go_wp2_with fail
  refine HN.out.mono ?_
  rintro e w ⟨rfl, rfl⟩
  go_wp2_with fail
  go_ret
  exact ⟨rfl, rfl⟩
theorem nil_any (a n : Int) (z : Bool) (W : World) : Calls Try.prog 5 #[.int .u32 a, .int .i64 n, .bool z] W fun e w => e = .returned (.bool true) ∧ Below W.heap.size W w := by
  have HL := Lib.hid (lives_any api)
  have hen : ∀ (w : World), (binOp .eql 25 (.pointer none) (.pointer none)).run Try.prog w = .ok (.bool true) w := fun w => by kernel_rfl
  have hbd : ∀ (w : World), (Instr.build 51 #[]).run Try.prog w = .ok (.agg #[.slice none 0 0]) w := fun w => run_build w _ _ _ (by kernel_rfl)
  cases z
  · have HV : Hid (NoneAt W (.pointer none)) := Lib.hid (.inl rfl)
    go_enter Try.func5, Try.ntmps5
    go_wp2_with fail
    refine (none_load HV.out _ _).mono ?_
    rintro e w ⟨rfl, rfl⟩
    go_wp2_with fail
    refine (none_store HV.out _ _ _).mono ?_
    rintro e w ⟨rfl, rfl⟩
    go_wp2_with fail
    refine (none_bytes HV.out).mono ?_
    rintro e w ⟨rfl, rfl⟩
    go_wp2_with fail
    refine (none_size HV.out).mono ?_
    rintro e w ⟨rfl, rfl⟩
    go_wp2_with fail
    refine (none_copy HV.out).mono ?_
    rintro e w ⟨rfl, rfl⟩
    go_wp2_with fail
    refine (HL.out _).mono ?_
    rintro e w ⟨rfl, hb⟩
    have HB := Lib.hid hb
    clear hb
    go_wp2_with fail
    go_ret
    exact ⟨rfl, HB.out⟩
  · have HV : Hid (NoneAt (W.alloc (.cells #[.slice none 0 0] 51)) (.pointer (some ⟨W.heap.size, 0, none⟩))) := Lib.hid (.inr ⟨_, rfl, by rw [(cell_of (MapKept.heap_alloc W (.cells #[.slice none 0 0] 51)).1 0).1]; rfl⟩)
    have HB0 : Hid (Below W.heap.size W (W.alloc (.cells #[.slice none 0 0] 51))) := Lib.hid ((Below.refl _ _).alloc (Nat.le_refl _) _)
    go_enter Try.func5, Try.ntmps5
    go_wp2_with fail
    refine (none_load HV.out _ _).mono ?_
    rintro e w ⟨rfl, rfl⟩
    go_wp2_with fail
    refine (none_store HV.out _ _ _).mono ?_
    rintro e w ⟨rfl, rfl⟩
    go_wp2_with fail
    refine (none_bytes HV.out).mono ?_
    rintro e w ⟨rfl, rfl⟩
    go_wp2_with fail
    refine (none_size HV.out).mono ?_
    rintro e w ⟨rfl, rfl⟩
    go_wp2_with fail
    refine (none_copy HV.out).mono ?_
    rintro e w ⟨rfl, rfl⟩
    go_wp2_with fail
    refine (HL.out _).mono ?_
    rintro e w ⟨rfl, hb⟩
    have HB := Lib.hid hb
    clear hb
    go_wp2_with fail
    go_ret
    exact ⟨rfl, HB0.out.trans (HB.out.mono HB0.out.size)⟩
end Rm
end Go.Proofs.Ytjcdpdfchjhjhaa
