/-
  The statements' own small check of examples: it returns true, as a fact on one call.
-/
import Derived.Test.YtkfnekhjmnjloaaTmInts
namespace Go.Proofs.Ytkfnekhjmnjloaa
open Go.RowKit Go.Maps Bv
namespace Tm
set_option maxHeartbeats 1000000
set_option maxRecDepth 100000

theorem new_at (W : World) :
    Calls Try.prog 7 #[] W fun e W' => e = .returned (.pointer (some ⟨W.heap.size + 1, 0, none⟩)) ∧
      StoreAt W.heap.size W' (W.heap.size + 1) W.heap.size (.slice none 0 0) [] ∧ Below W.heap.size W W' := by
  refine (new_any W).mono ?_
  rintro e w' ⟨rfl, rfl⟩
  exact ⟨rfl, new_store W, new_kept W _ _⟩

theorem works_any (W : World) :
    Calls Try.prog 17 #[] W fun e W' => e = .returned (.bool true) ∧ Below W.heap.size W W' := by
  go_enter Try.func17, Try.ntmps17
  go_wp2_with (go_at_call 7; refine (new_at W).mono ?_; rintro e v0 ⟨rfl, S0, hb0⟩)
  have hB0 := hb0.size
  have HC0 := Lib.hid (made_to S0 hB0 (var_any S0 (B := W.heap.size) hB0 8 0) (L' := [w1]) (a := 0) (b := 0) (by decide) (by decide) (by decide))
  clear S0
  go_wp2_with (go_at_call 19; refine HC0.out.mono ?_; rintro e v1 ⟨rfl, s1, S1, hb1⟩)
  replace hb1 := hb0.trans hb1
  have hB1 := hb1.size
  clear HC0
  have HC1 := Lib.hid (made_to S1 hB1 (const_any S1 hB1 8 1 (by decide)) (L' := [w1, w2]) (a := 1) (b := 0) (by decide) (by decide) (by decide))
  clear S1
  go_wp2_with (go_at_call 18; refine HC1.out.mono ?_; rintro e v2 ⟨rfl, s2, S2, hb2⟩)
  replace hb2 := hb1.trans hb2
  have hB2 := hb2.size
  clear HC1
  have HC2 := Lib.hid (made_to S2 hB2 (make_any (x := w3) S2 hB2 w3_ok) (L' := [w1, w2, w3]) (a := 2) (b := 0) (by decide) (by decide) (by decide))
  clear S2
  go_wp2_with (go_at_call 8; refine HC2.out.mono ?_; rintro e v3 ⟨rfl, s3, S3, hb3⟩)
  replace hb3 := hb2.trans hb3
  have hB3 := hb3.size
  clear HC2
  have HC3 := Lib.hid (made_to S3 hB3 (make_any (x := w3) S3 hB3 w3_ok) (L' := [w1, w2, w3]) (a := 2) (b := 0) (by decide) (by decide) (by decide))
  clear S3
  go_wp2_with (go_at_call 8; refine HC3.out.mono ?_; rintro e v4 ⟨rfl, s4, S4, hb4⟩)
  replace hb4 := hb3.trans hb4
  have hB4 := hb4.size
  clear HC3
  have HC4 := Lib.hid (made_to S4 hB4 (var_any S4 hB4 4 0) (L' := [w1, w2, w3]) (a := 0) (b := 7) (by decide) (by decide) (by decide))
  clear S4
  go_wp2_with (go_at_call 19; refine HC4.out.mono ?_; rintro e v5 ⟨rfl, s5, S5, hb5⟩)
  replace hb5 := hb4.trans hb5
  have hB5 := hb5.size
  clear HC4
  have HC5 := Lib.hid (made_to S5 hB5 (const_any S5 hB5 8 256 (by decide)) (L' := [w1, w2, w3]) (a := 0) (b := 2) (by decide) (by decide) (by decide))
  clear S5
  go_wp2_with (go_at_call 18; refine HC5.out.mono ?_; rintro e v6 ⟨rfl, s6, S6, hb6⟩)
  replace hb6 := hb5.trans hb6
  have hB6 := hb6.size
  clear HC5
  have HV := Lib.hid (vars_yes (k := 2) S6 (by decide))
  rw [works_vars] at HV
  have HS := Lib.hid S6
  clear S6
  go_wp2_with (go_at_call 12; refine HV.out.mono ?_; rintro e v7 ⟨u, rfl, hrow, hbv⟩)
  have S7 := HS.out.call hbv
  replace hb7 := hb6.trans (hbv.mono hB6)
  have HL := Lib.hid (len_any S7)
  clear S7 HV HS
  have hcell : (v7.alloc (.cells #[.int .i64 0] 3)).ownsRow 0 3 1 (.slice (some ⟨v7.heap.size, 0, none⟩) 1 1) [0].length (todoRow [0]) :=
    ⟨rfl, .inr ⟨v7.heap.size, 1, #[.int .i64 0], rfl, Nat.zero_le _, (MapKept.heap_alloc _ _).1, Nat.le_refl _, by unfold maxLen; omega, rfl, rfl⟩⟩
  have HI := Lib.hid (ints_same (hrow.alloc (.cells #[.int .i64 0] 3)) hcell (by decide))
  clear hrow hcell
  go_wp2_with (first | (go_at_call 15; refine HL.out.mono ?_; rintro e z ⟨rfl, rfl⟩) | (go_at_call 14; refine HI.out.mono ?_; rintro e z ⟨rfl, c, rfl⟩))
  go_ret
  exact ⟨rfl, (hb7.alloc (by have := hb7.size; omega) _).trans ⟨rfl, rfl, rfl, Nat.le_refl _, fun _ _ => rfl⟩⟩

end Tm
end Go.Proofs.Ytkfnekhjmnjloaa
