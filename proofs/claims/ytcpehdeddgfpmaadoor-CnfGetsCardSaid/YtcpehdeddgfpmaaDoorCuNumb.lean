/-
  The program's number, heading and Get of one text without an end.
-/
import Derived.Test.YtcpehdeddgfpmaaDoorCuGet0
import Derived.Test.YtcpehdeddgfpmaaDoorCuCut
import Derived.Lib.AtoiErrMem
import Derived.Test.YtcpehdeddgfpmaaDoorCfGet
namespace Go.Proofs.YtcpehdeddgfpmaaDoor
open Go.RowKit Go.Shelf
namespace Cf
set_option maxHeartbeats 3200000
set_option maxRecDepth 100000
theorem cnumber_yes (s : ByteArray) (v : Int) (W : World) (hT : Tens W) (hs : s.size ≤ 1000000000) (h0 : -9223372036854775808 ≤ v) (h1 : v < 9223372036854775808) (hA : Lib.atoiAll s.data.toList = .ok v) (hI : (⟨(decI v).toArray⟩ : ByteArray) = s) :
    Calls Tryd.prog 35 #[.string s] W fun e w => e = .returned (.tuple #[.int .i64 v, .bool true]) ∧ Below W.heap.size W w := by
  have HA := Lib.hid (Tryd.strconv_Atoi_ok s (by omega) v hA W)
  have HI := Lib.hid (fun (w : World) (hT : Tens w) => citoa_any (z := v) hT h0 h1)
  have HT := Lib.hid hT
  rw [hI] at HI
  clear hT hA hI
  have q : (s.toList == s.toList) = true := by simp
  go_enter Tryd.func35, Tryd.ntmps35
  go_wp2_with fail
  refine HA.out.mono ?_
  rintro e w ⟨rfl, hw⟩
  have HB : Hid (Below W.heap.size W w) := by
    show Below _ _ _
    rcases hw with rfl | ⟨t, rfl⟩
    · exact Below.refl _ _
    · exact Lib.bytesWorld_below _ _ _
  clear hw
  go_wp2_with fail
  refine (HI.out _ (HT.out.keep HB.out)).mono ?_
  rintro e w2 ⟨rfl, hb2⟩
  go_wp2_with fail
  exact bodyPost_ret (by simp [results, Tryd.results35, go_sem]) rfl ⟨rfl, bel_call HB.out hb2⟩
theorem number0 (W : World) (hT : Tens W) : Calls Tryd.prog 35 #[.string ⟨#[48]⟩] W fun e w => e = .returned (.tuple #[.int .i64 0, .bool true]) ∧ Below W.heap.size W w :=
  cnumber_yes ⟨#[48]⟩ 0 W hT (by decide) (by decide) (by decide) (by decide) (by have d1 : dec 0 = [48] := dec_small (by decide); simp [decI, d1])
theorem number1 (W : World) (hT : Tens W) : Calls Tryd.prog 35 #[.string ⟨#[49]⟩] W fun e w => e = .returned (.tuple #[.int .i64 1, .bool true]) ∧ Below W.heap.size W w :=
  cnumber_yes ⟨#[49]⟩ 1 W hT (by decide) (by decide) (by decide) (by decide) (by have d1 : dec 1 = [49] := dec_small (by decide); simp [decI, d1])
theorem heading01 (W : World) (hT : Tens W) : Calls Tryd.prog 15 #[.string ⟨#[112, 32, 99, 110, 102, 32, 48, 32, 49]⟩] W fun e w => e = .returned (.tuple #[.int .i64 0, .int .i64 1, .bool true]) ∧ Below W.heap.size W w := by
  have HT := Lib.hid hT
  have HP : Hid (∀ w, Calls Tryd.prog 34 #[.string ⟨#[112, 32, 99, 110, 102, 32, 48, 32, 49]⟩, .string ⟨#[112, 32, 99, 110, 102, 32]⟩] w fun e w' => e = .returned (.tuple #[.string ⟨#[48, 32, 49]⟩, .bool true]) ∧ w' = w) := by
    show ∀ w, _
    intro w
    exact (Tryd.strings_CutPrefix _ _ w)
  have HC : Hid (∀ w : World, Calls Tryd.prog 14 #[.string ⟨#[48, 32, 49]⟩, .string ⟨#[32]⟩] w fun e w' => e = .returned (.tuple #[.string ⟨#[48]⟩, .string ⟨#[49]⟩, .bool true]) ∧ Below w.heap.size w w') := by
    show ∀ w : World, _
    intro w
    exact scut_yes ⟨#[48, 32, 49]⟩ 32 w 1 (by decide) (by decide) (by decide)
  clear hT
  go_enter Tryd.func15, Tryd.ntmps15
  go_wp2_with fail
  refine (HP.out _).mono ?_
  rintro e w ⟨rfl, rfl⟩
  go_wp2_with fail
  refine (HC.out _).mono ?_
  rintro e w1 ⟨rfl, hb1⟩
  have HB1 := Lib.hid hb1
  clear hb1
  go_wp2_with fail
  refine (number0 _ (HT.out.keep HB1.out)).mono ?_
  rintro e w2 ⟨rfl, hb2⟩
  have HB2 := Lib.hid (bel_call HB1.out hb2)
  clear hb2
  go_wp2_with fail
  refine (number1 _ (HT.out.keep HB2.out)).mono ?_
  rintro e w3 ⟨rfl, hb3⟩
  have HB3 := Lib.hid (bel_call HB2.out hb3)
  clear hb3
  go_wp2_with fail
  exact bodyPost_ret (by simp [results, Tryd.results15, go_sem]) rfl ⟨rfl, HB3.out⟩
theorem cget_01 (W : World) (hT : Tens W) : Calls Tryd.prog 6 #[.string ⟨#[112, 32, 99, 110, 102, 32, 48, 32, 49]⟩] W fun e w => e = .returned (.tuple #[.agg #[.int .i64 0, .slice none 0 0], .int .i64 5]) ∧ Below W.heap.size W w := by
  have HT := Lib.hid hT
  have HC : Hid (∀ w : World, Calls Tryd.prog 14 #[.string ⟨#[112, 32, 99, 110, 102, 32, 48, 32, 49]⟩, .string ⟨#[10]⟩] w fun e w' => e = .returned (.tuple #[.string ⟨#[112, 32, 99, 110, 102, 32, 48, 32, 49]⟩, .string ⟨#[]⟩, .bool false]) ∧ w' = w) := by
    show ∀ w : World, _
    intro w
    exact scut_no _ 10 w (by decide)
  clear hT
  go_enter Tryd.func6, Tryd.ntmps6
  go_wp2_with fail
  refine (HC.out _).mono ?_
  rintro e w ⟨rfl, rfl⟩
  have HR : Hid (ResAt W.heap.size 0 (.slice none 0 0) (W.alloc (.cells #[.int .i64 0, .slice none 0 0] 25))) := ResAt.new
  have HB := Lib.hid (bel_alloc (Below.refl W.heap.size W) (.cells #[.int .i64 0, .slice none 0 0] 25))
  generalize W.alloc (.cells #[.int .i64 0, .slice none 0 0] 25) = V at HR HB ⊢
  go_wp2_with fail
  refine (heading01 _ (HT.out.keep HB.out)).mono ?_
  rintro e w2 ⟨rfl, hb2⟩
  have HB2 := Lib.hid (bel_call HB.out hb2)
  have HR2 := Lib.hid (HR.out.call hb2)
  clear hb2 HR
  go_wp2_with fail
  refine (areclauses_none _ 1 (by decide)).mono ?_
  rintro e w3 ⟨rfl, hb3⟩
  have HB3 := Lib.hid (bel_call HB2.out hb3)
  have HR3 := Lib.hid (HR2.out.call hb3)
  clear hb3
  have c0 := HR3.out.c0
  have c1 := HR3.out.c1
  have lb := HR3.out.lt
  have hz : ∀ w : World, (Instr.build 25 #[]).run Tryd.prog w = .ok (.agg #[.int .i64 0, .slice none 0 0]) w := build_zero
  have f0 := HR3.out.fr 0
  have f1 := HR3.out.fr 1
  go_wp2_with fail
  obtain ⟨p0, p1⟩ := two_put (v := 0) (u := .slice none 0 0) HR3.out
  exact bodyPost_ret (v := .tuple #[.agg #[.int .i64 0, .slice none 0 0], .int .i64 5]) (by simp [results, Tryd.results6, go_sem, p0, p1]) rfl ⟨rfl, by repeat (first | exact HB3.out | (refine Below.setCell ?_ (by simp) _))⟩
end Cf
end Go.Proofs.YtcpehdeddgfpmaaDoor
