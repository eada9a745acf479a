/-
  The program's number, whatever the word.
-/
import Derived.Test.YtcpehdeddgfpmaaDoorCuNumb
import Derived.Test.YtcpehdeddgfpmaaDoorCuNumP
import Derived.Lib.AtoiAllCases
import Derived.Shelf.Strconv.AtoiAll
namespace Go.Proofs.YtcpehdeddgfpmaaDoor
open Go.RowKit Go.Shelf
namespace Cf
set_option maxHeartbeats 3200000
set_option maxRecDepth 100000

/-- The package's own variables that strconv reads: the powers of ten, and two errors. -/
structure Sees (W : World) : Prop where
  tens : Tens W
  e1 : ∃ te pe, W.cell? ⟨2, 0, none⟩ = some (.iface te pe)
  e2 : ∃ te pe, W.cell? ⟨3, 0, none⟩ = some (.iface te pe)
theorem Sees.keep {w w' : World} (h : Sees w) (k : Below w.heap.size w w') : Sees w' := by
  refine ⟨h.tens.keep k, ?_, ?_⟩
  · obtain ⟨te, pe, hc⟩ := h.e1
    exact ⟨te, pe, (k.cell (p := ⟨_, 0, none⟩) (World.block_lt_of_cell? w _ hc)).trans hc⟩
  · obtain ⟨te, pe, hc⟩ := h.e2
    exact ⟨te, pe, (k.cell (p := ⟨_, 0, none⟩) (World.block_lt_of_cell? w _ hc)).trans hc⟩

theorem atoi_no {s : ByteArray} {W : World} (hE : Sees W) (hs : s.size ≤ 1000000000) (h : ∀ v, Lib.atoiAll s.data.toList ≠ .ok v) :
    Calls Tryd.prog 51 #[.string s] W fun e w => ∃ x N, e = .returned (.tuple #[.int .i64 x, .iface 116 (.pointer (some ⟨N, 0, none⟩))]) ∧ Below W.heap.size W w := by
  obtain ⟨te1, pe1, h1⟩ := hE.e1
  obtain ⟨te2, pe2, h2⟩ := hE.e2
  cases hA : Lib.atoiAll s.data.toList with
  | ok v => exact absurd hA (h v)
  | range =>
    refine (Any.strconv_Atoi_range Tryd.laysC172 s (by omega) hA _ W h2 (.inr ⟨_, _, rfl⟩)).mono ?_
    rintro e w ⟨N, rfl, _, _, hb⟩
    exact ⟨_, N, rfl, hb⟩
  | _ =>
    refine (Any.strconv_Atoi_syntax Tryd.laysC172 s (by omega) hA _ W h1 (.inr ⟨_, _, rfl⟩)).mono ?_
    rintro e w ⟨N, rfl, _, _, hb⟩
    exact ⟨_, N, rfl, hb⟩

/-- What a word says, if it is how a number is written. -/
def rdN (s : By) : Option Int := match Lib.atoiAll s with
  | .ok v => if decI v = s then some v else none
  | _ => none
theorem rdN_read {s : By} {z : Int} (h : readB s = some z) : rdN s = some z := by
  obtain ⟨h1, h2, h3⟩ := read_is h
  unfold rdN
  rw [← h1, atoi_dec h2 h3]
  simp
theorem read_rdN {s : By} {z : Int} (h : rdN s = some z) (h1 : -1000000000 < z) (h2 : z < 1000000000) : readB s = some z := by
  unfold rdN at h
  split at h
  · split at h
    · rename_i v _ hv
      injection h with h
      subst h
      rw [← hv]
      exact read_dec h1 h2
    · cases h
  · cases h

/-- What number answers. -/
def NumE (s : By) (W : World) (e : Ending) (w : World) : Prop := Below W.heap.size W w ∧ ∃ x b, e = .returned (.tuple #[.int .i64 x, .bool b]) ∧ (b = true → rdN s = some x) ∧ (b = false → rdN s = none)
theorem cnumber_any {s : ByteArray} {W : World} (hE : Sees W) (hs : s.size ≤ 1000000000) :
    Calls Tryd.prog 35 #[.string s] W (NumE s.data.toList W) := by
  rcases Classical.em (∃ v, Lib.atoiAll s.data.toList = .ok v) with ⟨v, hA⟩ | hA
  · have hv := Lib.atoiAll_bounds hA
    by_cases hd : decI v = s.data.toList
    · refine (cnumber_yes s v W hE.tens hs (by omega) (by omega) hA (by rw [hd])).mono ?_
      rintro e w ⟨rfl, hb⟩
      exact ⟨hb, v, true, rfl, (fun _ => by unfold rdN; rw [hA]; simp [hd]), fun h => by cases h⟩
    · have HA := Lib.hid (Tryd.strconv_Atoi_ok s (by omega) v hA W)
      have HI := Lib.hid (fun (w : World) (hT : Tens w) => citoa_any (z := v) hT (by omega) (by omega))
      have HT := Lib.hid hE.tens
      have HN : Hid (rdN s.data.toList = none) := Lib.hid (by unfold rdN; rw [hA]; simp [hd])
      have q : ((⟨(decI v).toArray⟩ : ByteArray).toList == s.toList) = false := by
        rw [beq_eq_false_iff_ne]
        intro c
        apply hd
        have h1 : (⟨(decI v).toArray⟩ : ByteArray).toList = (⟨(decI v).toArray⟩ : ByteArray).data.toList := Lib.toList_data _
        have h2 : s.toList = s.data.toList := Lib.toList_data _
        rw [h1, h2] at c
        simpa using c
      have HQ2 : Hid (¬ decI v = s.toList) := Lib.hid (by rw [Lib.toList_data]; exact hd)
      clear hA hd hv hE
      go_enter Tryd.func35, Tryd.ntmps35
      go_wp2_with fail
      refine HA.out.mono ?_
      rintro e w ⟨rfl, hw⟩
      have HB : Hid (Below W.heap.size W w) := by
        show Below _ _ _
        rcases hw with rfl | ⟨t, rfl⟩
        · exact Below.refl _ _
        · exact Lib.bytesWorld_below _ _ _
      clear hw
      go_wp2_with fail
      refine (HI.out _ (HT.out.keep HB.out)).mono ?_
      rintro e w2 ⟨rfl, hb2⟩
      go_wp2_with fail
      refine bodyPost_ret (v := .tuple #[.int .i64 v, .bool false]) (by simp [results, Tryd.results35, go_sem, HQ2.out]) rfl ⟨bel_call HB.out hb2, v, false, rfl, (fun h => by cases h), fun _ => HN.out⟩
  · have HA := Lib.hid (atoi_no hE hs (fun v h => hA ⟨v, h⟩))
    have HN : Hid (rdN s.data.toList = none) := Lib.hid (by
      unfold rdN
      split
      · rename_i v hv; exact absurd ⟨v, hv⟩ hA
      · rfl)
    clear hA hE
    go_enter Tryd.func35, Tryd.ntmps35
    go_wp2_with fail
    refine HA.out.mono ?_
    rintro e w ⟨x, N, rfl, hb⟩
    go_wp2_with fail
    exact bodyPost_ret (v := .tuple #[.int .i64 x, .bool false]) (by simp [results, Tryd.results35, go_sem]) rfl ⟨hb, x, false, rfl, (fun h => by cases h), fun _ => HN.out⟩
end Cf
end Go.Proofs.YtcpehdeddgfpmaaDoor
