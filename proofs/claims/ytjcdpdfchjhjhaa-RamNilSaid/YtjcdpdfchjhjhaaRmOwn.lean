/-
  The program's memory: Bytes, Copy; all that it answers.
-/
import Derived.Test.YtjcdpdfchjhjhaaRmCl
import Derived.Test.YtjcdpdfchjhjhaaRmLd
import Derived.Test.YtjcdpdfchjhjhaaRmSt
namespace Go.Proofs.Ytjcdpdfchjhjhaa
open Go.RowKit
namespace Rm
set_option maxHeartbeats 1600000
set_option maxRecDepth 100000

theorem bytes_any {W : World} {p b z c : Nat} {f : Nat → Nat} (h : PrAt W p b z c f) : Calls Try.prog 16 #[.pointer (some ⟨p, 0, none⟩)] W (CloneE W z f) := by
  have HN := Lib.hid (isnone_no h)
  have HC := Lib.hid (clone_any h)
  have c0 := h.c0
  clear h
  go_enter Try.func16, Try.ntmps16
  go_wp2_with fail
  refine HN.out.mono ?_
  rintro e w ⟨rfl, rfl⟩
  go_wp2_with fail
  refine HC.out.mono ?_
  rintro e w ⟨b', c', rfl, h⟩
  have H := Lib.hid h
  clear h
  go_wp2_with fail
  go_ret
  exact ⟨b', c', rfl, H.out⟩
/-- What a copy is. -/
def CopyE (W : World) (z : Nat) (f : Nat → Nat) (e : Ending) (w : World) : Prop := ∃ p b c, e = .returned (.pointer (some ⟨p, 0, none⟩)) ∧ PrAt w p b z c f ∧ W.heap.size ≤ p ∧ W.heap.size ≤ b ∧ Only [] W w
theorem copy_any {W : World} {p b z c : Nat} {f : Nat → Nat} (h : PrAt W p b z c f) : Calls Try.prog 11 #[.pointer (some ⟨p, 0, none⟩)] W (CopyE W z f) := by
  have HN := Lib.hid (isnone_no h)
  have HC := Lib.hid (clone_any h)
  have HY := Lib.hid h.by_
  have HZ := Lib.hid h.le
  have c0 := h.c0
  have hbr := build_prog
  clear h
  go_enter Try.func11, Try.ntmps11
  go_wp2_with fail
  refine HN.out.mono ?_
  rintro e w ⟨rfl, rfl⟩
  go_wp2_with fail
  refine HC.out.mono ?_
  rintro e w ⟨b', c', rfl, h1, h2, h3, h4, h5, h6, h7⟩
  have HA : Hid (CopyE W z f (.returned (.pointer (some ⟨w.heap.size, 0, none⟩))) (w.alloc (.cells #[.slice (some ⟨b', 0, none⟩) z c'] 51))) := Lib.hid (by
    have hb : Only [] w (w.alloc (.cells #[.slice (some ⟨b', 0, none⟩) z c'] 51)) := (Only.refl [] w).alloc _
    have hs := h7.size
    refine ⟨w.heap.size, b', c', rfl, ⟨?_, fun j hj => (hb.box h6 (by simp) j).trans (h1 j hj), fun j => (frozen_blk (hb.blk b' h6 (by simp)) j).trans (h2 j), HY.out, HZ.out, ⟨h3, h4⟩, ⟨by simp, by simp; omega⟩, by omega⟩, hs, h5, h7.trans hb⟩
    have := (cell_of (MapKept.heap_alloc w (.cells #[.slice (some ⟨b', 0, none⟩) z c'] 51)).1 0).1
    rw [this]
    rfl)
  clear h1 h2 h3 h4 h5 h6 h7
  go_wp2_with fail
  go_ret
  exact HA.out
/-- The program's memory: its struct and its bytes. -/
def PAt (w : World) (p : Nat) (bs : List Nat) (z : Nat) (f : Nat → Nat) : Prop := ∃ b c, bs = [p, b] ∧ PrAt w p b z c f
theorem api : Api PAt where
  own := by
    rintro w p bs z f ⟨b, c, rfl, h⟩ k hk
    simp only [List.mem_cons, List.not_mem_nil, or_false] at hk
    rcases hk with rfl | rfl
    · exact h.lt.1
    · exact h.lt.2
  keep := by
    rintro w w' p bs cs z f ⟨b, c, rfl, h⟩ o hn
    exact ⟨b, c, rfl, h.only o (hn p (by simp)) (hn b (by simp))⟩
  byt := by
    rintro w p bs z f ⟨b, c, rfl, h⟩
    exact ⟨h.by_, h.le⟩
  newNo := fun n W hn => (new_no hn W).mono (by rintro e w ⟨rfl, rfl⟩; exact ⟨rfl, Only.refl _ _⟩)
  newYes := fun n W hn => (new_yes hn W).mono (by
    rintro e w ⟨p, b, rfl, h, ho, h1, h2⟩
    refine ⟨p, [p, b], rfl, ⟨b, n, rfl, h⟩, ho, fun k hk => ?_⟩
    simp only [List.mem_cons, List.not_mem_nil, or_false] at hk
    rcases hk with rfl | rfl
    · exact h1
    · exact h2)
  load := by
    rintro W p bs z f a n ⟨b, c, rfl, h⟩ ha
    exact (load_any h ha n).mono (by rintro e w ⟨rfl, rfl⟩; exact ⟨rfl, Only.refl _ _⟩)
  store := by
    rintro W p bs z f a n v ⟨b, c, rfl, h⟩ ha hv
    exact (store_any h ha n hv).mono (by
      rintro e w ⟨rfl, h1, ho⟩
      exact ⟨rfl, ⟨b, c, rfl, h1⟩, ⟨ho.os, ho.tape, ho.output, ho.size, fun k hk hn => ho.blk k hk (fun e => hn (by simp at e; simp [e]))⟩⟩)
  bytes := by
    rintro W p bs z f ⟨b, c, rfl, h⟩
    exact (bytes_any h).mono (by
      rintro e w ⟨b', c', rfl, h1, h2, _, _, h5, h6, h7⟩
      exact ⟨b', c', rfl, ⟨fun j hj => by rw [Nat.zero_add]; exact h1 j hj, h6⟩, h5, h2, h7⟩)
  size := by
    rintro W p bs z f ⟨b, c, rfl, h⟩
    exact size_any h
  copy := by
    rintro W p bs z f ⟨b, c, rfl, h⟩
    exact (copy_any h).mono (by
      rintro e w ⟨q, b', c', rfl, h1, h2, h3, h4⟩
      refine ⟨q, [q, b'], rfl, ⟨b', c', rfl, h1⟩, fun k hk => ?_, h4⟩
      simp only [List.mem_cons, List.not_mem_nil, or_false] at hk
      rcases hk with rfl | rfl
      · exact h2
      · exact h3)
end Rm
end Go.Proofs.Ytjcdpdfchjhjhaa
