/-
  The program's Levels.
-/
import Derived.Test.YtbkjmhpmaclbeaaLuVals
import Derived.Test.YtbkjmhpmaclbeaaLuDist
import Derived.Test.YtbkjmhpmaclbeaaLuShelf
import Derived.Test.YtbkjmhpmaclbeaaTmShelf
import Derived.Sort.OwnSortedInts
namespace Go.Proofs.Ytbkjmhpmaclbeaa
open Go.RowKit Go.Shelf Go.Sort
namespace Lu
set_option maxHeartbeats 2000000
set_option maxRecDepth 100000

/-- Sorted in a new slice. -/
def SortedE (W : World) (T : List Int) (e : Ending) (w : World) : Prop := Below W.heap.size W w ∧
  ((T = [] ∧ e = .returned (.slice none 0 0)) ∨ ∃ g cap, W.heap.size ≤ g ∧ e = .returned (.slice (some ⟨g, 0, none⟩) T.length cap) ∧ T.length ≤ cap ∧ g < w.heap.size ∧ Holds (Value.int .i64) w g 0 (T.mergeSort fun x y => decide (x ≤ y)).toArray)
theorem sorted_any (Bs len cap : Nat) (al : Option Addr) (T : List Int) (w : World) (hl : len = T.length) (hlen : len ≤ 1000000) (hBs : Bs < w.heap.size) (hc : w.cell? ⟨Bs, 0, none⟩ = some (.slice al len cap)) (hT : LiAt w al T) :
    Calls Try.prog 17 #[.func (.func 23) #[] #[.pointer (some ⟨Bs, 0, none⟩)]] w (SortedE w T) := by
  have HC := Lib.hid (collect_any Bs len cap al T w hl hlen hBs hc hT)
  have HL := Lib.hid hl
  have HN := Lib.hid hlen
  clear hl hT hc hlen
  go_enter Try.func17, Try.ntmps17
  go_wp2_with fail
  refine (HC.out).mono ?_
  rintro e w1 ⟨v, rfl, hr, hb⟩
  have HB := Lib.hid hb
  clear hb
  rcases hr.2 with ⟨rfl, h0⟩ | ⟨g, cp, cur, rfl, hbase, hh, h1, h2, h3, h4⟩
  · have h0' : T = [] := List.eq_nil_of_length_eq_zero h0
    subst h0'
    clear hr h0
    go_wp2_with fail
    refine (Try.slices_Sort_int_none none 0 w1).mono ?_
    rintro e w' ⟨rfl, rfl⟩
    go_wp2_with fail
    go_ret
    exact ⟨HB.out, .inl ⟨rfl, rfl⟩⟩
  · have hS : T.length < 4611686018427387904 := by have := HL.out; have := HN.out; omega
    have hc := Try.slices_Sort_int g 0 cp T w1 (holds_of_blockI hh (by simpa using h4)) (Array.getElem?_eq_some_iff.1 hh).1 hS
    have hlen2 : (T.mergeSort fun x y => decide (x ≤ y)).length = T.length := List.length_mergeSort T
    have HHH : Hid (∀ n os, Below w.heap.size w (grow (putRow (Value.int .i64) (Sort.ahead w1 n) g 0 (T.mergeSort fun x y => decide (x ≤ y)).toArray) os) ∧ g < (grow (putRow (Value.int .i64) (Sort.ahead w1 n) g 0 (T.mergeSort fun x y => decide (x ≤ y)).toArray) os).heap.size ∧ Holds (Value.int .i64) (grow (putRow (Value.int .i64) (Sort.ahead w1 n) g 0 (T.mergeSort fun x y => decide (x ≤ y)).toArray) os) g 0 (T.mergeSort fun x y => decide (x ≤ y)).toArray) := Lib.hid (fun n os => by
      have hg := heap_sortedI (n := n) (os := os) (T.mergeSort fun x y => decide (x ≤ y)).toArray hh
      refine ⟨HB.out.grown (grownBy_sortedI _) HB.out.size (fun j hj => by cases hj; exact hbase), (Array.getElem?_eq_some_iff.1 hg).1, holds_of_blockI hg (take_putCellsI cur _ (by rw [hlen2]; omega))⟩)
    have HG : Hid (w.heap.size ≤ g ∧ T.length ≤ cp) := Lib.hid ⟨hbase, h1⟩
    have HC2 := Lib.hid hc
    clear hc hh h1 h2 h3 h4 hr hbase hS hlen2 HC
    go_wp2_with fail
    refine (HC2.out).mono ?_
    rintro e w' ⟨rfl, n, os, rfl⟩
    have H3 := Lib.hid (HHH.out n os)
    generalize grow (putRow (Value.int .i64) (Sort.ahead w1 n) g 0 (T.mergeSort fun x y => decide (x ≤ y)).toArray) os = w2 at H3 ⊢
    clear HHH HC2
    go_wp2_with fail
    go_ret
    exact ⟨H3.out.1, .inr ⟨g, cp, HG.out.1, rfl, HG.out.2, H3.out.2.1, H3.out.2.2⟩⟩
theorem levels_any (W : World) (al : Option Addr) (T : List Int) (len cap : Nat) (hT : LiAt W al T) (hl : len = T.length) (hn : len ≤ 200) : Calls Try.prog 9 #[.slice al len cap] W fun e w => e = .returned (.int .i64 ((levP T len : Nat) : Int)) ∧ Below W.heap.size W w := by
  have HL := Lib.hid hl
  have HN := Lib.hid hn
  have HT := Lib.hid hT
  clear hl hn hT
  go_enter Try.func9, Try.ntmps9
  go_wp2_with fail
  refine (values_any W al len cap).mono ?_
  rintro e w1 ⟨rfl, hw1⟩
  have hb1 : Below W.heap.size W w1 := by rw [hw1]; exact (Below.refl _ _).alloc (Nat.le_refl _) _
  have hbx : Boxed w1 W.heap.size 22 (.slice al len cap) := by rw [hw1]; exact Boxed.new W _ _
  have hT1 : LiAt w1 al T := by
    rcases HT.out with h | ⟨b, o, e, hl, hc⟩
    · exact .inl h
    · exact .inr ⟨b, o, e, Nat.lt_of_lt_of_le hl hb1.size, fun i x hx => (hb1.cell (p := ⟨b, _, none⟩) hl).trans (hc i x hx)⟩
  have HS := Lib.hid (sorted_any W.heap.size len cap al T w1 HL.out (by have := HN.out; omega) hbx.lt hbx.cell hT1)
  have HB1 := Lib.hid hb1
  clear hw1 hb1 hbx hT1
  go_wp2_with fail
  refine (HS.out).mono ?_
  rintro e w2 ⟨hb, ⟨h0, rfl⟩ | ⟨g, cp, hg, rfl, hcp, hgl, hH⟩⟩
  · have HB2 : Hid (Below W.heap.size W w2) := Lib.hid (HB1.out.trans (hb.mono HB1.out.size))
    have H0 := Lib.hid h0
    clear hb h0
    go_wp2_with fail
    refine (Try.slices_Compact_int_empty none 0 w2).mono ?_
    rintro e w' ⟨rfl, rfl⟩
    go_wp2_with fail
    go_ret
    refine ⟨?_, HB2.out⟩
    have : len = 0 := by rw [HL.out, H0.out]; rfl
    subst this
    rfl
  · have hlen2 : (T.mergeSort fun x y => decide (x ≤ y)).length = T.length := List.length_mergeSort T
    have hc := Try.slices_Compact_int g 0 cp (T.mergeSort fun x y => decide (x ≤ y)) w2 hH (by rw [hlen2]; have := HL.out; have := HN.out; omega) (by rw [hlen2]; exact hcp)
    rw [hlen2, lev_compact, ← HL.out] at hc
    have HC := Lib.hid hc
    have hle : levP T len ≤ 200 := Nat.le_trans (levP_le T len) HN.out
    have HBW : Hid (∀ q (d : List Int), Below W.heap.size W (putRow (Value.int .i64) (Sort.ahead w2 q) g 0 d.toArray)) := Lib.hid (fun q d => by
      have k := grownBy_sortedI (w := w2) (g := g) (n := q) (os := #[]) d.toArray
      rw [grow_empty] at k
      refine (HB1.out.trans (hb.mono HB1.out.size)).grown k ?_ (fun j hj => by cases hj; exact Nat.le_trans HB1.out.size hg)
      exact Nat.le_trans HB1.out.size hb.size)
    clear hc hb hH hlen2 hg hcp hgl
    rw [← HL.out]
    go_wp2_with fail
    refine (HC.out).mono ?_
    rintro e w' ⟨rfl, q, rfl⟩
    go_wp2_with fail
    go_ret
    exact ⟨rfl, HBW.out _ _⟩
end Lu
end Go.Proofs.Ytbkjmhpmaclbeaa
