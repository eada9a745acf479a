/-
  The program's Get of one text without an end.
-/
import Derived.Test.YtcpehdeddgfpmaaDoorCuPut
import Derived.RangeFuncNested
import Derived.RangeFuncBound
import Derived.RangeFuncCalls
import Derived.RangeFuncLeaves
import Derived.Shelf.Abstract
import Derived.Shelf.RegionOpen
import Derived.WalkKit
import Derived.OwnWalkIn
import Derived.TacticsInMore
import Derived.LoopNIn
import Derived.LoopIn
namespace Go.Proofs.YtcpehdeddgfpmaaDoor
open Go.RowKit Go.Shelf
namespace Cf
set_option maxHeartbeats 3200000
set_option maxRecDepth 100000
theorem lines_any (W : World) (s : ByteArray) : Calls Tryd.prog 18 #[.string s] W fun e w => e = .returned (.func (.func 39) #[] #[.pointer (some ⟨W.heap.size, 0, none⟩)]) ∧ w = W.alloc (.cells #[.string s] 9) := by
  go_enter Tryd.func18, Tryd.ntmps18
  go_wp2_with fail
  go_ret
  exact ⟨rfl, rfl⟩
theorem lines_none (F : Fence) (n : Nat) (hf : F.fn 39) (hro : F.round = none) (_hn : 1 ≤ n) (B : Nat) (W : World) (l : Nat) (h : W.cell? ⟨B, 0, none⟩ = some (.string ⟨#[]⟩)) :
    CallsIn F n Tryd.prog 39 #[.func (.yield l) #[] #[], .pointer (some ⟨B, 0, none⟩)] W fun e W' => (∃ v, e = .returned v) ∧ W' = W := by
  refine callsIn_of_wp Tryd.func39 rfl hf ?_ hro
  simp only [Tryd.ntmps39, List.size_toArray, List.length_cons, List.length_nil, Nat.reduceAdd, Nat.reduceSub, Array.replicate_succ, Array.replicate_zero, List.push_toArray, List.append_toArray, List.nil_append, List.cons_append]
  gi_wp2
  gi_loopw [3] (fun _ wr => wr = W) (fun _ _ => 0)
  case atStart => exact rfl
  case round =>
    obtain rfl : _ = W := hrel
    gi_wp2
    go_end0
    exact ⟨⟨_, rfl⟩, rfl⟩
theorem lines_stops (F : Fence) (n : Nat) (hf : F.fn 39) (hro : F.round = none) (hn : 1 ≤ n) (B m : Nat) (w : World) (hB : B < w.heap.size) (h : w.cell? ⟨B, 0, none⟩ = some (.string ⟨#[]⟩)) :
    SeqStopsK (α := Empty) F n Tryd.prog 39 #[.pointer (some ⟨B, 0, none⟩)] (fun _ => #[.string ⟨#[]⟩]) (Below m) (fun xs => xs = []) (fun _ => False) 0 w := by
  intro l J Jx W hW _ _ _ h0
  refine (lines_none F n hf hro hn B W l ((hW.cell (p := ⟨B, 0, none⟩) hB).trans h)).mono ?_
  rintro e W' ⟨hv, rfl⟩
  exact ⟨hv, .inl ⟨[], rfl, h0⟩⟩
theorem cnew (W : World) (v : Value) (t : TypeId) : (W.alloc (.cells #[v] t)).cell? ⟨W.heap.size, 0, none⟩ = some v ∧ (W.alloc (.cells #[v] t)).frozen? ⟨W.heap.size, 0, none⟩ = false := by
  have h : (W.alloc (.cells #[v] t)).heap[W.heap.size]? = some (.cells #[v] t (0, 0)) := World.alloc_heap_new W _
  generalize W.alloc (.cells #[v] t) = V at h ⊢
  constructor <;> simp [World.cell?, World.frozen?, h]
theorem calloc {W : World} {a : Addr} {v : Value} (o : Obj) (h : W.cell? a = some v) : (W.alloc o).cell? a = some v := cell_kept h (World.grownBy_alloc W o none) (fun r e => by cases e)
theorem falloc {W : World} {a : Addr} {v : Value} (o : Obj) (h : W.cell? a = some v) (hf : W.frozen? a = false) : (W.alloc o).frozen? a = false := (frozen_kept h (World.grownBy_alloc W o none) (fun r e => by cases e)).trans hf
theorem four_cells (W : World) : ((((W.alloc (.cells #[.int .i64 0] 3)).alloc (.cells #[.bool false] 4)).alloc (.cells #[.int .i64 0] 3)).alloc (.cells #[.string ⟨#[]⟩] 9)).cell? ⟨W.heap.size + 1 + 1, 0, none⟩ = some (.int .i64 0) ∧
    ((((W.alloc (.cells #[.int .i64 0] 3)).alloc (.cells #[.bool false] 4)).alloc (.cells #[.int .i64 0] 3)).alloc (.cells #[.string ⟨#[]⟩] 9)).cell? ⟨W.heap.size + 1, 0, none⟩ = some (.bool false) ∧
    ((((W.alloc (.cells #[.int .i64 0] 3)).alloc (.cells #[.bool false] 4)).alloc (.cells #[.int .i64 0] 3)).alloc (.cells #[.string ⟨#[]⟩] 9)).frozen? ⟨W.heap.size + 1, 0, none⟩ = false ∧
    ((((W.alloc (.cells #[.int .i64 0] 3)).alloc (.cells #[.bool false] 4)).alloc (.cells #[.int .i64 0] 3)).alloc (.cells #[.string ⟨#[]⟩] 9)).cell? ⟨W.heap.size + 1 + 1 + 1, 0, none⟩ = some (.string ⟨#[]⟩) ∧
    ((((W.alloc (.cells #[.int .i64 0] 3)).alloc (.cells #[.bool false] 4)).alloc (.cells #[.int .i64 0] 3)).alloc (.cells #[.string ⟨#[]⟩] 9)).heap.size = W.heap.size + 1 + 1 + 1 + 1 ∧
    Below W.heap.size W ((((W.alloc (.cells #[.int .i64 0] 3)).alloc (.cells #[.bool false] 4)).alloc (.cells #[.int .i64 0] 3)).alloc (.cells #[.string ⟨#[]⟩] 9)) := by
  have hb := bel_alloc (bel_alloc (bel_alloc (bel_alloc (Below.refl W.heap.size W) (.cells #[.int .i64 0] 3)) (.cells #[.bool false] 4)) (.cells #[.int .i64 0] 3)) (.cells #[.string ⟨#[]⟩] 9)
  have a1 := cnew (W.alloc (.cells #[.int .i64 0] 3)) (.bool false) 4
  have a2 := cnew ((W.alloc (.cells #[.int .i64 0] 3)).alloc (.cells #[.bool false] 4)) (.int .i64 0) 3
  have a3 := cnew (((W.alloc (.cells #[.int .i64 0] 3)).alloc (.cells #[.bool false] 4)).alloc (.cells #[.int .i64 0] 3)) (.string ⟨#[]⟩) 9
  simp only [World.size_alloc] at a1 a2 a3
  exact ⟨calloc _ a2.1, calloc _ (calloc _ a1.1), falloc _ (calloc _ a1.1) (falloc _ a1.1 a1.2), a3.1, by simp, hb⟩
theorem areclauses_none (W : World) (c : Int) (hc : (0 == c) = false) : Calls Tryd.prog 16 #[.string ⟨#[]⟩, .int .i64 0, .int .i64 c] W fun e w => e = .returned (.bool false) ∧ Below W.heap.size W w := by
  have H4 := Lib.hid (four_cells W)
  refine (callsIn_wide (n := 3)).1 ?_
  refine callsIn_of_wp_marks Tryd.func16 rfl trivial ?_ rfl
  simp only [Tryd.ntmps16, List.size_toArray, List.length_cons, List.length_nil, Nat.reduceAdd, Nat.reduceSub, Array.replicate_succ, Array.replicate_zero, List.push_toArray, List.append_toArray, List.nil_append, List.cons_append]
  gi_wp2_with (refine ⟨trivial, ?_⟩; gi_at_call 18; refine (callsIn_wide.2 (lines_any _ _)).mono ?_; rintro e w' ⟨rfl, rfl⟩)
  generalize ((((W.alloc (.cells #[.int .i64 0] 3)).alloc (.cells #[.bool false] 4)).alloc (.cells #[.int .i64 0] 3)).alloc (.cells #[.string ⟨#[]⟩] 9)) = V at H4 ⊢
  obtain ⟨k1, k2, k3, k4, k5, k6⟩ := H4.out
  refine wpIn_rangeFunc_ownF (α := Empty) rfl (by decide) (gf := 39) (lb := #[.pointer (some ⟨W.heap.size + 1 + 1 + 1, 0, none⟩)]) rfl trivial (enters_of Tryd.func39 (by kernel_rfl) rfl)
    (lines_stops Fence.wide (3 - 1) trivial rfl (by decide) (W.heap.size + 1 + 1 + 1) W.heap.size V (by omega) k4) belowK_t (belowK_b (by omega)) (Below.refl _ _) (fun x => x.elim)
    (fun _ w => (w.cell? ⟨W.heap.size + 1 + 1, 0, none⟩ = some (.int .i64 0) ∧ w.cell? ⟨W.heap.size + 1, 0, none⟩ = some (.bool false) ∧ w.frozen? ⟨W.heap.size + 1, 0, none⟩ = false) ∧ Below W.heap.size W w)
    (fun _ _ _ => False)
    (OwnFrom.and (Own.from (fun s A B row hs hg hr => ⟨cell_kept hs.1 hg hr, cell_kept hs.2.1 hg hr, (frozen_kept hs.2.1 hg hr).trans hs.2.2⟩) _) (ownFrom_below (Nat.le_refl _) (by omega)))
    (fun _ _ _ _ _ hs _ _ => hs)
    ⟨⟨k1, k2, k3⟩, k6⟩ (fun x => x.elim) (fun _ x => x.elim) (fun _ _ x => x.elim) ?done ?stop
  case done =>
    rintro D ys V2 hD rfl ⟨⟨c2, c1, f1⟩, hB⟩ hK
    have HB := Lib.hid hB
    clear hB
    gi_wp2
    have hK2 := (KeepsOthers.setCell V2 ⟨W.heap.size + 1, 0, none⟩ (.bool false)).same D _ hK rfl
    have c1' : (V2.setCell ⟨W.heap.size + 1, 0, none⟩ (.bool false)).cell? ⟨W.heap.size + 1, 0, none⟩ = some (.bool false) := World.cell?_setCell_same' _ _ _ (by rw [c1]; rfl)
    have c3 := cell_kept c1' (grownBy_putObj' _ D (.deferred none)) (fun r e => by cases e; exact ⟨_, hK2, rfl⟩)
    refine ⟨by simp, .inl ⟨_, _, rfl, run_takeDeferred hK2, ?_⟩⟩
    refine ⟨_, ?res, rfl, ?bel⟩
    case res =>
      simp [results, Tryd.results16, go_sem, c3]
    case bel => exact (HB.out.setCell (p := ⟨W.heap.size + 1, 0, none⟩) (by simp) _).trans (belowK_b (w := W) (Nat.le_refl _) _ D _ _ (by omega) hK2 rfl rfl)
  case stop =>
    rintro D c pre W _ _ h _
    exact h.elim
end Cf
end Go.Proofs.YtcpehdeddgfpmaaDoor
