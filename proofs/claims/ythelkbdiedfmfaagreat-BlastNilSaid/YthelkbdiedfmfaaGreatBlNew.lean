/-
  A blaster that is made over a store without nodes, as a fact on one call.
-/
import Derived.Test.YthelkbdiedfmfaaGreatBlClause
namespace Go.Proofs.YthelkbdiedfmfaaGreat
open Go.RowKit Go.Maps Bv Tm
namespace Bl
set_option maxHeartbeats 1000000
set_option maxRecDepth 100000

theorem zsize : Tryz.zeroCells35.size = 264 := by kernel_rfl
theorem z261 : Tryz.zeroCells35[261]? = some (.slice none 0 0) := by kernel_rfl
theorem z262 : Tryz.zeroCells35[262]? = some (.slice none 0 0) := by kernel_rfl
theorem z263 : Tryz.zeroCells35[263]? = some (.bool false) := by kernel_rfl

/-- The blaster's cells when it is made. -/
noncomputable def cells0 (s mb mg : Nat) : Array Value := (((Tryz.zeroCells35.setIfInBounds 0 (.pointer (some ⟨s, 0, none⟩))).setIfInBounds 1 (.map (some mb))).setIfInBounds 2 (.map (some mg))).setIfInBounds 260 (.int .i64 1)

theorem new_at (w : World) (s B : Nat) (_o : Obj) (hB : B ≤ w.heap.size) :
    BlAt B (((w.alloc (.map #[] 0)).alloc (.map #[] 0)).alloc (.cells (cells0 s w.heap.size (w.heap.size + 1)) 35)) (w.heap.size + 1 + 1) s w.heap.size (.slice none 0 0) (.slice none 0 0) [] [] 0 (fun _ => none) := by
  have s2 : ((w.alloc (.map #[] 0)).alloc (.map #[] 0)).heap.size = w.heap.size + 1 + 1 := by rw [size_alloc, size_alloc]
  generalize hC : cells0 s w.heap.size (w.heap.size + 1) = C
  have hh : (((w.alloc (.map #[] 0)).alloc (.map #[] 0)).alloc (.cells C 35)).heap[w.heap.size + 1 + 1]? = some (.cells C 35 (0, 0)) := by
    have := (MapKept.heap_alloc ((w.alloc (.map #[] 0)).alloc (.map #[] 0)) (.cells C 35)).1
    rw [s2] at this
    exact this
  have hm : (((w.alloc (.map #[] 0)).alloc (.map #[] 0)).alloc (.cells C 35)).ownsMap Tryz.prog 3 slElem w.heap.size 0 (.map []) := ((World.ownsMap_made w _ _ _).alloc _).alloc _
  have hs : (((w.alloc (.map #[] 0)).alloc (.map #[] 0)).alloc (.cells C 35)).heap.size = w.heap.size + 1 + 1 + 1 := by rw [size_alloc, s2]
  generalize (((w.alloc (.map #[] 0)).alloc (.map #[] 0)).alloc (.cells C 35)) = w3 at hh hm hs ⊢
  have hc : ∀ j, w3.cell? ⟨w.heap.size + 1 + 1, j, none⟩ = C[j]? := by
    intro j
    unfold World.cell?
    rw [hh]
    rfl
  have z := zsize
  refine ⟨by omega, hB, by omega, by omega, by omega, ?_, ?_, ?_, ?_, ?_, ?_, fun o => ?_, World.ownsRow_nil _ _ _ _, World.ownsRow_nil _ _ _ _, by simp [Value.ownBlock], by simp [Value.ownBlock], by simp [Value.ownBlock], by simp [Value.ownBlock], fun g h => by simp [Value.ownBlock] at h, ⟨_, hm, slTab_nil⟩⟩
  · rw [hc, ← hC]; unfold cells0; simp [z]
  · rw [hc, ← hC]; unfold cells0; simp [z]
  · rw [hc, ← hC]; unfold cells0; simp [z]
  · rw [hc, ← hC]; unfold cells0; rw [Array.getElem?_setIfInBounds_ne (by omega), Array.getElem?_setIfInBounds_ne (by omega), Array.getElem?_setIfInBounds_ne (by omega), Array.getElem?_setIfInBounds_ne (by omega)]; exact z261
  · rw [hc, ← hC]; unfold cells0; rw [Array.getElem?_setIfInBounds_ne (by omega), Array.getElem?_setIfInBounds_ne (by omega), Array.getElem?_setIfInBounds_ne (by omega), Array.getElem?_setIfInBounds_ne (by omega)]; exact z262
  · rw [hc, ← hC]; unfold cells0; rw [Array.getElem?_setIfInBounds_ne (by omega), Array.getElem?_setIfInBounds_ne (by omega), Array.getElem?_setIfInBounds_ne (by omega), Array.getElem?_setIfInBounds_ne (by omega)]; exact z263
  · unfold World.frozen?
    rw [hh]
    simp

def Begun (B p : Nat) (W : World) (e : Ending) (W' : World) : Prop :=
  ∃ b mb lv ev, e = .returned (.tuple #[.pointer (some ⟨b, 0, none⟩), .int .i64 0]) ∧ BlAt B W' b p mb lv ev [1] [1] 0 (fun _ => none) ∧ Below W.heap.size W W'

theorem bnew_any {B p m : Nat} {sv : Value} {W : World} (S : StoreAt B W p m sv []) :
    Calls Tryz.prog 4 #[.pointer (some ⟨p, 0, none⟩)] W (Begun W.heap.size p W) := by
  have hmm := @run_makeMap Tryz.prog
  have HN := Lib.hid (node_no S (k := 0) (by simp [inB]))
  have lp := S.lt
  clear S
  go_enter Tryz.func4, Tryz.ntmps4
  go_wp2_with (go_at_call 10; refine HN.out.mono ?_; rintro e w1 ⟨rfl, hb1⟩; have HB1 := Lib.hid hb1; clear hb1)
  obtain ⟨V, hV⟩ : ∃ V, V = w1.alloc (.cells #[.int .u8 0, .int .u8 0, .int .i64 0, .int .i64 0, .int .i64 0, .int .u64 0, .int .u8 0] 56) := ⟨_, rfl⟩
  have sV : V.heap.size = w1.heap.size + 1 := by rw [hV, size_alloc]
  have bV : Below W.heap.size W V := by rw [hV]; exact bel_alloc HB1.out _
  have N := new_at V p W.heap.size (.map #[] 0) bV.size
  have N2 := N.call (bel_alloc (Below.refl _ _) (.cells #[.int .i64 1] 3))
  unfold cells0 at N2
  rw [sV, hV] at N2
  refine (clause_one N2 (by simp; have := HB1.out.size; omega) (kb := w1.heap.size + 1 + 1 + 1 + 1) ?_ (by simp) (by omega)).mono ?_
  · have := cell_one_new (((V.alloc (.map #[] 0)).alloc (.map #[] 0)).alloc (.cells (cells0 p V.heap.size (V.heap.size + 1)) 35)) (.int .i64 1) 3 0 _ rfl
    rw [size_alloc, size_alloc, size_alloc, sV, hV] at this
    exact this
  · rintro e w2 ⟨rfl, ⟨lv, ev, h2⟩, hb2⟩
    go_wp2_with fail
    go_ret2
    exact ⟨_, _, _, _, rfl, h2, (bel_alloc (bel_alloc (bel_alloc (bel_alloc (bel_alloc HB1.out _) _) _) _) _).trans hb2⟩
end Bl
end Go.Proofs.YthelkbdiedfmfaaGreat
