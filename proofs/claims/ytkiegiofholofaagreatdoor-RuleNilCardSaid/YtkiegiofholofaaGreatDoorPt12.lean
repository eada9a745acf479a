/-
On how many kids the bits of an operator hang, as layer known tells it: a fact on one call.
Those kids that are still to be worked out, as a fact on one call.
Plain facts for layer known: the list of nodes that are still to be worked out, and that it ends.
Plain facts for layer known: widths of kids; that the masks of a node are of its width.
-/
import Derived.Test.YtkiegiofholofaaGreatDoorPt03
import Derived.Test.YtkiegiofholofaaGreatDoorPt11
import Derived.Deep.LoopGhost
import Derived.Test.YtkiegiofholofaaGreatDoorPt02
namespace Go.Proofs.YtkiegiofholofaaGreatDoor
open Go.RowKit Bv Tm
namespace Kn
set_option maxHeartbeats 400000
set_option maxRecDepth 100000

theorem ka_0 (W : World) : Calls Tryz.prog 146 #[.int .u8 0] W fun e W' => e = .returned (.int .i64 0) ∧ W = W' := by
  go_enter Tryz.func146, Tryz.ntmps146
  go_wp2_with fail
  repeat' (first | ((with_reducible refine wp_exit ?_); (repeat (first | (with_reducible refine ex_then ?_) | (with_reducible refine ex_near ?_) | (refine ex_far (by decide) ?_))); (with_reducible refine ex_go ?_)) | go_values | go_skip | go_guarded | go_step | go_upon)
  go_ret
  exact ⟨rfl, rfl⟩

theorem ka_1 (W : World) : Calls Tryz.prog 146 #[.int .u8 1] W fun e W' => e = .returned (.int .i64 0) ∧ W = W' := by
  go_enter Tryz.func146, Tryz.ntmps146
  go_wp2_with fail
  repeat' (first | ((with_reducible refine wp_exit ?_); (repeat (first | (with_reducible refine ex_then ?_) | (with_reducible refine ex_near ?_) | (refine ex_far (by decide) ?_))); (with_reducible refine ex_go ?_)) | go_values | go_skip | go_guarded | go_step | go_upon)
  go_ret
  exact ⟨rfl, rfl⟩

theorem ka_2 (W : World) : Calls Tryz.prog 146 #[.int .u8 2] W fun e W' => e = .returned (.int .i64 0) ∧ W = W' := by
  go_enter Tryz.func146, Tryz.ntmps146
  go_wp2_with fail
  repeat' (first | ((with_reducible refine wp_exit ?_); (repeat (first | (with_reducible refine ex_then ?_) | (with_reducible refine ex_near ?_) | (refine ex_far (by decide) ?_))); (with_reducible refine ex_go ?_)) | go_values | go_skip | go_guarded | go_step | go_upon)
  go_ret
  exact ⟨rfl, rfl⟩

theorem ka_3 (W : World) : Calls Tryz.prog 146 #[.int .u8 3] W fun e W' => e = .returned (.int .i64 1) ∧ W = W' := by
  go_enter Tryz.func146, Tryz.ntmps146
  go_wp2_with fail
  repeat' (first | ((with_reducible refine wp_exit ?_); (repeat (first | (with_reducible refine ex_then ?_) | (with_reducible refine ex_near ?_) | (refine ex_far (by decide) ?_))); (with_reducible refine ex_go ?_)) | go_values | go_skip | go_guarded | go_step | go_upon)
  go_ret
  exact ⟨rfl, rfl⟩

theorem ka_4 (W : World) : Calls Tryz.prog 146 #[.int .u8 4] W fun e W' => e = .returned (.int .i64 0) ∧ W = W' := by
  go_enter Tryz.func146, Tryz.ntmps146
  go_wp2_with fail
  repeat' (first | ((with_reducible refine wp_exit ?_); (repeat (first | (with_reducible refine ex_then ?_) | (with_reducible refine ex_near ?_) | (refine ex_far (by decide) ?_))); (with_reducible refine ex_go ?_)) | go_values | go_skip | go_guarded | go_step | go_upon)
  go_ret
  exact ⟨rfl, rfl⟩

theorem ka_5 (W : World) : Calls Tryz.prog 146 #[.int .u8 5] W fun e W' => e = .returned (.int .i64 2) ∧ W = W' := by
  go_enter Tryz.func146, Tryz.ntmps146
  go_wp2_with fail
  repeat' (first | ((with_reducible refine wp_exit ?_); (repeat (first | (with_reducible refine ex_then ?_) | (with_reducible refine ex_near ?_) | (refine ex_far (by decide) ?_))); (with_reducible refine ex_go ?_)) | go_values | go_skip | go_guarded | go_step | go_upon)
  go_ret
  exact ⟨rfl, rfl⟩

theorem ka_6 (W : World) : Calls Tryz.prog 146 #[.int .u8 6] W fun e W' => e = .returned (.int .i64 2) ∧ W = W' := by
  go_enter Tryz.func146, Tryz.ntmps146
  go_wp2_with fail
  repeat' (first | ((with_reducible refine wp_exit ?_); (repeat (first | (with_reducible refine ex_then ?_) | (with_reducible refine ex_near ?_) | (refine ex_far (by decide) ?_))); (with_reducible refine ex_go ?_)) | go_values | go_skip | go_guarded | go_step | go_upon)
  go_ret
  exact ⟨rfl, rfl⟩

theorem ka_7 (W : World) : Calls Tryz.prog 146 #[.int .u8 7] W fun e W' => e = .returned (.int .i64 2) ∧ W = W' := by
  go_enter Tryz.func146, Tryz.ntmps146
  go_wp2_with fail
  repeat' (first | ((with_reducible refine wp_exit ?_); (repeat (first | (with_reducible refine ex_then ?_) | (with_reducible refine ex_near ?_) | (refine ex_far (by decide) ?_))); (with_reducible refine ex_go ?_)) | go_values | go_skip | go_guarded | go_step | go_upon)
  go_ret
  exact ⟨rfl, rfl⟩

theorem ka_8 (W : World) : Calls Tryz.prog 146 #[.int .u8 8] W fun e W' => e = .returned (.int .i64 2) ∧ W = W' := by
  go_enter Tryz.func146, Tryz.ntmps146
  go_wp2_with fail
  repeat' (first | ((with_reducible refine wp_exit ?_); (repeat (first | (with_reducible refine ex_then ?_) | (with_reducible refine ex_near ?_) | (refine ex_far (by decide) ?_))); (with_reducible refine ex_go ?_)) | go_values | go_skip | go_guarded | go_step | go_upon)
  go_ret
  exact ⟨rfl, rfl⟩

theorem ka_9 (W : World) : Calls Tryz.prog 146 #[.int .u8 9] W fun e W' => e = .returned (.int .i64 2) ∧ W = W' := by
  go_enter Tryz.func146, Tryz.ntmps146
  go_wp2_with fail
  repeat' (first | ((with_reducible refine wp_exit ?_); (repeat (first | (with_reducible refine ex_then ?_) | (with_reducible refine ex_near ?_) | (refine ex_far (by decide) ?_))); (with_reducible refine ex_go ?_)) | go_values | go_skip | go_guarded | go_step | go_upon)
  go_ret
  exact ⟨rfl, rfl⟩

theorem ka_10 (W : World) : Calls Tryz.prog 146 #[.int .u8 10] W fun e W' => e = .returned (.int .i64 2) ∧ W = W' := by
  go_enter Tryz.func146, Tryz.ntmps146
  go_wp2_with fail
  repeat' (first | ((with_reducible refine wp_exit ?_); (repeat (first | (with_reducible refine ex_then ?_) | (with_reducible refine ex_near ?_) | (refine ex_far (by decide) ?_))); (with_reducible refine ex_go ?_)) | go_values | go_skip | go_guarded | go_step | go_upon)
  go_ret
  exact ⟨rfl, rfl⟩

theorem ka_11 (W : World) : Calls Tryz.prog 146 #[.int .u8 11] W fun e W' => e = .returned (.int .i64 0) ∧ W = W' := by
  go_enter Tryz.func146, Tryz.ntmps146
  go_wp2_with fail
  repeat' (first | ((with_reducible refine wp_exit ?_); (repeat (first | (with_reducible refine ex_then ?_) | (with_reducible refine ex_near ?_) | (refine ex_far (by decide) ?_))); (with_reducible refine ex_go ?_)) | go_values | go_skip | go_guarded | go_step | go_upon)
  go_ret
  exact ⟨rfl, rfl⟩

theorem ka_12 (W : World) : Calls Tryz.prog 146 #[.int .u8 12] W fun e W' => e = .returned (.int .i64 0) ∧ W = W' := by
  go_enter Tryz.func146, Tryz.ntmps146
  go_wp2_with fail
  repeat' (first | ((with_reducible refine wp_exit ?_); (repeat (first | (with_reducible refine ex_then ?_) | (with_reducible refine ex_near ?_) | (refine ex_far (by decide) ?_))); (with_reducible refine ex_go ?_)) | go_values | go_skip | go_guarded | go_step | go_upon)
  go_ret
  exact ⟨rfl, rfl⟩

theorem ka_13 (W : World) : Calls Tryz.prog 146 #[.int .u8 13] W fun e W' => e = .returned (.int .i64 0) ∧ W = W' := by
  go_enter Tryz.func146, Tryz.ntmps146
  go_wp2_with fail
  repeat' (first | ((with_reducible refine wp_exit ?_); (repeat (first | (with_reducible refine ex_then ?_) | (with_reducible refine ex_near ?_) | (refine ex_far (by decide) ?_))); (with_reducible refine ex_go ?_)) | go_values | go_skip | go_guarded | go_step | go_upon)
  go_ret
  exact ⟨rfl, rfl⟩

theorem ka_14 (W : World) : Calls Tryz.prog 146 #[.int .u8 14] W fun e W' => e = .returned (.int .i64 0) ∧ W = W' := by
  go_enter Tryz.func146, Tryz.ntmps146
  go_wp2_with fail
  repeat' (first | ((with_reducible refine wp_exit ?_); (repeat (first | (with_reducible refine ex_then ?_) | (with_reducible refine ex_near ?_) | (refine ex_far (by decide) ?_))); (with_reducible refine ex_go ?_)) | go_values | go_skip | go_guarded | go_step | go_upon)
  go_ret
  exact ⟨rfl, rfl⟩

theorem ka_15 (W : World) : Calls Tryz.prog 146 #[.int .u8 15] W fun e W' => e = .returned (.int .i64 1) ∧ W = W' := by
  go_enter Tryz.func146, Tryz.ntmps146
  go_wp2_with fail
  repeat' (first | ((with_reducible refine wp_exit ?_); (repeat (first | (with_reducible refine ex_then ?_) | (with_reducible refine ex_near ?_) | (refine ex_far (by decide) ?_))); (with_reducible refine ex_go ?_)) | go_values | go_skip | go_guarded | go_step | go_upon)
  go_ret
  exact ⟨rfl, rfl⟩

theorem ka_16 (W : World) : Calls Tryz.prog 146 #[.int .u8 16] W fun e W' => e = .returned (.int .i64 1) ∧ W = W' := by
  go_enter Tryz.func146, Tryz.ntmps146
  go_wp2_with fail
  repeat' (first | ((with_reducible refine wp_exit ?_); (repeat (first | (with_reducible refine ex_then ?_) | (with_reducible refine ex_near ?_) | (refine ex_far (by decide) ?_))); (with_reducible refine ex_go ?_)) | go_values | go_skip | go_guarded | go_step | go_upon)
  go_ret
  exact ⟨rfl, rfl⟩

theorem ka_17 (W : World) : Calls Tryz.prog 146 #[.int .u8 17] W fun e W' => e = .returned (.int .i64 1) ∧ W = W' := by
  go_enter Tryz.func146, Tryz.ntmps146
  go_wp2_with fail
  repeat' (first | ((with_reducible refine wp_exit ?_); (repeat (first | (with_reducible refine ex_then ?_) | (with_reducible refine ex_near ?_) | (refine ex_far (by decide) ?_))); (with_reducible refine ex_go ?_)) | go_values | go_skip | go_guarded | go_step | go_upon)
  go_ret
  exact ⟨rfl, rfl⟩

theorem ka_18 (W : World) : Calls Tryz.prog 146 #[.int .u8 18] W fun e W' => e = .returned (.int .i64 2) ∧ W = W' := by
  go_enter Tryz.func146, Tryz.ntmps146
  go_wp2_with fail
  repeat' (first | ((with_reducible refine wp_exit ?_); (repeat (first | (with_reducible refine ex_then ?_) | (with_reducible refine ex_near ?_) | (refine ex_far (by decide) ?_))); (with_reducible refine ex_go ?_)) | go_values | go_skip | go_guarded | go_step | go_upon)
  go_ret
  exact ⟨rfl, rfl⟩

theorem ka_19 (W : World) : Calls Tryz.prog 146 #[.int .u8 19] W fun e W' => e = .returned (.int .i64 0) ∧ W = W' := by
  go_enter Tryz.func146, Tryz.ntmps146
  go_wp2_with fail
  repeat' (first | ((with_reducible refine wp_exit ?_); (repeat (first | (with_reducible refine ex_then ?_) | (with_reducible refine ex_near ?_) | (refine ex_far (by decide) ?_))); (with_reducible refine ex_go ?_)) | go_values | go_skip | go_guarded | go_step | go_upon)
  go_ret
  exact ⟨rfl, rfl⟩

theorem ka_20 (W : World) : Calls Tryz.prog 146 #[.int .u8 20] W fun e W' => e = .returned (.int .i64 0) ∧ W = W' := by
  go_enter Tryz.func146, Tryz.ntmps146
  go_wp2_with fail
  repeat' (first | ((with_reducible refine wp_exit ?_); (repeat (first | (with_reducible refine ex_then ?_) | (with_reducible refine ex_near ?_) | (refine ex_far (by decide) ?_))); (with_reducible refine ex_go ?_)) | go_values | go_skip | go_guarded | go_step | go_upon)
  go_ret
  exact ⟨rfl, rfl⟩

theorem ka_21 (W : World) : Calls Tryz.prog 146 #[.int .u8 21] W fun e W' => e = .returned (.int .i64 2) ∧ W = W' := by
  go_enter Tryz.func146, Tryz.ntmps146
  go_wp2_with fail
  repeat' (first | ((with_reducible refine wp_exit ?_); (repeat (first | (with_reducible refine ex_then ?_) | (with_reducible refine ex_near ?_) | (refine ex_far (by decide) ?_))); (with_reducible refine ex_go ?_)) | go_values | go_skip | go_guarded | go_step | go_upon)
  go_ret
  exact ⟨rfl, rfl⟩

theorem ka_22 (W : World) : Calls Tryz.prog 146 #[.int .u8 22] W fun e W' => e = .returned (.int .i64 1) ∧ W = W' := by
  go_enter Tryz.func146, Tryz.ntmps146
  go_wp2_with fail
  repeat' (first | ((with_reducible refine wp_exit ?_); (repeat (first | (with_reducible refine ex_then ?_) | (with_reducible refine ex_near ?_) | (refine ex_far (by decide) ?_))); (with_reducible refine ex_go ?_)) | go_values | go_skip | go_guarded | go_step | go_upon)
  go_ret
  exact ⟨rfl, rfl⟩

theorem ka_23 (W : World) : Calls Tryz.prog 146 #[.int .u8 23] W fun e W' => e = .returned (.int .i64 1) ∧ W = W' := by
  go_enter Tryz.func146, Tryz.ntmps146
  go_wp2_with fail
  repeat' (first | ((with_reducible refine wp_exit ?_); (repeat (first | (with_reducible refine ex_then ?_) | (with_reducible refine ex_near ?_) | (refine ex_far (by decide) ?_))); (with_reducible refine ex_go ?_)) | go_values | go_skip | go_guarded | go_step | go_upon)
  go_ret
  exact ⟨rfl, rfl⟩

theorem ka_24 (W : World) : Calls Tryz.prog 146 #[.int .u8 24] W fun e W' => e = .returned (.int .i64 1) ∧ W = W' := by
  go_enter Tryz.func146, Tryz.ntmps146
  go_wp2_with fail
  repeat' (first | ((with_reducible refine wp_exit ?_); (repeat (first | (with_reducible refine ex_then ?_) | (with_reducible refine ex_near ?_) | (refine ex_far (by decide) ?_))); (with_reducible refine ex_go ?_)) | go_values | go_skip | go_guarded | go_step | go_upon)
  go_ret
  exact ⟨rfl, rfl⟩

theorem ka_25 (W : World) : Calls Tryz.prog 146 #[.int .u8 25] W fun e W' => e = .returned (.int .i64 3) ∧ W = W' := by
  go_enter Tryz.func146, Tryz.ntmps146
  go_wp2_with fail
  repeat' (first | ((with_reducible refine wp_exit ?_); (repeat (first | (with_reducible refine ex_then ?_) | (with_reducible refine ex_near ?_) | (refine ex_far (by decide) ?_))); (with_reducible refine ex_go ?_)) | go_values | go_skip | go_guarded | go_step | go_upon)
  go_ret
  exact ⟨rfl, rfl⟩

theorem ka_any {o : Nat} (h : o ≤ 25) (W : World) : Calls Tryz.prog 146 #[.int .u8 ((o : Nat) : Int)] W fun e W' => e = .returned (.int .i64 ((ka o : Nat) : Int)) ∧ W = W' := by
  match o, h with
  | 0, _ => exact ka_0 W
  | 1, _ => exact ka_1 W
  | 2, _ => exact ka_2 W
  | 3, _ => exact ka_3 W
  | 4, _ => exact ka_4 W
  | 5, _ => exact ka_5 W
  | 6, _ => exact ka_6 W
  | 7, _ => exact ka_7 W
  | 8, _ => exact ka_8 W
  | 9, _ => exact ka_9 W
  | 10, _ => exact ka_10 W
  | 11, _ => exact ka_11 W
  | 12, _ => exact ka_12 W
  | 13, _ => exact ka_13 W
  | 14, _ => exact ka_14 W
  | 15, _ => exact ka_15 W
  | 16, _ => exact ka_16 W
  | 17, _ => exact ka_17 W
  | 18, _ => exact ka_18 W
  | 19, _ => exact ka_19 W
  | 20, _ => exact ka_20 W
  | 21, _ => exact ka_21 W
  | 22, _ => exact ka_22 W
  | 23, _ => exact ka_23 W
  | 24, _ => exact ka_24 W
  | 25, _ => exact ka_25 W
  | o + 26, h => omega
end Kn
end Go.Proofs.YtkiegiofholofaaGreatDoor

namespace Go.Proofs.YtkiegiofholofaaGreatDoor
open Go.RowKit Go.Maps Bv Tm
namespace Kn
set_option maxHeartbeats 1000000
set_option maxRecDepth 100000

/-- Of the first m kids those that are not done. -/
def missOf (N : List Nat) (x : Nd) (m : Nat) : List Nat := ((List.range m).map (fun j => (x.kid j).toNat)).filter (fun k => decide (k ∉ N))
theorem missOf_zero (N : List Nat) (x : Nd) : missOf N x 0 = [] := rfl
theorem missOf_in {N : List Nat} {x : Nd} {m : Nat} (h : (x.kid m).toNat ∈ N) : missOf N x (m + 1) = missOf N x m := by
  unfold missOf
  rw [List.range_succ, List.map_append, List.filter_append]
  simp [h]
theorem missOf_out {N : List Nat} {x : Nd} {m : Nat} (h : (x.kid m).toNat ∉ N) : missOf N x (m + 1) = missOf N x m ++ [(x.kid m).toNat] := by
  unfold missOf
  rw [List.range_succ, List.map_append, List.filter_append]
  simp [h]
theorem missOf_len (N : List Nat) (x : Nd) (m : Nat) : (missOf N x m).length ≤ m := by
  unfold missOf
  refine Nat.le_trans (List.length_filter_le _ _) ?_
  simp
theorem mem_missOf {N : List Nat} {x : Nd} {m k : Nat} : k ∈ missOf N x m ↔ (∃ j, j < m ∧ (x.kid j).toNat = k) ∧ k ∉ N := by
  unfold missOf
  simp

/-- What stands while the kids are gone through. -/
structure MissAt (W : World) (L : List Nd) (N : List Nat) (b : Nat) (x : Nd) (m : Nat) (v : Value) (w : World) : Prop where
  row : w.ownsRow W.heap.size 3 1 v (missOf N x m).length (todoRow (missOf N x m))
  bel : Below W.heap.size W w
  box : ∀ j, j < 3 → w.cell? ⟨W.heap.size, 2 + j, none⟩ = some (.int .i64 (x.kid j))
  bl : W.heap.size < w.heap.size
  map : MapAt w L b N
  mb : b < W.heap.size
  nb : v.ownBlock ≠ some W.heap.size

theorem kept_grown {w w' : World} {r : Option Nat} (h : w.grownBy w' r) {F : Nat → Prop} (hF : ∀ i, r = some i → F i) : Kept F w w' := (Kept.refl F w).grown h (fun i e _ => hF i e)
theorem MissAt.skip {W w : World} {L : List Nd} {N : List Nat} {b m : Nat} {x : Nd} {v : Value} (h : MissAt W L N b x m v w) (hin : (x.kid m).toNat ∈ N) (o : Obj) : MissAt W L N b x (m + 1) v (w.alloc o) := by
  have hbl := h.bl
  refine ⟨?_, bel_alloc h.bel o, fun j hj => by rw [World.cell?_alloc_lt _ _ _ hbl]; exact h.box j hj, by rw [size_alloc]; omega, h.map.same (Below.heap_alloc _ _ _ h.map.lt), h.mb, h.nb⟩
  rw [missOf_in hin]
  exact h.row.alloc o
theorem MissAt.push {W w w2 : World} {L : List Nd} {N : List Nat} {b m : Nat} {x : Nd} {v v' : Value} {o1 o2 : Obj} (h : MissAt W L N b x m v w) (hout : (x.kid m).toNat ∉ N) (h0 : 0 ≤ x.kid m)
    (hg : ((w.alloc o1).alloc o2).grownBy w2 v.ownBlock) (hrow : w2.ownsRow W.heap.size 3 1 v' ((missOf N x m).length + 1) (todoRow (missOf N x m) ++ [.int .i64 (x.kid m)])) (hloc : v'.ownBlock = v.ownBlock ∨ v'.ownBlock = some ((w.alloc o1).alloc o2).heap.size) :
    MissAt W L N b x (m + 1) v' w2 := by
  have hbl := h.bl
  have hlt := h.map.lt
  have hm := h.mb
  have zg := hg.size
  have z0 := h.bel.size
  rw [size_alloc, size_alloc] at zg hloc
  have vlt : ∀ g, v.ownBlock = some g → W.heap.size ≤ g := fun g e => (h.row.lt g e).1
  have K : Kept (fun i => v.ownBlock = some i) w w2 := (((Kept.refl _ w).alloc o1).alloc o2).grown hg (fun i e _ => e)
  refine ⟨?_, h.bel.trans (K.below (fun i hi c => by have := vlt i c; omega) z0), fun j hj => (K.cell (x := ⟨W.heap.size, 2 + j, none⟩) hbl h.nb).trans (h.box j hj), by omega, h.map.same (K.block b hlt (fun c => by have := vlt b c; omega)), hm, ?_⟩
  · rw [missOf_out hout]
    have e : todoRow (missOf N x m ++ [(x.kid m).toNat]) = todoRow (missOf N x m) ++ [.int .i64 (x.kid m)] := by
      unfold todoRow
      rw [List.map_append]
      congr 1
      simp
      omega
    rw [e, List.length_append]
    exact hrow
  · rcases hloc with e | e
    · rw [e]; exact h.nb
    · rw [e]; intro c; simp at c; omega

theorem miss_any {W : World} {L : List Nd} {N : List Nat} {b : Nat} {x : Nd} (hM : MapAt W L b N) (ho : x.o ≤ 25) (hk : ∀ j, j < ka x.o → 0 ≤ x.kid j ∧ x.kid j < 9223372036854775808) :
    Calls Tryz.prog 122 #[x.val, .map (some b)] W fun e W' => ∃ v, e = .returned v ∧ W'.ownsRow W.heap.size 3 1 v (missOf N x (ka x.o)).length (todoRow (missOf N x (ka x.o))) ∧ Below W.heap.size W W' := by
  have hka : ka x.o ≤ 3 := Nat.le_trans (ka_le _) (kc_le _)
  obtain ⟨n, hn⟩ : ∃ n, ka x.o = n := ⟨_, rfl⟩
  have HK := Lib.hid (fun W => ka_any ho W)
  rw [hn] at hka hk HK
  rw [hn]
  have HKID := Lib.hid hk
  have HMAP := Lib.hid hM
  have HB := Lib.hid hM.lt
  obtain ⟨i0, hinfo, hz0, hz1, hz2⟩ := info_parts info_int
  have HINFO := Lib.hid hinfo
  have HZ0 := Lib.hid hz0
  have HZ1 := Lib.hid hz1
  have HZ2 := Lib.hid hz2
  have q3 : ((n : Nat) : Int) ≤ 3 := by omega
  have q0 : (0 : Int) ≤ ((n : Nat) : Int) := by omega
  have hn3 := Lib.hid hka
  unfold Nd.val
  clear hn hk hM hinfo hz0 hz1 hz2 ho hka
  go_enter Tryz.func122, Tryz.ntmps122
  go_wp2_with (go_at_call 146; refine (HK.out _).mono ?_; rintro e w1 ⟨rfl, rfl⟩)
  go_loopg [5, 16] n (fun gk u5 u16 wr => ∃ i : Nat, u16 = .int .i64 ((i : Nat) : Int) ∧ i + gk = n ∧ MissAt W L N b x i u5 wr)
  case atStart =>
    refine ⟨0, rfl, by omega, ⟨World.ownsRow_nil _ _ _ _, bel_alloc (Below.refl _ _) _, fun j hj => ?_, by rw [size_alloc]; omega, HMAP.out.same (Below.heap_alloc _ _ _ HB.out), HB.out, by simp [Value.ownBlock]⟩⟩
    have h7 := At7.new W (.int .u8 ((x.o : Nat) : Int)) (.int .u8 ((x.w : Nat) : Int)) (.int .i64 x.k0) (.int .i64 x.k1) (.int .i64 x.k2) (.int .u64 ((x.n : Nat) : Int)) (.int .u8 ((x.l : Nat) : Int)) 36
    unfold At7 at h7
    match j, hj with
    | 0, _ => exact h7.2.2.1
    | 1, _ => exact h7.2.2.2.1
    | 2, _ => exact h7.2.2.2.2.1
  case round =>
    obtain ⟨i, rfl, hgk, hA⟩ := hrel
    have HA := Lib.hid hA
    have HGK := Lib.hid hgk
    by_cases hi : i < n
    case pos =>
      have c0 := hA.box i (by have := hn3.out; omega)
      have lbl := hA.bl
      have kid0 := (HKID.out i hi).1
      have kid1 : I64 (x.kid i) := by have := (HKID.out i hi); unfold I64; omega
      have HK0 := Lib.hid kid0
      have q1 : ((i : Nat) : Int) < ((n : Nat) : Int) := by omega
      have q2 : (0 : Int) ≤ ((i : Nat) : Int) := by omega
      have r1 : IntKind.i64.wrap (((i : Nat) : Int) + 1) = (((i + 1 : Nat) : Nat) : Int) := by have := hn3.out; rw [IntKind.wrap_i64]; omega
      have r2 : wrap64 (((i : Nat) : Int) + 1) = (((i + 1 : Nat) : Nat) : Int) := by unfold wrap64; rw [← IntKind.wrap_i64]; exact r1
      have hl := hA.map.look2 kid1
      obtain ⟨kq, hkq⟩ : ∃ kq, x.kid i = kq := ⟨_, rfl⟩
      have HKQ := Lib.hid hkq
      rw [hkq] at c0 hl
      have HR2 := Lib.hid r2
      by_cases hin : (x.kid i).toNat ∈ N
      case pos =>
        rw [show decide (0 ≤ kq ∧ kq.toNat ∈ N) = true by rw [← hkq]; exact decide_eq_true ⟨kid0, hin⟩] at hl
        unfold lkV at hl
        have HIN := Lib.hid hin
        clear hA hgk hin hkq kid0 kid1 hi
        go_wp2_with fail
        go_roundg (gk - 1)
        case measure => have := HGK.out; omega
        case rel => exact ⟨i + 1, by first | rfl | (rw [HR2.out]) | (congr 1; exact HR2.out), by have := HGK.out; omega, HA.out.skip HIN.out _⟩
      case neg =>
        rw [show decide (0 ≤ kq ∧ kq.toNat ∈ N) = false by rw [← hkq]; exact decide_eq_false (fun c => hin c.2)] at hl
        unfold lkV at hl
        have HIN := Lib.hid hin
        have hrow := (hA.row.alloc (.cells #[.int .u8 ((lkW L N kq : Nat) : Int), .int .u64 (((lkB L N kq).1 : Nat) : Int), .int .u64 (((lkB L N kq).2 : Nat) : Int)] 161)).alloc (.cells #[.int .i64 kq] 3)
        have HROW := Lib.hid hrow
        have hc1 := cell_one_new (wr.alloc (.cells #[.int .u8 ((lkW L N kq : Nat) : Int), .int .u64 (((lkB L N kq).1 : Nat) : Int), .int .u64 (((lkB L N kq).2 : Nat) : Int)] 161)) (.int .i64 kq) 3
        rw [size_alloc] at hc1
        have HC1 := Lib.hid hc1
        have H1 := Lib.hid (show ∀ u ∈ [Value.int .i64 kq], u.oneCell' = true by intro u hu; simp at hu; subst hu; rfl)
        have HSZ : Hid (W.heap.size ≤ ((wr.alloc (.cells #[.int .u8 ((lkW L N kq : Nat) : Int), .int .u64 (((lkB L N kq).1 : Nat) : Int), .int .u64 (((lkB L N kq).2 : Nat) : Int)] 161)).alloc (.cells #[.int .i64 kq] 3)).heap.size) := Lib.hid (by rw [size_alloc, size_alloc]; omega)
        have HLN := Lib.hid (missOf_len N x i)
        have HI := Lib.hid hi
        clear hA hgk hin hkq kid0 kid1 hi hrow hc1
        go_wp2_with (at_builtin; go_loud (refine wpList_append_own_at _ rfl (.tmp 28) (.tmp 30) 85 rfl W.heap.size 3 i0 (.int .i64 0) 1 8 Tryz.underlying85 HINFO.out HZ0.out HZ1.out HZ2.out rfl (by decide) u5 (missOf N x i).length (todoRow (missOf N x i)) rfl HROW.out ⟨wr.heap.size + 1, 0, none⟩ 1 1 [.int .i64 kq] rfl rfl HC1.out H1.out (by unfold maxLen; have := HLN.out; have := HI.out; have := hn3.out; omega) (by have := HLN.out; have := HI.out; have := hn3.out; omega) HSZ.out ?_); intro v' w2 hrow2 hgr _ hloc; have D2 := HA.out.push HIN.out HK0.out hgr (by rw [HKQ.out]; exact hrow2) hloc)
        all_goals
          go_roundg (gk - 1)
          case measure => have := HGK.out; omega
          case rel => exact ⟨i + 1, by first | rfl | (rw [HR2.out]) | (congr 1; exact HR2.out), by have := HGK.out; omega, D2⟩
    case neg =>
      have q1 : ¬ ((i : Nat) : Int) < ((n : Nat) : Int) := by omega
      obtain rfl : i = n := by omega
      clear hA hgk
      go_wp2_with fail
      go_ret
      exact ⟨_, rfl, HA.out.row, HA.out.bel⟩
end Kn
end Go.Proofs.YtkiegiofholofaaGreatDoor

namespace Go.Proofs.YtkiegiofholofaaGreatDoor
open Go.RowKit Bv Tm
namespace Kn
set_option maxHeartbeats 400000

/-- What is to do: nodes, the last on top; of each whether its kids were put above it. -/
abbrev Fr : Type := Nat × Bool
def mu : List Fr → Nat
  | [] => 0
  | f :: r => (if f.2 then 1 else 5 ^ (f.1 + 1)) + mu r
theorem mu_append : ∀ (F G : List Fr), mu (F ++ G) = mu F + mu G
  | [], G => by simp [mu]
  | f :: r, G => by simp only [List.cons_append, mu, mu_append r G]; omega

structure Inv (L : List Nd) (id : Nat) (F : List Fr) (N : List Nat) : Prop where
  nin : ∀ j ∈ N, j < L.length
  closed : ∀ j ∈ N, ∀ x, L[j]? = some x → ∀ m, m < ka x.o → (x.kid m).toNat ∈ N
  fin : ∀ f ∈ F, f.1 < L.length
  rank : ∀ (i : Nat) (f : Fr), F[i]? = some f → i + 3 * f.1 ≤ 3 * id
  exp : ∀ (i t : Nat), F[i]? = some (t, true) → ∀ x, L[t]? = some x → ∀ m, m < ka x.o → (x.kid m).toNat ∈ N ∨ ∃ j b, i < j ∧ F[j]? = some ((x.kid m).toNat, b)
  bot : id ∈ N ∨ ∃ b, F[0]? = some (id, b)

theorem inv_start {L : List Nd} {id : Nat} (hid : id < L.length) : Inv L id [(id, false)] [] := by
  refine ⟨fun j h => by simp at h, fun j h => by simp at h, fun f h => by simp at h; subst h; exact hid, fun i f h => ?_, fun i t h => ?_, .inr ⟨false, rfl⟩⟩
  · match i with
    | 0 => simp at h; subst h; simp
    | i + 1 => simp at h
  · match i with
    | 0 => simp at h
    | i + 1 => simp at h
theorem Inv.len {L : List Nd} {id : Nat} {F : List Fr} {N : List Nat} (h : Inv L id F N) : F.length ≤ 3 * id + 1 := by
  rcases Nat.eq_zero_or_pos F.length with e | e
  · omega
  · have := h.rank (F.length - 1) _ (List.getElem?_eq_getElem (by omega))
    omega

theorem last_get {F0 : List Fr} {f : Fr} : (F0 ++ [f])[F0.length]? = some f := by simp

/-- None of the kids is missing: the node on top is done. -/
theorem Inv.pop {L : List Nd} {id t : Nat} {b : Bool} {F0 : List Fr} {N : List Nat} {x : Nd} (h : Inv L id (F0 ++ [(t, b)]) N) (hx : L[t]? = some x) (hm : missOf N x (ka x.o) = []) :
    Inv L id F0 (addK N t) ∧ mu F0 < mu (F0 ++ [(t, b)]) ∧ (∀ m, m < ka x.o → (x.kid m).toNat ∈ N) := by
  have hall : ∀ m, m < ka x.o → (x.kid m).toNat ∈ N := by
    intro m hlt
    refine Classical.byContradiction fun hn => ?_
    have : (x.kid m).toNat ∈ missOf N x (ka x.o) := mem_missOf.2 ⟨⟨m, hlt, rfl⟩, hn⟩
    rw [hm] at this
    simp at this
  have htl := (List.getElem?_eq_some_iff.1 hx).1
  refine ⟨⟨?_, ?_, fun f hf => h.fin f (by simp [hf]), fun i f hf => ?_, fun i s hs y hy m hlt => ?_, ?_⟩, ?_, hall⟩
  · intro j hj
    rcases mem_addK.1 hj with c | c
    · exact h.nin j c
    · omega
  · intro j hj y hy m hlt
    rcases mem_addK.1 hj with c | c
    · exact mem_addK.2 (.inl (h.closed j c y hy m hlt))
    · subst c
      rw [hx] at hy
      obtain rfl := Option.some.inj hy
      exact mem_addK.2 (.inl (hall m hlt))
  · have hi := (List.getElem?_eq_some_iff.1 hf).1
    exact h.rank i f (by rw [List.getElem?_append_left hi]; exact hf)
  · have hi := (List.getElem?_eq_some_iff.1 hs).1
    rcases h.exp i s (by rw [List.getElem?_append_left hi]; exact hs) y hy m hlt with c | ⟨j, c, hij, hj⟩
    · exact .inl (mem_addK.2 (.inl c))
    · by_cases hjl : j < F0.length
      · rw [List.getElem?_append_left hjl] at hj
        exact .inr ⟨j, c, hij, hj⟩
      · have : j = F0.length := by
          have := (List.getElem?_eq_some_iff.1 hj).1
          simp at this
          omega
        subst this
        rw [last_get] at hj
        simp at hj
        exact .inl (mem_addK.2 (.inr hj.1.symm))
  · rcases h.bot with c | ⟨c, hc⟩
    · exact .inl (mem_addK.2 (.inl c))
    · by_cases h0 : F0 = []
      · subst h0
        simp at hc
        exact .inl (mem_addK.2 (.inr hc.1.symm))
      · refine .inr ⟨c, ?_⟩
        have : 0 < F0.length := List.length_pos_iff.2 h0
        rw [List.getElem?_append_left this] at hc
        exact hc
  · rw [mu_append]
    have : 0 < mu [(t, b)] := by
      cases b
      · simp [mu]
        exact Nat.pow_pos (by omega)
      · simp [mu]
    omega

theorem mu_map : ∀ (M : List Nat) (t : Nat), (∀ k ∈ M, k < t) → mu (M.map (fun k => (k, false))) ≤ M.length * 5 ^ t
  | [], t, _ => by simp [mu]
  | k :: r, t, h => by
    have ih := mu_map r t (fun j hj => h j (by simp [hj]))
    have hk : 5 ^ (k + 1) ≤ 5 ^ t := Nat.pow_le_pow_right (by omega) (h k (by simp))
    simp only [List.map_cons, mu, List.length_cons, Nat.add_mul]
    simp
    omega

/-- Some kids are missing: they come on top. -/
theorem Inv.push {L : List Nd} {id t : Nat} {b : Bool} {F0 : List Fr} {N : List Nat} {x : Nd} (h : Inv L id (F0 ++ [(t, b)]) N) (hM : MayL L) (hx : L[t]? = some x) (hm : ¬ missOf N x (ka x.o) = []) :
    Inv L id (F0 ++ [(t, true)] ++ (missOf N x (ka x.o)).map (fun k => (k, false))) N ∧ mu (F0 ++ [(t, true)] ++ (missOf N x (ka x.o)).map (fun k => (k, false))) < mu (F0 ++ [(t, b)]) := by
  have htl := (List.getElem?_eq_some_iff.1 hx).1
  have hlen : (missOf N x (ka x.o)).length ≤ 3 := Nat.le_trans (missOf_len _ _ _) (Nat.le_trans (ka_le _) (kc_le _))
  have hlt : ∀ k ∈ missOf N x (ka x.o), k < t := by
    intro k hk
    obtain ⟨⟨j, hj, e⟩, _⟩ := mem_missOf.1 hk
    have := mayL_kids hM hx j (Nat.lt_of_lt_of_le hj (ka_le _))
    omega
  have hb : b = false := by
    cases b with
    | false => rfl
    | true =>
      exfalso
      apply hm
      refine List.eq_nil_iff_forall_not_mem.2 fun k hk => ?_
      obtain ⟨⟨j, hj, e⟩, hn⟩ := mem_missOf.1 hk
      rcases h.exp F0.length t last_get x hx j hj with c | ⟨q, c, hq, hqq⟩
      · rw [e] at c; exact hn c
      · have := (List.getElem?_eq_some_iff.1 hqq).1
        simp at this
        omega
  subst hb
  obtain ⟨M, hMM⟩ : ∃ M, missOf N x (ka x.o) = M := ⟨_, rfl⟩
  have hmem : ∀ k, k ∈ M ↔ (∃ j, j < ka x.o ∧ (x.kid j).toNat = k) ∧ k ∉ N := fun k => by rw [← hMM]; exact mem_missOf
  rw [hMM] at hlen hlt ⊢
  have hr := h.rank F0.length (t, false) last_get
  refine ⟨⟨h.nin, h.closed, fun f hf => ?_, fun i f hf => ?_, fun i s hs y hy m hlm => ?_, ?_⟩, ?_⟩
  · simp only [List.mem_append, List.mem_singleton, List.mem_map] at hf
    rcases hf with (c | c) | ⟨k, hk, c⟩
    · exact h.fin f (by simp [c])
    · subst c; exact htl
    · subst c; have := hlt k hk; show k < L.length; omega
  · by_cases hi : i < F0.length
    · rw [List.append_assoc, List.getElem?_append_left hi] at hf
      exact h.rank i f (by rw [List.getElem?_append_left hi]; exact hf)
    · by_cases he : i = F0.length
      · subst he
        rw [List.append_assoc, List.getElem?_append_right (Nat.le_refl _)] at hf
        simp at hf
        subst hf
        exact hr
      · rw [List.getElem?_append_right (by simp; omega)] at hf
        rw [List.getElem?_map] at hf
        cases hk : M[i - (F0 ++ [(t, true)]).length]? with
        | none => rw [hk] at hf; simp at hf
        | some k =>
          rw [hk] at hf
          simp at hf
          subst hf
          have h1 := hlt k (List.mem_of_getElem? hk)
          have h2 := (List.getElem?_eq_some_iff.1 hk).1
          simp at h2
          show i + 3 * k ≤ 3 * id
          simp at hr
          omega
  · by_cases hi : i < F0.length
    · rw [List.append_assoc, List.getElem?_append_left hi] at hs
      rcases h.exp i s (by rw [List.getElem?_append_left hi]; exact hs) y hy m hlm with c | ⟨j, c, hij, hj⟩
      · exact .inl c
      · right
        by_cases hjl : j < F0.length
        · rw [List.getElem?_append_left hjl] at hj
          exact ⟨j, c, hij, by rw [List.append_assoc, List.getElem?_append_left hjl]; exact hj⟩
        · have : j = F0.length := by
            have := (List.getElem?_eq_some_iff.1 hj).1
            simp at this
            omega
          subst this
          rw [last_get] at hj
          simp at hj
          exact ⟨F0.length, true, hij, by rw [List.append_assoc, List.getElem?_append_right (Nat.le_refl _)]; simp [hj.1]⟩
    · by_cases he : i = F0.length
      · subst he
        rw [List.append_assoc, List.getElem?_append_right (Nat.le_refl _)] at hs
        simp at hs
        subst hs
        rw [hx] at hy
        obtain rfl := Option.some.inj hy
        by_cases hn : (x.kid m).toNat ∈ N
        · exact .inl hn
        · right
          have hk : (x.kid m).toNat ∈ M := (hmem _).2 ⟨⟨m, hlm, rfl⟩, hn⟩
          obtain ⟨q, hq⟩ := List.mem_iff_getElem?.1 hk
          refine ⟨(F0 ++ [(t, true)]).length + q, false, by simp; omega, ?_⟩
          rw [List.getElem?_append_right (by omega), List.getElem?_map, Nat.add_sub_cancel_left, hq]
          rfl
      · rw [List.getElem?_append_right (by simp; omega), List.getElem?_map] at hs
        cases hk : M[i - (F0 ++ [(t, true)]).length]? with
        | none => rw [hk] at hs; simp at hs
        | some k => rw [hk] at hs; simp at hs
  · rcases h.bot with c | ⟨c, hc⟩
    · exact .inl c
    · right
      by_cases h0 : F0 = []
      · subst h0
        simp at hc
        exact ⟨true, by simp [hc.1]⟩
      · have : 0 < F0.length := List.length_pos_iff.2 h0
        rw [List.getElem?_append_left this] at hc
        exact ⟨c, by rw [List.append_assoc, List.getElem?_append_left this]; exact hc⟩
  · rw [mu_append, mu_append, mu_append]
    have h1 := mu_map M t hlt
    have h2 : M.length * 5 ^ t ≤ 3 * 5 ^ t := Nat.mul_le_mul_right _ hlen
    have h3 : 0 < 5 ^ t := Nat.pow_pos (by omega)
    have h4 : mu [(t, true)] = 1 := by simp [mu]
    have h5 : mu [(t, false)] = 5 * 5 ^ t := by simp [mu, Nat.pow_succ]; omega
    omega
end Kn
end Go.Proofs.YtkiegiofholofaaGreatDoor

namespace Go.Proofs.YtkiegiofholofaaGreatDoor
open Bv Tm
namespace Kn
set_option maxHeartbeats 400000

section
variable {L : List Nd} {i : Nat} {x : Nd}
theorem wid_at {j : Nat} (hj : j < kc x.o) : wid L x j = widAt L (x.kid j) := by unfold wid; rw [if_pos hj]
theorem wd_un (h : MayL L) (hx : L[i]? = some x) (ho : x.o = 3 ∨ x.o = 4) : widAt L x.k0 = x.w := by
  have hk : kc x.o = 1 := by unfold kc; rw [if_pos (by omega)]
  have hv := mayL_vec h hx (by omega) (by omega)
  unfold vecW at hv
  rw [if_pos ho, wid_at (j := 0) (by omega)] at hv
  have e : x.kid 0 = x.k0 := rfl
  rw [e] at hv
  split at hv <;> omega
theorem wd_bin (h : MayL L) (hx : L[i]? = some x) (ho : 5 ≤ x.o ∧ x.o ≤ 17) : widAt L x.k0 = x.w ∧ widAt L x.k1 = x.w := by
  have hk : kc x.o = 2 := by unfold kc; rw [if_neg (by omega), if_pos (by omega)]
  have hv := mayL_vec h hx (by omega) (by omega)
  unfold vecW at hv
  rw [if_neg (by omega), if_neg (by omega), if_neg (by omega), if_neg (by omega), wid_at (j := 0) (by omega), wid_at (j := 1) (by omega)] at hv
  have e : x.kid 0 = x.k0 := rfl
  have e1 : x.kid 1 = x.k1 := rfl
  rw [e, e1] at hv
  unfold widthB at hv
  rw [if_pos ho] at hv
  repeat' split at hv
  all_goals omega
theorem wd_cmp (h : MayL L) (hx : L[i]? = some x) (ho : 18 ≤ x.o ∧ x.o ≤ 20) : x.w = 1 ∧ widAt L x.k1 = widAt L x.k0 ∧ 1 ≤ widAt L x.k0 ∧ widAt L x.k0 ≤ 64 := by
  have hk : kc x.o = 2 := by unfold kc; rw [if_neg (by omega), if_pos (by omega)]
  have hv := mayL_vec h hx (by omega) (by omega)
  unfold vecW at hv
  rw [if_neg (by omega), if_neg (by omega), if_neg (by omega), if_neg (by omega), wid_at (j := 0) (by omega), wid_at (j := 1) (by omega)] at hv
  have e : x.kid 0 = x.k0 := rfl
  have e1 : x.kid 1 = x.k1 := rfl
  rw [e, e1] at hv
  unfold widthB at hv
  rw [if_neg (show ¬ (5 ≤ x.o ∧ x.o ≤ 17) by omega), if_pos ho] at hv
  repeat' split at hv
  all_goals omega
theorem wd_cat (h : MayL L) (hx : L[i]? = some x) (ho : x.o = 21) : x.w = widAt L x.k0 + widAt L x.k1 ∧ 1 ≤ widAt L x.k0 ∧ 1 ≤ widAt L x.k1 ∧ x.w ≤ 64 := by
  have hk : kc x.o = 2 := by unfold kc; rw [if_neg (by omega), if_pos (by omega)]
  have hv := mayL_vec h hx (by omega) (by omega)
  unfold vecW at hv
  rw [if_neg (by omega), if_neg (by omega), if_neg (by omega), if_neg (by omega), wid_at (j := 0) (by omega), wid_at (j := 1) (by omega)] at hv
  have e : x.kid 0 = x.k0 := rfl
  have e1 : x.kid 1 = x.k1 := rfl
  rw [e, e1] at hv
  unfold widthB at hv
  rw [if_neg (show ¬ (5 ≤ x.o ∧ x.o ≤ 17) by omega), if_neg (show ¬ (18 ≤ x.o ∧ x.o ≤ 20) by omega), if_pos ho] at hv
  repeat' split at hv
  all_goals omega
theorem wd_cut (h : MayL L) (hx : L[i]? = some x) (ho : x.o = 22) : x.l + x.w ≤ widAt L x.k0 ∧ widAt L x.k0 ≤ 64 := by
  have hk : kc x.o = 1 := by unfold kc; rw [if_pos (by omega)]
  have hv := mayL_vec h hx (by omega) (by omega)
  unfold vecW at hv
  rw [if_neg (by omega), if_pos ho, wid_at (j := 0) (by omega)] at hv
  have e : x.kid 0 = x.k0 := rfl
  rw [e] at hv
  split at hv <;> omega
theorem wd_wide (h : MayL L) (hx : L[i]? = some x) (ho : x.o = 23 ∨ x.o = 24) : 1 ≤ widAt L x.k0 ∧ widAt L x.k0 ≤ x.w ∧ x.w ≤ 64 := by
  have hk : kc x.o = 1 := by unfold kc; rw [if_pos (by omega)]
  have hv := mayL_vec h hx (by omega) (by omega)
  unfold vecW at hv
  rw [if_neg (by omega), if_neg (by omega), if_pos ho, wid_at (j := 0) (by omega)] at hv
  have e : x.kid 0 = x.k0 := rfl
  rw [e] at hv
  split at hv <;> omega
theorem wd_ite (h : MayL L) (hx : L[i]? = some x) (ho : x.o = 25) : widAt L x.k0 = 1 ∧ widAt L x.k1 = x.w ∧ widAt L x.k2 = x.w := by
  have hk : kc x.o = 3 := by rw [ho]; decide
  have hv := mayL_vec h hx (by omega) (by omega)
  unfold vecW at hv
  rw [if_neg (by omega), if_neg (by omega), if_neg (by omega), if_pos ho, wid_at (j := 0) (by omega), wid_at (j := 1) (by omega), wid_at (j := 2) (by omega)] at hv
  have e : x.kid 0 = x.k0 := rfl
  have e1 : x.kid 1 = x.k1 := rfl
  have e2 : x.kid 2 = x.k2 := rfl
  rw [e, e1, e2] at hv
  split at hv <;> omega
/-- A kid is a node ahead. -/
theorem kid_in (h : MayL L) (hx : L[i]? = some x) {j : Nat} (hj : j < kc x.o) : ∃ y, L[(x.kid j).toNat]? = some y ∧ (x.kid j).toNat < i ∧ 0 ≤ x.kid j ∧ widAt L (x.kid j) = y.w ∧ kbAt (kvals L i) (x.kid j) = kn L (x.kid j).toNat := by
  have hkj := mayL_kids h hx j hj
  have hl := (List.getElem?_eq_some_iff.1 hx).1
  obtain ⟨y, hy⟩ : ∃ y, L[(x.kid j).toNat]? = some y := ⟨_, List.getElem?_eq_getElem (by omega)⟩
  refine ⟨y, hy, by omega, hkj.1, ?_, kbAt_kn hkj.1 hkj.2⟩
  unfold widAt
  rw [hy]
  rfl
end

/-- The masks of a node have no bit outside its width. -/
theorem kn_lt {L : List Nd} (h : MayL L) : ∀ (i : Nat) (x : Nd), L[i]? = some x → (kn L i).1 < 2 ^ x.w ∧ (kn L i).2 < 2 ^ x.w := by
  intro i
  induction i using Nat.strongRecOn with
  | _ i ih =>
    intro x hx
    have hp := pow_pos' x.w
    rw [kn_is hx]
    unfold oneK opK
    have lo : ∀ a b, (low x.w a, low x.w b).1 < 2 ^ x.w ∧ (low x.w a, low x.w b).2 < 2 ^ x.w := fun a b => ⟨low_le _ _, low_le _ _⟩
    have lz : ∀ a, (low x.w a, 0).1 < 2 ^ x.w ∧ (low x.w a, 0).2 < 2 ^ x.w := fun a => ⟨low_le _ _, hp⟩
    by_cases h1 : x.o = 1
    · rw [if_pos h1]; exact lo _ _
    rw [if_neg h1]
    by_cases h3 : x.o = 3
    · rw [if_pos h3]; exact lo _ _
    rw [if_neg h3]
    by_cases h5 : x.o = 5
    · rw [if_pos h5]; exact lo _ _
    rw [if_neg h5]
    by_cases h6 : x.o = 6
    · rw [if_pos h6]; exact lo _ _
    rw [if_neg h6]
    by_cases h7 : x.o = 7
    · rw [if_pos h7]; exact lo _ _
    rw [if_neg h7]
    by_cases h8 : x.o = 8 ∨ x.o = 9
    · rw [if_pos h8]; exact lz _
    rw [if_neg h8]
    by_cases h10 : x.o = 10
    · rw [if_pos h10]; exact lz _
    rw [if_neg h10]
    by_cases h15 : x.o = 15 ∨ x.o = 16 ∨ x.o = 17
    · rw [if_pos h15, (wd_bin h hx (by omega)).1]
      unfold farK
      split
      · unfold shK
        (repeat' split) <;> exact lo _ _
      · exact ⟨hp, hp⟩
    rw [if_neg h15]
    by_cases h21 : x.o = 21
    · rw [if_pos h21]; exact lo _ _
    rw [if_neg h21]
    by_cases h22 : x.o = 22
    · rw [if_pos h22]; exact lo _ _
    rw [if_neg h22]
    by_cases h23 : x.o = 23
    · rw [if_pos h23]; exact lo _ _
    rw [if_neg h23]
    by_cases h24 : x.o = 24
    · rw [if_pos h24]; exact lo _ _
    rw [if_neg h24]
    by_cases h25 : x.o = 25
    · rw [if_pos h25]
      have hk : kc x.o = 3 := by rw [h25]; decide
      have hw := wd_ite h hx h25
      obtain ⟨y1, e1, l1, _, w1, v1⟩ := kid_in h hx (j := 1) (by omega)
      obtain ⟨y2, e2, l2, _, w2, v2⟩ := kid_in h hx (j := 2) (by omega)
      have m1 := ih _ l1 y1 e1
      have m2 := ih _ l2 y2 e2
      have f1 : x.kid 1 = x.k1 := rfl
      have f2 : x.kid 2 = x.k2 := rfl
      rw [f1] at w1 v1 m1
      rw [f2] at w2 v2 m2
      rw [hw.2.1, v1, v2]
      rw [← w1, hw.2.1] at m1
      rw [← w2, hw.2.2] at m2
      unfold iteK
      split
      · exact m1
      · split
        · exact m2
        · exact lo _ _
    rw [if_neg h25]
    by_cases h18 : x.o = 18
    · rw [if_pos h18, (wd_cmp h hx (by omega)).1]
      unfold eqK
      split
      · exact ⟨by decide, by decide⟩
      · split
        · exact ⟨by decide, by decide⟩
        · exact ⟨by decide, by decide⟩
    rw [if_neg h18]
    exact ⟨hp, hp⟩
theorem kn_lt64 {L : List Nd} (g : Gd L) (h : MayL L) {i : Nat} (hi : i < L.length) : (kn L i).1 < 18446744073709551616 ∧ (kn L i).2 < 18446744073709551616 := by
  obtain ⟨x, hx⟩ : ∃ x, L[i]? = some x := ⟨_, List.getElem?_eq_getElem hi⟩
  have := kn_lt h i x hx
  have hw := pow_le64 (g.w x (List.mem_of_getElem? hx)).2
  omega
end Kn
end Go.Proofs.YtkiegiofholofaaGreatDoor
