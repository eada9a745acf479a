/-
How many kids an operator has, as layer term tells it: a fact on one call.
What a store is in memory; what stays while a call writes it; what New, Node, Width return.
A node in a block of its own: kept over calls and new blocks.
-/
import Derived.Test.YtigjbngedbbdbaaPt02
namespace Go.Proofs.Ytigjbngedbbdbaa
open Go.RowKit Bv
namespace Tm
set_option maxHeartbeats 400000
set_option maxRecDepth 100000

theorem kids_3 (W : World) : Calls Try.prog 49 #[.int .u8 3] W fun e W' => e = .returned (.int .i64 1) ∧ W = W' := by
  go_enter Try.func49, Try.ntmps49
  go_wp2_with fail
  repeat' (first | ((with_reducible refine wp_exit ?_); (repeat (first | (with_reducible refine ex_then ?_) | (with_reducible refine ex_near ?_) | (refine ex_far (by decide) ?_))); (with_reducible refine ex_go ?_)) | go_values | go_skip | go_guarded | go_step | go_upon)
  go_ret
  exact ⟨rfl, rfl⟩

theorem kids_4 (W : World) : Calls Try.prog 49 #[.int .u8 4] W fun e W' => e = .returned (.int .i64 1) ∧ W = W' := by
  go_enter Try.func49, Try.ntmps49
  go_wp2_with fail
  repeat' (first | ((with_reducible refine wp_exit ?_); (repeat (first | (with_reducible refine ex_then ?_) | (with_reducible refine ex_near ?_) | (refine ex_far (by decide) ?_))); (with_reducible refine ex_go ?_)) | go_values | go_skip | go_guarded | go_step | go_upon)
  go_ret
  exact ⟨rfl, rfl⟩

theorem kids_5 (W : World) : Calls Try.prog 49 #[.int .u8 5] W fun e W' => e = .returned (.int .i64 2) ∧ W = W' := by
  go_enter Try.func49, Try.ntmps49
  go_wp2_with fail
  repeat' (first | ((with_reducible refine wp_exit ?_); (repeat (first | (with_reducible refine ex_then ?_) | (with_reducible refine ex_near ?_) | (refine ex_far (by decide) ?_))); (with_reducible refine ex_go ?_)) | go_values | go_skip | go_guarded | go_step | go_upon)
  go_ret
  exact ⟨rfl, rfl⟩

theorem kids_6 (W : World) : Calls Try.prog 49 #[.int .u8 6] W fun e W' => e = .returned (.int .i64 2) ∧ W = W' := by
  go_enter Try.func49, Try.ntmps49
  go_wp2_with fail
  repeat' (first | ((with_reducible refine wp_exit ?_); (repeat (first | (with_reducible refine ex_then ?_) | (with_reducible refine ex_near ?_) | (refine ex_far (by decide) ?_))); (with_reducible refine ex_go ?_)) | go_values | go_skip | go_guarded | go_step | go_upon)
  go_ret
  exact ⟨rfl, rfl⟩

theorem kids_7 (W : World) : Calls Try.prog 49 #[.int .u8 7] W fun e W' => e = .returned (.int .i64 2) ∧ W = W' := by
  go_enter Try.func49, Try.ntmps49
  go_wp2_with fail
  repeat' (first | ((with_reducible refine wp_exit ?_); (repeat (first | (with_reducible refine ex_then ?_) | (with_reducible refine ex_near ?_) | (refine ex_far (by decide) ?_))); (with_reducible refine ex_go ?_)) | go_values | go_skip | go_guarded | go_step | go_upon)
  go_ret
  exact ⟨rfl, rfl⟩

theorem kids_8 (W : World) : Calls Try.prog 49 #[.int .u8 8] W fun e W' => e = .returned (.int .i64 2) ∧ W = W' := by
  go_enter Try.func49, Try.ntmps49
  go_wp2_with fail
  repeat' (first | ((with_reducible refine wp_exit ?_); (repeat (first | (with_reducible refine ex_then ?_) | (with_reducible refine ex_near ?_) | (refine ex_far (by decide) ?_))); (with_reducible refine ex_go ?_)) | go_values | go_skip | go_guarded | go_step | go_upon)
  go_ret
  exact ⟨rfl, rfl⟩

theorem kids_9 (W : World) : Calls Try.prog 49 #[.int .u8 9] W fun e W' => e = .returned (.int .i64 2) ∧ W = W' := by
  go_enter Try.func49, Try.ntmps49
  go_wp2_with fail
  repeat' (first | ((with_reducible refine wp_exit ?_); (repeat (first | (with_reducible refine ex_then ?_) | (with_reducible refine ex_near ?_) | (refine ex_far (by decide) ?_))); (with_reducible refine ex_go ?_)) | go_values | go_skip | go_guarded | go_step | go_upon)
  go_ret
  exact ⟨rfl, rfl⟩

theorem kids_10 (W : World) : Calls Try.prog 49 #[.int .u8 10] W fun e W' => e = .returned (.int .i64 2) ∧ W = W' := by
  go_enter Try.func49, Try.ntmps49
  go_wp2_with fail
  repeat' (first | ((with_reducible refine wp_exit ?_); (repeat (first | (with_reducible refine ex_then ?_) | (with_reducible refine ex_near ?_) | (refine ex_far (by decide) ?_))); (with_reducible refine ex_go ?_)) | go_values | go_skip | go_guarded | go_step | go_upon)
  go_ret
  exact ⟨rfl, rfl⟩

theorem kids_11 (W : World) : Calls Try.prog 49 #[.int .u8 11] W fun e W' => e = .returned (.int .i64 2) ∧ W = W' := by
  go_enter Try.func49, Try.ntmps49
  go_wp2_with fail
  repeat' (first | ((with_reducible refine wp_exit ?_); (repeat (first | (with_reducible refine ex_then ?_) | (with_reducible refine ex_near ?_) | (refine ex_far (by decide) ?_))); (with_reducible refine ex_go ?_)) | go_values | go_skip | go_guarded | go_step | go_upon)
  go_ret
  exact ⟨rfl, rfl⟩

theorem kids_12 (W : World) : Calls Try.prog 49 #[.int .u8 12] W fun e W' => e = .returned (.int .i64 2) ∧ W = W' := by
  go_enter Try.func49, Try.ntmps49
  go_wp2_with fail
  repeat' (first | ((with_reducible refine wp_exit ?_); (repeat (first | (with_reducible refine ex_then ?_) | (with_reducible refine ex_near ?_) | (refine ex_far (by decide) ?_))); (with_reducible refine ex_go ?_)) | go_values | go_skip | go_guarded | go_step | go_upon)
  go_ret
  exact ⟨rfl, rfl⟩

theorem kids_13 (W : World) : Calls Try.prog 49 #[.int .u8 13] W fun e W' => e = .returned (.int .i64 2) ∧ W = W' := by
  go_enter Try.func49, Try.ntmps49
  go_wp2_with fail
  repeat' (first | ((with_reducible refine wp_exit ?_); (repeat (first | (with_reducible refine ex_then ?_) | (with_reducible refine ex_near ?_) | (refine ex_far (by decide) ?_))); (with_reducible refine ex_go ?_)) | go_values | go_skip | go_guarded | go_step | go_upon)
  go_ret
  exact ⟨rfl, rfl⟩

theorem kids_14 (W : World) : Calls Try.prog 49 #[.int .u8 14] W fun e W' => e = .returned (.int .i64 2) ∧ W = W' := by
  go_enter Try.func49, Try.ntmps49
  go_wp2_with fail
  repeat' (first | ((with_reducible refine wp_exit ?_); (repeat (first | (with_reducible refine ex_then ?_) | (with_reducible refine ex_near ?_) | (refine ex_far (by decide) ?_))); (with_reducible refine ex_go ?_)) | go_values | go_skip | go_guarded | go_step | go_upon)
  go_ret
  exact ⟨rfl, rfl⟩

theorem kids_15 (W : World) : Calls Try.prog 49 #[.int .u8 15] W fun e W' => e = .returned (.int .i64 2) ∧ W = W' := by
  go_enter Try.func49, Try.ntmps49
  go_wp2_with fail
  repeat' (first | ((with_reducible refine wp_exit ?_); (repeat (first | (with_reducible refine ex_then ?_) | (with_reducible refine ex_near ?_) | (refine ex_far (by decide) ?_))); (with_reducible refine ex_go ?_)) | go_values | go_skip | go_guarded | go_step | go_upon)
  go_ret
  exact ⟨rfl, rfl⟩

theorem kids_16 (W : World) : Calls Try.prog 49 #[.int .u8 16] W fun e W' => e = .returned (.int .i64 2) ∧ W = W' := by
  go_enter Try.func49, Try.ntmps49
  go_wp2_with fail
  repeat' (first | ((with_reducible refine wp_exit ?_); (repeat (first | (with_reducible refine ex_then ?_) | (with_reducible refine ex_near ?_) | (refine ex_far (by decide) ?_))); (with_reducible refine ex_go ?_)) | go_values | go_skip | go_guarded | go_step | go_upon)
  go_ret
  exact ⟨rfl, rfl⟩

theorem kids_17 (W : World) : Calls Try.prog 49 #[.int .u8 17] W fun e W' => e = .returned (.int .i64 2) ∧ W = W' := by
  go_enter Try.func49, Try.ntmps49
  go_wp2_with fail
  repeat' (first | ((with_reducible refine wp_exit ?_); (repeat (first | (with_reducible refine ex_then ?_) | (with_reducible refine ex_near ?_) | (refine ex_far (by decide) ?_))); (with_reducible refine ex_go ?_)) | go_values | go_skip | go_guarded | go_step | go_upon)
  go_ret
  exact ⟨rfl, rfl⟩

theorem kids_18 (W : World) : Calls Try.prog 49 #[.int .u8 18] W fun e W' => e = .returned (.int .i64 2) ∧ W = W' := by
  go_enter Try.func49, Try.ntmps49
  go_wp2_with fail
  repeat' (first | ((with_reducible refine wp_exit ?_); (repeat (first | (with_reducible refine ex_then ?_) | (with_reducible refine ex_near ?_) | (refine ex_far (by decide) ?_))); (with_reducible refine ex_go ?_)) | go_values | go_skip | go_guarded | go_step | go_upon)
  go_ret
  exact ⟨rfl, rfl⟩

theorem kids_19 (W : World) : Calls Try.prog 49 #[.int .u8 19] W fun e W' => e = .returned (.int .i64 2) ∧ W = W' := by
  go_enter Try.func49, Try.ntmps49
  go_wp2_with fail
  repeat' (first | ((with_reducible refine wp_exit ?_); (repeat (first | (with_reducible refine ex_then ?_) | (with_reducible refine ex_near ?_) | (refine ex_far (by decide) ?_))); (with_reducible refine ex_go ?_)) | go_values | go_skip | go_guarded | go_step | go_upon)
  go_ret
  exact ⟨rfl, rfl⟩

theorem kids_20 (W : World) : Calls Try.prog 49 #[.int .u8 20] W fun e W' => e = .returned (.int .i64 2) ∧ W = W' := by
  go_enter Try.func49, Try.ntmps49
  go_wp2_with fail
  repeat' (first | ((with_reducible refine wp_exit ?_); (repeat (first | (with_reducible refine ex_then ?_) | (with_reducible refine ex_near ?_) | (refine ex_far (by decide) ?_))); (with_reducible refine ex_go ?_)) | go_values | go_skip | go_guarded | go_step | go_upon)
  go_ret
  exact ⟨rfl, rfl⟩

theorem kids_21 (W : World) : Calls Try.prog 49 #[.int .u8 21] W fun e W' => e = .returned (.int .i64 2) ∧ W = W' := by
  go_enter Try.func49, Try.ntmps49
  go_wp2_with fail
  repeat' (first | ((with_reducible refine wp_exit ?_); (repeat (first | (with_reducible refine ex_then ?_) | (with_reducible refine ex_near ?_) | (refine ex_far (by decide) ?_))); (with_reducible refine ex_go ?_)) | go_values | go_skip | go_guarded | go_step | go_upon)
  go_ret
  exact ⟨rfl, rfl⟩

theorem kids_22 (W : World) : Calls Try.prog 49 #[.int .u8 22] W fun e W' => e = .returned (.int .i64 1) ∧ W = W' := by
  go_enter Try.func49, Try.ntmps49
  go_wp2_with fail
  repeat' (first | ((with_reducible refine wp_exit ?_); (repeat (first | (with_reducible refine ex_then ?_) | (with_reducible refine ex_near ?_) | (refine ex_far (by decide) ?_))); (with_reducible refine ex_go ?_)) | go_values | go_skip | go_guarded | go_step | go_upon)
  go_ret
  exact ⟨rfl, rfl⟩

theorem kids_23 (W : World) : Calls Try.prog 49 #[.int .u8 23] W fun e W' => e = .returned (.int .i64 1) ∧ W = W' := by
  go_enter Try.func49, Try.ntmps49
  go_wp2_with fail
  repeat' (first | ((with_reducible refine wp_exit ?_); (repeat (first | (with_reducible refine ex_then ?_) | (with_reducible refine ex_near ?_) | (refine ex_far (by decide) ?_))); (with_reducible refine ex_go ?_)) | go_values | go_skip | go_guarded | go_step | go_upon)
  go_ret
  exact ⟨rfl, rfl⟩

theorem kids_24 (W : World) : Calls Try.prog 49 #[.int .u8 24] W fun e W' => e = .returned (.int .i64 1) ∧ W = W' := by
  go_enter Try.func49, Try.ntmps49
  go_wp2_with fail
  repeat' (first | ((with_reducible refine wp_exit ?_); (repeat (first | (with_reducible refine ex_then ?_) | (with_reducible refine ex_near ?_) | (refine ex_far (by decide) ?_))); (with_reducible refine ex_go ?_)) | go_values | go_skip | go_guarded | go_step | go_upon)
  go_ret
  exact ⟨rfl, rfl⟩

theorem kids_25 (W : World) : Calls Try.prog 49 #[.int .u8 25] W fun e W' => e = .returned (.int .i64 3) ∧ W = W' := by
  go_enter Try.func49, Try.ntmps49
  go_wp2_with fail
  repeat' (first | ((with_reducible refine wp_exit ?_); (repeat (first | (with_reducible refine ex_then ?_) | (with_reducible refine ex_near ?_) | (refine ex_far (by decide) ?_))); (with_reducible refine ex_go ?_)) | go_values | go_skip | go_guarded | go_step | go_upon)
  go_ret
  exact ⟨rfl, rfl⟩

theorem kids_no (o : Nat) (h : o < 3 ∨ 25 < o) (W : World) : Calls Try.prog 49 #[.int .u8 o] W fun e W' => e = .returned (.int .i64 0) ∧ W = W' := by
  have d3 : ((o : Int) == 3) = false := by simp; omega
  have d4 : ((o : Int) == 4) = false := by simp; omega
  have d5 : ((o : Int) == 5) = false := by simp; omega
  have d6 : ((o : Int) == 6) = false := by simp; omega
  have d7 : ((o : Int) == 7) = false := by simp; omega
  have d8 : ((o : Int) == 8) = false := by simp; omega
  have d9 : ((o : Int) == 9) = false := by simp; omega
  have d10 : ((o : Int) == 10) = false := by simp; omega
  have d11 : ((o : Int) == 11) = false := by simp; omega
  have d12 : ((o : Int) == 12) = false := by simp; omega
  have d13 : ((o : Int) == 13) = false := by simp; omega
  have d14 : ((o : Int) == 14) = false := by simp; omega
  have d15 : ((o : Int) == 15) = false := by simp; omega
  have d16 : ((o : Int) == 16) = false := by simp; omega
  have d17 : ((o : Int) == 17) = false := by simp; omega
  have d18 : ((o : Int) == 18) = false := by simp; omega
  have d19 : ((o : Int) == 19) = false := by simp; omega
  have d20 : ((o : Int) == 20) = false := by simp; omega
  have d21 : ((o : Int) == 21) = false := by simp; omega
  have d22 : ((o : Int) == 22) = false := by simp; omega
  have d23 : ((o : Int) == 23) = false := by simp; omega
  have d24 : ((o : Int) == 24) = false := by simp; omega
  have d25 : ((o : Int) == 25) = false := by simp; omega
  go_enter Try.func49, Try.ntmps49
  go_wp2_with fail
  repeat' (first | ((with_reducible refine wp_exit ?_); (repeat (first | (with_reducible refine ex_then ?_) | (with_reducible refine ex_near ?_) | (refine ex_far (by decide) ?_))); (with_reducible refine ex_go ?_)) | go_values | go_skip | go_guarded | go_step | go_upon)
  go_ret
  exact ⟨rfl, rfl⟩

theorem kids_any (o : Nat) (W : World) : Calls Try.prog 49 #[.int .u8 o] W fun e W' => e = .returned (.int .i64 ((kc o : Nat) : Int)) ∧ W = W' := by
  by_cases h : o < 3 ∨ 25 < o
  · rw [show kc o = 0 by unfold kc; rw [if_neg (by omega), if_neg (by omega), if_neg (by omega)]]
    exact kids_no o h W
  by_cases h3 : o = 3
  · subst h3; exact kids_3 W
  by_cases h4 : o = 4
  · subst h4; exact kids_4 W
  by_cases h5 : o = 5
  · subst h5; exact kids_5 W
  by_cases h6 : o = 6
  · subst h6; exact kids_6 W
  by_cases h7 : o = 7
  · subst h7; exact kids_7 W
  by_cases h8 : o = 8
  · subst h8; exact kids_8 W
  by_cases h9 : o = 9
  · subst h9; exact kids_9 W
  by_cases h10 : o = 10
  · subst h10; exact kids_10 W
  by_cases h11 : o = 11
  · subst h11; exact kids_11 W
  by_cases h12 : o = 12
  · subst h12; exact kids_12 W
  by_cases h13 : o = 13
  · subst h13; exact kids_13 W
  by_cases h14 : o = 14
  · subst h14; exact kids_14 W
  by_cases h15 : o = 15
  · subst h15; exact kids_15 W
  by_cases h16 : o = 16
  · subst h16; exact kids_16 W
  by_cases h17 : o = 17
  · subst h17; exact kids_17 W
  by_cases h18 : o = 18
  · subst h18; exact kids_18 W
  by_cases h19 : o = 19
  · subst h19; exact kids_19 W
  by_cases h20 : o = 20
  · subst h20; exact kids_20 W
  by_cases h21 : o = 21
  · subst h21; exact kids_21 W
  by_cases h22 : o = 22
  · subst h22; exact kids_22 W
  by_cases h23 : o = 23
  · subst h23; exact kids_23 W
  by_cases h24 : o = 24
  · subst h24; exact kids_24 W
  obtain rfl : o = 25 := by omega
  exact kids_25 W
end Tm
end Go.Proofs.Ytigjbngedbbdbaa

namespace Go.Proofs.Ytigjbngedbbdbaa
open Go.RowKit Go.Maps Bv
namespace Tm
set_option maxHeartbeats 400000
set_option maxRecDepth 100000

/-- Nothing has turned but blocks of F and new ones. -/
structure Kept (F : Nat → Prop) (w w' : World) : Prop where
  os : w'.os = w.os
  tape : w'.tape = w.tape
  output : w'.output = w.output
  size : w.heap.size ≤ w'.heap.size
  block : ∀ k, k < w.heap.size → ¬ F k → w'.heap[k]? = w.heap[k]?

section
variable {F G : Nat → Prop} {a b c : World}
theorem Kept.refl (F : Nat → Prop) (w : World) : Kept F w w := ⟨rfl, rfl, rfl, Nat.le_refl _, fun _ _ _ => rfl⟩
theorem Kept.thenNew (h : Kept F a b) (k : Kept G b c) (hG : ∀ i, i < a.heap.size → G i → F i) : Kept F a c :=
  ⟨k.os.trans h.os, k.tape.trans h.tape, k.output.trans h.output, Nat.le_trans h.size k.size, fun i hi hn => (k.block i (Nat.lt_of_lt_of_le hi h.size) (fun g => hn (hG i hi g))).trans (h.block i hi hn)⟩
theorem Kept.trans (h : Kept F a b) (k : Kept F b c) : Kept F a c := h.thenNew k (fun _ _ x => x)
theorem Kept.mono (h : Kept F a b) (hG : ∀ i, i < a.heap.size → F i → G i) : Kept G a b := ⟨h.os, h.tape, h.output, h.size, fun i hi hn => h.block i hi (fun f => hn (hG i hi f))⟩
theorem Kept.ofBelow (h : Below a.heap.size a b) (F : Nat → Prop) : Kept F a b := ⟨h.os, h.tape, h.output, h.size, fun i hi _ => h.block i hi⟩
theorem Kept.below {B : Nat} (h : Kept F a b) (hF : ∀ i, i < B → ¬ F i) (hB : B ≤ a.heap.size) : Below B a b := ⟨h.os, h.tape, h.output, h.size, fun i hi => h.block i (by omega) (hF i hi)⟩
theorem Kept.alloc (h : Kept F a b) (o : Obj) : Kept F a (b.alloc o) :=
  h.thenNew (Kept.ofBelow ((Below.refl _ _).alloc (Nat.le_refl _) o) (fun _ => False)) (fun _ _ x => x.elim)
theorem Kept.drew (h : Kept F a b) : Kept F a b.drew := ⟨h.os, h.tape, h.output, h.size, h.block⟩
theorem Kept.call (h : Kept F a b) (k : Below b.heap.size b c) : Kept F a c := h.thenNew (Kept.ofBelow k (fun _ => False)) (fun _ _ x => x.elim)
theorem Kept.grown {row : Option Nat} (h : Kept F a b) (k : b.grownBy c row) (hr : ∀ i, row = some i → i < a.heap.size → F i) : Kept F a c :=
  h.thenNew (G := fun i => row = some i) ⟨k.os, k.tape, k.output, k.size, fun i hi hn => k.block i hi (fun e => hn e.symm)⟩ (fun i hi e => hr i e hi)
theorem Kept.setCell (h : Kept F a b) (x : Addr) (u : Value) (hF : x.block < a.heap.size → F x.block) : Kept F a (b.setCell x u) :=
  h.thenNew (G := fun i => i = x.block) ⟨rfl, rfl, rfl, by simp [World.setCell], fun i _ hn => Below.heap_setCell _ _ _ _ hn⟩ (fun i hi e => by rw [e] at hi ⊢; exact hF hi)
theorem Kept.cell (h : Kept F a b) {x : Addr} (hx : x.block < a.heap.size) (hF : ¬ F x.block) : b.cell? x = a.cell? x := World.cell?_of_block (w := a) (h.block _ hx hF)
theorem Kept.frozen (h : Kept F a b) {x : Addr} (hx : x.block < a.heap.size) (hF : ¬ F x.block) : b.frozen? x = a.frozen? x := World.frozen?_of_block (w := a) (h.block _ hx hF)
end

def rowOf (L : List Nd) : List Value := L.flatMap (fun x => x.cells.toList)
theorem rowOf_length (L : List Nd) : (rowOf L).length = L.length * 7 := by
  induction L with
  | nil => rfl
  | cons x r ih => simp only [rowOf, List.flatMap_cons, List.length_append, List.length_cons] at ih ⊢; rw [ih]; simp [Nd.cells]; omega
theorem rowOf_append (L : List Nd) (x : Nd) : rowOf (L ++ [x]) = rowOf L ++ x.cells.toList := by simp [rowOf]
theorem rowOf_at {L : List Nd} : ∀ {k : Nat} {x : Nd}, L[k]? = some x → ∀ j, j < 7 → (rowOf L)[k * 7 + j]? = x.cells.toList[j]? := by
  induction L with
  | nil => intro k x h; simp at h
  | cons y r ih =>
    intro k x h j hj
    have hy : y.cells.toList.length = 7 := by simp [Nd.cells]
    simp only [rowOf, List.flatMap_cons]
    cases k with
    | zero =>
      simp at h
      subst h
      rw [List.getElem?_append_left (by omega)]
      simp
    | succ k =>
      simp at h
      rw [List.getElem?_append_right (by omega), hy, show (k + 1) * 7 + j - 7 = k * 7 + j by omega]
      exact ih h j hj

/-- The block p of w is a store that has the nodes L; its map is block m, its list the value sv; all of it lies from block B on. -/
structure StoreAt (B : Nat) (w : World) (p m : Nat) (sv : Value) (L : List Nd) : Prop where
  bp : B ≤ p
  bm : B ≤ m
  lt : p < w.heap.size
  lm : m < w.heap.size
  pm : p ≠ m
  c0 : w.cell? ⟨p, 0, none⟩ = some sv
  c1 : w.cell? ⟨p, 1, none⟩ = some (.map (some m))
  cw : ∀ v, v < 256 → w.cell? ⟨p, 2 + v, none⟩ = some (.int .u8 ((wdOf L v : Nat) : Int))
  fr : ∀ o, w.frozen? ⟨p, o, none⟩ = false
  row : w.ownsRow B 57 7 sv L.length (rowOf L)
  gp : sv.ownBlock ≠ some p
  gm : sv.ownBlock ≠ some m
  tab : ∃ D : DataW Unit, w.ownsMap Try.prog 57 (plainElem Try.prog 3) m L.length D ∧ Table L D
  good : Gd L

/-- The blocks that a store is made of. -/
def foot (p m : Nat) (sv : Value) (k : Nat) : Prop := k = p ∨ k = m ∨ sv.ownBlock = some k

theorem StoreAt.kept {B : Nat} {w w' : World} {p m : Nat} {sv : Value} {L : List Nd} {F : Nat → Prop} (h : StoreAt B w p m sv L) (k : Kept F w w') (hF : ∀ i, foot p m sv i → ¬ F i) : StoreAt B w' p m sv L := by
  have fp := hF p (.inl rfl)
  have fm := hF m (.inr (.inl rfl))
  refine ⟨h.bp, h.bm, Nat.lt_of_lt_of_le h.lt k.size, Nat.lt_of_lt_of_le h.lm k.size, h.pm, (k.cell h.lt fp).trans h.c0, (k.cell h.lt fp).trans h.c1, fun v hv => (k.cell h.lt fp).trans (h.cw v hv),
    fun o => (k.frozen h.lt fp).trans (h.fr o), ?_, h.gp, h.gm, ?_, h.good⟩
  · rcases h.row with ⟨hl, h1 | ⟨g, cap, cur, hv, hb, hh, r⟩⟩
    · exact ⟨hl, .inl h1⟩
    · have hg : g < w.heap.size := (Array.getElem?_eq_some_iff.1 hh).1
      exact ⟨hl, .inr ⟨g, cap, cur, hv, hb, (k.block g hg (hF g (.inr (.inr (by rw [hv]; rfl))))).trans hh, r⟩⟩
  · obtain ⟨D, ⟨es, clock, hb, r⟩, ht⟩ := h.tab
    exact ⟨D, ⟨es, clock, (k.block m h.lm fm).trans hb, r⟩, ht⟩

theorem StoreAt.alloc {B : Nat} {w : World} {p m : Nat} {sv : Value} {L : List Nd} (h : StoreAt B w p m sv L) (o : Obj) : StoreAt B (w.alloc o) p m sv L :=
  h.kept ((Kept.refl (fun _ => False) w).alloc o) (fun _ _ x => x)
theorem StoreAt.call {B : Nat} {w w' : World} {p m : Nat} {sv : Value} {L : List Nd} (h : StoreAt B w p m sv L) (k : Below w.heap.size w w') : StoreAt B w' p m sv L :=
  h.kept (Kept.ofBelow k (fun _ => False)) (fun _ _ x => x)
theorem StoreAt.drew {B : Nat} {w : World} {p m : Nat} {sv : Value} {L : List Nd} (h : StoreAt B w p m sv L) : StoreAt B w.drew p m sv L :=
  h.kept ((Kept.refl (fun _ => False) w).drew) (fun _ _ x => x)

theorem StoreAt.shape {B : Nat} {w : World} {p m : Nat} {sv : Value} {L : List Nd} (h : StoreAt B w p m sv L) : ∃ a c, sv = .slice a L.length c := by
  rcases h.row with ⟨_, ⟨h1, h2⟩ | ⟨g, cap, cur, hv, _⟩⟩
  · exact ⟨none, 0, by rw [h1, h2]⟩
  · exact ⟨_, _, hv⟩
theorem StoreAt.shapeAt {B : Nat} {w : World} {p m : Nat} {sv : Value} {L : List Nd} (h : StoreAt B w p m sv L) {k : Nat} {x : Nd} (hx : L[k]? = some x) :
    ∃ g c, sv = .slice (some ⟨g, 0, none⟩) L.length c ∧ ∀ j u, x.cells.toList[j]? = some u → w.cell? ⟨g, k * 7 + j, none⟩ = some u := by
  have hlt := (List.getElem?_eq_some_iff.1 hx).1
  have hr := h.row
  rcases h.row with ⟨_, ⟨h1, h2⟩ | ⟨g, cap, cur, hv, _⟩⟩
  · omega
  · refine ⟨g, cap, hv, fun j u hj => ?_⟩
    have hj7 : j < 7 := by have := (List.getElem?_eq_some_iff.1 hj).1; simpa [Nd.cells] using this
    have := hr.cells (g := g) (by rw [hv]; rfl) (k * 7 + j) u (by rw [rowOf_at hx j hj7]; exact hj)
    have e : (⟨g, 0, none⟩ : Addr).add (k * 7 + j) = ⟨g, k * 7 + j, none⟩ := by
      unfold Addr.add
      split <;> simp_all
    rw [e] at this
    exact this

/-! ### New -/
theorem zero_is : Try.zeroCells49 = #[.slice none 0 0, .map none] ++ Array.replicate 256 (.int .u8 0) := by kernel_rfl

theorem new_any (W : World) :
    Calls Try.prog 12 #[] W fun e W' => e = .returned (.pointer (some ⟨W.heap.size + 1, 0, none⟩)) ∧
      W' = (W.alloc (.map #[] 0)).alloc (.cells (Try.zeroCells49.setIfInBounds 1 (.map (some W.heap.size))) 49) := by
  have hmm := @run_makeMap Try.prog
  go_enter Try.func12, Try.ntmps12
  go_wp2
  go_ret
  exact ⟨rfl, rfl⟩

theorem new_store (W : World) :
    StoreAt W.heap.size ((W.alloc (.map #[] 0)).alloc (.cells (Try.zeroCells49.setIfInBounds 1 (.map (some W.heap.size))) 49)) (W.heap.size + 1) W.heap.size (.slice none 0 0) [] := by
  have hs : (W.alloc (.map #[] 0)).heap.size = W.heap.size + 1 := by simp
  have hh : ((W.alloc (.map #[] 0)).alloc (.cells (Try.zeroCells49.setIfInBounds 1 (.map (some W.heap.size))) 49)).heap[W.heap.size + 1]? = some (.cells (Try.zeroCells49.setIfInBounds 1 (.map (some W.heap.size))) 49 (0, 0)) := by
    have := (MapKept.heap_alloc (W.alloc (.map #[] 0)) (.cells (Try.zeroCells49.setIfInBounds 1 (.map (some W.heap.size))) 49)).1
    rw [hs] at this
    exact this
  have hz : ∀ j, (Try.zeroCells49.setIfInBounds 1 (.map (some W.heap.size)))[j]? = if j = 1 then some (.map (some W.heap.size)) else if j = 0 then some (.slice none 0 0) else if j < 258 then some (.int .u8 0) else none := by
    intro j
    rw [zero_is, Array.getElem?_setIfInBounds]
    by_cases h1 : 1 = j
    · subst h1; simp
    · rw [if_neg h1, if_neg (by omega), Array.getElem?_append]
      by_cases h0 : j = 0
      · subst h0; simp
      · rw [if_neg (by simp; omega), if_neg h0, Array.getElem?_replicate]
        simp only [List.size_toArray, List.length_cons, List.length_nil]
        by_cases hj : j < 258
        · rw [if_pos (by omega), if_pos hj]
        · rw [if_neg (by omega), if_neg hj]
  generalize hC : (Try.zeroCells49.setIfInBounds 1 (.map (some W.heap.size))) = C at hh hz ⊢
  have hm : ((W.alloc (.map #[] 0)).alloc (.cells C 49)).ownsMap Try.prog 57 (plainElem (H := Unit) Try.prog 3) W.heap.size 0 (.map []) := (World.ownsMap_made W _ _ _).alloc _
  have hsz : ((W.alloc (.map #[] 0)).alloc (.cells C 49)).heap.size = W.heap.size + 1 + 1 := by simp
  generalize ((W.alloc (.map #[] 0)).alloc (.cells C 49)) = W2 at hh hm hsz ⊢
  have hc : ∀ j, W2.cell? ⟨W.heap.size + 1, j, none⟩ = C[j]? := by
    intro j
    unfold World.cell?
    rw [hh]
    rfl
  refine ⟨by omega, Nat.le_refl _, by omega, by omega, by omega, ?_, ?_, ?_, ?_, ?_, by simp [Value.ownBlock], by simp [Value.ownBlock], ⟨.map [], hm, table_nil⟩, gd_nil⟩
  · rw [hc, hz]; rfl
  · rw [hc, hz]; rfl
  · intro v hv
    rw [hc, hz, if_neg (by omega), if_neg (by omega), if_pos (by omega)]
    rfl
  · intro o
    unfold World.frozen?
    rw [hh]
    simp
  · exact World.ownsRow_nil _ _ _ _

theorem new_kept (W : World) (o1 o2 : Obj) : Below W.heap.size W ((W.alloc o1).alloc o2) := ((Below.refl _ _).alloc (Nat.le_refl _) _).alloc (by simp) _

theorem row_kept {w w' : World} {base size : Nat} {e : TypeId} {v : Value} {n : Nat} {xs : List Value} {F : Nat → Prop} (h : w.ownsRow base e size v n xs) (k : Kept F w w') (hF : ∀ g, v.ownBlock = some g → ¬ F g) : w'.ownsRow base e size v n xs := by
  rcases h with ⟨hl, h1 | ⟨g, cap, cur, hv, hb, hh, r⟩⟩
  · exact ⟨hl, .inl h1⟩
  · exact ⟨hl, .inr ⟨g, cap, cur, hv, hb, (k.block g (Array.getElem?_eq_some_iff.1 hh).1 (hF g (by rw [hv]; rfl))).trans hh, r⟩⟩

theorem size_alloc (w : World) (o : Obj) : (w.alloc o).heap.size = w.heap.size + 1 := by simp

theorem cells_far {w : World} {i : Nat} {x : Nd} {b ol : Nat} (hf : ∀ j u, x.cells.toList[j]? = some u → w.cell? ⟨b, ol + i * 7 + j, none⟩ = some u) :
    w.cell? ⟨b, ol + i * 7, none⟩ = some (.int .u8 ((x.o : Nat) : Int)) ∧ w.cell? ⟨b, ol + i * 7 + 1, none⟩ = some (.int .u8 ((x.w : Nat) : Int)) ∧ w.cell? ⟨b, ol + i * 7 + 2, none⟩ = some (.int .i64 x.k0) ∧ w.cell? ⟨b, ol + i * 7 + 3, none⟩ = some (.int .i64 x.k1) ∧ w.cell? ⟨b, ol + i * 7 + 4, none⟩ = some (.int .i64 x.k2) ∧ w.cell? ⟨b, ol + i * 7 + 5, none⟩ = some (.int .u64 ((x.n : Nat) : Int)) ∧ w.cell? ⟨b, ol + i * 7 + 6, none⟩ = some (.int .u8 ((x.l : Nat) : Int)) :=
  ⟨hf 0 _ rfl, hf 1 _ rfl, hf 2 _ rfl, hf 3 _ rfl, hf 4 _ rfl, hf 5 _ rfl, hf 6 _ rfl⟩

theorem cells_near {w : World} {i : Nat} {x : Nd} {b : Nat} (hf : ∀ j u, x.cells.toList[j]? = some u → w.cell? ⟨b, i * 7 + j, none⟩ = some u) :
    w.cell? ⟨b, i * 7, none⟩ = some (.int .u8 ((x.o : Nat) : Int)) ∧ w.cell? ⟨b, i * 7 + 1, none⟩ = some (.int .u8 ((x.w : Nat) : Int)) ∧ w.cell? ⟨b, i * 7 + 2, none⟩ = some (.int .i64 x.k0) ∧ w.cell? ⟨b, i * 7 + 3, none⟩ = some (.int .i64 x.k1) ∧ w.cell? ⟨b, i * 7 + 4, none⟩ = some (.int .i64 x.k2) ∧ w.cell? ⟨b, i * 7 + 5, none⟩ = some (.int .u64 ((x.n : Nat) : Int)) ∧ w.cell? ⟨b, i * 7 + 6, none⟩ = some (.int .u8 ((x.l : Nat) : Int)) :=
  ⟨hf 0 _ rfl, hf 1 _ rfl, hf 2 _ rfl, hf 3 _ rfl, hf 4 _ rfl, hf 5 _ rfl, hf 6 _ rfl⟩

theorem row_nd_at {w : World} {base : Nat} {v : Value} {N : List Nd} {i : Nat} {x : Nd} (h : w.ownsRow base 57 7 v N.length (rowOf N)) (hx : N[i]? = some x) :
    ∃ g c, v = .slice (some ⟨g, 0, none⟩) N.length c ∧ ∀ (i : Nat) (x : Nd), N[i]? = some x → ∀ j u, x.cells.toList[j]? = some u → w.cell? ⟨g, i * 7 + j, none⟩ = some u := by
  have hlt := (List.getElem?_eq_some_iff.1 hx).1
  have hr := h
  rcases h with ⟨_, ⟨h1, h2⟩ | ⟨g, cap, cur, hv, _⟩⟩
  · omega
  · refine ⟨g, cap, hv, fun i x hx j u hj => ?_⟩
    have hj7 : j < 7 := by have := (List.getElem?_eq_some_iff.1 hj).1; simpa [Nd.cells] using this
    have := hr.cells (g := g) (by rw [hv]; rfl) (i * 7 + j) u (by rw [rowOf_at hx j hj7]; exact hj)
    have e : (⟨g, 0, none⟩ : Addr).add (i * 7 + j) = ⟨g, i * 7 + j, none⟩ := by
      unfold Addr.add
      split <;> simp_all
    rw [e] at this
    exact this

end Tm
end Go.Proofs.Ytigjbngedbbdbaa

namespace Go.Proofs.Ytigjbngedbbdbaa
open Go.RowKit Bv
namespace Tm
/-- Block b holds these seven cells from place o on. -/
def At7 (w : World) (b : Nat) (x0 x1 x2 x3 x4 x5 x6 : Value) : Prop :=
  w.cell? ⟨b, 0, none⟩ = some x0 ∧ w.cell? ⟨b, 1, none⟩ = some x1 ∧ w.cell? ⟨b, 2, none⟩ = some x2 ∧ w.cell? ⟨b, 3, none⟩ = some x3 ∧ w.cell? ⟨b, 4, none⟩ = some x4 ∧ w.cell? ⟨b, 5, none⟩ = some x5 ∧ w.cell? ⟨b, 6, none⟩ = some x6
section
variable {w w' : World} {b : Nat} {x0 x1 x2 x3 x4 x5 x6 : Value}
theorem At7.lt (h : At7 w b x0 x1 x2 x3 x4 x5 x6) : b < w.heap.size := World.block_lt_of_cell? w _ h.1
theorem At7.move (h : At7 w b x0 x1 x2 x3 x4 x5 x6) (hb : ∀ o, w'.cell? ⟨b, o, none⟩ = w.cell? ⟨b, o, none⟩) : At7 w' b x0 x1 x2 x3 x4 x5 x6 := by
  unfold At7 at h ⊢
  simp only [hb]
  exact h
theorem At7.kept {F : Nat → Prop} (h : At7 w b x0 x1 x2 x3 x4 x5 x6) (k : Kept F w w') (hF : ¬ F b) : At7 w' b x0 x1 x2 x3 x4 x5 x6 := h.move fun o => k.cell (x := ⟨b, o, none⟩) h.lt hF
theorem At7.keep (h : At7 w b x0 x1 x2 x3 x4 x5 x6) (hb : Below w.heap.size w w') : At7 w' b x0 x1 x2 x3 x4 x5 x6 := h.move fun o => hb.cell (p := ⟨b, o, none⟩) h.lt
theorem At7.alloc (h : At7 w b x0 x1 x2 x3 x4 x5 x6) (o : Obj) : At7 (w.alloc o) b x0 x1 x2 x3 x4 x5 x6 := h.move fun _ => World.cell?_alloc_lt w o _ h.lt
theorem At7.drew (h : At7 w b x0 x1 x2 x3 x4 x5 x6) : At7 w.drew b x0 x1 x2 x3 x4 x5 x6 := h
theorem At7.new (w : World) (x0 x1 x2 x3 x4 x5 x6 : Value) (t : TypeId) : At7 (w.alloc (.cells #[x0, x1, x2, x3, x4, x5, x6] t)) w.heap.size x0 x1 x2 x3 x4 x5 x6 := by
  refine ⟨?_, ?_, ?_, ?_, ?_, ?_, ?_⟩ <;> simp [go_sem]
end
end Tm
end Go.Proofs.Ytigjbngedbbdbaa
