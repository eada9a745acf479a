/-
  The width that a node has to have, by its operator and its kids: a fact on one call.
-/
import Derived.Test.YtkiegiofholofaaGreatDoorTxOkP
import Derived.Test.YtkiegiofholofaaGreatDoorPt10
import Derived.Deep.RegionHeld3
namespace Go.Proofs.YtkiegiofholofaaGreatDoor
open Go.RowKit Go.Maps Bv Tm
namespace Tx
set_option maxHeartbeats 3200000
set_option maxRecDepth 100000

theorem kidWidth_any {B p m kd j : Nat} {sv : Value} {L : List Nd} {x y : Nd} {W : World} (S : StoreAt B W p m sv L) (hj : j < 3) (hk : x.kid j = ((kd : Nat) : Int)) (hy : L[kd]? = some y) :
    Calls Tryz.prog 132 #[.pointer (some ⟨p, 0, none⟩), x.val, .int .i64 ((j : Nat) : Int)] W fun e W' => e = .returned (.int .u8 ((y.w : Nat) : Int)) ∧ Below W.heap.size W W' := by
  have S1 := S.alloc (.cells x.cells 36)
  have HNODE := Lib.hid (node_yes S1 hy)
  have hb := NdAt.new W x 36
  have hc := hb.kid hj
  rw [hk] at hc
  have q0 : (0 : Int) ≤ ((j : Nat) : Int) := by omega
  have q3 : ((j : Nat) : Int) < 3 := by omega
  obtain ⟨o, w, k0, k1, k2, n, l⟩ := x
  unfold Nd.val at *
  unfold Nd.cells at HNODE hc
  clear S S1 hb hk hy hj
  go_enter Tryz.func132, Tryz.ntmps132
  go_wp2_with (go_at_call 11; refine HNODE.out.mono ?_; rintro e W1 ⟨rfl, hb1⟩; have HB1 := Lib.hid hb1; clear hb1)
  go_ret
  exact ⟨rfl, bel_alloc (bel_go (Below.refl _ _) HB1.out) _⟩

theorem twid_1 {B p m : Nat} {sv : Value} {L : List Nd} {w n l : Nat} {k0 k1 k2 : Int} {W : World} (_S : StoreAt B W p m sv L) :
    Calls Tryz.prog 101 #[.pointer (some ⟨p, 0, none⟩), .agg #[.int .u8 1, .int .u8 ((w : Nat) : Int), .int .i64 k0, .int .i64 k1, .int .i64 k2, .int .u64 ((n : Nat) : Int), .int .u8 ((l : Nat) : Int)]] W fun e W' => e = .returned (.int .u8 ((w : Nat) : Int)) ∧ Below W.heap.size W W' := by
  clear _S
  go_enter Tryz.func101, Tryz.ntmps101
  go_wp2_with fail
  (repeat' (first | ((with_reducible refine wp_exit ?_); (repeat (first | (with_reducible refine ex_then ?_) | (with_reducible refine ex_near ?_) | (refine ex_far (by decide) ?_))); (with_reducible refine ex_go ?_)) | go_values | go_skip | go_guarded | go_step | go_upon))
  go_ret
  exact ⟨rfl, bel_alloc (Below.refl _ _) _⟩

theorem twid_2 {B p m : Nat} {sv : Value} {L : List Nd} {w n l : Nat} {k0 k1 k2 : Int} {W : World} (_S : StoreAt B W p m sv L) :
    Calls Tryz.prog 101 #[.pointer (some ⟨p, 0, none⟩), .agg #[.int .u8 2, .int .u8 ((w : Nat) : Int), .int .i64 k0, .int .i64 k1, .int .i64 k2, .int .u64 ((n : Nat) : Int), .int .u8 ((l : Nat) : Int)]] W fun e W' => e = .returned (.int .u8 ((w : Nat) : Int)) ∧ Below W.heap.size W W' := by
  clear _S
  go_enter Tryz.func101, Tryz.ntmps101
  go_wp2_with fail
  (repeat' (first | ((with_reducible refine wp_exit ?_); (repeat (first | (with_reducible refine ex_then ?_) | (with_reducible refine ex_near ?_) | (refine ex_far (by decide) ?_))); (with_reducible refine ex_go ?_)) | go_values | go_skip | go_guarded | go_step | go_upon))
  go_ret
  exact ⟨rfl, bel_alloc (Below.refl _ _) _⟩

theorem twid_3 {B p m : Nat} {sv : Value} {L : List Nd} {w n l : Nat} {k0 k1 k2 : Int} {W : World} (S : StoreAt B W p m sv L) {b0 : Nat} {y0 : Nd} (h0 : k0 = ((b0 : Nat) : Int)) (g0 : L[b0]? = some y0) :
    Calls Tryz.prog 101 #[.pointer (some ⟨p, 0, none⟩), .agg #[.int .u8 3, .int .u8 ((w : Nat) : Int), .int .i64 k0, .int .i64 k1, .int .i64 k2, .int .u64 ((n : Nat) : Int), .int .u8 ((l : Nat) : Int)]] W fun e W' => e = .returned (.int .u8 ((y0.w : Nat) : Int)) ∧ Below W.heap.size W W' := by
  have HK0 : Hid (∀ W', Below W.heap.size W W' → Calls Tryz.prog 132 #[.pointer (some ⟨p, 0, none⟩), .agg #[.int .u8 3, .int .u8 ((w : Nat) : Int), .int .i64 k0, .int .i64 k1, .int .i64 k2, .int .u64 ((n : Nat) : Int), .int .u8 ((l : Nat) : Int)], .int .i64 0] W' fun e W2 => e = .returned (.int .u8 ((y0.w : Nat) : Int)) ∧ Below W'.heap.size W' W2) := fun W' hb => kidWidth_any (x := ⟨3, w, k0, k1, k2, n, l⟩) (j := 0) (S.call hb) (by omega) h0 g0
  clear S h0 g0
  go_enter Tryz.func101, Tryz.ntmps101
  go_wp2_with (go_at_call 132; refine (HK0.out _ (bel_alloc (Below.refl _ _) _)).mono ?_; rintro e W1 ⟨rfl, hb1⟩; have HB1 := Lib.hid hb1; clear hb1)
  (repeat' (first | ((with_reducible refine wp_exit ?_); (repeat (first | (with_reducible refine ex_then ?_) | (with_reducible refine ex_near ?_) | (refine ex_far (by decide) ?_))); (with_reducible refine ex_go ?_)) | go_values | go_skip | go_guarded | go_step | go_upon))
  all_goals (try go_wp2_with (go_at_call 132; refine (HK0.out _ (bel_alloc (Below.refl _ _) _)).mono ?_; rintro e W1 ⟨rfl, hb1⟩; have HB1 := Lib.hid hb1; clear hb1))
  go_ret
  exact ⟨rfl, bel_go (Below.refl _ _) HB1.out⟩

theorem twid_4 {B p m : Nat} {sv : Value} {L : List Nd} {w n l : Nat} {k0 k1 k2 : Int} {W : World} (S : StoreAt B W p m sv L) {b0 : Nat} {y0 : Nd} (h0 : k0 = ((b0 : Nat) : Int)) (g0 : L[b0]? = some y0) :
    Calls Tryz.prog 101 #[.pointer (some ⟨p, 0, none⟩), .agg #[.int .u8 4, .int .u8 ((w : Nat) : Int), .int .i64 k0, .int .i64 k1, .int .i64 k2, .int .u64 ((n : Nat) : Int), .int .u8 ((l : Nat) : Int)]] W fun e W' => e = .returned (.int .u8 ((y0.w : Nat) : Int)) ∧ Below W.heap.size W W' := by
  have HK0 : Hid (∀ W', Below W.heap.size W W' → Calls Tryz.prog 132 #[.pointer (some ⟨p, 0, none⟩), .agg #[.int .u8 4, .int .u8 ((w : Nat) : Int), .int .i64 k0, .int .i64 k1, .int .i64 k2, .int .u64 ((n : Nat) : Int), .int .u8 ((l : Nat) : Int)], .int .i64 0] W' fun e W2 => e = .returned (.int .u8 ((y0.w : Nat) : Int)) ∧ Below W'.heap.size W' W2) := fun W' hb => kidWidth_any (x := ⟨4, w, k0, k1, k2, n, l⟩) (j := 0) (S.call hb) (by omega) h0 g0
  clear S h0 g0
  go_enter Tryz.func101, Tryz.ntmps101
  go_wp2_with (go_at_call 132; refine (HK0.out _ (bel_alloc (Below.refl _ _) _)).mono ?_; rintro e W1 ⟨rfl, hb1⟩; have HB1 := Lib.hid hb1; clear hb1)
  (repeat' (first | ((with_reducible refine wp_exit ?_); (repeat (first | (with_reducible refine ex_then ?_) | (with_reducible refine ex_near ?_) | (refine ex_far (by decide) ?_))); (with_reducible refine ex_go ?_)) | go_values | go_skip | go_guarded | go_step | go_upon))
  all_goals (try go_wp2_with (go_at_call 132; refine (HK0.out _ (bel_alloc (Below.refl _ _) _)).mono ?_; rintro e W1 ⟨rfl, hb1⟩; have HB1 := Lib.hid hb1; clear hb1))
  go_ret
  exact ⟨rfl, bel_go (Below.refl _ _) HB1.out⟩

theorem twid_5 {B p m : Nat} {sv : Value} {L : List Nd} {w n l : Nat} {k0 k1 k2 : Int} {W : World} (S : StoreAt B W p m sv L) {b0 : Nat} {y0 : Nd} (h0 : k0 = ((b0 : Nat) : Int)) (g0 : L[b0]? = some y0) :
    Calls Tryz.prog 101 #[.pointer (some ⟨p, 0, none⟩), .agg #[.int .u8 5, .int .u8 ((w : Nat) : Int), .int .i64 k0, .int .i64 k1, .int .i64 k2, .int .u64 ((n : Nat) : Int), .int .u8 ((l : Nat) : Int)]] W fun e W' => e = .returned (.int .u8 ((y0.w : Nat) : Int)) ∧ Below W.heap.size W W' := by
  have HK0 : Hid (∀ W', Below W.heap.size W W' → Calls Tryz.prog 132 #[.pointer (some ⟨p, 0, none⟩), .agg #[.int .u8 5, .int .u8 ((w : Nat) : Int), .int .i64 k0, .int .i64 k1, .int .i64 k2, .int .u64 ((n : Nat) : Int), .int .u8 ((l : Nat) : Int)], .int .i64 0] W' fun e W2 => e = .returned (.int .u8 ((y0.w : Nat) : Int)) ∧ Below W'.heap.size W' W2) := fun W' hb => kidWidth_any (x := ⟨5, w, k0, k1, k2, n, l⟩) (j := 0) (S.call hb) (by omega) h0 g0
  clear S h0 g0
  go_enter Tryz.func101, Tryz.ntmps101
  go_wp2_with (go_at_call 132; refine (HK0.out _ (bel_alloc (Below.refl _ _) _)).mono ?_; rintro e W1 ⟨rfl, hb1⟩; have HB1 := Lib.hid hb1; clear hb1)
  (repeat' (first | ((with_reducible refine wp_exit ?_); (repeat (first | (with_reducible refine ex_then ?_) | (with_reducible refine ex_near ?_) | (refine ex_far (by decide) ?_))); (with_reducible refine ex_go ?_)) | go_values | go_skip | go_guarded | go_step | go_upon))
  all_goals (try go_wp2_with (go_at_call 132; refine (HK0.out _ (bel_alloc (Below.refl _ _) _)).mono ?_; rintro e W1 ⟨rfl, hb1⟩; have HB1 := Lib.hid hb1; clear hb1))
  go_ret
  exact ⟨rfl, bel_go (Below.refl _ _) HB1.out⟩

theorem twid_6 {B p m : Nat} {sv : Value} {L : List Nd} {w n l : Nat} {k0 k1 k2 : Int} {W : World} (S : StoreAt B W p m sv L) {b0 : Nat} {y0 : Nd} (h0 : k0 = ((b0 : Nat) : Int)) (g0 : L[b0]? = some y0) :
    Calls Tryz.prog 101 #[.pointer (some ⟨p, 0, none⟩), .agg #[.int .u8 6, .int .u8 ((w : Nat) : Int), .int .i64 k0, .int .i64 k1, .int .i64 k2, .int .u64 ((n : Nat) : Int), .int .u8 ((l : Nat) : Int)]] W fun e W' => e = .returned (.int .u8 ((y0.w : Nat) : Int)) ∧ Below W.heap.size W W' := by
  have HK0 : Hid (∀ W', Below W.heap.size W W' → Calls Tryz.prog 132 #[.pointer (some ⟨p, 0, none⟩), .agg #[.int .u8 6, .int .u8 ((w : Nat) : Int), .int .i64 k0, .int .i64 k1, .int .i64 k2, .int .u64 ((n : Nat) : Int), .int .u8 ((l : Nat) : Int)], .int .i64 0] W' fun e W2 => e = .returned (.int .u8 ((y0.w : Nat) : Int)) ∧ Below W'.heap.size W' W2) := fun W' hb => kidWidth_any (x := ⟨6, w, k0, k1, k2, n, l⟩) (j := 0) (S.call hb) (by omega) h0 g0
  clear S h0 g0
  go_enter Tryz.func101, Tryz.ntmps101
  go_wp2_with (go_at_call 132; refine (HK0.out _ (bel_alloc (Below.refl _ _) _)).mono ?_; rintro e W1 ⟨rfl, hb1⟩; have HB1 := Lib.hid hb1; clear hb1)
  (repeat' (first | ((with_reducible refine wp_exit ?_); (repeat (first | (with_reducible refine ex_then ?_) | (with_reducible refine ex_near ?_) | (refine ex_far (by decide) ?_))); (with_reducible refine ex_go ?_)) | go_values | go_skip | go_guarded | go_step | go_upon))
  all_goals (try go_wp2_with (go_at_call 132; refine (HK0.out _ (bel_alloc (Below.refl _ _) _)).mono ?_; rintro e W1 ⟨rfl, hb1⟩; have HB1 := Lib.hid hb1; clear hb1))
  go_ret
  exact ⟨rfl, bel_go (Below.refl _ _) HB1.out⟩

theorem twid_7 {B p m : Nat} {sv : Value} {L : List Nd} {w n l : Nat} {k0 k1 k2 : Int} {W : World} (S : StoreAt B W p m sv L) {b0 : Nat} {y0 : Nd} (h0 : k0 = ((b0 : Nat) : Int)) (g0 : L[b0]? = some y0) :
    Calls Tryz.prog 101 #[.pointer (some ⟨p, 0, none⟩), .agg #[.int .u8 7, .int .u8 ((w : Nat) : Int), .int .i64 k0, .int .i64 k1, .int .i64 k2, .int .u64 ((n : Nat) : Int), .int .u8 ((l : Nat) : Int)]] W fun e W' => e = .returned (.int .u8 ((y0.w : Nat) : Int)) ∧ Below W.heap.size W W' := by
  have HK0 : Hid (∀ W', Below W.heap.size W W' → Calls Tryz.prog 132 #[.pointer (some ⟨p, 0, none⟩), .agg #[.int .u8 7, .int .u8 ((w : Nat) : Int), .int .i64 k0, .int .i64 k1, .int .i64 k2, .int .u64 ((n : Nat) : Int), .int .u8 ((l : Nat) : Int)], .int .i64 0] W' fun e W2 => e = .returned (.int .u8 ((y0.w : Nat) : Int)) ∧ Below W'.heap.size W' W2) := fun W' hb => kidWidth_any (x := ⟨7, w, k0, k1, k2, n, l⟩) (j := 0) (S.call hb) (by omega) h0 g0
  clear S h0 g0
  go_enter Tryz.func101, Tryz.ntmps101
  go_wp2_with (go_at_call 132; refine (HK0.out _ (bel_alloc (Below.refl _ _) _)).mono ?_; rintro e W1 ⟨rfl, hb1⟩; have HB1 := Lib.hid hb1; clear hb1)
  (repeat' (first | ((with_reducible refine wp_exit ?_); (repeat (first | (with_reducible refine ex_then ?_) | (with_reducible refine ex_near ?_) | (refine ex_far (by decide) ?_))); (with_reducible refine ex_go ?_)) | go_values | go_skip | go_guarded | go_step | go_upon))
  all_goals (try go_wp2_with (go_at_call 132; refine (HK0.out _ (bel_alloc (Below.refl _ _) _)).mono ?_; rintro e W1 ⟨rfl, hb1⟩; have HB1 := Lib.hid hb1; clear hb1))
  go_ret
  exact ⟨rfl, bel_go (Below.refl _ _) HB1.out⟩

theorem twid_8 {B p m : Nat} {sv : Value} {L : List Nd} {w n l : Nat} {k0 k1 k2 : Int} {W : World} (S : StoreAt B W p m sv L) {b0 : Nat} {y0 : Nd} (h0 : k0 = ((b0 : Nat) : Int)) (g0 : L[b0]? = some y0) :
    Calls Tryz.prog 101 #[.pointer (some ⟨p, 0, none⟩), .agg #[.int .u8 8, .int .u8 ((w : Nat) : Int), .int .i64 k0, .int .i64 k1, .int .i64 k2, .int .u64 ((n : Nat) : Int), .int .u8 ((l : Nat) : Int)]] W fun e W' => e = .returned (.int .u8 ((y0.w : Nat) : Int)) ∧ Below W.heap.size W W' := by
  have HK0 : Hid (∀ W', Below W.heap.size W W' → Calls Tryz.prog 132 #[.pointer (some ⟨p, 0, none⟩), .agg #[.int .u8 8, .int .u8 ((w : Nat) : Int), .int .i64 k0, .int .i64 k1, .int .i64 k2, .int .u64 ((n : Nat) : Int), .int .u8 ((l : Nat) : Int)], .int .i64 0] W' fun e W2 => e = .returned (.int .u8 ((y0.w : Nat) : Int)) ∧ Below W'.heap.size W' W2) := fun W' hb => kidWidth_any (x := ⟨8, w, k0, k1, k2, n, l⟩) (j := 0) (S.call hb) (by omega) h0 g0
  clear S h0 g0
  go_enter Tryz.func101, Tryz.ntmps101
  go_wp2_with (go_at_call 132; refine (HK0.out _ (bel_alloc (Below.refl _ _) _)).mono ?_; rintro e W1 ⟨rfl, hb1⟩; have HB1 := Lib.hid hb1; clear hb1)
  (repeat' (first | ((with_reducible refine wp_exit ?_); (repeat (first | (with_reducible refine ex_then ?_) | (with_reducible refine ex_near ?_) | (refine ex_far (by decide) ?_))); (with_reducible refine ex_go ?_)) | go_values | go_skip | go_guarded | go_step | go_upon))
  all_goals (try go_wp2_with (go_at_call 132; refine (HK0.out _ (bel_alloc (Below.refl _ _) _)).mono ?_; rintro e W1 ⟨rfl, hb1⟩; have HB1 := Lib.hid hb1; clear hb1))
  go_ret
  exact ⟨rfl, bel_go (Below.refl _ _) HB1.out⟩

theorem twid_9 {B p m : Nat} {sv : Value} {L : List Nd} {w n l : Nat} {k0 k1 k2 : Int} {W : World} (S : StoreAt B W p m sv L) {b0 : Nat} {y0 : Nd} (h0 : k0 = ((b0 : Nat) : Int)) (g0 : L[b0]? = some y0) :
    Calls Tryz.prog 101 #[.pointer (some ⟨p, 0, none⟩), .agg #[.int .u8 9, .int .u8 ((w : Nat) : Int), .int .i64 k0, .int .i64 k1, .int .i64 k2, .int .u64 ((n : Nat) : Int), .int .u8 ((l : Nat) : Int)]] W fun e W' => e = .returned (.int .u8 ((y0.w : Nat) : Int)) ∧ Below W.heap.size W W' := by
  have HK0 : Hid (∀ W', Below W.heap.size W W' → Calls Tryz.prog 132 #[.pointer (some ⟨p, 0, none⟩), .agg #[.int .u8 9, .int .u8 ((w : Nat) : Int), .int .i64 k0, .int .i64 k1, .int .i64 k2, .int .u64 ((n : Nat) : Int), .int .u8 ((l : Nat) : Int)], .int .i64 0] W' fun e W2 => e = .returned (.int .u8 ((y0.w : Nat) : Int)) ∧ Below W'.heap.size W' W2) := fun W' hb => kidWidth_any (x := ⟨9, w, k0, k1, k2, n, l⟩) (j := 0) (S.call hb) (by omega) h0 g0
  clear S h0 g0
  go_enter Tryz.func101, Tryz.ntmps101
  go_wp2_with (go_at_call 132; refine (HK0.out _ (bel_alloc (Below.refl _ _) _)).mono ?_; rintro e W1 ⟨rfl, hb1⟩; have HB1 := Lib.hid hb1; clear hb1)
  (repeat' (first | ((with_reducible refine wp_exit ?_); (repeat (first | (with_reducible refine ex_then ?_) | (with_reducible refine ex_near ?_) | (refine ex_far (by decide) ?_))); (with_reducible refine ex_go ?_)) | go_values | go_skip | go_guarded | go_step | go_upon))
  all_goals (try go_wp2_with (go_at_call 132; refine (HK0.out _ (bel_alloc (Below.refl _ _) _)).mono ?_; rintro e W1 ⟨rfl, hb1⟩; have HB1 := Lib.hid hb1; clear hb1))
  go_ret
  exact ⟨rfl, bel_go (Below.refl _ _) HB1.out⟩

theorem twid_10 {B p m : Nat} {sv : Value} {L : List Nd} {w n l : Nat} {k0 k1 k2 : Int} {W : World} (S : StoreAt B W p m sv L) {b0 : Nat} {y0 : Nd} (h0 : k0 = ((b0 : Nat) : Int)) (g0 : L[b0]? = some y0) :
    Calls Tryz.prog 101 #[.pointer (some ⟨p, 0, none⟩), .agg #[.int .u8 10, .int .u8 ((w : Nat) : Int), .int .i64 k0, .int .i64 k1, .int .i64 k2, .int .u64 ((n : Nat) : Int), .int .u8 ((l : Nat) : Int)]] W fun e W' => e = .returned (.int .u8 ((y0.w : Nat) : Int)) ∧ Below W.heap.size W W' := by
  have HK0 : Hid (∀ W', Below W.heap.size W W' → Calls Tryz.prog 132 #[.pointer (some ⟨p, 0, none⟩), .agg #[.int .u8 10, .int .u8 ((w : Nat) : Int), .int .i64 k0, .int .i64 k1, .int .i64 k2, .int .u64 ((n : Nat) : Int), .int .u8 ((l : Nat) : Int)], .int .i64 0] W' fun e W2 => e = .returned (.int .u8 ((y0.w : Nat) : Int)) ∧ Below W'.heap.size W' W2) := fun W' hb => kidWidth_any (x := ⟨10, w, k0, k1, k2, n, l⟩) (j := 0) (S.call hb) (by omega) h0 g0
  clear S h0 g0
  go_enter Tryz.func101, Tryz.ntmps101
  go_wp2_with (go_at_call 132; refine (HK0.out _ (bel_alloc (Below.refl _ _) _)).mono ?_; rintro e W1 ⟨rfl, hb1⟩; have HB1 := Lib.hid hb1; clear hb1)
  (repeat' (first | ((with_reducible refine wp_exit ?_); (repeat (first | (with_reducible refine ex_then ?_) | (with_reducible refine ex_near ?_) | (refine ex_far (by decide) ?_))); (with_reducible refine ex_go ?_)) | go_values | go_skip | go_guarded | go_step | go_upon))
  all_goals (try go_wp2_with (go_at_call 132; refine (HK0.out _ (bel_alloc (Below.refl _ _) _)).mono ?_; rintro e W1 ⟨rfl, hb1⟩; have HB1 := Lib.hid hb1; clear hb1))
  go_ret
  exact ⟨rfl, bel_go (Below.refl _ _) HB1.out⟩

theorem twid_11 {B p m : Nat} {sv : Value} {L : List Nd} {w n l : Nat} {k0 k1 k2 : Int} {W : World} (S : StoreAt B W p m sv L) {b0 : Nat} {y0 : Nd} (h0 : k0 = ((b0 : Nat) : Int)) (g0 : L[b0]? = some y0) :
    Calls Tryz.prog 101 #[.pointer (some ⟨p, 0, none⟩), .agg #[.int .u8 11, .int .u8 ((w : Nat) : Int), .int .i64 k0, .int .i64 k1, .int .i64 k2, .int .u64 ((n : Nat) : Int), .int .u8 ((l : Nat) : Int)]] W fun e W' => e = .returned (.int .u8 ((y0.w : Nat) : Int)) ∧ Below W.heap.size W W' := by
  have HK0 : Hid (∀ W', Below W.heap.size W W' → Calls Tryz.prog 132 #[.pointer (some ⟨p, 0, none⟩), .agg #[.int .u8 11, .int .u8 ((w : Nat) : Int), .int .i64 k0, .int .i64 k1, .int .i64 k2, .int .u64 ((n : Nat) : Int), .int .u8 ((l : Nat) : Int)], .int .i64 0] W' fun e W2 => e = .returned (.int .u8 ((y0.w : Nat) : Int)) ∧ Below W'.heap.size W' W2) := fun W' hb => kidWidth_any (x := ⟨11, w, k0, k1, k2, n, l⟩) (j := 0) (S.call hb) (by omega) h0 g0
  clear S h0 g0
  go_enter Tryz.func101, Tryz.ntmps101
  go_wp2_with (go_at_call 132; refine (HK0.out _ (bel_alloc (Below.refl _ _) _)).mono ?_; rintro e W1 ⟨rfl, hb1⟩; have HB1 := Lib.hid hb1; clear hb1)
  (repeat' (first | ((with_reducible refine wp_exit ?_); (repeat (first | (with_reducible refine ex_then ?_) | (with_reducible refine ex_near ?_) | (refine ex_far (by decide) ?_))); (with_reducible refine ex_go ?_)) | go_values | go_skip | go_guarded | go_step | go_upon))
  all_goals (try go_wp2_with (go_at_call 132; refine (HK0.out _ (bel_alloc (Below.refl _ _) _)).mono ?_; rintro e W1 ⟨rfl, hb1⟩; have HB1 := Lib.hid hb1; clear hb1))
  go_ret
  exact ⟨rfl, bel_go (Below.refl _ _) HB1.out⟩

theorem twid_12 {B p m : Nat} {sv : Value} {L : List Nd} {w n l : Nat} {k0 k1 k2 : Int} {W : World} (S : StoreAt B W p m sv L) {b0 : Nat} {y0 : Nd} (h0 : k0 = ((b0 : Nat) : Int)) (g0 : L[b0]? = some y0) :
    Calls Tryz.prog 101 #[.pointer (some ⟨p, 0, none⟩), .agg #[.int .u8 12, .int .u8 ((w : Nat) : Int), .int .i64 k0, .int .i64 k1, .int .i64 k2, .int .u64 ((n : Nat) : Int), .int .u8 ((l : Nat) : Int)]] W fun e W' => e = .returned (.int .u8 ((y0.w : Nat) : Int)) ∧ Below W.heap.size W W' := by
  have HK0 : Hid (∀ W', Below W.heap.size W W' → Calls Tryz.prog 132 #[.pointer (some ⟨p, 0, none⟩), .agg #[.int .u8 12, .int .u8 ((w : Nat) : Int), .int .i64 k0, .int .i64 k1, .int .i64 k2, .int .u64 ((n : Nat) : Int), .int .u8 ((l : Nat) : Int)], .int .i64 0] W' fun e W2 => e = .returned (.int .u8 ((y0.w : Nat) : Int)) ∧ Below W'.heap.size W' W2) := fun W' hb => kidWidth_any (x := ⟨12, w, k0, k1, k2, n, l⟩) (j := 0) (S.call hb) (by omega) h0 g0
  clear S h0 g0
  go_enter Tryz.func101, Tryz.ntmps101
  go_wp2_with (go_at_call 132; refine (HK0.out _ (bel_alloc (Below.refl _ _) _)).mono ?_; rintro e W1 ⟨rfl, hb1⟩; have HB1 := Lib.hid hb1; clear hb1)
  (repeat' (first | ((with_reducible refine wp_exit ?_); (repeat (first | (with_reducible refine ex_then ?_) | (with_reducible refine ex_near ?_) | (refine ex_far (by decide) ?_))); (with_reducible refine ex_go ?_)) | go_values | go_skip | go_guarded | go_step | go_upon))
  all_goals (try go_wp2_with (go_at_call 132; refine (HK0.out _ (bel_alloc (Below.refl _ _) _)).mono ?_; rintro e W1 ⟨rfl, hb1⟩; have HB1 := Lib.hid hb1; clear hb1))
  go_ret
  exact ⟨rfl, bel_go (Below.refl _ _) HB1.out⟩

theorem twid_13 {B p m : Nat} {sv : Value} {L : List Nd} {w n l : Nat} {k0 k1 k2 : Int} {W : World} (S : StoreAt B W p m sv L) {b0 : Nat} {y0 : Nd} (h0 : k0 = ((b0 : Nat) : Int)) (g0 : L[b0]? = some y0) :
    Calls Tryz.prog 101 #[.pointer (some ⟨p, 0, none⟩), .agg #[.int .u8 13, .int .u8 ((w : Nat) : Int), .int .i64 k0, .int .i64 k1, .int .i64 k2, .int .u64 ((n : Nat) : Int), .int .u8 ((l : Nat) : Int)]] W fun e W' => e = .returned (.int .u8 ((y0.w : Nat) : Int)) ∧ Below W.heap.size W W' := by
  have HK0 : Hid (∀ W', Below W.heap.size W W' → Calls Tryz.prog 132 #[.pointer (some ⟨p, 0, none⟩), .agg #[.int .u8 13, .int .u8 ((w : Nat) : Int), .int .i64 k0, .int .i64 k1, .int .i64 k2, .int .u64 ((n : Nat) : Int), .int .u8 ((l : Nat) : Int)], .int .i64 0] W' fun e W2 => e = .returned (.int .u8 ((y0.w : Nat) : Int)) ∧ Below W'.heap.size W' W2) := fun W' hb => kidWidth_any (x := ⟨13, w, k0, k1, k2, n, l⟩) (j := 0) (S.call hb) (by omega) h0 g0
  clear S h0 g0
  go_enter Tryz.func101, Tryz.ntmps101
  go_wp2_with (go_at_call 132; refine (HK0.out _ (bel_alloc (Below.refl _ _) _)).mono ?_; rintro e W1 ⟨rfl, hb1⟩; have HB1 := Lib.hid hb1; clear hb1)
  (repeat' (first | ((with_reducible refine wp_exit ?_); (repeat (first | (with_reducible refine ex_then ?_) | (with_reducible refine ex_near ?_) | (refine ex_far (by decide) ?_))); (with_reducible refine ex_go ?_)) | go_values | go_skip | go_guarded | go_step | go_upon))
  all_goals (try go_wp2_with (go_at_call 132; refine (HK0.out _ (bel_alloc (Below.refl _ _) _)).mono ?_; rintro e W1 ⟨rfl, hb1⟩; have HB1 := Lib.hid hb1; clear hb1))
  go_ret
  exact ⟨rfl, bel_go (Below.refl _ _) HB1.out⟩

theorem twid_14 {B p m : Nat} {sv : Value} {L : List Nd} {w n l : Nat} {k0 k1 k2 : Int} {W : World} (S : StoreAt B W p m sv L) {b0 : Nat} {y0 : Nd} (h0 : k0 = ((b0 : Nat) : Int)) (g0 : L[b0]? = some y0) :
    Calls Tryz.prog 101 #[.pointer (some ⟨p, 0, none⟩), .agg #[.int .u8 14, .int .u8 ((w : Nat) : Int), .int .i64 k0, .int .i64 k1, .int .i64 k2, .int .u64 ((n : Nat) : Int), .int .u8 ((l : Nat) : Int)]] W fun e W' => e = .returned (.int .u8 ((y0.w : Nat) : Int)) ∧ Below W.heap.size W W' := by
  have HK0 : Hid (∀ W', Below W.heap.size W W' → Calls Tryz.prog 132 #[.pointer (some ⟨p, 0, none⟩), .agg #[.int .u8 14, .int .u8 ((w : Nat) : Int), .int .i64 k0, .int .i64 k1, .int .i64 k2, .int .u64 ((n : Nat) : Int), .int .u8 ((l : Nat) : Int)], .int .i64 0] W' fun e W2 => e = .returned (.int .u8 ((y0.w : Nat) : Int)) ∧ Below W'.heap.size W' W2) := fun W' hb => kidWidth_any (x := ⟨14, w, k0, k1, k2, n, l⟩) (j := 0) (S.call hb) (by omega) h0 g0
  clear S h0 g0
  go_enter Tryz.func101, Tryz.ntmps101
  go_wp2_with (go_at_call 132; refine (HK0.out _ (bel_alloc (Below.refl _ _) _)).mono ?_; rintro e W1 ⟨rfl, hb1⟩; have HB1 := Lib.hid hb1; clear hb1)
  (repeat' (first | ((with_reducible refine wp_exit ?_); (repeat (first | (with_reducible refine ex_then ?_) | (with_reducible refine ex_near ?_) | (refine ex_far (by decide) ?_))); (with_reducible refine ex_go ?_)) | go_values | go_skip | go_guarded | go_step | go_upon))
  all_goals (try go_wp2_with (go_at_call 132; refine (HK0.out _ (bel_alloc (Below.refl _ _) _)).mono ?_; rintro e W1 ⟨rfl, hb1⟩; have HB1 := Lib.hid hb1; clear hb1))
  go_ret
  exact ⟨rfl, bel_go (Below.refl _ _) HB1.out⟩

theorem twid_15 {B p m : Nat} {sv : Value} {L : List Nd} {w n l : Nat} {k0 k1 k2 : Int} {W : World} (S : StoreAt B W p m sv L) {b0 : Nat} {y0 : Nd} (h0 : k0 = ((b0 : Nat) : Int)) (g0 : L[b0]? = some y0) :
    Calls Tryz.prog 101 #[.pointer (some ⟨p, 0, none⟩), .agg #[.int .u8 15, .int .u8 ((w : Nat) : Int), .int .i64 k0, .int .i64 k1, .int .i64 k2, .int .u64 ((n : Nat) : Int), .int .u8 ((l : Nat) : Int)]] W fun e W' => e = .returned (.int .u8 ((y0.w : Nat) : Int)) ∧ Below W.heap.size W W' := by
  have HK0 : Hid (∀ W', Below W.heap.size W W' → Calls Tryz.prog 132 #[.pointer (some ⟨p, 0, none⟩), .agg #[.int .u8 15, .int .u8 ((w : Nat) : Int), .int .i64 k0, .int .i64 k1, .int .i64 k2, .int .u64 ((n : Nat) : Int), .int .u8 ((l : Nat) : Int)], .int .i64 0] W' fun e W2 => e = .returned (.int .u8 ((y0.w : Nat) : Int)) ∧ Below W'.heap.size W' W2) := fun W' hb => kidWidth_any (x := ⟨15, w, k0, k1, k2, n, l⟩) (j := 0) (S.call hb) (by omega) h0 g0
  clear S h0 g0
  go_enter Tryz.func101, Tryz.ntmps101
  go_wp2_with (go_at_call 132; refine (HK0.out _ (bel_alloc (Below.refl _ _) _)).mono ?_; rintro e W1 ⟨rfl, hb1⟩; have HB1 := Lib.hid hb1; clear hb1)
  (repeat' (first | ((with_reducible refine wp_exit ?_); (repeat (first | (with_reducible refine ex_then ?_) | (with_reducible refine ex_near ?_) | (refine ex_far (by decide) ?_))); (with_reducible refine ex_go ?_)) | go_values | go_skip | go_guarded | go_step | go_upon))
  all_goals (try go_wp2_with (go_at_call 132; refine (HK0.out _ (bel_alloc (Below.refl _ _) _)).mono ?_; rintro e W1 ⟨rfl, hb1⟩; have HB1 := Lib.hid hb1; clear hb1))
  go_ret
  exact ⟨rfl, bel_go (Below.refl _ _) HB1.out⟩

theorem twid_16 {B p m : Nat} {sv : Value} {L : List Nd} {w n l : Nat} {k0 k1 k2 : Int} {W : World} (S : StoreAt B W p m sv L) {b0 : Nat} {y0 : Nd} (h0 : k0 = ((b0 : Nat) : Int)) (g0 : L[b0]? = some y0) :
    Calls Tryz.prog 101 #[.pointer (some ⟨p, 0, none⟩), .agg #[.int .u8 16, .int .u8 ((w : Nat) : Int), .int .i64 k0, .int .i64 k1, .int .i64 k2, .int .u64 ((n : Nat) : Int), .int .u8 ((l : Nat) : Int)]] W fun e W' => e = .returned (.int .u8 ((y0.w : Nat) : Int)) ∧ Below W.heap.size W W' := by
  have HK0 : Hid (∀ W', Below W.heap.size W W' → Calls Tryz.prog 132 #[.pointer (some ⟨p, 0, none⟩), .agg #[.int .u8 16, .int .u8 ((w : Nat) : Int), .int .i64 k0, .int .i64 k1, .int .i64 k2, .int .u64 ((n : Nat) : Int), .int .u8 ((l : Nat) : Int)], .int .i64 0] W' fun e W2 => e = .returned (.int .u8 ((y0.w : Nat) : Int)) ∧ Below W'.heap.size W' W2) := fun W' hb => kidWidth_any (x := ⟨16, w, k0, k1, k2, n, l⟩) (j := 0) (S.call hb) (by omega) h0 g0
  clear S h0 g0
  go_enter Tryz.func101, Tryz.ntmps101
  go_wp2_with (go_at_call 132; refine (HK0.out _ (bel_alloc (Below.refl _ _) _)).mono ?_; rintro e W1 ⟨rfl, hb1⟩; have HB1 := Lib.hid hb1; clear hb1)
  (repeat' (first | ((with_reducible refine wp_exit ?_); (repeat (first | (with_reducible refine ex_then ?_) | (with_reducible refine ex_near ?_) | (refine ex_far (by decide) ?_))); (with_reducible refine ex_go ?_)) | go_values | go_skip | go_guarded | go_step | go_upon))
  all_goals (try go_wp2_with (go_at_call 132; refine (HK0.out _ (bel_alloc (Below.refl _ _) _)).mono ?_; rintro e W1 ⟨rfl, hb1⟩; have HB1 := Lib.hid hb1; clear hb1))
  go_ret
  exact ⟨rfl, bel_go (Below.refl _ _) HB1.out⟩

theorem twid_17 {B p m : Nat} {sv : Value} {L : List Nd} {w n l : Nat} {k0 k1 k2 : Int} {W : World} (S : StoreAt B W p m sv L) {b0 : Nat} {y0 : Nd} (h0 : k0 = ((b0 : Nat) : Int)) (g0 : L[b0]? = some y0) :
    Calls Tryz.prog 101 #[.pointer (some ⟨p, 0, none⟩), .agg #[.int .u8 17, .int .u8 ((w : Nat) : Int), .int .i64 k0, .int .i64 k1, .int .i64 k2, .int .u64 ((n : Nat) : Int), .int .u8 ((l : Nat) : Int)]] W fun e W' => e = .returned (.int .u8 ((y0.w : Nat) : Int)) ∧ Below W.heap.size W W' := by
  have HK0 : Hid (∀ W', Below W.heap.size W W' → Calls Tryz.prog 132 #[.pointer (some ⟨p, 0, none⟩), .agg #[.int .u8 17, .int .u8 ((w : Nat) : Int), .int .i64 k0, .int .i64 k1, .int .i64 k2, .int .u64 ((n : Nat) : Int), .int .u8 ((l : Nat) : Int)], .int .i64 0] W' fun e W2 => e = .returned (.int .u8 ((y0.w : Nat) : Int)) ∧ Below W'.heap.size W' W2) := fun W' hb => kidWidth_any (x := ⟨17, w, k0, k1, k2, n, l⟩) (j := 0) (S.call hb) (by omega) h0 g0
  clear S h0 g0
  go_enter Tryz.func101, Tryz.ntmps101
  go_wp2_with (go_at_call 132; refine (HK0.out _ (bel_alloc (Below.refl _ _) _)).mono ?_; rintro e W1 ⟨rfl, hb1⟩; have HB1 := Lib.hid hb1; clear hb1)
  (repeat' (first | ((with_reducible refine wp_exit ?_); (repeat (first | (with_reducible refine ex_then ?_) | (with_reducible refine ex_near ?_) | (refine ex_far (by decide) ?_))); (with_reducible refine ex_go ?_)) | go_values | go_skip | go_guarded | go_step | go_upon))
  all_goals (try go_wp2_with (go_at_call 132; refine (HK0.out _ (bel_alloc (Below.refl _ _) _)).mono ?_; rintro e W1 ⟨rfl, hb1⟩; have HB1 := Lib.hid hb1; clear hb1))
  go_ret
  exact ⟨rfl, bel_go (Below.refl _ _) HB1.out⟩

theorem twid_18 {B p m : Nat} {sv : Value} {L : List Nd} {w n l : Nat} {k0 k1 k2 : Int} {W : World} (_S : StoreAt B W p m sv L) :
    Calls Tryz.prog 101 #[.pointer (some ⟨p, 0, none⟩), .agg #[.int .u8 18, .int .u8 ((w : Nat) : Int), .int .i64 k0, .int .i64 k1, .int .i64 k2, .int .u64 ((n : Nat) : Int), .int .u8 ((l : Nat) : Int)]] W fun e W' => e = .returned (.int .u8 1) ∧ Below W.heap.size W W' := by
  clear _S
  go_enter Tryz.func101, Tryz.ntmps101
  go_wp2_with fail
  (repeat' (first | ((with_reducible refine wp_exit ?_); (repeat (first | (with_reducible refine ex_then ?_) | (with_reducible refine ex_near ?_) | (refine ex_far (by decide) ?_))); (with_reducible refine ex_go ?_)) | go_values | go_skip | go_guarded | go_step | go_upon))
  go_ret
  exact ⟨rfl, bel_alloc (Below.refl _ _) _⟩

theorem twid_19 {B p m : Nat} {sv : Value} {L : List Nd} {w n l : Nat} {k0 k1 k2 : Int} {W : World} (_S : StoreAt B W p m sv L) :
    Calls Tryz.prog 101 #[.pointer (some ⟨p, 0, none⟩), .agg #[.int .u8 19, .int .u8 ((w : Nat) : Int), .int .i64 k0, .int .i64 k1, .int .i64 k2, .int .u64 ((n : Nat) : Int), .int .u8 ((l : Nat) : Int)]] W fun e W' => e = .returned (.int .u8 1) ∧ Below W.heap.size W W' := by
  clear _S
  go_enter Tryz.func101, Tryz.ntmps101
  go_wp2_with fail
  (repeat' (first | ((with_reducible refine wp_exit ?_); (repeat (first | (with_reducible refine ex_then ?_) | (with_reducible refine ex_near ?_) | (refine ex_far (by decide) ?_))); (with_reducible refine ex_go ?_)) | go_values | go_skip | go_guarded | go_step | go_upon))
  go_ret
  exact ⟨rfl, bel_alloc (Below.refl _ _) _⟩

theorem twid_20 {B p m : Nat} {sv : Value} {L : List Nd} {w n l : Nat} {k0 k1 k2 : Int} {W : World} (_S : StoreAt B W p m sv L) :
    Calls Tryz.prog 101 #[.pointer (some ⟨p, 0, none⟩), .agg #[.int .u8 20, .int .u8 ((w : Nat) : Int), .int .i64 k0, .int .i64 k1, .int .i64 k2, .int .u64 ((n : Nat) : Int), .int .u8 ((l : Nat) : Int)]] W fun e W' => e = .returned (.int .u8 1) ∧ Below W.heap.size W W' := by
  clear _S
  go_enter Tryz.func101, Tryz.ntmps101
  go_wp2_with fail
  (repeat' (first | ((with_reducible refine wp_exit ?_); (repeat (first | (with_reducible refine ex_then ?_) | (with_reducible refine ex_near ?_) | (refine ex_far (by decide) ?_))); (with_reducible refine ex_go ?_)) | go_values | go_skip | go_guarded | go_step | go_upon))
  go_ret
  exact ⟨rfl, bel_alloc (Below.refl _ _) _⟩

theorem twid_21 {B p m : Nat} {sv : Value} {L : List Nd} {w n l : Nat} {k0 k1 k2 : Int} {W : World} (S : StoreAt B W p m sv L) {b0 : Nat} {y0 : Nd} (h0 : k0 = ((b0 : Nat) : Int)) (g0 : L[b0]? = some y0) {b1 : Nat} {y1 : Nd} (h1 : k1 = ((b1 : Nat) : Int)) (g1 : L[b1]? = some y1) :
    Calls Tryz.prog 101 #[.pointer (some ⟨p, 0, none⟩), .agg #[.int .u8 21, .int .u8 ((w : Nat) : Int), .int .i64 k0, .int .i64 k1, .int .i64 k2, .int .u64 ((n : Nat) : Int), .int .u8 ((l : Nat) : Int)]] W fun e W' => e = .returned (.int .u8 ((((y0.w + y1.w) % 256 : Nat) : Nat) : Int)) ∧ Below W.heap.size W W' := by
  have HK0 : Hid (∀ W', Below W.heap.size W W' → Calls Tryz.prog 132 #[.pointer (some ⟨p, 0, none⟩), .agg #[.int .u8 21, .int .u8 ((w : Nat) : Int), .int .i64 k0, .int .i64 k1, .int .i64 k2, .int .u64 ((n : Nat) : Int), .int .u8 ((l : Nat) : Int)], .int .i64 0] W' fun e W2 => e = .returned (.int .u8 ((y0.w : Nat) : Int)) ∧ Below W'.heap.size W' W2) := fun W' hb => kidWidth_any (x := ⟨21, w, k0, k1, k2, n, l⟩) (j := 0) (S.call hb) (by omega) h0 g0
  have HK1 : Hid (∀ W', Below W.heap.size W W' → Calls Tryz.prog 132 #[.pointer (some ⟨p, 0, none⟩), .agg #[.int .u8 21, .int .u8 ((w : Nat) : Int), .int .i64 k0, .int .i64 k1, .int .i64 k2, .int .u64 ((n : Nat) : Int), .int .u8 ((l : Nat) : Int)], .int .i64 1] W' fun e W2 => e = .returned (.int .u8 ((y1.w : Nat) : Int)) ∧ Below W'.heap.size W' W2) := fun W' hb => kidWidth_any (x := ⟨21, w, k0, k1, k2, n, l⟩) (j := 1) (S.call hb) (by omega) h1 g1
  have hy0 : y0.w ≤ 64 := (S.good.w _ (List.mem_of_getElem? g0)).2
  have hy1 : y1.w ≤ 64 := (S.good.w _ (List.mem_of_getElem? g1)).2
  have HY := Lib.hid (And.intro hy0 hy1)
  clear hy0 hy1
  clear S h0 g0 h1 g1
  go_enter Tryz.func101, Tryz.ntmps101
  go_wp2_with fail
  try (repeat' (first | ((with_reducible refine wp_exit ?_); (repeat (first | (with_reducible refine ex_then ?_) | (with_reducible refine ex_near ?_) | (refine ex_far (by decide) ?_))); (with_reducible refine ex_go ?_)) | go_values | go_skip | go_guarded | go_step | go_upon))
  have HA := Lib.hid (At7.new W (.int .u8 21) (.int .u8 ((w : Nat) : Int)) (.int .i64 k0) (.int .i64 k1) (.int .i64 k2) (.int .u64 ((n : Nat) : Int)) (.int .u8 ((l : Nat) : Int)) 36)
  have HX := Lib.hid (bel_alloc (Below.refl _ W) (.cells #[.int .u8 21, .int .u8 ((w : Nat) : Int), .int .i64 k0, .int .i64 k1, .int .i64 k2, .int .u64 ((n : Nat) : Int), .int .u8 ((l : Nat) : Int)] 36))
  obtain ⟨bx, hbx⟩ : ∃ bx, W.heap.size = bx := ⟨_, rfl⟩
  rw [hbx] at HA
  simp only [hbx]
  generalize (W.alloc (.cells #[.int .u8 21, .int .u8 ((w : Nat) : Int), .int .i64 k0, .int .i64 k1, .int .i64 k2, .int .u64 ((n : Nat) : Int), .int .u8 ((l : Nat) : Int)] 36)) = X at HA HX ⊢
  refine wp_region_held_drew (S := fun w' => At7 w' bx (.int .u8 21) (.int .u8 ((w : Nat) : Int)) (.int .i64 k0) (.int .i64 k1) (.int .i64 k2) (.int .u64 ((n : Nat) : Int)) (.int .u8 ((l : Nat) : Int))) (by kernel_rfl) HA.out.drew (fun hHeld => ?_)
  refine wpAnyH_take (i := 0) (v := .pointer (some ⟨p, 0, none⟩)) (by simp only [List.getElem?_toArray, List.getElem?_cons_zero]; rfl) (by kernel_rfl) (by kernel_rfl) (by kernel_rfl) (by exact fun _ _ _ h => h) (Or.inl ⟨by rfl, ?_⟩) hHeld ?_
  · intro w' hSw
    go_simp
  simp only [Act.put, List.setIfInBounds_toArray, List.set_cons_zero, List.set_cons_succ]
  refine wpAnyH_take (i := 1) (v := .agg #[.int .u8 21, .int .u8 ((w : Nat) : Int), .int .i64 k0, .int .i64 k1, .int .i64 k2, .int .u64 ((n : Nat) : Int), .int .u8 ((l : Nat) : Int)]) (by simp only [List.getElem?_toArray, List.getElem?_cons_zero, List.getElem?_cons_succ]; rfl) (by kernel_rfl) (by kernel_rfl) (by kernel_rfl) (by exact fun _ _ _ h => h) (Or.inl ⟨by rfl, ?_⟩) hHeld ?_
  · intro w' hSw
    unfold At7 at hSw; obtain ⟨f0, f1, f2, f3, f4, f5, f6⟩ := hSw; go_simp
  simp only [Act.put, List.setIfInBounds_toArray, List.set_cons_zero, List.set_cons_succ]
  refine wpAnyH_take (i := 3) (v := .pointer (some ⟨p, 0, none⟩)) (by simp only [List.getElem?_toArray, List.getElem?_cons_zero, List.getElem?_cons_succ]; rfl) (by kernel_rfl) (by kernel_rfl) (by kernel_rfl) (by exact fun _ _ _ h => h) (Or.inl ⟨by rfl, ?_⟩) hHeld ?_
  · intro w' hSw
    go_simp
  simp only [Act.put, List.setIfInBounds_toArray, List.set_cons_zero, List.set_cons_succ]
  refine wpAnyH_take (i := 4) (v := .agg #[.int .u8 21, .int .u8 ((w : Nat) : Int), .int .i64 k0, .int .i64 k1, .int .i64 k2, .int .u64 ((n : Nat) : Int), .int .u8 ((l : Nat) : Int)]) (by simp only [List.getElem?_toArray, List.getElem?_cons_zero, List.getElem?_cons_succ]; rfl) (by kernel_rfl) (by kernel_rfl) (by kernel_rfl) (by exact fun _ _ _ h => h) (Or.inl ⟨by rfl, ?_⟩) hHeld ?_
  · intro w' hSw
    unfold At7 at hSw; obtain ⟨f0, f1, f2, f3, f4, f5, f6⟩ := hSw; go_simp
  simp only [Act.put, List.setIfInBounds_toArray, List.set_cons_zero, List.set_cons_succ]
  refine wpAnyH_ready (rs := [2]) (by kernel_rfl) (by simp) ?_
  refine AllReadyH.cons (by simp only [List.getElem?_toArray, List.getElem?_cons_zero, List.getElem?_cons_succ]; rfl) (fun K hK => ?_) AllReadyH.nil
  go_simp
  refine (HK0.out _ (by rw [hbx]; exact (by rw [← hbx]; exact HX.out.drew))).mono ?_
  rintro e W0 ⟨rfl, hb0⟩
  have HB0 : Hid (Below W.heap.size W W0) := Lib.hid (bel_call HX.out.drew hb0)
  refine hK.out _ _ (hHeld.keep hb0) (fun hHeld => ?_)
  clear hK K hb0
  try simp only [Act.put, List.setIfInBounds_toArray, List.set_cons_zero, List.set_cons_succ]
  refine wpAnyH_ready (rs := [5]) (by kernel_rfl) (by simp) ?_
  refine AllReadyH.cons (by simp only [List.getElem?_toArray, List.getElem?_cons_zero, List.getElem?_cons_succ]; rfl) (fun K hK => ?_) AllReadyH.nil
  go_simp
  refine (HK1.out _ (by rw [hbx]; exact (by rw [← hbx]; exact HB0.out))).mono ?_
  rintro e W1 ⟨rfl, hb1⟩
  have HB1 : Hid (Below W.heap.size W W1) := Lib.hid (bel_call HB0.out hb1)
  refine hK.out _ _ (hHeld.keep hb1) (fun hHeld => ?_)
  clear hK K hb1
  try simp only [Act.put, List.setIfInBounds_toArray, List.set_cons_zero, List.set_cons_succ]
  refine wpAnyH_take (i := 6) (v := .int .u8 ((((y0.w + y1.w) % 256 : Nat) : Nat) : Int)) (by simp only [List.getElem?_toArray, List.getElem?_cons_zero, List.getElem?_cons_succ]; rfl) (by kernel_rfl) (by kernel_rfl) (by kernel_rfl) (by exact fun _ _ _ h => h) (Or.inl ⟨by rfl, ?_⟩) hHeld ?_
  · intro w' hSw
    go_simp; first | done | (have := HY.out; simp [IntKind.wrap, IntKind.bits, IntKind.signed] <;> omega)
  simp only [Act.put, List.setIfInBounds_toArray, List.set_cons_zero, List.set_cons_succ]
  refine wpAnyH_take (i := 7) (v := .int .u8 ((((y0.w + y1.w) % 256 : Nat) : Nat) : Int)) (by simp only [List.getElem?_toArray, List.getElem?_cons_zero, List.getElem?_cons_succ]; rfl) (by kernel_rfl) (by kernel_rfl) (by kernel_rfl) (by exact fun _ _ _ h => h) (Or.inl ⟨by rfl, ?_⟩) hHeld ?_
  · intro w' hSw
    go_simp
  simp only [Act.put, List.setIfInBounds_toArray, List.set_cons_zero, List.set_cons_succ]
  refine wpAnyH_done (by kernel_rfl) ?_ _
  go_wp2_with fail
  go_ret
  exact ⟨rfl, HB1.out⟩

theorem twid_22 {B p m : Nat} {sv : Value} {L : List Nd} {w n l : Nat} {k0 k1 k2 : Int} {W : World} (_S : StoreAt B W p m sv L) :
    Calls Tryz.prog 101 #[.pointer (some ⟨p, 0, none⟩), .agg #[.int .u8 22, .int .u8 ((w : Nat) : Int), .int .i64 k0, .int .i64 k1, .int .i64 k2, .int .u64 ((n : Nat) : Int), .int .u8 ((l : Nat) : Int)]] W fun e W' => e = .returned (.int .u8 ((w : Nat) : Int)) ∧ Below W.heap.size W W' := by
  clear _S
  go_enter Tryz.func101, Tryz.ntmps101
  go_wp2_with fail
  (repeat' (first | ((with_reducible refine wp_exit ?_); (repeat (first | (with_reducible refine ex_then ?_) | (with_reducible refine ex_near ?_) | (refine ex_far (by decide) ?_))); (with_reducible refine ex_go ?_)) | go_values | go_skip | go_guarded | go_step | go_upon))
  go_ret
  exact ⟨rfl, bel_alloc (Below.refl _ _) _⟩

theorem twid_23 {B p m : Nat} {sv : Value} {L : List Nd} {w n l : Nat} {k0 k1 k2 : Int} {W : World} (_S : StoreAt B W p m sv L) :
    Calls Tryz.prog 101 #[.pointer (some ⟨p, 0, none⟩), .agg #[.int .u8 23, .int .u8 ((w : Nat) : Int), .int .i64 k0, .int .i64 k1, .int .i64 k2, .int .u64 ((n : Nat) : Int), .int .u8 ((l : Nat) : Int)]] W fun e W' => e = .returned (.int .u8 ((w : Nat) : Int)) ∧ Below W.heap.size W W' := by
  clear _S
  go_enter Tryz.func101, Tryz.ntmps101
  go_wp2_with fail
  (repeat' (first | ((with_reducible refine wp_exit ?_); (repeat (first | (with_reducible refine ex_then ?_) | (with_reducible refine ex_near ?_) | (refine ex_far (by decide) ?_))); (with_reducible refine ex_go ?_)) | go_values | go_skip | go_guarded | go_step | go_upon))
  go_ret
  exact ⟨rfl, bel_alloc (Below.refl _ _) _⟩

theorem twid_24 {B p m : Nat} {sv : Value} {L : List Nd} {w n l : Nat} {k0 k1 k2 : Int} {W : World} (_S : StoreAt B W p m sv L) :
    Calls Tryz.prog 101 #[.pointer (some ⟨p, 0, none⟩), .agg #[.int .u8 24, .int .u8 ((w : Nat) : Int), .int .i64 k0, .int .i64 k1, .int .i64 k2, .int .u64 ((n : Nat) : Int), .int .u8 ((l : Nat) : Int)]] W fun e W' => e = .returned (.int .u8 ((w : Nat) : Int)) ∧ Below W.heap.size W W' := by
  clear _S
  go_enter Tryz.func101, Tryz.ntmps101
  go_wp2_with fail
  (repeat' (first | ((with_reducible refine wp_exit ?_); (repeat (first | (with_reducible refine ex_then ?_) | (with_reducible refine ex_near ?_) | (refine ex_far (by decide) ?_))); (with_reducible refine ex_go ?_)) | go_values | go_skip | go_guarded | go_step | go_upon))
  go_ret
  exact ⟨rfl, bel_alloc (Below.refl _ _) _⟩

theorem twid_25 {B p m : Nat} {sv : Value} {L : List Nd} {w n l : Nat} {k0 k1 k2 : Int} {W : World} (S : StoreAt B W p m sv L) {b1 : Nat} {y1 : Nd} (h1 : k1 = ((b1 : Nat) : Int)) (g1 : L[b1]? = some y1) :
    Calls Tryz.prog 101 #[.pointer (some ⟨p, 0, none⟩), .agg #[.int .u8 25, .int .u8 ((w : Nat) : Int), .int .i64 k0, .int .i64 k1, .int .i64 k2, .int .u64 ((n : Nat) : Int), .int .u8 ((l : Nat) : Int)]] W fun e W' => e = .returned (.int .u8 ((y1.w : Nat) : Int)) ∧ Below W.heap.size W W' := by
  have HK1 : Hid (∀ W', Below W.heap.size W W' → Calls Tryz.prog 132 #[.pointer (some ⟨p, 0, none⟩), .agg #[.int .u8 25, .int .u8 ((w : Nat) : Int), .int .i64 k0, .int .i64 k1, .int .i64 k2, .int .u64 ((n : Nat) : Int), .int .u8 ((l : Nat) : Int)], .int .i64 1] W' fun e W2 => e = .returned (.int .u8 ((y1.w : Nat) : Int)) ∧ Below W'.heap.size W' W2) := fun W' hb => kidWidth_any (x := ⟨25, w, k0, k1, k2, n, l⟩) (j := 1) (S.call hb) (by omega) h1 g1
  clear S h1 g1
  go_enter Tryz.func101, Tryz.ntmps101
  go_wp2_with (go_at_call 132; refine (HK1.out _ (bel_alloc (Below.refl _ _) _)).mono ?_; rintro e W1 ⟨rfl, hb1⟩; have HB1 := Lib.hid hb1; clear hb1)
  (repeat' (first | ((with_reducible refine wp_exit ?_); (repeat (first | (with_reducible refine ex_then ?_) | (with_reducible refine ex_near ?_) | (refine ex_far (by decide) ?_))); (with_reducible refine ex_go ?_)) | go_values | go_skip | go_guarded | go_step | go_upon))
  all_goals (try go_wp2_with (go_at_call 132; refine (HK1.out _ (bel_alloc (Below.refl _ _) _)).mono ?_; rintro e W1 ⟨rfl, hb1⟩; have HB1 := Lib.hid hb1; clear hb1))
  go_ret
  exact ⟨rfl, bel_go (Below.refl _ _) HB1.out⟩

theorem wid_get {L : List Nd} {k : Int} {b : Nat} {y : Nd} (hk : k = ((b : Nat) : Int)) (hy : L[b]? = some y) : widAt L k = y.w := by
  unfold widAt
  rw [hk, Int.toNat_natCast, hy]
  rfl
theorem twid_any {B p m : Nat} {sv : Value} {L : List Nd} {x : Nd} {W : World} (S : StoreAt B W p m sv L) (ho : 1 ≤ x.o ∧ x.o ≤ 25) (hk : ∀ j, j < kc x.o → 0 ≤ x.kid j ∧ x.kid j < ((L.length : Nat) : Int)) :
    Calls Tryz.prog 101 #[.pointer (some ⟨p, 0, none⟩), x.val] W fun e W' => e = .returned (.int .u8 ((widB L x : Nat) : Int)) ∧ Below W.heap.size W W' := by
  have hget : ∀ j, j < kc x.o → ∃ (b : Nat) (y : Nd), x.kid j = ((b : Nat) : Int) ∧ L[b]? = some y := fun j hj => by
    have := hk j hj
    exact ⟨(x.kid j).toNat, L[(x.kid j).toNat]'(by omega), by omega, List.getElem?_eq_getElem (by omega)⟩
  obtain ⟨o, w, k0, k1, k2, n, l⟩ := x
  simp only at ho hget
  have hh : o = 1 ∨ o = 2 ∨ o = 3 ∨ o = 4 ∨ o = 5 ∨ o = 6 ∨ o = 7 ∨ o = 8 ∨ o = 9 ∨ o = 10 ∨ o = 11 ∨ o = 12 ∨ o = 13 ∨ o = 14 ∨ o = 15 ∨ o = 16 ∨ o = 17 ∨ o = 18 ∨ o = 19 ∨ o = 20 ∨ o = 21 ∨ o = 22 ∨ o = 23 ∨ o = 24 ∨ o = 25 := by omega
  rcases hh with rfl | rfl | rfl | rfl | rfl | rfl | rfl | rfl | rfl | rfl | rfl | rfl | rfl | rfl | rfl | rfl | rfl | rfl | rfl | rfl | rfl | rfl | rfl | rfl | rfl
  · exact twid_1 S
  · exact twid_2 S
  · obtain ⟨b0, y0, h0, g0⟩ := hget 0 (by decide)
    have e := wid_get (k := k0) h0 g0
    simp only [widB]
    rw [if_neg (by omega), if_neg (by omega), if_neg (by omega), if_neg (by omega), e]
    exact twid_3 S h0 g0
  · obtain ⟨b0, y0, h0, g0⟩ := hget 0 (by decide)
    have e := wid_get (k := k0) h0 g0
    simp only [widB]
    rw [if_neg (by omega), if_neg (by omega), if_neg (by omega), if_neg (by omega), e]
    exact twid_4 S h0 g0
  · obtain ⟨b0, y0, h0, g0⟩ := hget 0 (by decide)
    have e := wid_get (k := k0) h0 g0
    simp only [widB]
    rw [if_neg (by omega), if_neg (by omega), if_neg (by omega), if_neg (by omega), e]
    exact twid_5 S h0 g0
  · obtain ⟨b0, y0, h0, g0⟩ := hget 0 (by decide)
    have e := wid_get (k := k0) h0 g0
    simp only [widB]
    rw [if_neg (by omega), if_neg (by omega), if_neg (by omega), if_neg (by omega), e]
    exact twid_6 S h0 g0
  · obtain ⟨b0, y0, h0, g0⟩ := hget 0 (by decide)
    have e := wid_get (k := k0) h0 g0
    simp only [widB]
    rw [if_neg (by omega), if_neg (by omega), if_neg (by omega), if_neg (by omega), e]
    exact twid_7 S h0 g0
  · obtain ⟨b0, y0, h0, g0⟩ := hget 0 (by decide)
    have e := wid_get (k := k0) h0 g0
    simp only [widB]
    rw [if_neg (by omega), if_neg (by omega), if_neg (by omega), if_neg (by omega), e]
    exact twid_8 S h0 g0
  · obtain ⟨b0, y0, h0, g0⟩ := hget 0 (by decide)
    have e := wid_get (k := k0) h0 g0
    simp only [widB]
    rw [if_neg (by omega), if_neg (by omega), if_neg (by omega), if_neg (by omega), e]
    exact twid_9 S h0 g0
  · obtain ⟨b0, y0, h0, g0⟩ := hget 0 (by decide)
    have e := wid_get (k := k0) h0 g0
    simp only [widB]
    rw [if_neg (by omega), if_neg (by omega), if_neg (by omega), if_neg (by omega), e]
    exact twid_10 S h0 g0
  · obtain ⟨b0, y0, h0, g0⟩ := hget 0 (by decide)
    have e := wid_get (k := k0) h0 g0
    simp only [widB]
    rw [if_neg (by omega), if_neg (by omega), if_neg (by omega), if_neg (by omega), e]
    exact twid_11 S h0 g0
  · obtain ⟨b0, y0, h0, g0⟩ := hget 0 (by decide)
    have e := wid_get (k := k0) h0 g0
    simp only [widB]
    rw [if_neg (by omega), if_neg (by omega), if_neg (by omega), if_neg (by omega), e]
    exact twid_12 S h0 g0
  · obtain ⟨b0, y0, h0, g0⟩ := hget 0 (by decide)
    have e := wid_get (k := k0) h0 g0
    simp only [widB]
    rw [if_neg (by omega), if_neg (by omega), if_neg (by omega), if_neg (by omega), e]
    exact twid_13 S h0 g0
  · obtain ⟨b0, y0, h0, g0⟩ := hget 0 (by decide)
    have e := wid_get (k := k0) h0 g0
    simp only [widB]
    rw [if_neg (by omega), if_neg (by omega), if_neg (by omega), if_neg (by omega), e]
    exact twid_14 S h0 g0
  · obtain ⟨b0, y0, h0, g0⟩ := hget 0 (by decide)
    have e := wid_get (k := k0) h0 g0
    simp only [widB]
    rw [if_neg (by omega), if_neg (by omega), if_neg (by omega), if_neg (by omega), e]
    exact twid_15 S h0 g0
  · obtain ⟨b0, y0, h0, g0⟩ := hget 0 (by decide)
    have e := wid_get (k := k0) h0 g0
    simp only [widB]
    rw [if_neg (by omega), if_neg (by omega), if_neg (by omega), if_neg (by omega), e]
    exact twid_16 S h0 g0
  · obtain ⟨b0, y0, h0, g0⟩ := hget 0 (by decide)
    have e := wid_get (k := k0) h0 g0
    simp only [widB]
    rw [if_neg (by omega), if_neg (by omega), if_neg (by omega), if_neg (by omega), e]
    exact twid_17 S h0 g0
  · exact twid_18 S
  · exact twid_19 S
  · exact twid_20 S
  · obtain ⟨b0, y0, h0, g0⟩ := hget 0 (by decide)
    obtain ⟨b1, y1, h1, g1⟩ := hget 1 (by decide)
    have e0 := wid_get (k := k0) h0 g0
    have e1 := wid_get (k := k1) h1 g1
    simp only [widB]
    rw [if_neg (by omega), if_neg (by omega), if_pos trivial, e0, e1]
    exact twid_21 S h0 g0 h1 g1
  · exact twid_22 S
  · exact twid_23 S
  · exact twid_24 S
  · obtain ⟨b1, y1, h1, g1⟩ := hget 1 (by decide)
    have e := wid_get (k := k1) h1 g1
    simp only [widB]
    rw [if_neg (by omega), if_neg (by omega), if_neg (by omega), if_pos trivial, e]
    exact twid_25 S h1 g1
end Tx
end Go.Proofs.YtkiegiofholofaaGreatDoor
