/-
  May a node be? What may of layer term returns, where its fields or its kids refuse it, as a fact on one call.
-/
import Derived.Test.YthelkbdiedfmfaaGreatTmBox
import Derived.Test.YthelkbdiedfmfaaGreatTmVecB
import Derived.Deep.RegionHeld3
namespace Go.Proofs.YthelkbdiedfmfaaGreat
open Go.RowKit Bv
namespace Tm
set_option maxHeartbeats 1000000
set_option maxRecDepth 100000

theorem guard_nd : Tryz.prog.eqGuardType Tryz.prog.depth 56 = false := by kernel_rfl

theorem may_not (o w n l : Nat) (k0 k1 k2 : Int) (B p m : Nat) (sv : Value) (L : List Nd) (W : World) (oa : Array Value) (_S : StoreAt B W p m sv L)
    (HO : Hid (∀ W : World, Calls Tryz.prog 73 #[.agg #[.int .u8 o, .int .u8 w, .int .i64 k0, .int .i64 k1, .int .i64 k2, .int .u64 n, .int .u8 l]] W fun e W' => e = .returned (.agg oa) ∧ Below W.heap.size W W'))
    (hq : ∀ W : World, (binOp .neq 56 (.agg #[.int .u8 o, .int .u8 w, .int .i64 k0, .int .i64 k1, .int .i64 k2, .int .u64 n, .int .u8 l]) (.agg oa)).run Tryz.prog W = .ok (.bool true) W) :
    Calls Tryz.prog 59 #[.pointer (some ⟨p, 0, none⟩), .agg #[.int .u8 o, .int .u8 w, .int .i64 k0, .int .i64 k1, .int .i64 k2, .int .u64 n, .int .u8 l]] W fun e W' => e = .returned (.bool false) ∧ Below W.heap.size W W' := by
  have hg := guard_nd
  have A := At7.new W (.int .u8 o) (.int .u8 w) (.int .i64 k0) (.int .i64 k1) (.int .i64 k2) (.int .u64 n) (.int .u8 l) 56
  go_enter Tryz.func59, Tryz.ntmps59
  go_wp2_with fail
  go_region_held3 (fun w' => w'.cell? ⟨W.heap.size, 0, none⟩ = some (.int .u8 o) ∧ w'.cell? ⟨W.heap.size, 1, none⟩ = some (.int .u8 w) ∧ w'.cell? ⟨W.heap.size, 2, none⟩ = some (.int .i64 k0) ∧ w'.cell? ⟨W.heap.size, 3, none⟩ = some (.int .i64 k1) ∧ w'.cell? ⟨W.heap.size, 4, none⟩ = some (.int .i64 k2) ∧ w'.cell? ⟨W.heap.size, 5, none⟩ = some (.int .u64 n) ∧ w'.cell? ⟨W.heap.size, 6, none⟩ = some (.int .u8 l))
    (first | exact A.drew | exact A.drew.keep hb)
    (first | (go_at_call 73; refine (HO.out _).mono ?_; rintro e w1 ⟨rfl, hb⟩))
  go_wp2_with fail
  go_ret
  exact ⟨rfl, bel_call (bel_alloc (Below.refl _ _) _).drew hb⟩

theorem may_bad_1_0 (o w n l : Nat) (k0 k1 k2 : Int) (B p m : Nat) (sv : Value) (L : List Nd) (W : World) (oa : Array Value) (S : StoreAt B W p m sv L)
    (HO : Hid (∀ W : World, Calls Tryz.prog 73 #[.agg #[.int .u8 o, .int .u8 w, .int .i64 k0, .int .i64 k1, .int .i64 k2, .int .u64 n, .int .u8 l]] W fun e W' => e = .returned (.agg oa) ∧ Below W.heap.size W W'))
    (hq : ∀ W : World, (binOp .neq 56 (.agg #[.int .u8 o, .int .u8 w, .int .i64 k0, .int .i64 k1, .int .i64 k2, .int .u64 n, .int .u8 l]) (.agg oa)).run Tryz.prog W = .ok (.bool false) W)
    (HK : Hid (∀ W : World, Calls Tryz.prog 74 #[.int .u8 o] W fun e W' => e = .returned (.int .i64 1) ∧ W = W')) (hin0 : inB L k0 = false) :
    Calls Tryz.prog 59 #[.pointer (some ⟨p, 0, none⟩), .agg #[.int .u8 o, .int .u8 w, .int .i64 k0, .int .i64 k1, .int .i64 k2, .int .u64 n, .int .u8 l]] W fun e W' => e = .returned (.bool false) ∧ Below W.heap.size W W' := by
  have hg := guard_nd
  have A := At7.new W (.int .u8 o) (.int .u8 w) (.int .i64 k0) (.int .i64 k1) (.int .i64 k2) (.int .u64 n) (.int .u8 l) 56
  go_enter Tryz.func59, Tryz.ntmps59
  go_wp2_with fail
  go_region_held3 (fun w' => w'.cell? ⟨W.heap.size, 0, none⟩ = some (.int .u8 o) ∧ w'.cell? ⟨W.heap.size, 1, none⟩ = some (.int .u8 w) ∧ w'.cell? ⟨W.heap.size, 2, none⟩ = some (.int .i64 k0) ∧ w'.cell? ⟨W.heap.size, 3, none⟩ = some (.int .i64 k1) ∧ w'.cell? ⟨W.heap.size, 4, none⟩ = some (.int .i64 k2) ∧ w'.cell? ⟨W.heap.size, 5, none⟩ = some (.int .u64 n) ∧ w'.cell? ⟨W.heap.size, 6, none⟩ = some (.int .u8 l))
    (first | exact A.drew | exact A.drew.keep hb)
    (first | (go_at_call 73; refine (HO.out _).mono ?_; rintro e w1 ⟨rfl, hb⟩))
  replace A := A.drew.keep hb
  have la := A.lt
  replace S := (S.alloc _).drew.call hb
  have hbel := bel_call (bel_alloc (Below.refl _ _) _).drew hb
  obtain ⟨a, c, rfl⟩ := S.shape
  have c0 := S.c0
  have A' := A
  unfold At7 at A'
  go_wp2_with (go_at_call 74; refine (HK.out _).mono ?_; rintro e w2 ⟨rfl, rfl⟩)
  refine wp_loop_rounds 1 ?_
  rw [rounds_succ]
  go_wp2_with (go_at_call 20; refine (has_any p a L c k0 _ c0).mono ?_; rw [hin0]; rintro e w2 ⟨rfl, rfl⟩)
  go_ret
  exact ⟨rfl, hbel⟩

theorem may_bad_2_0 (o w n l : Nat) (k0 k1 k2 : Int) (B p m : Nat) (sv : Value) (L : List Nd) (W : World) (oa : Array Value) (S : StoreAt B W p m sv L)
    (HO : Hid (∀ W : World, Calls Tryz.prog 73 #[.agg #[.int .u8 o, .int .u8 w, .int .i64 k0, .int .i64 k1, .int .i64 k2, .int .u64 n, .int .u8 l]] W fun e W' => e = .returned (.agg oa) ∧ Below W.heap.size W W'))
    (hq : ∀ W : World, (binOp .neq 56 (.agg #[.int .u8 o, .int .u8 w, .int .i64 k0, .int .i64 k1, .int .i64 k2, .int .u64 n, .int .u8 l]) (.agg oa)).run Tryz.prog W = .ok (.bool false) W)
    (HK : Hid (∀ W : World, Calls Tryz.prog 74 #[.int .u8 o] W fun e W' => e = .returned (.int .i64 2) ∧ W = W')) (hin0 : inB L k0 = false) :
    Calls Tryz.prog 59 #[.pointer (some ⟨p, 0, none⟩), .agg #[.int .u8 o, .int .u8 w, .int .i64 k0, .int .i64 k1, .int .i64 k2, .int .u64 n, .int .u8 l]] W fun e W' => e = .returned (.bool false) ∧ Below W.heap.size W W' := by
  have hg := guard_nd
  have A := At7.new W (.int .u8 o) (.int .u8 w) (.int .i64 k0) (.int .i64 k1) (.int .i64 k2) (.int .u64 n) (.int .u8 l) 56
  go_enter Tryz.func59, Tryz.ntmps59
  go_wp2_with fail
  go_region_held3 (fun w' => w'.cell? ⟨W.heap.size, 0, none⟩ = some (.int .u8 o) ∧ w'.cell? ⟨W.heap.size, 1, none⟩ = some (.int .u8 w) ∧ w'.cell? ⟨W.heap.size, 2, none⟩ = some (.int .i64 k0) ∧ w'.cell? ⟨W.heap.size, 3, none⟩ = some (.int .i64 k1) ∧ w'.cell? ⟨W.heap.size, 4, none⟩ = some (.int .i64 k2) ∧ w'.cell? ⟨W.heap.size, 5, none⟩ = some (.int .u64 n) ∧ w'.cell? ⟨W.heap.size, 6, none⟩ = some (.int .u8 l))
    (first | exact A.drew | exact A.drew.keep hb)
    (first | (go_at_call 73; refine (HO.out _).mono ?_; rintro e w1 ⟨rfl, hb⟩))
  replace A := A.drew.keep hb
  have la := A.lt
  replace S := (S.alloc _).drew.call hb
  have hbel := bel_call (bel_alloc (Below.refl _ _) _).drew hb
  obtain ⟨a, c, rfl⟩ := S.shape
  have c0 := S.c0
  have A' := A
  unfold At7 at A'
  go_wp2_with (go_at_call 74; refine (HK.out _).mono ?_; rintro e w2 ⟨rfl, rfl⟩)
  refine wp_loop_rounds 1 ?_
  rw [rounds_succ]
  go_wp2_with (go_at_call 20; refine (has_any p a L c k0 _ c0).mono ?_; rw [hin0]; rintro e w2 ⟨rfl, rfl⟩)
  go_ret
  exact ⟨rfl, hbel⟩

theorem may_bad_2_1 (o w n l : Nat) (k0 k1 k2 : Int) (B p m : Nat) (sv : Value) (L : List Nd) (W : World) (oa : Array Value) (S : StoreAt B W p m sv L)
    (HO : Hid (∀ W : World, Calls Tryz.prog 73 #[.agg #[.int .u8 o, .int .u8 w, .int .i64 k0, .int .i64 k1, .int .i64 k2, .int .u64 n, .int .u8 l]] W fun e W' => e = .returned (.agg oa) ∧ Below W.heap.size W W'))
    (hq : ∀ W : World, (binOp .neq 56 (.agg #[.int .u8 o, .int .u8 w, .int .i64 k0, .int .i64 k1, .int .i64 k2, .int .u64 n, .int .u8 l]) (.agg oa)).run Tryz.prog W = .ok (.bool false) W)
    (HK : Hid (∀ W : World, Calls Tryz.prog 74 #[.int .u8 o] W fun e W' => e = .returned (.int .i64 2) ∧ W = W')) (hin0 : inB L k0 = true) (hin1 : inB L k1 = false) :
    Calls Tryz.prog 59 #[.pointer (some ⟨p, 0, none⟩), .agg #[.int .u8 o, .int .u8 w, .int .i64 k0, .int .i64 k1, .int .i64 k2, .int .u64 n, .int .u8 l]] W fun e W' => e = .returned (.bool false) ∧ Below W.heap.size W W' := by
  have hg := guard_nd
  have A := At7.new W (.int .u8 o) (.int .u8 w) (.int .i64 k0) (.int .i64 k1) (.int .i64 k2) (.int .u64 n) (.int .u8 l) 56
  go_enter Tryz.func59, Tryz.ntmps59
  go_wp2_with fail
  go_region_held3 (fun w' => w'.cell? ⟨W.heap.size, 0, none⟩ = some (.int .u8 o) ∧ w'.cell? ⟨W.heap.size, 1, none⟩ = some (.int .u8 w) ∧ w'.cell? ⟨W.heap.size, 2, none⟩ = some (.int .i64 k0) ∧ w'.cell? ⟨W.heap.size, 3, none⟩ = some (.int .i64 k1) ∧ w'.cell? ⟨W.heap.size, 4, none⟩ = some (.int .i64 k2) ∧ w'.cell? ⟨W.heap.size, 5, none⟩ = some (.int .u64 n) ∧ w'.cell? ⟨W.heap.size, 6, none⟩ = some (.int .u8 l))
    (first | exact A.drew | exact A.drew.keep hb)
    (first | (go_at_call 73; refine (HO.out _).mono ?_; rintro e w1 ⟨rfl, hb⟩))
  replace A := A.drew.keep hb
  have la := A.lt
  replace S := (S.alloc _).drew.call hb
  have hbel := bel_call (bel_alloc (Below.refl _ _) _).drew hb
  obtain ⟨a, c, rfl⟩ := S.shape
  have c0 := S.c0
  have A' := A
  unfold At7 at A'
  go_wp2_with (go_at_call 74; refine (HK.out _).mono ?_; rintro e w2 ⟨rfl, rfl⟩)
  refine wp_loop_rounds 2 ?_
  rw [rounds_succ]
  go_wp2_with (go_at_call 20; refine (has_any p a L c k0 _ c0).mono ?_; rw [hin0]; rintro e w2 ⟨rfl, rfl⟩)
  rw [rounds_succ]
  go_wp2_with (go_at_call 20; refine (has_any p a L c k1 _ c0).mono ?_; rw [hin1]; rintro e w2 ⟨rfl, rfl⟩)
  go_ret
  exact ⟨rfl, hbel⟩

theorem may_bad_3_0 (o w n l : Nat) (k0 k1 k2 : Int) (B p m : Nat) (sv : Value) (L : List Nd) (W : World) (oa : Array Value) (S : StoreAt B W p m sv L)
    (HO : Hid (∀ W : World, Calls Tryz.prog 73 #[.agg #[.int .u8 o, .int .u8 w, .int .i64 k0, .int .i64 k1, .int .i64 k2, .int .u64 n, .int .u8 l]] W fun e W' => e = .returned (.agg oa) ∧ Below W.heap.size W W'))
    (hq : ∀ W : World, (binOp .neq 56 (.agg #[.int .u8 o, .int .u8 w, .int .i64 k0, .int .i64 k1, .int .i64 k2, .int .u64 n, .int .u8 l]) (.agg oa)).run Tryz.prog W = .ok (.bool false) W)
    (HK : Hid (∀ W : World, Calls Tryz.prog 74 #[.int .u8 o] W fun e W' => e = .returned (.int .i64 3) ∧ W = W')) (hin0 : inB L k0 = false) :
    Calls Tryz.prog 59 #[.pointer (some ⟨p, 0, none⟩), .agg #[.int .u8 o, .int .u8 w, .int .i64 k0, .int .i64 k1, .int .i64 k2, .int .u64 n, .int .u8 l]] W fun e W' => e = .returned (.bool false) ∧ Below W.heap.size W W' := by
  have hg := guard_nd
  have A := At7.new W (.int .u8 o) (.int .u8 w) (.int .i64 k0) (.int .i64 k1) (.int .i64 k2) (.int .u64 n) (.int .u8 l) 56
  go_enter Tryz.func59, Tryz.ntmps59
  go_wp2_with fail
  go_region_held3 (fun w' => w'.cell? ⟨W.heap.size, 0, none⟩ = some (.int .u8 o) ∧ w'.cell? ⟨W.heap.size, 1, none⟩ = some (.int .u8 w) ∧ w'.cell? ⟨W.heap.size, 2, none⟩ = some (.int .i64 k0) ∧ w'.cell? ⟨W.heap.size, 3, none⟩ = some (.int .i64 k1) ∧ w'.cell? ⟨W.heap.size, 4, none⟩ = some (.int .i64 k2) ∧ w'.cell? ⟨W.heap.size, 5, none⟩ = some (.int .u64 n) ∧ w'.cell? ⟨W.heap.size, 6, none⟩ = some (.int .u8 l))
    (first | exact A.drew | exact A.drew.keep hb)
    (first | (go_at_call 73; refine (HO.out _).mono ?_; rintro e w1 ⟨rfl, hb⟩))
  replace A := A.drew.keep hb
  have la := A.lt
  replace S := (S.alloc _).drew.call hb
  have hbel := bel_call (bel_alloc (Below.refl _ _) _).drew hb
  obtain ⟨a, c, rfl⟩ := S.shape
  have c0 := S.c0
  have A' := A
  unfold At7 at A'
  go_wp2_with (go_at_call 74; refine (HK.out _).mono ?_; rintro e w2 ⟨rfl, rfl⟩)
  refine wp_loop_rounds 1 ?_
  rw [rounds_succ]
  go_wp2_with (go_at_call 20; refine (has_any p a L c k0 _ c0).mono ?_; rw [hin0]; rintro e w2 ⟨rfl, rfl⟩)
  go_ret
  exact ⟨rfl, hbel⟩

theorem may_bad_3_1 (o w n l : Nat) (k0 k1 k2 : Int) (B p m : Nat) (sv : Value) (L : List Nd) (W : World) (oa : Array Value) (S : StoreAt B W p m sv L)
    (HO : Hid (∀ W : World, Calls Tryz.prog 73 #[.agg #[.int .u8 o, .int .u8 w, .int .i64 k0, .int .i64 k1, .int .i64 k2, .int .u64 n, .int .u8 l]] W fun e W' => e = .returned (.agg oa) ∧ Below W.heap.size W W'))
    (hq : ∀ W : World, (binOp .neq 56 (.agg #[.int .u8 o, .int .u8 w, .int .i64 k0, .int .i64 k1, .int .i64 k2, .int .u64 n, .int .u8 l]) (.agg oa)).run Tryz.prog W = .ok (.bool false) W)
    (HK : Hid (∀ W : World, Calls Tryz.prog 74 #[.int .u8 o] W fun e W' => e = .returned (.int .i64 3) ∧ W = W')) (hin0 : inB L k0 = true) (hin1 : inB L k1 = false) :
    Calls Tryz.prog 59 #[.pointer (some ⟨p, 0, none⟩), .agg #[.int .u8 o, .int .u8 w, .int .i64 k0, .int .i64 k1, .int .i64 k2, .int .u64 n, .int .u8 l]] W fun e W' => e = .returned (.bool false) ∧ Below W.heap.size W W' := by
  have hg := guard_nd
  have A := At7.new W (.int .u8 o) (.int .u8 w) (.int .i64 k0) (.int .i64 k1) (.int .i64 k2) (.int .u64 n) (.int .u8 l) 56
  go_enter Tryz.func59, Tryz.ntmps59
  go_wp2_with fail
  go_region_held3 (fun w' => w'.cell? ⟨W.heap.size, 0, none⟩ = some (.int .u8 o) ∧ w'.cell? ⟨W.heap.size, 1, none⟩ = some (.int .u8 w) ∧ w'.cell? ⟨W.heap.size, 2, none⟩ = some (.int .i64 k0) ∧ w'.cell? ⟨W.heap.size, 3, none⟩ = some (.int .i64 k1) ∧ w'.cell? ⟨W.heap.size, 4, none⟩ = some (.int .i64 k2) ∧ w'.cell? ⟨W.heap.size, 5, none⟩ = some (.int .u64 n) ∧ w'.cell? ⟨W.heap.size, 6, none⟩ = some (.int .u8 l))
    (first | exact A.drew | exact A.drew.keep hb)
    (first | (go_at_call 73; refine (HO.out _).mono ?_; rintro e w1 ⟨rfl, hb⟩))
  replace A := A.drew.keep hb
  have la := A.lt
  replace S := (S.alloc _).drew.call hb
  have hbel := bel_call (bel_alloc (Below.refl _ _) _).drew hb
  obtain ⟨a, c, rfl⟩ := S.shape
  have c0 := S.c0
  have A' := A
  unfold At7 at A'
  go_wp2_with (go_at_call 74; refine (HK.out _).mono ?_; rintro e w2 ⟨rfl, rfl⟩)
  refine wp_loop_rounds 2 ?_
  rw [rounds_succ]
  go_wp2_with (go_at_call 20; refine (has_any p a L c k0 _ c0).mono ?_; rw [hin0]; rintro e w2 ⟨rfl, rfl⟩)
  rw [rounds_succ]
  go_wp2_with (go_at_call 20; refine (has_any p a L c k1 _ c0).mono ?_; rw [hin1]; rintro e w2 ⟨rfl, rfl⟩)
  go_ret
  exact ⟨rfl, hbel⟩

theorem may_bad_3_2 (o w n l : Nat) (k0 k1 k2 : Int) (B p m : Nat) (sv : Value) (L : List Nd) (W : World) (oa : Array Value) (S : StoreAt B W p m sv L)
    (HO : Hid (∀ W : World, Calls Tryz.prog 73 #[.agg #[.int .u8 o, .int .u8 w, .int .i64 k0, .int .i64 k1, .int .i64 k2, .int .u64 n, .int .u8 l]] W fun e W' => e = .returned (.agg oa) ∧ Below W.heap.size W W'))
    (hq : ∀ W : World, (binOp .neq 56 (.agg #[.int .u8 o, .int .u8 w, .int .i64 k0, .int .i64 k1, .int .i64 k2, .int .u64 n, .int .u8 l]) (.agg oa)).run Tryz.prog W = .ok (.bool false) W)
    (HK : Hid (∀ W : World, Calls Tryz.prog 74 #[.int .u8 o] W fun e W' => e = .returned (.int .i64 3) ∧ W = W')) (hin0 : inB L k0 = true) (hin1 : inB L k1 = true) (hin2 : inB L k2 = false) :
    Calls Tryz.prog 59 #[.pointer (some ⟨p, 0, none⟩), .agg #[.int .u8 o, .int .u8 w, .int .i64 k0, .int .i64 k1, .int .i64 k2, .int .u64 n, .int .u8 l]] W fun e W' => e = .returned (.bool false) ∧ Below W.heap.size W W' := by
  have hg := guard_nd
  have A := At7.new W (.int .u8 o) (.int .u8 w) (.int .i64 k0) (.int .i64 k1) (.int .i64 k2) (.int .u64 n) (.int .u8 l) 56
  go_enter Tryz.func59, Tryz.ntmps59
  go_wp2_with fail
  go_region_held3 (fun w' => w'.cell? ⟨W.heap.size, 0, none⟩ = some (.int .u8 o) ∧ w'.cell? ⟨W.heap.size, 1, none⟩ = some (.int .u8 w) ∧ w'.cell? ⟨W.heap.size, 2, none⟩ = some (.int .i64 k0) ∧ w'.cell? ⟨W.heap.size, 3, none⟩ = some (.int .i64 k1) ∧ w'.cell? ⟨W.heap.size, 4, none⟩ = some (.int .i64 k2) ∧ w'.cell? ⟨W.heap.size, 5, none⟩ = some (.int .u64 n) ∧ w'.cell? ⟨W.heap.size, 6, none⟩ = some (.int .u8 l))
    (first | exact A.drew | exact A.drew.keep hb)
    (first | (go_at_call 73; refine (HO.out _).mono ?_; rintro e w1 ⟨rfl, hb⟩))
  replace A := A.drew.keep hb
  have la := A.lt
  replace S := (S.alloc _).drew.call hb
  have hbel := bel_call (bel_alloc (Below.refl _ _) _).drew hb
  obtain ⟨a, c, rfl⟩ := S.shape
  have c0 := S.c0
  have A' := A
  unfold At7 at A'
  go_wp2_with (go_at_call 74; refine (HK.out _).mono ?_; rintro e w2 ⟨rfl, rfl⟩)
  refine wp_loop_rounds 3 ?_
  rw [rounds_succ]
  go_wp2_with (go_at_call 20; refine (has_any p a L c k0 _ c0).mono ?_; rw [hin0]; rintro e w2 ⟨rfl, rfl⟩)
  rw [rounds_succ]
  go_wp2_with (go_at_call 20; refine (has_any p a L c k1 _ c0).mono ?_; rw [hin1]; rintro e w2 ⟨rfl, rfl⟩)
  rw [rounds_succ]
  go_wp2_with (go_at_call 20; refine (has_any p a L c k2 _ c0).mono ?_; rw [hin2]; rintro e w2 ⟨rfl, rfl⟩)
  go_ret
  exact ⟨rfl, hbel⟩
end Tm
end Go.Proofs.YthelkbdiedfmfaaGreat
