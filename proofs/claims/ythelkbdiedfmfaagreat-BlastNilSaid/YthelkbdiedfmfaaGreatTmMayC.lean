/-
  May a node be? What may of layer term returns, for constants and variables, as a fact on one call.
-/
import Derived.Test.YthelkbdiedfmfaaGreatTmMayB
import Derived.Deep.RegionHeld3
namespace Go.Proofs.YthelkbdiedfmfaaGreat
open Go.RowKit Bv
namespace Tm
set_option maxHeartbeats 1000000
set_option maxRecDepth 100000

theorem may_const_t (w n l : Nat) (k0 k1 k2 : Int) (B p m : Nat) (sv : Value) (L : List Nd) (W : World) (oa : Array Value) (S : StoreAt B W p m sv L)
    (HO : Hid (∀ W : World, Calls Tryz.prog 73 #[.agg #[.int .u8 1, .int .u8 w, .int .i64 k0, .int .i64 k1, .int .i64 k2, .int .u64 n, .int .u8 l]] W fun e W' => e = .returned (.agg oa) ∧ Below W.heap.size W W'))
    (hq : ∀ W : World, (binOp .neq 56 (.agg #[.int .u8 1, .int .u8 w, .int .i64 k0, .int .i64 k1, .int .i64 k2, .int .u64 n, .int .u8 l]) (.agg oa)).run Tryz.prog W = .ok (.bool false) W)
    (HK : Hid (∀ W : World, Calls Tryz.prog 74 #[.int .u8 1] W fun e W' => e = .returned (.int .i64 0) ∧ W = W')) (hm : mayB w n = true) :
    Calls Tryz.prog 59 #[.pointer (some ⟨p, 0, none⟩), .agg #[.int .u8 1, .int .u8 w, .int .i64 k0, .int .i64 k1, .int .i64 k2, .int .u64 n, .int .u8 l]] W fun e W' => e = .returned (.bool true) ∧ Below W.heap.size W W' := by
  have hg := guard_nd
  have A := At7.new W (.int .u8 1) (.int .u8 w) (.int .i64 k0) (.int .i64 k1) (.int .i64 k2) (.int .u64 n) (.int .u8 l) 56
  go_enter Tryz.func59, Tryz.ntmps59
  go_wp2_with fail
  go_region_held3 (fun w' => w'.cell? ⟨W.heap.size, 0, none⟩ = some (.int .u8 1) ∧ w'.cell? ⟨W.heap.size, 1, none⟩ = some (.int .u8 w) ∧ w'.cell? ⟨W.heap.size, 2, none⟩ = some (.int .i64 k0) ∧ w'.cell? ⟨W.heap.size, 3, none⟩ = some (.int .i64 k1) ∧ w'.cell? ⟨W.heap.size, 4, none⟩ = some (.int .i64 k2) ∧ w'.cell? ⟨W.heap.size, 5, none⟩ = some (.int .u64 n) ∧ w'.cell? ⟨W.heap.size, 6, none⟩ = some (.int .u8 l))
    (first | exact A.drew | exact A.drew.keep hb)
    (first | (go_at_call 73; refine (HO.out _).mono ?_; rintro e w1 ⟨rfl, hb⟩))
  replace A := A.drew.keep hb
  have la := A.lt
  replace S := (S.alloc _).drew.call hb
  have hbel := bel_call (bel_alloc (Below.refl _ _) _).drew hb
  obtain ⟨a, c, rfl⟩ := S.shape
  have c0 := S.c0
  have A' := A
  unfold At7 at A'
  go_wp2_with (go_at_call 74; refine (HK.out _).mono ?_; rintro e w2 ⟨rfl, rfl⟩)
  refine wp_loop_rounds 1 ?_
  rw [rounds_succ]
  go_wp2_with (go_at_call 75; refine (may_any w n _).mono ?_; rw [hm]; rintro e w2 ⟨rfl, hb2⟩; obtain ⟨hc2, hf2⟩ := bcell hb2)
  go_ret
  exact ⟨rfl, bel_call hbel hb2⟩

theorem may_const_f (w n l : Nat) (k0 k1 k2 : Int) (B p m : Nat) (sv : Value) (L : List Nd) (W : World) (oa : Array Value) (S : StoreAt B W p m sv L)
    (HO : Hid (∀ W : World, Calls Tryz.prog 73 #[.agg #[.int .u8 1, .int .u8 w, .int .i64 k0, .int .i64 k1, .int .i64 k2, .int .u64 n, .int .u8 l]] W fun e W' => e = .returned (.agg oa) ∧ Below W.heap.size W W'))
    (hq : ∀ W : World, (binOp .neq 56 (.agg #[.int .u8 1, .int .u8 w, .int .i64 k0, .int .i64 k1, .int .i64 k2, .int .u64 n, .int .u8 l]) (.agg oa)).run Tryz.prog W = .ok (.bool false) W)
    (HK : Hid (∀ W : World, Calls Tryz.prog 74 #[.int .u8 1] W fun e W' => e = .returned (.int .i64 0) ∧ W = W')) (hm : mayB w n = false) :
    Calls Tryz.prog 59 #[.pointer (some ⟨p, 0, none⟩), .agg #[.int .u8 1, .int .u8 w, .int .i64 k0, .int .i64 k1, .int .i64 k2, .int .u64 n, .int .u8 l]] W fun e W' => e = .returned (.bool false) ∧ Below W.heap.size W W' := by
  have hg := guard_nd
  have A := At7.new W (.int .u8 1) (.int .u8 w) (.int .i64 k0) (.int .i64 k1) (.int .i64 k2) (.int .u64 n) (.int .u8 l) 56
  go_enter Tryz.func59, Tryz.ntmps59
  go_wp2_with fail
  go_region_held3 (fun w' => w'.cell? ⟨W.heap.size, 0, none⟩ = some (.int .u8 1) ∧ w'.cell? ⟨W.heap.size, 1, none⟩ = some (.int .u8 w) ∧ w'.cell? ⟨W.heap.size, 2, none⟩ = some (.int .i64 k0) ∧ w'.cell? ⟨W.heap.size, 3, none⟩ = some (.int .i64 k1) ∧ w'.cell? ⟨W.heap.size, 4, none⟩ = some (.int .i64 k2) ∧ w'.cell? ⟨W.heap.size, 5, none⟩ = some (.int .u64 n) ∧ w'.cell? ⟨W.heap.size, 6, none⟩ = some (.int .u8 l))
    (first | exact A.drew | exact A.drew.keep hb)
    (first | (go_at_call 73; refine (HO.out _).mono ?_; rintro e w1 ⟨rfl, hb⟩))
  replace A := A.drew.keep hb
  have la := A.lt
  replace S := (S.alloc _).drew.call hb
  have hbel := bel_call (bel_alloc (Below.refl _ _) _).drew hb
  obtain ⟨a, c, rfl⟩ := S.shape
  have c0 := S.c0
  have A' := A
  unfold At7 at A'
  go_wp2_with (go_at_call 74; refine (HK.out _).mono ?_; rintro e w2 ⟨rfl, rfl⟩)
  refine wp_loop_rounds 1 ?_
  rw [rounds_succ]
  go_wp2_with (go_at_call 75; refine (may_any w n _).mono ?_; rw [hm]; rintro e w2 ⟨rfl, hb2⟩; obtain ⟨hc2, hf2⟩ := bcell hb2)
  go_ret
  exact ⟨rfl, bel_call hbel hb2⟩

theorem may_var_t (w n l : Nat) (k0 k1 k2 : Int) (B p m : Nat) (sv : Value) (L : List Nd) (W : World) (oa : Array Value) (S : StoreAt B W p m sv L)
    (HO : Hid (∀ W : World, Calls Tryz.prog 73 #[.agg #[.int .u8 2, .int .u8 w, .int .i64 k0, .int .i64 k1, .int .i64 k2, .int .u64 n, .int .u8 l]] W fun e W' => e = .returned (.agg oa) ∧ Below W.heap.size W W'))
    (hq : ∀ W : World, (binOp .neq 56 (.agg #[.int .u8 2, .int .u8 w, .int .i64 k0, .int .i64 k1, .int .i64 k2, .int .u64 n, .int .u8 l]) (.agg oa)).run Tryz.prog W = .ok (.bool false) W)
    (HK : Hid (∀ W : World, Calls Tryz.prog 74 #[.int .u8 2] W fun e W' => e = .returned (.int .i64 0) ∧ W = W')) (hm : mayB w 0 = true) (d : decide ((n : Int) < 256) = true) :
    Calls Tryz.prog 59 #[.pointer (some ⟨p, 0, none⟩), .agg #[.int .u8 2, .int .u8 w, .int .i64 k0, .int .i64 k1, .int .i64 k2, .int .u64 n, .int .u8 l]] W fun e W' => e = .returned (.bool true) ∧ Below W.heap.size W W' := by
  have hg := guard_nd
  have A := At7.new W (.int .u8 2) (.int .u8 w) (.int .i64 k0) (.int .i64 k1) (.int .i64 k2) (.int .u64 n) (.int .u8 l) 56
  go_enter Tryz.func59, Tryz.ntmps59
  go_wp2_with fail
  go_region_held3 (fun w' => w'.cell? ⟨W.heap.size, 0, none⟩ = some (.int .u8 2) ∧ w'.cell? ⟨W.heap.size, 1, none⟩ = some (.int .u8 w) ∧ w'.cell? ⟨W.heap.size, 2, none⟩ = some (.int .i64 k0) ∧ w'.cell? ⟨W.heap.size, 3, none⟩ = some (.int .i64 k1) ∧ w'.cell? ⟨W.heap.size, 4, none⟩ = some (.int .i64 k2) ∧ w'.cell? ⟨W.heap.size, 5, none⟩ = some (.int .u64 n) ∧ w'.cell? ⟨W.heap.size, 6, none⟩ = some (.int .u8 l))
    (first | exact A.drew | exact A.drew.keep hb)
    (first | (go_at_call 73; refine (HO.out _).mono ?_; rintro e w1 ⟨rfl, hb⟩))
  replace A := A.drew.keep hb
  have la := A.lt
  replace S := (S.alloc _).drew.call hb
  have hbel := bel_call (bel_alloc (Below.refl _ _) _).drew hb
  obtain ⟨a, c, rfl⟩ := S.shape
  have c0 := S.c0
  have A' := A
  unfold At7 at A'
  go_wp2_with (go_at_call 74; refine (HK.out _).mono ?_; rintro e w2 ⟨rfl, rfl⟩)
  refine wp_loop_rounds 1 ?_
  rw [rounds_succ]
  go_wp2_with (go_at_call 75; refine (may_any w 0 _).mono ?_; rw [hm]; rintro e w2 ⟨rfl, hb2⟩; obtain ⟨hc2, hf2⟩ := bcell hb2)
  go_ret
  exact ⟨rfl, bel_call hbel hb2⟩

theorem may_var_f (w n l : Nat) (k0 k1 k2 : Int) (B p m : Nat) (sv : Value) (L : List Nd) (W : World) (oa : Array Value) (S : StoreAt B W p m sv L)
    (HO : Hid (∀ W : World, Calls Tryz.prog 73 #[.agg #[.int .u8 2, .int .u8 w, .int .i64 k0, .int .i64 k1, .int .i64 k2, .int .u64 n, .int .u8 l]] W fun e W' => e = .returned (.agg oa) ∧ Below W.heap.size W W'))
    (hq : ∀ W : World, (binOp .neq 56 (.agg #[.int .u8 2, .int .u8 w, .int .i64 k0, .int .i64 k1, .int .i64 k2, .int .u64 n, .int .u8 l]) (.agg oa)).run Tryz.prog W = .ok (.bool false) W)
    (HK : Hid (∀ W : World, Calls Tryz.prog 74 #[.int .u8 2] W fun e W' => e = .returned (.int .i64 0) ∧ W = W')) (hm : mayB w 0 = true) (d : decide ((n : Int) < 256) = false) :
    Calls Tryz.prog 59 #[.pointer (some ⟨p, 0, none⟩), .agg #[.int .u8 2, .int .u8 w, .int .i64 k0, .int .i64 k1, .int .i64 k2, .int .u64 n, .int .u8 l]] W fun e W' => e = .returned (.bool false) ∧ Below W.heap.size W W' := by
  have hg := guard_nd
  have A := At7.new W (.int .u8 2) (.int .u8 w) (.int .i64 k0) (.int .i64 k1) (.int .i64 k2) (.int .u64 n) (.int .u8 l) 56
  go_enter Tryz.func59, Tryz.ntmps59
  go_wp2_with fail
  go_region_held3 (fun w' => w'.cell? ⟨W.heap.size, 0, none⟩ = some (.int .u8 2) ∧ w'.cell? ⟨W.heap.size, 1, none⟩ = some (.int .u8 w) ∧ w'.cell? ⟨W.heap.size, 2, none⟩ = some (.int .i64 k0) ∧ w'.cell? ⟨W.heap.size, 3, none⟩ = some (.int .i64 k1) ∧ w'.cell? ⟨W.heap.size, 4, none⟩ = some (.int .i64 k2) ∧ w'.cell? ⟨W.heap.size, 5, none⟩ = some (.int .u64 n) ∧ w'.cell? ⟨W.heap.size, 6, none⟩ = some (.int .u8 l))
    (first | exact A.drew | exact A.drew.keep hb)
    (first | (go_at_call 73; refine (HO.out _).mono ?_; rintro e w1 ⟨rfl, hb⟩))
  replace A := A.drew.keep hb
  have la := A.lt
  replace S := (S.alloc _).drew.call hb
  have hbel := bel_call (bel_alloc (Below.refl _ _) _).drew hb
  obtain ⟨a, c, rfl⟩ := S.shape
  have c0 := S.c0
  have A' := A
  unfold At7 at A'
  go_wp2_with (go_at_call 74; refine (HK.out _).mono ?_; rintro e w2 ⟨rfl, rfl⟩)
  refine wp_loop_rounds 1 ?_
  rw [rounds_succ]
  go_wp2_with (go_at_call 75; refine (may_any w 0 _).mono ?_; rw [hm]; rintro e w2 ⟨rfl, hb2⟩; obtain ⟨hc2, hf2⟩ := bcell hb2)
  go_ret
  exact ⟨rfl, bel_call hbel hb2⟩

theorem may_var_no (w n l : Nat) (k0 k1 k2 : Int) (B p m : Nat) (sv : Value) (L : List Nd) (W : World) (oa : Array Value) (S : StoreAt B W p m sv L)
    (HO : Hid (∀ W : World, Calls Tryz.prog 73 #[.agg #[.int .u8 2, .int .u8 w, .int .i64 k0, .int .i64 k1, .int .i64 k2, .int .u64 n, .int .u8 l]] W fun e W' => e = .returned (.agg oa) ∧ Below W.heap.size W W'))
    (hq : ∀ W : World, (binOp .neq 56 (.agg #[.int .u8 2, .int .u8 w, .int .i64 k0, .int .i64 k1, .int .i64 k2, .int .u64 n, .int .u8 l]) (.agg oa)).run Tryz.prog W = .ok (.bool false) W)
    (HK : Hid (∀ W : World, Calls Tryz.prog 74 #[.int .u8 2] W fun e W' => e = .returned (.int .i64 0) ∧ W = W')) (hm : mayB w 0 = false) :
    Calls Tryz.prog 59 #[.pointer (some ⟨p, 0, none⟩), .agg #[.int .u8 2, .int .u8 w, .int .i64 k0, .int .i64 k1, .int .i64 k2, .int .u64 n, .int .u8 l]] W fun e W' => e = .returned (.bool false) ∧ Below W.heap.size W W' := by
  have hg := guard_nd
  have A := At7.new W (.int .u8 2) (.int .u8 w) (.int .i64 k0) (.int .i64 k1) (.int .i64 k2) (.int .u64 n) (.int .u8 l) 56
  go_enter Tryz.func59, Tryz.ntmps59
  go_wp2_with fail
  go_region_held3 (fun w' => w'.cell? ⟨W.heap.size, 0, none⟩ = some (.int .u8 2) ∧ w'.cell? ⟨W.heap.size, 1, none⟩ = some (.int .u8 w) ∧ w'.cell? ⟨W.heap.size, 2, none⟩ = some (.int .i64 k0) ∧ w'.cell? ⟨W.heap.size, 3, none⟩ = some (.int .i64 k1) ∧ w'.cell? ⟨W.heap.size, 4, none⟩ = some (.int .i64 k2) ∧ w'.cell? ⟨W.heap.size, 5, none⟩ = some (.int .u64 n) ∧ w'.cell? ⟨W.heap.size, 6, none⟩ = some (.int .u8 l))
    (first | exact A.drew | exact A.drew.keep hb)
    (first | (go_at_call 73; refine (HO.out _).mono ?_; rintro e w1 ⟨rfl, hb⟩))
  replace A := A.drew.keep hb
  have la := A.lt
  replace S := (S.alloc _).drew.call hb
  have hbel := bel_call (bel_alloc (Below.refl _ _) _).drew hb
  obtain ⟨a, c, rfl⟩ := S.shape
  have c0 := S.c0
  have A' := A
  unfold At7 at A'
  go_wp2_with (go_at_call 74; refine (HK.out _).mono ?_; rintro e w2 ⟨rfl, rfl⟩)
  refine wp_loop_rounds 1 ?_
  rw [rounds_succ]
  go_wp2_with (go_at_call 75; refine (may_any w 0 _).mono ?_; rw [hm]; rintro e w2 ⟨rfl, hb2⟩; obtain ⟨hc2, hf2⟩ := bcell hb2)
  go_ret
  exact ⟨rfl, bel_call hbel hb2⟩
end Tm
end Go.Proofs.YthelkbdiedfmfaaGreat
