/-
  May a node be? What may of layer term returns, for the operators, as a fact on one call.
-/
import Derived.Test.YtigjbngedbbdbaaPt07
import Derived.Deep.RegionHeld3
namespace Go.Proofs.Ytigjbngedbbdbaa
open Go.RowKit Bv
namespace Tm
set_option maxHeartbeats 1000000
set_option maxRecDepth 100000

theorem may_vec_0z (o w n l : Nat) (k0 k1 k2 : Int) (B p m : Nat) (sv : Value) (L : List Nd) (W : World) (oa : Array Value) (S : StoreAt B W p m sv L)
    (HO : Hid (∀ W : World, Calls Try.prog 48 #[.agg #[.int .u8 o, .int .u8 w, .int .i64 k0, .int .i64 k1, .int .i64 k2, .int .u64 n, .int .u8 l]] W fun e W' => e = .returned (.agg oa) ∧ Below W.heap.size W W'))
    (hq : ∀ W : World, (binOp .neq 57 (.agg #[.int .u8 o, .int .u8 w, .int .i64 k0, .int .i64 k1, .int .i64 k2, .int .u64 n, .int .u8 l]) (.agg oa)).run Try.prog W = .ok (.bool false) W)
    (HK : Hid (∀ W : World, Calls Try.prog 49 #[.int .u8 o] W fun e W' => e = .returned (.int .i64 0) ∧ W = W')) (hx : Nd.Ok ⟨o, w, k0, k1, k2, n, l⟩) (d1 : ((o : Int) == 1) = false) (d2 : ((o : Int) == 2) = false) (hkc : kc o = 0) (r : Nat) (hr : vecW o w l (wid L ⟨o, w, k0, k1, k2, n, l⟩ 0) (wid L ⟨o, w, k0, k1, k2, n, l⟩ 1) (wid L ⟨o, w, k0, k1, k2, n, l⟩ 2) = r) (hz : r = 0) :
    Calls Try.prog 24 #[.pointer (some ⟨p, 0, none⟩), .agg #[.int .u8 o, .int .u8 w, .int .i64 k0, .int .i64 k1, .int .i64 k2, .int .u64 n, .int .u8 l]] W fun e W' => e = .returned (.bool false) ∧ Below W.heap.size W W' := by
  have hg := guard_nd
  have hkk : ∀ i, i < kc o → 0 ≤ (Nd.mk o w k0 k1 k2 n l).kid i ∧ (Nd.mk o w k0 k1 k2 n l).kid i < (L.length : Int) := by
    intro i hi
    rw [hkc] at hi
    omega
  have A := At7.new W (.int .u8 o) (.int .u8 w) (.int .i64 k0) (.int .i64 k1) (.int .i64 k2) (.int .u64 n) (.int .u8 l) 57
  go_enter Try.func24, Try.ntmps24
  go_wp2_with fail
  go_region_held3 (fun w' => w'.cell? ⟨W.heap.size, 0, none⟩ = some (.int .u8 o) ∧ w'.cell? ⟨W.heap.size, 1, none⟩ = some (.int .u8 w) ∧ w'.cell? ⟨W.heap.size, 2, none⟩ = some (.int .i64 k0) ∧ w'.cell? ⟨W.heap.size, 3, none⟩ = some (.int .i64 k1) ∧ w'.cell? ⟨W.heap.size, 4, none⟩ = some (.int .i64 k2) ∧ w'.cell? ⟨W.heap.size, 5, none⟩ = some (.int .u64 n) ∧ w'.cell? ⟨W.heap.size, 6, none⟩ = some (.int .u8 l))
    (first | exact A.drew | exact A.drew.keep hb)
    (first | (go_at_call 48; refine (HO.out _).mono ?_; rintro e w1 ⟨rfl, hb⟩))
  replace A := A.drew.keep hb
  have la := A.lt
  replace S := (S.alloc _).drew.call hb
  have hbel := bel_call (bel_alloc (Below.refl _ _) _).drew hb
  obtain ⟨a, c, rfl⟩ := S.shape
  have c0 := S.c0
  have A' := A
  unfold At7 at A'
  go_wp2_with (go_at_call 49; refine (HK.out _).mono ?_; rintro e w2 ⟨rfl, rfl⟩)
  refine wp_loop_rounds 1 ?_
  rw [rounds_succ]
  have hv := vector_any S hx hkk (b := W.heap.size) (fun i hi => by
    have hi' : i < 0 := by rw [← hkc]; exact hi
    omega) la
  have hz2 := hz
  obtain ⟨num, hv⟩ := hv
  simp only at hv
  rw [hr, if_pos hz, hkc] at hv
  simp only [Nd.val] at hv
  have HVV := Lib.hid hv
  clear hv hkk
  go_wp2_with (go_at_call 51; refine HVV.out.mono ?_; rintro e w2 ⟨rfl, hb2⟩; have A2 := A.keep hb2; have la2 := A2.lt; unfold At7 at A2)
  go_ret
  exact ⟨rfl, bel_alloc (bel_call hbel hb2) _⟩

theorem may_vec_0y (o w n l : Nat) (k0 k1 k2 : Int) (B p m : Nat) (sv : Value) (L : List Nd) (W : World) (oa : Array Value) (S : StoreAt B W p m sv L)
    (HO : Hid (∀ W : World, Calls Try.prog 48 #[.agg #[.int .u8 o, .int .u8 w, .int .i64 k0, .int .i64 k1, .int .i64 k2, .int .u64 n, .int .u8 l]] W fun e W' => e = .returned (.agg oa) ∧ Below W.heap.size W W'))
    (hq : ∀ W : World, (binOp .neq 57 (.agg #[.int .u8 o, .int .u8 w, .int .i64 k0, .int .i64 k1, .int .i64 k2, .int .u64 n, .int .u8 l]) (.agg oa)).run Try.prog W = .ok (.bool false) W)
    (HK : Hid (∀ W : World, Calls Try.prog 49 #[.int .u8 o] W fun e W' => e = .returned (.int .i64 0) ∧ W = W')) (hx : Nd.Ok ⟨o, w, k0, k1, k2, n, l⟩) (d1 : ((o : Int) == 1) = false) (d2 : ((o : Int) == 2) = false) (hkc : kc o = 0) (r : Nat) (hr : vecW o w l (wid L ⟨o, w, k0, k1, k2, n, l⟩ 0) (wid L ⟨o, w, k0, k1, k2, n, l⟩ 1) (wid L ⟨o, w, k0, k1, k2, n, l⟩ 2) = r) (hz : ¬ r = 0) (d : ((r : Int) == (w : Int)) = true) :
    Calls Try.prog 24 #[.pointer (some ⟨p, 0, none⟩), .agg #[.int .u8 o, .int .u8 w, .int .i64 k0, .int .i64 k1, .int .i64 k2, .int .u64 n, .int .u8 l]] W fun e W' => e = .returned (.bool true) ∧ Below W.heap.size W W' := by
  have hg := guard_nd
  have hkk : ∀ i, i < kc o → 0 ≤ (Nd.mk o w k0 k1 k2 n l).kid i ∧ (Nd.mk o w k0 k1 k2 n l).kid i < (L.length : Int) := by
    intro i hi
    rw [hkc] at hi
    omega
  have A := At7.new W (.int .u8 o) (.int .u8 w) (.int .i64 k0) (.int .i64 k1) (.int .i64 k2) (.int .u64 n) (.int .u8 l) 57
  go_enter Try.func24, Try.ntmps24
  go_wp2_with fail
  go_region_held3 (fun w' => w'.cell? ⟨W.heap.size, 0, none⟩ = some (.int .u8 o) ∧ w'.cell? ⟨W.heap.size, 1, none⟩ = some (.int .u8 w) ∧ w'.cell? ⟨W.heap.size, 2, none⟩ = some (.int .i64 k0) ∧ w'.cell? ⟨W.heap.size, 3, none⟩ = some (.int .i64 k1) ∧ w'.cell? ⟨W.heap.size, 4, none⟩ = some (.int .i64 k2) ∧ w'.cell? ⟨W.heap.size, 5, none⟩ = some (.int .u64 n) ∧ w'.cell? ⟨W.heap.size, 6, none⟩ = some (.int .u8 l))
    (first | exact A.drew | exact A.drew.keep hb)
    (first | (go_at_call 48; refine (HO.out _).mono ?_; rintro e w1 ⟨rfl, hb⟩))
  replace A := A.drew.keep hb
  have la := A.lt
  replace S := (S.alloc _).drew.call hb
  have hbel := bel_call (bel_alloc (Below.refl _ _) _).drew hb
  obtain ⟨a, c, rfl⟩ := S.shape
  have c0 := S.c0
  have A' := A
  unfold At7 at A'
  go_wp2_with (go_at_call 49; refine (HK.out _).mono ?_; rintro e w2 ⟨rfl, rfl⟩)
  refine wp_loop_rounds 1 ?_
  rw [rounds_succ]
  have hv := vector_any S hx hkk (b := W.heap.size) (fun i hi => by
    have hi' : i < 0 := by rw [← hkc]; exact hi
    omega) la
  have hz2 := hz
  obtain ⟨num, hv⟩ := hv
  simp only at hv
  rw [hr, if_neg hz, hkc] at hv
  simp only [Nd.val] at hv
  have HVV := Lib.hid hv
  clear hv hkk
  go_wp2_with (go_at_call 51; refine HVV.out.mono ?_; rintro e w2 ⟨rfl, hb2⟩; have A2 := A.keep hb2; have la2 := A2.lt; unfold At7 at A2)
  go_ret
  exact ⟨rfl, bel_alloc (bel_call hbel hb2) _⟩

theorem may_vec_0n (o w n l : Nat) (k0 k1 k2 : Int) (B p m : Nat) (sv : Value) (L : List Nd) (W : World) (oa : Array Value) (S : StoreAt B W p m sv L)
    (HO : Hid (∀ W : World, Calls Try.prog 48 #[.agg #[.int .u8 o, .int .u8 w, .int .i64 k0, .int .i64 k1, .int .i64 k2, .int .u64 n, .int .u8 l]] W fun e W' => e = .returned (.agg oa) ∧ Below W.heap.size W W'))
    (hq : ∀ W : World, (binOp .neq 57 (.agg #[.int .u8 o, .int .u8 w, .int .i64 k0, .int .i64 k1, .int .i64 k2, .int .u64 n, .int .u8 l]) (.agg oa)).run Try.prog W = .ok (.bool false) W)
    (HK : Hid (∀ W : World, Calls Try.prog 49 #[.int .u8 o] W fun e W' => e = .returned (.int .i64 0) ∧ W = W')) (hx : Nd.Ok ⟨o, w, k0, k1, k2, n, l⟩) (d1 : ((o : Int) == 1) = false) (d2 : ((o : Int) == 2) = false) (hkc : kc o = 0) (r : Nat) (hr : vecW o w l (wid L ⟨o, w, k0, k1, k2, n, l⟩ 0) (wid L ⟨o, w, k0, k1, k2, n, l⟩ 1) (wid L ⟨o, w, k0, k1, k2, n, l⟩ 2) = r) (hz : ¬ r = 0) (d : ((r : Int) == (w : Int)) = false) :
    Calls Try.prog 24 #[.pointer (some ⟨p, 0, none⟩), .agg #[.int .u8 o, .int .u8 w, .int .i64 k0, .int .i64 k1, .int .i64 k2, .int .u64 n, .int .u8 l]] W fun e W' => e = .returned (.bool false) ∧ Below W.heap.size W W' := by
  have hg := guard_nd
  have hkk : ∀ i, i < kc o → 0 ≤ (Nd.mk o w k0 k1 k2 n l).kid i ∧ (Nd.mk o w k0 k1 k2 n l).kid i < (L.length : Int) := by
    intro i hi
    rw [hkc] at hi
    omega
  have A := At7.new W (.int .u8 o) (.int .u8 w) (.int .i64 k0) (.int .i64 k1) (.int .i64 k2) (.int .u64 n) (.int .u8 l) 57
  go_enter Try.func24, Try.ntmps24
  go_wp2_with fail
  go_region_held3 (fun w' => w'.cell? ⟨W.heap.size, 0, none⟩ = some (.int .u8 o) ∧ w'.cell? ⟨W.heap.size, 1, none⟩ = some (.int .u8 w) ∧ w'.cell? ⟨W.heap.size, 2, none⟩ = some (.int .i64 k0) ∧ w'.cell? ⟨W.heap.size, 3, none⟩ = some (.int .i64 k1) ∧ w'.cell? ⟨W.heap.size, 4, none⟩ = some (.int .i64 k2) ∧ w'.cell? ⟨W.heap.size, 5, none⟩ = some (.int .u64 n) ∧ w'.cell? ⟨W.heap.size, 6, none⟩ = some (.int .u8 l))
    (first | exact A.drew | exact A.drew.keep hb)
    (first | (go_at_call 48; refine (HO.out _).mono ?_; rintro e w1 ⟨rfl, hb⟩))
  replace A := A.drew.keep hb
  have la := A.lt
  replace S := (S.alloc _).drew.call hb
  have hbel := bel_call (bel_alloc (Below.refl _ _) _).drew hb
  obtain ⟨a, c, rfl⟩ := S.shape
  have c0 := S.c0
  have A' := A
  unfold At7 at A'
  go_wp2_with (go_at_call 49; refine (HK.out _).mono ?_; rintro e w2 ⟨rfl, rfl⟩)
  refine wp_loop_rounds 1 ?_
  rw [rounds_succ]
  have hv := vector_any S hx hkk (b := W.heap.size) (fun i hi => by
    have hi' : i < 0 := by rw [← hkc]; exact hi
    omega) la
  have hz2 := hz
  obtain ⟨num, hv⟩ := hv
  simp only at hv
  rw [hr, if_neg hz, hkc] at hv
  simp only [Nd.val] at hv
  have HVV := Lib.hid hv
  clear hv hkk
  go_wp2_with (go_at_call 51; refine HVV.out.mono ?_; rintro e w2 ⟨rfl, hb2⟩; have A2 := A.keep hb2; have la2 := A2.lt; unfold At7 at A2)
  go_ret
  exact ⟨rfl, bel_alloc (bel_call hbel hb2) _⟩

theorem may_vec_1z (o w n l : Nat) (k0 k1 k2 : Int) (B p m : Nat) (sv : Value) (L : List Nd) (W : World) (oa : Array Value) (S : StoreAt B W p m sv L)
    (HO : Hid (∀ W : World, Calls Try.prog 48 #[.agg #[.int .u8 o, .int .u8 w, .int .i64 k0, .int .i64 k1, .int .i64 k2, .int .u64 n, .int .u8 l]] W fun e W' => e = .returned (.agg oa) ∧ Below W.heap.size W W'))
    (hq : ∀ W : World, (binOp .neq 57 (.agg #[.int .u8 o, .int .u8 w, .int .i64 k0, .int .i64 k1, .int .i64 k2, .int .u64 n, .int .u8 l]) (.agg oa)).run Try.prog W = .ok (.bool false) W)
    (HK : Hid (∀ W : World, Calls Try.prog 49 #[.int .u8 o] W fun e W' => e = .returned (.int .i64 1) ∧ W = W')) (hin0 : inB L k0 = true) (hx : Nd.Ok ⟨o, w, k0, k1, k2, n, l⟩) (d1 : ((o : Int) == 1) = false) (d2 : ((o : Int) == 2) = false) (hkc : kc o = 1) (r : Nat) (hr : vecW o w l (wid L ⟨o, w, k0, k1, k2, n, l⟩ 0) (wid L ⟨o, w, k0, k1, k2, n, l⟩ 1) (wid L ⟨o, w, k0, k1, k2, n, l⟩ 2) = r) (hz : r = 0) :
    Calls Try.prog 24 #[.pointer (some ⟨p, 0, none⟩), .agg #[.int .u8 o, .int .u8 w, .int .i64 k0, .int .i64 k1, .int .i64 k2, .int .u64 n, .int .u8 l]] W fun e W' => e = .returned (.bool false) ∧ Below W.heap.size W W' := by
  have hg := guard_nd
  have hkk : ∀ i, i < kc o → 0 ≤ (Nd.mk o w k0 k1 k2 n l).kid i ∧ (Nd.mk o w k0 k1 k2 n l).kid i < (L.length : Int) := by
    intro i hi
    rw [hkc] at hi
    by_cases e0 : i = 0
    · subst e0; simpa [inB, Nd.kid] using hin0
    omega
  have A := At7.new W (.int .u8 o) (.int .u8 w) (.int .i64 k0) (.int .i64 k1) (.int .i64 k2) (.int .u64 n) (.int .u8 l) 57
  go_enter Try.func24, Try.ntmps24
  go_wp2_with fail
  go_region_held3 (fun w' => w'.cell? ⟨W.heap.size, 0, none⟩ = some (.int .u8 o) ∧ w'.cell? ⟨W.heap.size, 1, none⟩ = some (.int .u8 w) ∧ w'.cell? ⟨W.heap.size, 2, none⟩ = some (.int .i64 k0) ∧ w'.cell? ⟨W.heap.size, 3, none⟩ = some (.int .i64 k1) ∧ w'.cell? ⟨W.heap.size, 4, none⟩ = some (.int .i64 k2) ∧ w'.cell? ⟨W.heap.size, 5, none⟩ = some (.int .u64 n) ∧ w'.cell? ⟨W.heap.size, 6, none⟩ = some (.int .u8 l))
    (first | exact A.drew | exact A.drew.keep hb)
    (first | (go_at_call 48; refine (HO.out _).mono ?_; rintro e w1 ⟨rfl, hb⟩))
  replace A := A.drew.keep hb
  have la := A.lt
  replace S := (S.alloc _).drew.call hb
  have hbel := bel_call (bel_alloc (Below.refl _ _) _).drew hb
  obtain ⟨a, c, rfl⟩ := S.shape
  have c0 := S.c0
  have A' := A
  unfold At7 at A'
  go_wp2_with (go_at_call 49; refine (HK.out _).mono ?_; rintro e w2 ⟨rfl, rfl⟩)
  refine wp_loop_rounds 2 ?_
  rw [rounds_succ]
  go_wp2_with (go_at_call 28; refine (has_any p a L c k0 _ c0).mono ?_; rw [hin0]; rintro e w2 ⟨rfl, rfl⟩)
  rw [rounds_succ]
  have hv := vector_any S hx hkk (b := W.heap.size) (fun i hi => by
    have hi' : i < 1 := by rw [← hkc]; exact hi
    by_cases e0 : i = 0
    · subst e0; simpa [Nd.kid] using A'.2.2.1
    omega) la
  have hz2 := hz
  obtain ⟨num, hv⟩ := hv
  simp only at hv
  rw [hr, if_pos hz, hkc] at hv
  simp only [Nd.val] at hv
  have HVV := Lib.hid hv
  clear hv hkk
  go_wp2_with (go_at_call 51; refine HVV.out.mono ?_; rintro e w2 ⟨rfl, hb2⟩; have A2 := A.keep hb2; have la2 := A2.lt; unfold At7 at A2)
  go_ret
  exact ⟨rfl, bel_alloc (bel_call hbel hb2) _⟩

theorem may_vec_1y (o w n l : Nat) (k0 k1 k2 : Int) (B p m : Nat) (sv : Value) (L : List Nd) (W : World) (oa : Array Value) (S : StoreAt B W p m sv L)
    (HO : Hid (∀ W : World, Calls Try.prog 48 #[.agg #[.int .u8 o, .int .u8 w, .int .i64 k0, .int .i64 k1, .int .i64 k2, .int .u64 n, .int .u8 l]] W fun e W' => e = .returned (.agg oa) ∧ Below W.heap.size W W'))
    (hq : ∀ W : World, (binOp .neq 57 (.agg #[.int .u8 o, .int .u8 w, .int .i64 k0, .int .i64 k1, .int .i64 k2, .int .u64 n, .int .u8 l]) (.agg oa)).run Try.prog W = .ok (.bool false) W)
    (HK : Hid (∀ W : World, Calls Try.prog 49 #[.int .u8 o] W fun e W' => e = .returned (.int .i64 1) ∧ W = W')) (hin0 : inB L k0 = true) (hx : Nd.Ok ⟨o, w, k0, k1, k2, n, l⟩) (d1 : ((o : Int) == 1) = false) (d2 : ((o : Int) == 2) = false) (hkc : kc o = 1) (r : Nat) (hr : vecW o w l (wid L ⟨o, w, k0, k1, k2, n, l⟩ 0) (wid L ⟨o, w, k0, k1, k2, n, l⟩ 1) (wid L ⟨o, w, k0, k1, k2, n, l⟩ 2) = r) (hz : ¬ r = 0) (d : ((r : Int) == (w : Int)) = true) :
    Calls Try.prog 24 #[.pointer (some ⟨p, 0, none⟩), .agg #[.int .u8 o, .int .u8 w, .int .i64 k0, .int .i64 k1, .int .i64 k2, .int .u64 n, .int .u8 l]] W fun e W' => e = .returned (.bool true) ∧ Below W.heap.size W W' := by
  have hg := guard_nd
  have hkk : ∀ i, i < kc o → 0 ≤ (Nd.mk o w k0 k1 k2 n l).kid i ∧ (Nd.mk o w k0 k1 k2 n l).kid i < (L.length : Int) := by
    intro i hi
    rw [hkc] at hi
    by_cases e0 : i = 0
    · subst e0; simpa [inB, Nd.kid] using hin0
    omega
  have A := At7.new W (.int .u8 o) (.int .u8 w) (.int .i64 k0) (.int .i64 k1) (.int .i64 k2) (.int .u64 n) (.int .u8 l) 57
  go_enter Try.func24, Try.ntmps24
  go_wp2_with fail
  go_region_held3 (fun w' => w'.cell? ⟨W.heap.size, 0, none⟩ = some (.int .u8 o) ∧ w'.cell? ⟨W.heap.size, 1, none⟩ = some (.int .u8 w) ∧ w'.cell? ⟨W.heap.size, 2, none⟩ = some (.int .i64 k0) ∧ w'.cell? ⟨W.heap.size, 3, none⟩ = some (.int .i64 k1) ∧ w'.cell? ⟨W.heap.size, 4, none⟩ = some (.int .i64 k2) ∧ w'.cell? ⟨W.heap.size, 5, none⟩ = some (.int .u64 n) ∧ w'.cell? ⟨W.heap.size, 6, none⟩ = some (.int .u8 l))
    (first | exact A.drew | exact A.drew.keep hb)
    (first | (go_at_call 48; refine (HO.out _).mono ?_; rintro e w1 ⟨rfl, hb⟩))
  replace A := A.drew.keep hb
  have la := A.lt
  replace S := (S.alloc _).drew.call hb
  have hbel := bel_call (bel_alloc (Below.refl _ _) _).drew hb
  obtain ⟨a, c, rfl⟩ := S.shape
  have c0 := S.c0
  have A' := A
  unfold At7 at A'
  go_wp2_with (go_at_call 49; refine (HK.out _).mono ?_; rintro e w2 ⟨rfl, rfl⟩)
  refine wp_loop_rounds 2 ?_
  rw [rounds_succ]
  go_wp2_with (go_at_call 28; refine (has_any p a L c k0 _ c0).mono ?_; rw [hin0]; rintro e w2 ⟨rfl, rfl⟩)
  rw [rounds_succ]
  have hv := vector_any S hx hkk (b := W.heap.size) (fun i hi => by
    have hi' : i < 1 := by rw [← hkc]; exact hi
    by_cases e0 : i = 0
    · subst e0; simpa [Nd.kid] using A'.2.2.1
    omega) la
  have hz2 := hz
  obtain ⟨num, hv⟩ := hv
  simp only at hv
  rw [hr, if_neg hz, hkc] at hv
  simp only [Nd.val] at hv
  have HVV := Lib.hid hv
  clear hv hkk
  go_wp2_with (go_at_call 51; refine HVV.out.mono ?_; rintro e w2 ⟨rfl, hb2⟩; have A2 := A.keep hb2; have la2 := A2.lt; unfold At7 at A2)
  go_ret
  exact ⟨rfl, bel_alloc (bel_call hbel hb2) _⟩

theorem may_vec_1n (o w n l : Nat) (k0 k1 k2 : Int) (B p m : Nat) (sv : Value) (L : List Nd) (W : World) (oa : Array Value) (S : StoreAt B W p m sv L)
    (HO : Hid (∀ W : World, Calls Try.prog 48 #[.agg #[.int .u8 o, .int .u8 w, .int .i64 k0, .int .i64 k1, .int .i64 k2, .int .u64 n, .int .u8 l]] W fun e W' => e = .returned (.agg oa) ∧ Below W.heap.size W W'))
    (hq : ∀ W : World, (binOp .neq 57 (.agg #[.int .u8 o, .int .u8 w, .int .i64 k0, .int .i64 k1, .int .i64 k2, .int .u64 n, .int .u8 l]) (.agg oa)).run Try.prog W = .ok (.bool false) W)
    (HK : Hid (∀ W : World, Calls Try.prog 49 #[.int .u8 o] W fun e W' => e = .returned (.int .i64 1) ∧ W = W')) (hin0 : inB L k0 = true) (hx : Nd.Ok ⟨o, w, k0, k1, k2, n, l⟩) (d1 : ((o : Int) == 1) = false) (d2 : ((o : Int) == 2) = false) (hkc : kc o = 1) (r : Nat) (hr : vecW o w l (wid L ⟨o, w, k0, k1, k2, n, l⟩ 0) (wid L ⟨o, w, k0, k1, k2, n, l⟩ 1) (wid L ⟨o, w, k0, k1, k2, n, l⟩ 2) = r) (hz : ¬ r = 0) (d : ((r : Int) == (w : Int)) = false) :
    Calls Try.prog 24 #[.pointer (some ⟨p, 0, none⟩), .agg #[.int .u8 o, .int .u8 w, .int .i64 k0, .int .i64 k1, .int .i64 k2, .int .u64 n, .int .u8 l]] W fun e W' => e = .returned (.bool false) ∧ Below W.heap.size W W' := by
  have hg := guard_nd
  have hkk : ∀ i, i < kc o → 0 ≤ (Nd.mk o w k0 k1 k2 n l).kid i ∧ (Nd.mk o w k0 k1 k2 n l).kid i < (L.length : Int) := by
    intro i hi
    rw [hkc] at hi
    by_cases e0 : i = 0
    · subst e0; simpa [inB, Nd.kid] using hin0
    omega
  have A := At7.new W (.int .u8 o) (.int .u8 w) (.int .i64 k0) (.int .i64 k1) (.int .i64 k2) (.int .u64 n) (.int .u8 l) 57
  go_enter Try.func24, Try.ntmps24
  go_wp2_with fail
  go_region_held3 (fun w' => w'.cell? ⟨W.heap.size, 0, none⟩ = some (.int .u8 o) ∧ w'.cell? ⟨W.heap.size, 1, none⟩ = some (.int .u8 w) ∧ w'.cell? ⟨W.heap.size, 2, none⟩ = some (.int .i64 k0) ∧ w'.cell? ⟨W.heap.size, 3, none⟩ = some (.int .i64 k1) ∧ w'.cell? ⟨W.heap.size, 4, none⟩ = some (.int .i64 k2) ∧ w'.cell? ⟨W.heap.size, 5, none⟩ = some (.int .u64 n) ∧ w'.cell? ⟨W.heap.size, 6, none⟩ = some (.int .u8 l))
    (first | exact A.drew | exact A.drew.keep hb)
    (first | (go_at_call 48; refine (HO.out _).mono ?_; rintro e w1 ⟨rfl, hb⟩))
  replace A := A.drew.keep hb
  have la := A.lt
  replace S := (S.alloc _).drew.call hb
  have hbel := bel_call (bel_alloc (Below.refl _ _) _).drew hb
  obtain ⟨a, c, rfl⟩ := S.shape
  have c0 := S.c0
  have A' := A
  unfold At7 at A'
  go_wp2_with (go_at_call 49; refine (HK.out _).mono ?_; rintro e w2 ⟨rfl, rfl⟩)
  refine wp_loop_rounds 2 ?_
  rw [rounds_succ]
  go_wp2_with (go_at_call 28; refine (has_any p a L c k0 _ c0).mono ?_; rw [hin0]; rintro e w2 ⟨rfl, rfl⟩)
  rw [rounds_succ]
  have hv := vector_any S hx hkk (b := W.heap.size) (fun i hi => by
    have hi' : i < 1 := by rw [← hkc]; exact hi
    by_cases e0 : i = 0
    · subst e0; simpa [Nd.kid] using A'.2.2.1
    omega) la
  have hz2 := hz
  obtain ⟨num, hv⟩ := hv
  simp only at hv
  rw [hr, if_neg hz, hkc] at hv
  simp only [Nd.val] at hv
  have HVV := Lib.hid hv
  clear hv hkk
  go_wp2_with (go_at_call 51; refine HVV.out.mono ?_; rintro e w2 ⟨rfl, hb2⟩; have A2 := A.keep hb2; have la2 := A2.lt; unfold At7 at A2)
  go_ret
  exact ⟨rfl, bel_alloc (bel_call hbel hb2) _⟩

theorem may_vec_2z (o w n l : Nat) (k0 k1 k2 : Int) (B p m : Nat) (sv : Value) (L : List Nd) (W : World) (oa : Array Value) (S : StoreAt B W p m sv L)
    (HO : Hid (∀ W : World, Calls Try.prog 48 #[.agg #[.int .u8 o, .int .u8 w, .int .i64 k0, .int .i64 k1, .int .i64 k2, .int .u64 n, .int .u8 l]] W fun e W' => e = .returned (.agg oa) ∧ Below W.heap.size W W'))
    (hq : ∀ W : World, (binOp .neq 57 (.agg #[.int .u8 o, .int .u8 w, .int .i64 k0, .int .i64 k1, .int .i64 k2, .int .u64 n, .int .u8 l]) (.agg oa)).run Try.prog W = .ok (.bool false) W)
    (HK : Hid (∀ W : World, Calls Try.prog 49 #[.int .u8 o] W fun e W' => e = .returned (.int .i64 2) ∧ W = W')) (hin0 : inB L k0 = true) (hin1 : inB L k1 = true) (hx : Nd.Ok ⟨o, w, k0, k1, k2, n, l⟩) (d1 : ((o : Int) == 1) = false) (d2 : ((o : Int) == 2) = false) (hkc : kc o = 2) (r : Nat) (hr : vecW o w l (wid L ⟨o, w, k0, k1, k2, n, l⟩ 0) (wid L ⟨o, w, k0, k1, k2, n, l⟩ 1) (wid L ⟨o, w, k0, k1, k2, n, l⟩ 2) = r) (hz : r = 0) :
    Calls Try.prog 24 #[.pointer (some ⟨p, 0, none⟩), .agg #[.int .u8 o, .int .u8 w, .int .i64 k0, .int .i64 k1, .int .i64 k2, .int .u64 n, .int .u8 l]] W fun e W' => e = .returned (.bool false) ∧ Below W.heap.size W W' := by
  have hg := guard_nd
  have hkk : ∀ i, i < kc o → 0 ≤ (Nd.mk o w k0 k1 k2 n l).kid i ∧ (Nd.mk o w k0 k1 k2 n l).kid i < (L.length : Int) := by
    intro i hi
    rw [hkc] at hi
    by_cases e0 : i = 0
    · subst e0; simpa [inB, Nd.kid] using hin0
    by_cases e1 : i = 1
    · subst e1; simpa [inB, Nd.kid] using hin1
    omega
  have A := At7.new W (.int .u8 o) (.int .u8 w) (.int .i64 k0) (.int .i64 k1) (.int .i64 k2) (.int .u64 n) (.int .u8 l) 57
  go_enter Try.func24, Try.ntmps24
  go_wp2_with fail
  go_region_held3 (fun w' => w'.cell? ⟨W.heap.size, 0, none⟩ = some (.int .u8 o) ∧ w'.cell? ⟨W.heap.size, 1, none⟩ = some (.int .u8 w) ∧ w'.cell? ⟨W.heap.size, 2, none⟩ = some (.int .i64 k0) ∧ w'.cell? ⟨W.heap.size, 3, none⟩ = some (.int .i64 k1) ∧ w'.cell? ⟨W.heap.size, 4, none⟩ = some (.int .i64 k2) ∧ w'.cell? ⟨W.heap.size, 5, none⟩ = some (.int .u64 n) ∧ w'.cell? ⟨W.heap.size, 6, none⟩ = some (.int .u8 l))
    (first | exact A.drew | exact A.drew.keep hb)
    (first | (go_at_call 48; refine (HO.out _).mono ?_; rintro e w1 ⟨rfl, hb⟩))
  replace A := A.drew.keep hb
  have la := A.lt
  replace S := (S.alloc _).drew.call hb
  have hbel := bel_call (bel_alloc (Below.refl _ _) _).drew hb
  obtain ⟨a, c, rfl⟩ := S.shape
  have c0 := S.c0
  have A' := A
  unfold At7 at A'
  go_wp2_with (go_at_call 49; refine (HK.out _).mono ?_; rintro e w2 ⟨rfl, rfl⟩)
  refine wp_loop_rounds 3 ?_
  rw [rounds_succ]
  go_wp2_with (go_at_call 28; refine (has_any p a L c k0 _ c0).mono ?_; rw [hin0]; rintro e w2 ⟨rfl, rfl⟩)
  rw [rounds_succ]
  go_wp2_with (go_at_call 28; refine (has_any p a L c k1 _ c0).mono ?_; rw [hin1]; rintro e w2 ⟨rfl, rfl⟩)
  rw [rounds_succ]
  have hv := vector_any S hx hkk (b := W.heap.size) (fun i hi => by
    have hi' : i < 2 := by rw [← hkc]; exact hi
    by_cases e0 : i = 0
    · subst e0; simpa [Nd.kid] using A'.2.2.1
    by_cases e1 : i = 1
    · subst e1; simpa [Nd.kid] using A'.2.2.2.1
    omega) la
  have hz2 := hz
  obtain ⟨num, hv⟩ := hv
  simp only at hv
  rw [hr, if_pos hz, hkc] at hv
  simp only [Nd.val] at hv
  have HVV := Lib.hid hv
  clear hv hkk
  go_wp2_with (go_at_call 51; refine HVV.out.mono ?_; rintro e w2 ⟨rfl, hb2⟩; have A2 := A.keep hb2; have la2 := A2.lt; unfold At7 at A2)
  go_ret
  exact ⟨rfl, bel_alloc (bel_call hbel hb2) _⟩

theorem may_vec_2y (o w n l : Nat) (k0 k1 k2 : Int) (B p m : Nat) (sv : Value) (L : List Nd) (W : World) (oa : Array Value) (S : StoreAt B W p m sv L)
    (HO : Hid (∀ W : World, Calls Try.prog 48 #[.agg #[.int .u8 o, .int .u8 w, .int .i64 k0, .int .i64 k1, .int .i64 k2, .int .u64 n, .int .u8 l]] W fun e W' => e = .returned (.agg oa) ∧ Below W.heap.size W W'))
    (hq : ∀ W : World, (binOp .neq 57 (.agg #[.int .u8 o, .int .u8 w, .int .i64 k0, .int .i64 k1, .int .i64 k2, .int .u64 n, .int .u8 l]) (.agg oa)).run Try.prog W = .ok (.bool false) W)
    (HK : Hid (∀ W : World, Calls Try.prog 49 #[.int .u8 o] W fun e W' => e = .returned (.int .i64 2) ∧ W = W')) (hin0 : inB L k0 = true) (hin1 : inB L k1 = true) (hx : Nd.Ok ⟨o, w, k0, k1, k2, n, l⟩) (d1 : ((o : Int) == 1) = false) (d2 : ((o : Int) == 2) = false) (hkc : kc o = 2) (r : Nat) (hr : vecW o w l (wid L ⟨o, w, k0, k1, k2, n, l⟩ 0) (wid L ⟨o, w, k0, k1, k2, n, l⟩ 1) (wid L ⟨o, w, k0, k1, k2, n, l⟩ 2) = r) (hz : ¬ r = 0) (d : ((r : Int) == (w : Int)) = true) :
    Calls Try.prog 24 #[.pointer (some ⟨p, 0, none⟩), .agg #[.int .u8 o, .int .u8 w, .int .i64 k0, .int .i64 k1, .int .i64 k2, .int .u64 n, .int .u8 l]] W fun e W' => e = .returned (.bool true) ∧ Below W.heap.size W W' := by
  have hg := guard_nd
  have hkk : ∀ i, i < kc o → 0 ≤ (Nd.mk o w k0 k1 k2 n l).kid i ∧ (Nd.mk o w k0 k1 k2 n l).kid i < (L.length : Int) := by
    intro i hi
    rw [hkc] at hi
    by_cases e0 : i = 0
    · subst e0; simpa [inB, Nd.kid] using hin0
    by_cases e1 : i = 1
    · subst e1; simpa [inB, Nd.kid] using hin1
    omega
  have A := At7.new W (.int .u8 o) (.int .u8 w) (.int .i64 k0) (.int .i64 k1) (.int .i64 k2) (.int .u64 n) (.int .u8 l) 57
  go_enter Try.func24, Try.ntmps24
  go_wp2_with fail
  go_region_held3 (fun w' => w'.cell? ⟨W.heap.size, 0, none⟩ = some (.int .u8 o) ∧ w'.cell? ⟨W.heap.size, 1, none⟩ = some (.int .u8 w) ∧ w'.cell? ⟨W.heap.size, 2, none⟩ = some (.int .i64 k0) ∧ w'.cell? ⟨W.heap.size, 3, none⟩ = some (.int .i64 k1) ∧ w'.cell? ⟨W.heap.size, 4, none⟩ = some (.int .i64 k2) ∧ w'.cell? ⟨W.heap.size, 5, none⟩ = some (.int .u64 n) ∧ w'.cell? ⟨W.heap.size, 6, none⟩ = some (.int .u8 l))
    (first | exact A.drew | exact A.drew.keep hb)
    (first | (go_at_call 48; refine (HO.out _).mono ?_; rintro e w1 ⟨rfl, hb⟩))
  replace A := A.drew.keep hb
  have la := A.lt
  replace S := (S.alloc _).drew.call hb
  have hbel := bel_call (bel_alloc (Below.refl _ _) _).drew hb
  obtain ⟨a, c, rfl⟩ := S.shape
  have c0 := S.c0
  have A' := A
  unfold At7 at A'
  go_wp2_with (go_at_call 49; refine (HK.out _).mono ?_; rintro e w2 ⟨rfl, rfl⟩)
  refine wp_loop_rounds 3 ?_
  rw [rounds_succ]
  go_wp2_with (go_at_call 28; refine (has_any p a L c k0 _ c0).mono ?_; rw [hin0]; rintro e w2 ⟨rfl, rfl⟩)
  rw [rounds_succ]
  go_wp2_with (go_at_call 28; refine (has_any p a L c k1 _ c0).mono ?_; rw [hin1]; rintro e w2 ⟨rfl, rfl⟩)
  rw [rounds_succ]
  have hv := vector_any S hx hkk (b := W.heap.size) (fun i hi => by
    have hi' : i < 2 := by rw [← hkc]; exact hi
    by_cases e0 : i = 0
    · subst e0; simpa [Nd.kid] using A'.2.2.1
    by_cases e1 : i = 1
    · subst e1; simpa [Nd.kid] using A'.2.2.2.1
    omega) la
  have hz2 := hz
  obtain ⟨num, hv⟩ := hv
  simp only at hv
  rw [hr, if_neg hz, hkc] at hv
  simp only [Nd.val] at hv
  have HVV := Lib.hid hv
  clear hv hkk
  go_wp2_with (go_at_call 51; refine HVV.out.mono ?_; rintro e w2 ⟨rfl, hb2⟩; have A2 := A.keep hb2; have la2 := A2.lt; unfold At7 at A2)
  go_ret
  exact ⟨rfl, bel_alloc (bel_call hbel hb2) _⟩

theorem may_vec_2n (o w n l : Nat) (k0 k1 k2 : Int) (B p m : Nat) (sv : Value) (L : List Nd) (W : World) (oa : Array Value) (S : StoreAt B W p m sv L)
    (HO : Hid (∀ W : World, Calls Try.prog 48 #[.agg #[.int .u8 o, .int .u8 w, .int .i64 k0, .int .i64 k1, .int .i64 k2, .int .u64 n, .int .u8 l]] W fun e W' => e = .returned (.agg oa) ∧ Below W.heap.size W W'))
    (hq : ∀ W : World, (binOp .neq 57 (.agg #[.int .u8 o, .int .u8 w, .int .i64 k0, .int .i64 k1, .int .i64 k2, .int .u64 n, .int .u8 l]) (.agg oa)).run Try.prog W = .ok (.bool false) W)
    (HK : Hid (∀ W : World, Calls Try.prog 49 #[.int .u8 o] W fun e W' => e = .returned (.int .i64 2) ∧ W = W')) (hin0 : inB L k0 = true) (hin1 : inB L k1 = true) (hx : Nd.Ok ⟨o, w, k0, k1, k2, n, l⟩) (d1 : ((o : Int) == 1) = false) (d2 : ((o : Int) == 2) = false) (hkc : kc o = 2) (r : Nat) (hr : vecW o w l (wid L ⟨o, w, k0, k1, k2, n, l⟩ 0) (wid L ⟨o, w, k0, k1, k2, n, l⟩ 1) (wid L ⟨o, w, k0, k1, k2, n, l⟩ 2) = r) (hz : ¬ r = 0) (d : ((r : Int) == (w : Int)) = false) :
    Calls Try.prog 24 #[.pointer (some ⟨p, 0, none⟩), .agg #[.int .u8 o, .int .u8 w, .int .i64 k0, .int .i64 k1, .int .i64 k2, .int .u64 n, .int .u8 l]] W fun e W' => e = .returned (.bool false) ∧ Below W.heap.size W W' := by
  have hg := guard_nd
  have hkk : ∀ i, i < kc o → 0 ≤ (Nd.mk o w k0 k1 k2 n l).kid i ∧ (Nd.mk o w k0 k1 k2 n l).kid i < (L.length : Int) := by
    intro i hi
    rw [hkc] at hi
    by_cases e0 : i = 0
    · subst e0; simpa [inB, Nd.kid] using hin0
    by_cases e1 : i = 1
    · subst e1; simpa [inB, Nd.kid] using hin1
    omega
  have A := At7.new W (.int .u8 o) (.int .u8 w) (.int .i64 k0) (.int .i64 k1) (.int .i64 k2) (.int .u64 n) (.int .u8 l) 57
  go_enter Try.func24, Try.ntmps24
  go_wp2_with fail
  go_region_held3 (fun w' => w'.cell? ⟨W.heap.size, 0, none⟩ = some (.int .u8 o) ∧ w'.cell? ⟨W.heap.size, 1, none⟩ = some (.int .u8 w) ∧ w'.cell? ⟨W.heap.size, 2, none⟩ = some (.int .i64 k0) ∧ w'.cell? ⟨W.heap.size, 3, none⟩ = some (.int .i64 k1) ∧ w'.cell? ⟨W.heap.size, 4, none⟩ = some (.int .i64 k2) ∧ w'.cell? ⟨W.heap.size, 5, none⟩ = some (.int .u64 n) ∧ w'.cell? ⟨W.heap.size, 6, none⟩ = some (.int .u8 l))
    (first | exact A.drew | exact A.drew.keep hb)
    (first | (go_at_call 48; refine (HO.out _).mono ?_; rintro e w1 ⟨rfl, hb⟩))
  replace A := A.drew.keep hb
  have la := A.lt
  replace S := (S.alloc _).drew.call hb
  have hbel := bel_call (bel_alloc (Below.refl _ _) _).drew hb
  obtain ⟨a, c, rfl⟩ := S.shape
  have c0 := S.c0
  have A' := A
  unfold At7 at A'
  go_wp2_with (go_at_call 49; refine (HK.out _).mono ?_; rintro e w2 ⟨rfl, rfl⟩)
  refine wp_loop_rounds 3 ?_
  rw [rounds_succ]
  go_wp2_with (go_at_call 28; refine (has_any p a L c k0 _ c0).mono ?_; rw [hin0]; rintro e w2 ⟨rfl, rfl⟩)
  rw [rounds_succ]
  go_wp2_with (go_at_call 28; refine (has_any p a L c k1 _ c0).mono ?_; rw [hin1]; rintro e w2 ⟨rfl, rfl⟩)
  rw [rounds_succ]
  have hv := vector_any S hx hkk (b := W.heap.size) (fun i hi => by
    have hi' : i < 2 := by rw [← hkc]; exact hi
    by_cases e0 : i = 0
    · subst e0; simpa [Nd.kid] using A'.2.2.1
    by_cases e1 : i = 1
    · subst e1; simpa [Nd.kid] using A'.2.2.2.1
    omega) la
  have hz2 := hz
  obtain ⟨num, hv⟩ := hv
  simp only at hv
  rw [hr, if_neg hz, hkc] at hv
  simp only [Nd.val] at hv
  have HVV := Lib.hid hv
  clear hv hkk
  go_wp2_with (go_at_call 51; refine HVV.out.mono ?_; rintro e w2 ⟨rfl, hb2⟩; have A2 := A.keep hb2; have la2 := A2.lt; unfold At7 at A2)
  go_ret
  exact ⟨rfl, bel_alloc (bel_call hbel hb2) _⟩

theorem may_vec_3z (o w n l : Nat) (k0 k1 k2 : Int) (B p m : Nat) (sv : Value) (L : List Nd) (W : World) (oa : Array Value) (S : StoreAt B W p m sv L)
    (HO : Hid (∀ W : World, Calls Try.prog 48 #[.agg #[.int .u8 o, .int .u8 w, .int .i64 k0, .int .i64 k1, .int .i64 k2, .int .u64 n, .int .u8 l]] W fun e W' => e = .returned (.agg oa) ∧ Below W.heap.size W W'))
    (hq : ∀ W : World, (binOp .neq 57 (.agg #[.int .u8 o, .int .u8 w, .int .i64 k0, .int .i64 k1, .int .i64 k2, .int .u64 n, .int .u8 l]) (.agg oa)).run Try.prog W = .ok (.bool false) W)
    (HK : Hid (∀ W : World, Calls Try.prog 49 #[.int .u8 o] W fun e W' => e = .returned (.int .i64 3) ∧ W = W')) (hin0 : inB L k0 = true) (hin1 : inB L k1 = true) (hin2 : inB L k2 = true) (hx : Nd.Ok ⟨o, w, k0, k1, k2, n, l⟩) (d1 : ((o : Int) == 1) = false) (d2 : ((o : Int) == 2) = false) (hkc : kc o = 3) (r : Nat) (hr : vecW o w l (wid L ⟨o, w, k0, k1, k2, n, l⟩ 0) (wid L ⟨o, w, k0, k1, k2, n, l⟩ 1) (wid L ⟨o, w, k0, k1, k2, n, l⟩ 2) = r) (hz : r = 0) :
    Calls Try.prog 24 #[.pointer (some ⟨p, 0, none⟩), .agg #[.int .u8 o, .int .u8 w, .int .i64 k0, .int .i64 k1, .int .i64 k2, .int .u64 n, .int .u8 l]] W fun e W' => e = .returned (.bool false) ∧ Below W.heap.size W W' := by
  have hg := guard_nd
  have hkk : ∀ i, i < kc o → 0 ≤ (Nd.mk o w k0 k1 k2 n l).kid i ∧ (Nd.mk o w k0 k1 k2 n l).kid i < (L.length : Int) := by
    intro i hi
    rw [hkc] at hi
    by_cases e0 : i = 0
    · subst e0; simpa [inB, Nd.kid] using hin0
    by_cases e1 : i = 1
    · subst e1; simpa [inB, Nd.kid] using hin1
    by_cases e2 : i = 2
    · subst e2; simpa [inB, Nd.kid] using hin2
    omega
  have A := At7.new W (.int .u8 o) (.int .u8 w) (.int .i64 k0) (.int .i64 k1) (.int .i64 k2) (.int .u64 n) (.int .u8 l) 57
  go_enter Try.func24, Try.ntmps24
  go_wp2_with fail
  go_region_held3 (fun w' => w'.cell? ⟨W.heap.size, 0, none⟩ = some (.int .u8 o) ∧ w'.cell? ⟨W.heap.size, 1, none⟩ = some (.int .u8 w) ∧ w'.cell? ⟨W.heap.size, 2, none⟩ = some (.int .i64 k0) ∧ w'.cell? ⟨W.heap.size, 3, none⟩ = some (.int .i64 k1) ∧ w'.cell? ⟨W.heap.size, 4, none⟩ = some (.int .i64 k2) ∧ w'.cell? ⟨W.heap.size, 5, none⟩ = some (.int .u64 n) ∧ w'.cell? ⟨W.heap.size, 6, none⟩ = some (.int .u8 l))
    (first | exact A.drew | exact A.drew.keep hb)
    (first | (go_at_call 48; refine (HO.out _).mono ?_; rintro e w1 ⟨rfl, hb⟩))
  replace A := A.drew.keep hb
  have la := A.lt
  replace S := (S.alloc _).drew.call hb
  have hbel := bel_call (bel_alloc (Below.refl _ _) _).drew hb
  obtain ⟨a, c, rfl⟩ := S.shape
  have c0 := S.c0
  have A' := A
  unfold At7 at A'
  go_wp2_with (go_at_call 49; refine (HK.out _).mono ?_; rintro e w2 ⟨rfl, rfl⟩)
  refine wp_loop_rounds 4 ?_
  rw [rounds_succ]
  go_wp2_with (go_at_call 28; refine (has_any p a L c k0 _ c0).mono ?_; rw [hin0]; rintro e w2 ⟨rfl, rfl⟩)
  rw [rounds_succ]
  go_wp2_with (go_at_call 28; refine (has_any p a L c k1 _ c0).mono ?_; rw [hin1]; rintro e w2 ⟨rfl, rfl⟩)
  rw [rounds_succ]
  go_wp2_with (go_at_call 28; refine (has_any p a L c k2 _ c0).mono ?_; rw [hin2]; rintro e w2 ⟨rfl, rfl⟩)
  rw [rounds_succ]
  have hv := vector_any S hx hkk (b := W.heap.size) (fun i hi => by
    have hi' : i < 3 := by rw [← hkc]; exact hi
    by_cases e0 : i = 0
    · subst e0; simpa [Nd.kid] using A'.2.2.1
    by_cases e1 : i = 1
    · subst e1; simpa [Nd.kid] using A'.2.2.2.1
    by_cases e2 : i = 2
    · subst e2; simpa [Nd.kid] using A'.2.2.2.2.1
    omega) la
  have hz2 := hz
  obtain ⟨num, hv⟩ := hv
  simp only at hv
  rw [hr, if_pos hz, hkc] at hv
  simp only [Nd.val] at hv
  have HVV := Lib.hid hv
  clear hv hkk
  go_wp2_with (go_at_call 51; refine HVV.out.mono ?_; rintro e w2 ⟨rfl, hb2⟩; have A2 := A.keep hb2; have la2 := A2.lt; unfold At7 at A2)
  go_ret
  exact ⟨rfl, bel_alloc (bel_call hbel hb2) _⟩

theorem may_vec_3y (o w n l : Nat) (k0 k1 k2 : Int) (B p m : Nat) (sv : Value) (L : List Nd) (W : World) (oa : Array Value) (S : StoreAt B W p m sv L)
    (HO : Hid (∀ W : World, Calls Try.prog 48 #[.agg #[.int .u8 o, .int .u8 w, .int .i64 k0, .int .i64 k1, .int .i64 k2, .int .u64 n, .int .u8 l]] W fun e W' => e = .returned (.agg oa) ∧ Below W.heap.size W W'))
    (hq : ∀ W : World, (binOp .neq 57 (.agg #[.int .u8 o, .int .u8 w, .int .i64 k0, .int .i64 k1, .int .i64 k2, .int .u64 n, .int .u8 l]) (.agg oa)).run Try.prog W = .ok (.bool false) W)
    (HK : Hid (∀ W : World, Calls Try.prog 49 #[.int .u8 o] W fun e W' => e = .returned (.int .i64 3) ∧ W = W')) (hin0 : inB L k0 = true) (hin1 : inB L k1 = true) (hin2 : inB L k2 = true) (hx : Nd.Ok ⟨o, w, k0, k1, k2, n, l⟩) (d1 : ((o : Int) == 1) = false) (d2 : ((o : Int) == 2) = false) (hkc : kc o = 3) (r : Nat) (hr : vecW o w l (wid L ⟨o, w, k0, k1, k2, n, l⟩ 0) (wid L ⟨o, w, k0, k1, k2, n, l⟩ 1) (wid L ⟨o, w, k0, k1, k2, n, l⟩ 2) = r) (hz : ¬ r = 0) (d : ((r : Int) == (w : Int)) = true) :
    Calls Try.prog 24 #[.pointer (some ⟨p, 0, none⟩), .agg #[.int .u8 o, .int .u8 w, .int .i64 k0, .int .i64 k1, .int .i64 k2, .int .u64 n, .int .u8 l]] W fun e W' => e = .returned (.bool true) ∧ Below W.heap.size W W' := by
  have hg := guard_nd
  have hkk : ∀ i, i < kc o → 0 ≤ (Nd.mk o w k0 k1 k2 n l).kid i ∧ (Nd.mk o w k0 k1 k2 n l).kid i < (L.length : Int) := by
    intro i hi
    rw [hkc] at hi
    by_cases e0 : i = 0
    · subst e0; simpa [inB, Nd.kid] using hin0
    by_cases e1 : i = 1
    · subst e1; simpa [inB, Nd.kid] using hin1
    by_cases e2 : i = 2
    · subst e2; simpa [inB, Nd.kid] using hin2
    omega
  have A := At7.new W (.int .u8 o) (.int .u8 w) (.int .i64 k0) (.int .i64 k1) (.int .i64 k2) (.int .u64 n) (.int .u8 l) 57
  go_enter Try.func24, Try.ntmps24
  go_wp2_with fail
  go_region_held3 (fun w' => w'.cell? ⟨W.heap.size, 0, none⟩ = some (.int .u8 o) ∧ w'.cell? ⟨W.heap.size, 1, none⟩ = some (.int .u8 w) ∧ w'.cell? ⟨W.heap.size, 2, none⟩ = some (.int .i64 k0) ∧ w'.cell? ⟨W.heap.size, 3, none⟩ = some (.int .i64 k1) ∧ w'.cell? ⟨W.heap.size, 4, none⟩ = some (.int .i64 k2) ∧ w'.cell? ⟨W.heap.size, 5, none⟩ = some (.int .u64 n) ∧ w'.cell? ⟨W.heap.size, 6, none⟩ = some (.int .u8 l))
    (first | exact A.drew | exact A.drew.keep hb)
    (first | (go_at_call 48; refine (HO.out _).mono ?_; rintro e w1 ⟨rfl, hb⟩))
  replace A := A.drew.keep hb
  have la := A.lt
  replace S := (S.alloc _).drew.call hb
  have hbel := bel_call (bel_alloc (Below.refl _ _) _).drew hb
  obtain ⟨a, c, rfl⟩ := S.shape
  have c0 := S.c0
  have A' := A
  unfold At7 at A'
  go_wp2_with (go_at_call 49; refine (HK.out _).mono ?_; rintro e w2 ⟨rfl, rfl⟩)
  refine wp_loop_rounds 4 ?_
  rw [rounds_succ]
  go_wp2_with (go_at_call 28; refine (has_any p a L c k0 _ c0).mono ?_; rw [hin0]; rintro e w2 ⟨rfl, rfl⟩)
  rw [rounds_succ]
  go_wp2_with (go_at_call 28; refine (has_any p a L c k1 _ c0).mono ?_; rw [hin1]; rintro e w2 ⟨rfl, rfl⟩)
  rw [rounds_succ]
  go_wp2_with (go_at_call 28; refine (has_any p a L c k2 _ c0).mono ?_; rw [hin2]; rintro e w2 ⟨rfl, rfl⟩)
  rw [rounds_succ]
  have hv := vector_any S hx hkk (b := W.heap.size) (fun i hi => by
    have hi' : i < 3 := by rw [← hkc]; exact hi
    by_cases e0 : i = 0
    · subst e0; simpa [Nd.kid] using A'.2.2.1
    by_cases e1 : i = 1
    · subst e1; simpa [Nd.kid] using A'.2.2.2.1
    by_cases e2 : i = 2
    · subst e2; simpa [Nd.kid] using A'.2.2.2.2.1
    omega) la
  have hz2 := hz
  obtain ⟨num, hv⟩ := hv
  simp only at hv
  rw [hr, if_neg hz, hkc] at hv
  simp only [Nd.val] at hv
  have HVV := Lib.hid hv
  clear hv hkk
  go_wp2_with (go_at_call 51; refine HVV.out.mono ?_; rintro e w2 ⟨rfl, hb2⟩; have A2 := A.keep hb2; have la2 := A2.lt; unfold At7 at A2)
  go_ret
  exact ⟨rfl, bel_alloc (bel_call hbel hb2) _⟩

theorem may_vec_3n (o w n l : Nat) (k0 k1 k2 : Int) (B p m : Nat) (sv : Value) (L : List Nd) (W : World) (oa : Array Value) (S : StoreAt B W p m sv L)
    (HO : Hid (∀ W : World, Calls Try.prog 48 #[.agg #[.int .u8 o, .int .u8 w, .int .i64 k0, .int .i64 k1, .int .i64 k2, .int .u64 n, .int .u8 l]] W fun e W' => e = .returned (.agg oa) ∧ Below W.heap.size W W'))
    (hq : ∀ W : World, (binOp .neq 57 (.agg #[.int .u8 o, .int .u8 w, .int .i64 k0, .int .i64 k1, .int .i64 k2, .int .u64 n, .int .u8 l]) (.agg oa)).run Try.prog W = .ok (.bool false) W)
    (HK : Hid (∀ W : World, Calls Try.prog 49 #[.int .u8 o] W fun e W' => e = .returned (.int .i64 3) ∧ W = W')) (hin0 : inB L k0 = true) (hin1 : inB L k1 = true) (hin2 : inB L k2 = true) (hx : Nd.Ok ⟨o, w, k0, k1, k2, n, l⟩) (d1 : ((o : Int) == 1) = false) (d2 : ((o : Int) == 2) = false) (hkc : kc o = 3) (r : Nat) (hr : vecW o w l (wid L ⟨o, w, k0, k1, k2, n, l⟩ 0) (wid L ⟨o, w, k0, k1, k2, n, l⟩ 1) (wid L ⟨o, w, k0, k1, k2, n, l⟩ 2) = r) (hz : ¬ r = 0) (d : ((r : Int) == (w : Int)) = false) :
    Calls Try.prog 24 #[.pointer (some ⟨p, 0, none⟩), .agg #[.int .u8 o, .int .u8 w, .int .i64 k0, .int .i64 k1, .int .i64 k2, .int .u64 n, .int .u8 l]] W fun e W' => e = .returned (.bool false) ∧ Below W.heap.size W W' := by
  have hg := guard_nd
  have hkk : ∀ i, i < kc o → 0 ≤ (Nd.mk o w k0 k1 k2 n l).kid i ∧ (Nd.mk o w k0 k1 k2 n l).kid i < (L.length : Int) := by
    intro i hi
    rw [hkc] at hi
    by_cases e0 : i = 0
    · subst e0; simpa [inB, Nd.kid] using hin0
    by_cases e1 : i = 1
    · subst e1; simpa [inB, Nd.kid] using hin1
    by_cases e2 : i = 2
    · subst e2; simpa [inB, Nd.kid] using hin2
    omega
  have A := At7.new W (.int .u8 o) (.int .u8 w) (.int .i64 k0) (.int .i64 k1) (.int .i64 k2) (.int .u64 n) (.int .u8 l) 57
  go_enter Try.func24, Try.ntmps24
  go_wp2_with fail
  go_region_held3 (fun w' => w'.cell? ⟨W.heap.size, 0, none⟩ = some (.int .u8 o) ∧ w'.cell? ⟨W.heap.size, 1, none⟩ = some (.int .u8 w) ∧ w'.cell? ⟨W.heap.size, 2, none⟩ = some (.int .i64 k0) ∧ w'.cell? ⟨W.heap.size, 3, none⟩ = some (.int .i64 k1) ∧ w'.cell? ⟨W.heap.size, 4, none⟩ = some (.int .i64 k2) ∧ w'.cell? ⟨W.heap.size, 5, none⟩ = some (.int .u64 n) ∧ w'.cell? ⟨W.heap.size, 6, none⟩ = some (.int .u8 l))
    (first | exact A.drew | exact A.drew.keep hb)
    (first | (go_at_call 48; refine (HO.out _).mono ?_; rintro e w1 ⟨rfl, hb⟩))
  replace A := A.drew.keep hb
  have la := A.lt
  replace S := (S.alloc _).drew.call hb
  have hbel := bel_call (bel_alloc (Below.refl _ _) _).drew hb
  obtain ⟨a, c, rfl⟩ := S.shape
  have c0 := S.c0
  have A' := A
  unfold At7 at A'
  go_wp2_with (go_at_call 49; refine (HK.out _).mono ?_; rintro e w2 ⟨rfl, rfl⟩)
  refine wp_loop_rounds 4 ?_
  rw [rounds_succ]
  go_wp2_with (go_at_call 28; refine (has_any p a L c k0 _ c0).mono ?_; rw [hin0]; rintro e w2 ⟨rfl, rfl⟩)
  rw [rounds_succ]
  go_wp2_with (go_at_call 28; refine (has_any p a L c k1 _ c0).mono ?_; rw [hin1]; rintro e w2 ⟨rfl, rfl⟩)
  rw [rounds_succ]
  go_wp2_with (go_at_call 28; refine (has_any p a L c k2 _ c0).mono ?_; rw [hin2]; rintro e w2 ⟨rfl, rfl⟩)
  rw [rounds_succ]
  have hv := vector_any S hx hkk (b := W.heap.size) (fun i hi => by
    have hi' : i < 3 := by rw [← hkc]; exact hi
    by_cases e0 : i = 0
    · subst e0; simpa [Nd.kid] using A'.2.2.1
    by_cases e1 : i = 1
    · subst e1; simpa [Nd.kid] using A'.2.2.2.1
    by_cases e2 : i = 2
    · subst e2; simpa [Nd.kid] using A'.2.2.2.2.1
    omega) la
  have hz2 := hz
  obtain ⟨num, hv⟩ := hv
  simp only at hv
  rw [hr, if_neg hz, hkc] at hv
  simp only [Nd.val] at hv
  have HVV := Lib.hid hv
  clear hv hkk
  go_wp2_with (go_at_call 51; refine HVV.out.mono ?_; rintro e w2 ⟨rfl, hb2⟩; have A2 := A.keep hb2; have la2 := A2.lt; unfold At7 at A2)
  go_ret
  exact ⟨rfl, bel_alloc (bel_call hbel hb2) _⟩
end Tm
end Go.Proofs.Ytigjbngedbbdbaa
