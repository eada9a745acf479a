/-
vector of layer term, for every node whose kids are there, as a fact on one call.
May a node be? What may of layer term returns, where its fields or its kids refuse it, as a fact on one call.
May a node be? What may of layer term returns, for constants and variables, as a fact on one call.
-/
import Derived.Test.YtigjbngedbbdbaaPt06
import Derived.Test.YtigjbngedbbdbaaPt03
import Derived.Deep.RegionHeld3
namespace Go.Proofs.Ytigjbngedbbdbaa
open Go.RowKit Bv
namespace Tm
set_option maxHeartbeats 400000
set_option maxRecDepth 100000

theorem StoreAt.some_row {B : Nat} {w : World} {p m : Nat} {sv : Value} {L : List Nd} (h : StoreAt B w p m sv L) (hl : 0 < L.length) : ∃ g c, sv = .slice (some ⟨g, 0, none⟩) L.length c ∧ g < w.heap.size ∧ B ≤ g := by
  rcases h.row with ⟨_, ⟨h1, h2⟩ | ⟨g, cap, cur, hv, hb, hh, _⟩⟩
  · omega
  · exact ⟨g, cap, hv, (Array.getElem?_eq_some_iff.1 hh).1, hb⟩

theorem StoreAt.kid {B : Nat} {w : World} {p m g c : Nat} {L : List Nd} (h : StoreAt B w p m (.slice (some ⟨g, 0, none⟩) L.length c) L) {k : Int} (h0 : 0 ≤ k) (h1 : k < (L.length : Int)) :
    ∃ j : Nat, k = (j : Int) ∧ j < L.length ∧ w.cell? ⟨g, j * 7 + 1, none⟩ = some (.int .u8 ((widAt L k : Nat) : Int)) := by
  have hl : k.toNat < L.length := by omega
  have hx := List.getElem?_eq_getElem hl
  obtain ⟨g', c', e, hc⟩ := h.shapeAt hx
  simp at e
  refine ⟨k.toNat, by omega, hl, ?_⟩
  rw [e.1, hc 1 (.int .u8 ((L[k.toNat].w : Nat) : Int)) (by simp [Nd.cells])]
  simp [widAt, hx]

theorem kc_zero {o : Nat} (h : kc o = 0) : o < 3 ∨ 25 < o := by unfold kc at h; split at h; omega; split at h; omega; split at h <;> omega

/-- What vector answers. -/
def Vec (p b : Nat) (W : World) (x : Nd) (r : Nat) : Prop :=
  ∃ num : Nat, Calls Try.prog 51 #[.pointer (some ⟨p, 0, none⟩), x.val, .slice (some ⟨b, 2, none⟩) (kc x.o) 3] W fun e W' => e = .returned (.tuple #[.agg #[.int .u8 ((r : Nat) : Int), .int .u64 ((num : Nat) : Int)], .int .i64 (if r = 0 then 2 else 0)]) ∧ Below W.heap.size W W'

theorem vector_any {B p m b : Nat} {sv : Value} {L : List Nd} {x : Nd} {W : World} (S : StoreAt B W p m sv L) (hx : x.Ok) (hk : ∀ i, i < kc x.o → 0 ≤ x.kid i ∧ x.kid i < (L.length : Int))
    (cb : ∀ i, i < kc x.o → W.cell? ⟨b, 2 + i, none⟩ = some (.int .i64 (x.kid i))) (lb : b < W.heap.size) : Vec p b W x (vecW x.o x.w x.l (wid L x 0) (wid L x 1) (wid L x 2)) := by
  have hk3 := kc_le x.o
  have hxo := hx.o
  have hxw := hx.w
  have hxl := hx.l
  obtain ⟨o, w, k0, k1, k2, n, l⟩ := x
  simp only at hk cb hk3 hxo hxw hxl
  have lp := S.lt
  have c0 := S.c0
  by_cases hz : kc o = 0
  · have hz' := kc_zero hz
    have t := tells_binary o w l (wid L ⟨o, w, k0, k1, k2, n, l⟩ 0) (wid L ⟨o, w, k0, k1, k2, n, l⟩ 1) (wid L ⟨o, w, k0, k1, k2, n, l⟩ 2) (by omega) (by omega) (by omega) (by omega)
    have e0 : wid L ⟨o, w, k0, k1, k2, n, l⟩ 0 = 0 := by simp [wid, hz]
    have e1 : wid L ⟨o, w, k0, k1, k2, n, l⟩ 1 = 0 := by simp [wid, hz]
    obtain ⟨num, ht⟩ := t
    rw [e0, e1] at ht
    obtain ⟨a, c, rfl⟩ := S.shape
    refine ⟨num, ?_⟩
    simp only [hz, e0, e1]
    exact vec_n o w n l k0 k1 k2 p 0 c b L.length _ num _ W (by simp; omega) (by simp; omega) (by simp; omega) (by simp; omega) (by simp; omega) (by simp; omega) a c0 lp lb ht
  have hpos : 0 < L.length := by have := hk 0 (by omega); omega
  obtain ⟨g, c, rfl, lg, _⟩ := S.some_row hpos
  have K0 := hk 0 (by omega)
  obtain ⟨j0, q0, hj0, f0⟩ := S.kid K0.1 K0.2
  have cb0 := cb 0 (by omega)
  simp only [Nd.kid] at q0 cb0 f0
  subst q0
  have w0 : wid L ⟨o, w, (j0 : Int), k1, k2, n, l⟩ 0 = widAt L (j0 : Int) := by simp [wid, Nd.kid]; omega
  by_cases h1 : kc o = 1
  · have w1 : wid L ⟨o, w, (j0 : Int), k1, k2, n, l⟩ 1 = 0 := by simp [wid]; omega
    have w2 : wid L ⟨o, w, (j0 : Int), k1, k2, n, l⟩ 2 = 0 := by simp [wid]; omega
    simp only [Vec, w0, w1, w2, h1]
    by_cases h3 : o = 3
    · subst h3
      obtain ⟨num, ht⟩ := tells_unary 3 w l (widAt L (j0 : Int)) 0 0 (.inl rfl)
      exact ⟨num, vec_u3 w n l (j0 : Int) k1 k2 p g c b L.length _ num _ W c0 lp lb lg j0 _ cb0 hj0 f0 ht⟩
    by_cases h4 : o = 4
    · subst h4
      obtain ⟨num, ht⟩ := tells_unary 4 w l (widAt L (j0 : Int)) 0 0 (.inr rfl)
      exact ⟨num, vec_u4 w n l (j0 : Int) k1 k2 p g c b L.length _ num _ W c0 lp lb lg j0 _ cb0 hj0 f0 ht⟩
    by_cases h22 : o = 22
    · subst h22
      obtain ⟨num, ht⟩ := tells_extract w l (widAt L (j0 : Int)) 0 0 hxw
      exact ⟨num, vec_e w n l (j0 : Int) k1 k2 p g c b L.length _ num _ W hxw hxl c0 lp lb lg j0 _ cb0 hj0 f0 ht⟩
    by_cases h23 : o = 23
    · subst h23
      obtain ⟨num, ht⟩ := tells_extend 23 w l (widAt L (j0 : Int)) 0 0 (.inl rfl)
      exact ⟨num, vec_x3 w n l (j0 : Int) k1 k2 p g c b L.length _ num _ W hxw hxl c0 lp lb lg j0 _ cb0 hj0 f0 ht⟩
    have h24 : o = 24 := by unfold kc at h1; split at h1; omega; split at h1; omega; split at h1 <;> omega
    subst h24
    obtain ⟨num, ht⟩ := tells_extend 24 w l (widAt L (j0 : Int)) 0 0 (.inr rfl)
    exact ⟨num, vec_x4 w n l (j0 : Int) k1 k2 p g c b L.length _ num _ W hxw hxl c0 lp lb lg j0 _ cb0 hj0 f0 ht⟩
  have K1 := hk 1 (by omega)
  obtain ⟨j1, q1, hj1, f1⟩ := S.kid K1.1 K1.2
  have cb1 := cb 1 (by omega)
  simp only [Nd.kid] at q1 cb1 f1
  subst q1
  have w1 : wid L ⟨o, w, (j0 : Int), (j1 : Int), k2, n, l⟩ 1 = widAt L (j1 : Int) := by simp [wid, Nd.kid]; omega
  by_cases h2 : kc o = 2
  · have w2 : wid L ⟨o, w, (j0 : Int), (j1 : Int), k2, n, l⟩ 2 = 0 := by simp [wid]; omega
    simp only [Vec, w0, w1, w2, h2]
    have hb : 5 ≤ o ∧ o ≤ 21 := by unfold kc at h2; split at h2; omega; split at h2; omega; split at h2 <;> omega
    obtain ⟨num, ht⟩ := tells_binary o w l (widAt L (j0 : Int)) (widAt L (j1 : Int)) 0 (by omega) (by omega) (by omega) (by omega)
    exact ⟨num, vec_b o w n l (j0 : Int) (j1 : Int) k2 p g c b L.length _ num _ W (by simp; omega) (by simp; omega) (by simp; omega) (by simp; omega) (by simp; omega) (by simp; omega) c0 lp lb lg j0 _ cb0 hj0 f0 j1 _ cb1 hj1 f1 ht⟩
  have h3 : kc o = 3 := by omega
  have K2 := hk 2 (by omega)
  obtain ⟨j2, q2, hj2, f2⟩ := S.kid K2.1 K2.2
  have cb2 := cb 2 (by omega)
  simp only [Nd.kid] at q2 cb2 f2
  subst q2
  have w2 : wid L ⟨o, w, (j0 : Int), (j1 : Int), (j2 : Int), n, l⟩ 2 = widAt L (j2 : Int) := by simp [wid, Nd.kid]; omega
  simp only [Vec, w0, w1, w2, h3]
  have hb : o = 25 := by unfold kc at h3; split at h3; omega; split at h3; omega; split at h3 <;> omega
  subst hb
  obtain ⟨num, ht⟩ := tells_ite w l (widAt L (j0 : Int)) (widAt L (j1 : Int)) (widAt L (j2 : Int))
  exact ⟨num, vec_i w n l (j0 : Int) (j1 : Int) (j2 : Int) p g c b L.length _ num _ W c0 lp lb lg j0 _ cb0 hj0 f0 j1 _ cb1 hj1 f1 j2 _ cb2 hj2 f2 ht⟩

end Tm
end Go.Proofs.Ytigjbngedbbdbaa

namespace Go.Proofs.Ytigjbngedbbdbaa
open Go.RowKit Bv
namespace Tm
set_option maxHeartbeats 1000000
set_option maxRecDepth 100000

theorem guard_nd : Try.prog.eqGuardType Try.prog.depth 57 = false := by kernel_rfl

theorem may_not (o w n l : Nat) (k0 k1 k2 : Int) (B p m : Nat) (sv : Value) (L : List Nd) (W : World) (oa : Array Value) (_S : StoreAt B W p m sv L)
    (HO : Hid (∀ W : World, Calls Try.prog 48 #[.agg #[.int .u8 o, .int .u8 w, .int .i64 k0, .int .i64 k1, .int .i64 k2, .int .u64 n, .int .u8 l]] W fun e W' => e = .returned (.agg oa) ∧ Below W.heap.size W W'))
    (hq : ∀ W : World, (binOp .neq 57 (.agg #[.int .u8 o, .int .u8 w, .int .i64 k0, .int .i64 k1, .int .i64 k2, .int .u64 n, .int .u8 l]) (.agg oa)).run Try.prog W = .ok (.bool true) W) :
    Calls Try.prog 24 #[.pointer (some ⟨p, 0, none⟩), .agg #[.int .u8 o, .int .u8 w, .int .i64 k0, .int .i64 k1, .int .i64 k2, .int .u64 n, .int .u8 l]] W fun e W' => e = .returned (.bool false) ∧ Below W.heap.size W W' := by
  have hg := guard_nd
  have A := At7.new W (.int .u8 o) (.int .u8 w) (.int .i64 k0) (.int .i64 k1) (.int .i64 k2) (.int .u64 n) (.int .u8 l) 57
  go_enter Try.func24, Try.ntmps24
  go_wp2_with fail
  go_region_held3 (fun w' => w'.cell? ⟨W.heap.size, 0, none⟩ = some (.int .u8 o) ∧ w'.cell? ⟨W.heap.size, 1, none⟩ = some (.int .u8 w) ∧ w'.cell? ⟨W.heap.size, 2, none⟩ = some (.int .i64 k0) ∧ w'.cell? ⟨W.heap.size, 3, none⟩ = some (.int .i64 k1) ∧ w'.cell? ⟨W.heap.size, 4, none⟩ = some (.int .i64 k2) ∧ w'.cell? ⟨W.heap.size, 5, none⟩ = some (.int .u64 n) ∧ w'.cell? ⟨W.heap.size, 6, none⟩ = some (.int .u8 l))
    (first | exact A.drew | exact A.drew.keep hb)
    (first | (go_at_call 48; refine (HO.out _).mono ?_; rintro e w1 ⟨rfl, hb⟩))
  go_wp2_with fail
  go_ret
  exact ⟨rfl, bel_call (bel_alloc (Below.refl _ _) _).drew hb⟩

theorem may_bad_1_0 (o w n l : Nat) (k0 k1 k2 : Int) (B p m : Nat) (sv : Value) (L : List Nd) (W : World) (oa : Array Value) (S : StoreAt B W p m sv L)
    (HO : Hid (∀ W : World, Calls Try.prog 48 #[.agg #[.int .u8 o, .int .u8 w, .int .i64 k0, .int .i64 k1, .int .i64 k2, .int .u64 n, .int .u8 l]] W fun e W' => e = .returned (.agg oa) ∧ Below W.heap.size W W'))
    (hq : ∀ W : World, (binOp .neq 57 (.agg #[.int .u8 o, .int .u8 w, .int .i64 k0, .int .i64 k1, .int .i64 k2, .int .u64 n, .int .u8 l]) (.agg oa)).run Try.prog W = .ok (.bool false) W)
    (HK : Hid (∀ W : World, Calls Try.prog 49 #[.int .u8 o] W fun e W' => e = .returned (.int .i64 1) ∧ W = W')) (hin0 : inB L k0 = false) :
    Calls Try.prog 24 #[.pointer (some ⟨p, 0, none⟩), .agg #[.int .u8 o, .int .u8 w, .int .i64 k0, .int .i64 k1, .int .i64 k2, .int .u64 n, .int .u8 l]] W fun e W' => e = .returned (.bool false) ∧ Below W.heap.size W W' := by
  have hg := guard_nd
  have A := At7.new W (.int .u8 o) (.int .u8 w) (.int .i64 k0) (.int .i64 k1) (.int .i64 k2) (.int .u64 n) (.int .u8 l) 57
  go_enter Try.func24, Try.ntmps24
  go_wp2_with fail
  go_region_held3 (fun w' => w'.cell? ⟨W.heap.size, 0, none⟩ = some (.int .u8 o) ∧ w'.cell? ⟨W.heap.size, 1, none⟩ = some (.int .u8 w) ∧ w'.cell? ⟨W.heap.size, 2, none⟩ = some (.int .i64 k0) ∧ w'.cell? ⟨W.heap.size, 3, none⟩ = some (.int .i64 k1) ∧ w'.cell? ⟨W.heap.size, 4, none⟩ = some (.int .i64 k2) ∧ w'.cell? ⟨W.heap.size, 5, none⟩ = some (.int .u64 n) ∧ w'.cell? ⟨W.heap.size, 6, none⟩ = some (.int .u8 l))
    (first | exact A.drew | exact A.drew.keep hb)
    (first | (go_at_call 48; refine (HO.out _).mono ?_; rintro e w1 ⟨rfl, hb⟩))
  replace A := A.drew.keep hb
  have la := A.lt
  replace S := (S.alloc _).drew.call hb
  have hbel := bel_call (bel_alloc (Below.refl _ _) _).drew hb
  obtain ⟨a, c, rfl⟩ := S.shape
  have c0 := S.c0
  have A' := A
  unfold At7 at A'
  go_wp2_with (go_at_call 49; refine (HK.out _).mono ?_; rintro e w2 ⟨rfl, rfl⟩)
  refine wp_loop_rounds 1 ?_
  rw [rounds_succ]
  go_wp2_with (go_at_call 28; refine (has_any p a L c k0 _ c0).mono ?_; rw [hin0]; rintro e w2 ⟨rfl, rfl⟩)
  go_ret
  exact ⟨rfl, hbel⟩

theorem may_bad_2_0 (o w n l : Nat) (k0 k1 k2 : Int) (B p m : Nat) (sv : Value) (L : List Nd) (W : World) (oa : Array Value) (S : StoreAt B W p m sv L)
    (HO : Hid (∀ W : World, Calls Try.prog 48 #[.agg #[.int .u8 o, .int .u8 w, .int .i64 k0, .int .i64 k1, .int .i64 k2, .int .u64 n, .int .u8 l]] W fun e W' => e = .returned (.agg oa) ∧ Below W.heap.size W W'))
    (hq : ∀ W : World, (binOp .neq 57 (.agg #[.int .u8 o, .int .u8 w, .int .i64 k0, .int .i64 k1, .int .i64 k2, .int .u64 n, .int .u8 l]) (.agg oa)).run Try.prog W = .ok (.bool false) W)
    (HK : Hid (∀ W : World, Calls Try.prog 49 #[.int .u8 o] W fun e W' => e = .returned (.int .i64 2) ∧ W = W')) (hin0 : inB L k0 = false) :
    Calls Try.prog 24 #[.pointer (some ⟨p, 0, none⟩), .agg #[.int .u8 o, .int .u8 w, .int .i64 k0, .int .i64 k1, .int .i64 k2, .int .u64 n, .int .u8 l]] W fun e W' => e = .returned (.bool false) ∧ Below W.heap.size W W' := by
  have hg := guard_nd
  have A := At7.new W (.int .u8 o) (.int .u8 w) (.int .i64 k0) (.int .i64 k1) (.int .i64 k2) (.int .u64 n) (.int .u8 l) 57
  go_enter Try.func24, Try.ntmps24
  go_wp2_with fail
  go_region_held3 (fun w' => w'.cell? ⟨W.heap.size, 0, none⟩ = some (.int .u8 o) ∧ w'.cell? ⟨W.heap.size, 1, none⟩ = some (.int .u8 w) ∧ w'.cell? ⟨W.heap.size, 2, none⟩ = some (.int .i64 k0) ∧ w'.cell? ⟨W.heap.size, 3, none⟩ = some (.int .i64 k1) ∧ w'.cell? ⟨W.heap.size, 4, none⟩ = some (.int .i64 k2) ∧ w'.cell? ⟨W.heap.size, 5, none⟩ = some (.int .u64 n) ∧ w'.cell? ⟨W.heap.size, 6, none⟩ = some (.int .u8 l))
    (first | exact A.drew | exact A.drew.keep hb)
    (first | (go_at_call 48; refine (HO.out _).mono ?_; rintro e w1 ⟨rfl, hb⟩))
  replace A := A.drew.keep hb
  have la := A.lt
  replace S := (S.alloc _).drew.call hb
  have hbel := bel_call (bel_alloc (Below.refl _ _) _).drew hb
  obtain ⟨a, c, rfl⟩ := S.shape
  have c0 := S.c0
  have A' := A
  unfold At7 at A'
  go_wp2_with (go_at_call 49; refine (HK.out _).mono ?_; rintro e w2 ⟨rfl, rfl⟩)
  refine wp_loop_rounds 1 ?_
  rw [rounds_succ]
  go_wp2_with (go_at_call 28; refine (has_any p a L c k0 _ c0).mono ?_; rw [hin0]; rintro e w2 ⟨rfl, rfl⟩)
  go_ret
  exact ⟨rfl, hbel⟩

theorem may_bad_2_1 (o w n l : Nat) (k0 k1 k2 : Int) (B p m : Nat) (sv : Value) (L : List Nd) (W : World) (oa : Array Value) (S : StoreAt B W p m sv L)
    (HO : Hid (∀ W : World, Calls Try.prog 48 #[.agg #[.int .u8 o, .int .u8 w, .int .i64 k0, .int .i64 k1, .int .i64 k2, .int .u64 n, .int .u8 l]] W fun e W' => e = .returned (.agg oa) ∧ Below W.heap.size W W'))
    (hq : ∀ W : World, (binOp .neq 57 (.agg #[.int .u8 o, .int .u8 w, .int .i64 k0, .int .i64 k1, .int .i64 k2, .int .u64 n, .int .u8 l]) (.agg oa)).run Try.prog W = .ok (.bool false) W)
    (HK : Hid (∀ W : World, Calls Try.prog 49 #[.int .u8 o] W fun e W' => e = .returned (.int .i64 2) ∧ W = W')) (hin0 : inB L k0 = true) (hin1 : inB L k1 = false) :
    Calls Try.prog 24 #[.pointer (some ⟨p, 0, none⟩), .agg #[.int .u8 o, .int .u8 w, .int .i64 k0, .int .i64 k1, .int .i64 k2, .int .u64 n, .int .u8 l]] W fun e W' => e = .returned (.bool false) ∧ Below W.heap.size W W' := by
  have hg := guard_nd
  have A := At7.new W (.int .u8 o) (.int .u8 w) (.int .i64 k0) (.int .i64 k1) (.int .i64 k2) (.int .u64 n) (.int .u8 l) 57
  go_enter Try.func24, Try.ntmps24
  go_wp2_with fail
  go_region_held3 (fun w' => w'.cell? ⟨W.heap.size, 0, none⟩ = some (.int .u8 o) ∧ w'.cell? ⟨W.heap.size, 1, none⟩ = some (.int .u8 w) ∧ w'.cell? ⟨W.heap.size, 2, none⟩ = some (.int .i64 k0) ∧ w'.cell? ⟨W.heap.size, 3, none⟩ = some (.int .i64 k1) ∧ w'.cell? ⟨W.heap.size, 4, none⟩ = some (.int .i64 k2) ∧ w'.cell? ⟨W.heap.size, 5, none⟩ = some (.int .u64 n) ∧ w'.cell? ⟨W.heap.size, 6, none⟩ = some (.int .u8 l))
    (first | exact A.drew | exact A.drew.keep hb)
    (first | (go_at_call 48; refine (HO.out _).mono ?_; rintro e w1 ⟨rfl, hb⟩))
  replace A := A.drew.keep hb
  have la := A.lt
  replace S := (S.alloc _).drew.call hb
  have hbel := bel_call (bel_alloc (Below.refl _ _) _).drew hb
  obtain ⟨a, c, rfl⟩ := S.shape
  have c0 := S.c0
  have A' := A
  unfold At7 at A'
  go_wp2_with (go_at_call 49; refine (HK.out _).mono ?_; rintro e w2 ⟨rfl, rfl⟩)
  refine wp_loop_rounds 2 ?_
  rw [rounds_succ]
  go_wp2_with (go_at_call 28; refine (has_any p a L c k0 _ c0).mono ?_; rw [hin0]; rintro e w2 ⟨rfl, rfl⟩)
  rw [rounds_succ]
  go_wp2_with (go_at_call 28; refine (has_any p a L c k1 _ c0).mono ?_; rw [hin1]; rintro e w2 ⟨rfl, rfl⟩)
  go_ret
  exact ⟨rfl, hbel⟩

theorem may_bad_3_0 (o w n l : Nat) (k0 k1 k2 : Int) (B p m : Nat) (sv : Value) (L : List Nd) (W : World) (oa : Array Value) (S : StoreAt B W p m sv L)
    (HO : Hid (∀ W : World, Calls Try.prog 48 #[.agg #[.int .u8 o, .int .u8 w, .int .i64 k0, .int .i64 k1, .int .i64 k2, .int .u64 n, .int .u8 l]] W fun e W' => e = .returned (.agg oa) ∧ Below W.heap.size W W'))
    (hq : ∀ W : World, (binOp .neq 57 (.agg #[.int .u8 o, .int .u8 w, .int .i64 k0, .int .i64 k1, .int .i64 k2, .int .u64 n, .int .u8 l]) (.agg oa)).run Try.prog W = .ok (.bool false) W)
    (HK : Hid (∀ W : World, Calls Try.prog 49 #[.int .u8 o] W fun e W' => e = .returned (.int .i64 3) ∧ W = W')) (hin0 : inB L k0 = false) :
    Calls Try.prog 24 #[.pointer (some ⟨p, 0, none⟩), .agg #[.int .u8 o, .int .u8 w, .int .i64 k0, .int .i64 k1, .int .i64 k2, .int .u64 n, .int .u8 l]] W fun e W' => e = .returned (.bool false) ∧ Below W.heap.size W W' := by
  have hg := guard_nd
  have A := At7.new W (.int .u8 o) (.int .u8 w) (.int .i64 k0) (.int .i64 k1) (.int .i64 k2) (.int .u64 n) (.int .u8 l) 57
  go_enter Try.func24, Try.ntmps24
  go_wp2_with fail
  go_region_held3 (fun w' => w'.cell? ⟨W.heap.size, 0, none⟩ = some (.int .u8 o) ∧ w'.cell? ⟨W.heap.size, 1, none⟩ = some (.int .u8 w) ∧ w'.cell? ⟨W.heap.size, 2, none⟩ = some (.int .i64 k0) ∧ w'.cell? ⟨W.heap.size, 3, none⟩ = some (.int .i64 k1) ∧ w'.cell? ⟨W.heap.size, 4, none⟩ = some (.int .i64 k2) ∧ w'.cell? ⟨W.heap.size, 5, none⟩ = some (.int .u64 n) ∧ w'.cell? ⟨W.heap.size, 6, none⟩ = some (.int .u8 l))
    (first | exact A.drew | exact A.drew.keep hb)
    (first | (go_at_call 48; refine (HO.out _).mono ?_; rintro e w1 ⟨rfl, hb⟩))
  replace A := A.drew.keep hb
  have la := A.lt
  replace S := (S.alloc _).drew.call hb
  have hbel := bel_call (bel_alloc (Below.refl _ _) _).drew hb
  obtain ⟨a, c, rfl⟩ := S.shape
  have c0 := S.c0
  have A' := A
  unfold At7 at A'
  go_wp2_with (go_at_call 49; refine (HK.out _).mono ?_; rintro e w2 ⟨rfl, rfl⟩)
  refine wp_loop_rounds 1 ?_
  rw [rounds_succ]
  go_wp2_with (go_at_call 28; refine (has_any p a L c k0 _ c0).mono ?_; rw [hin0]; rintro e w2 ⟨rfl, rfl⟩)
  go_ret
  exact ⟨rfl, hbel⟩

theorem may_bad_3_1 (o w n l : Nat) (k0 k1 k2 : Int) (B p m : Nat) (sv : Value) (L : List Nd) (W : World) (oa : Array Value) (S : StoreAt B W p m sv L)
    (HO : Hid (∀ W : World, Calls Try.prog 48 #[.agg #[.int .u8 o, .int .u8 w, .int .i64 k0, .int .i64 k1, .int .i64 k2, .int .u64 n, .int .u8 l]] W fun e W' => e = .returned (.agg oa) ∧ Below W.heap.size W W'))
    (hq : ∀ W : World, (binOp .neq 57 (.agg #[.int .u8 o, .int .u8 w, .int .i64 k0, .int .i64 k1, .int .i64 k2, .int .u64 n, .int .u8 l]) (.agg oa)).run Try.prog W = .ok (.bool false) W)
    (HK : Hid (∀ W : World, Calls Try.prog 49 #[.int .u8 o] W fun e W' => e = .returned (.int .i64 3) ∧ W = W')) (hin0 : inB L k0 = true) (hin1 : inB L k1 = false) :
    Calls Try.prog 24 #[.pointer (some ⟨p, 0, none⟩), .agg #[.int .u8 o, .int .u8 w, .int .i64 k0, .int .i64 k1, .int .i64 k2, .int .u64 n, .int .u8 l]] W fun e W' => e = .returned (.bool false) ∧ Below W.heap.size W W' := by
  have hg := guard_nd
  have A := At7.new W (.int .u8 o) (.int .u8 w) (.int .i64 k0) (.int .i64 k1) (.int .i64 k2) (.int .u64 n) (.int .u8 l) 57
  go_enter Try.func24, Try.ntmps24
  go_wp2_with fail
  go_region_held3 (fun w' => w'.cell? ⟨W.heap.size, 0, none⟩ = some (.int .u8 o) ∧ w'.cell? ⟨W.heap.size, 1, none⟩ = some (.int .u8 w) ∧ w'.cell? ⟨W.heap.size, 2, none⟩ = some (.int .i64 k0) ∧ w'.cell? ⟨W.heap.size, 3, none⟩ = some (.int .i64 k1) ∧ w'.cell? ⟨W.heap.size, 4, none⟩ = some (.int .i64 k2) ∧ w'.cell? ⟨W.heap.size, 5, none⟩ = some (.int .u64 n) ∧ w'.cell? ⟨W.heap.size, 6, none⟩ = some (.int .u8 l))
    (first | exact A.drew | exact A.drew.keep hb)
    (first | (go_at_call 48; refine (HO.out _).mono ?_; rintro e w1 ⟨rfl, hb⟩))
  replace A := A.drew.keep hb
  have la := A.lt
  replace S := (S.alloc _).drew.call hb
  have hbel := bel_call (bel_alloc (Below.refl _ _) _).drew hb
  obtain ⟨a, c, rfl⟩ := S.shape
  have c0 := S.c0
  have A' := A
  unfold At7 at A'
  go_wp2_with (go_at_call 49; refine (HK.out _).mono ?_; rintro e w2 ⟨rfl, rfl⟩)
  refine wp_loop_rounds 2 ?_
  rw [rounds_succ]
  go_wp2_with (go_at_call 28; refine (has_any p a L c k0 _ c0).mono ?_; rw [hin0]; rintro e w2 ⟨rfl, rfl⟩)
  rw [rounds_succ]
  go_wp2_with (go_at_call 28; refine (has_any p a L c k1 _ c0).mono ?_; rw [hin1]; rintro e w2 ⟨rfl, rfl⟩)
  go_ret
  exact ⟨rfl, hbel⟩

theorem may_bad_3_2 (o w n l : Nat) (k0 k1 k2 : Int) (B p m : Nat) (sv : Value) (L : List Nd) (W : World) (oa : Array Value) (S : StoreAt B W p m sv L)
    (HO : Hid (∀ W : World, Calls Try.prog 48 #[.agg #[.int .u8 o, .int .u8 w, .int .i64 k0, .int .i64 k1, .int .i64 k2, .int .u64 n, .int .u8 l]] W fun e W' => e = .returned (.agg oa) ∧ Below W.heap.size W W'))
    (hq : ∀ W : World, (binOp .neq 57 (.agg #[.int .u8 o, .int .u8 w, .int .i64 k0, .int .i64 k1, .int .i64 k2, .int .u64 n, .int .u8 l]) (.agg oa)).run Try.prog W = .ok (.bool false) W)
    (HK : Hid (∀ W : World, Calls Try.prog 49 #[.int .u8 o] W fun e W' => e = .returned (.int .i64 3) ∧ W = W')) (hin0 : inB L k0 = true) (hin1 : inB L k1 = true) (hin2 : inB L k2 = false) :
    Calls Try.prog 24 #[.pointer (some ⟨p, 0, none⟩), .agg #[.int .u8 o, .int .u8 w, .int .i64 k0, .int .i64 k1, .int .i64 k2, .int .u64 n, .int .u8 l]] W fun e W' => e = .returned (.bool false) ∧ Below W.heap.size W W' := by
  have hg := guard_nd
  have A := At7.new W (.int .u8 o) (.int .u8 w) (.int .i64 k0) (.int .i64 k1) (.int .i64 k2) (.int .u64 n) (.int .u8 l) 57
  go_enter Try.func24, Try.ntmps24
  go_wp2_with fail
  go_region_held3 (fun w' => w'.cell? ⟨W.heap.size, 0, none⟩ = some (.int .u8 o) ∧ w'.cell? ⟨W.heap.size, 1, none⟩ = some (.int .u8 w) ∧ w'.cell? ⟨W.heap.size, 2, none⟩ = some (.int .i64 k0) ∧ w'.cell? ⟨W.heap.size, 3, none⟩ = some (.int .i64 k1) ∧ w'.cell? ⟨W.heap.size, 4, none⟩ = some (.int .i64 k2) ∧ w'.cell? ⟨W.heap.size, 5, none⟩ = some (.int .u64 n) ∧ w'.cell? ⟨W.heap.size, 6, none⟩ = some (.int .u8 l))
    (first | exact A.drew | exact A.drew.keep hb)
    (first | (go_at_call 48; refine (HO.out _).mono ?_; rintro e w1 ⟨rfl, hb⟩))
  replace A := A.drew.keep hb
  have la := A.lt
  replace S := (S.alloc _).drew.call hb
  have hbel := bel_call (bel_alloc (Below.refl _ _) _).drew hb
  obtain ⟨a, c, rfl⟩ := S.shape
  have c0 := S.c0
  have A' := A
  unfold At7 at A'
  go_wp2_with (go_at_call 49; refine (HK.out _).mono ?_; rintro e w2 ⟨rfl, rfl⟩)
  refine wp_loop_rounds 3 ?_
  rw [rounds_succ]
  go_wp2_with (go_at_call 28; refine (has_any p a L c k0 _ c0).mono ?_; rw [hin0]; rintro e w2 ⟨rfl, rfl⟩)
  rw [rounds_succ]
  go_wp2_with (go_at_call 28; refine (has_any p a L c k1 _ c0).mono ?_; rw [hin1]; rintro e w2 ⟨rfl, rfl⟩)
  rw [rounds_succ]
  go_wp2_with (go_at_call 28; refine (has_any p a L c k2 _ c0).mono ?_; rw [hin2]; rintro e w2 ⟨rfl, rfl⟩)
  go_ret
  exact ⟨rfl, hbel⟩
end Tm
end Go.Proofs.Ytigjbngedbbdbaa

namespace Go.Proofs.Ytigjbngedbbdbaa
open Go.RowKit Bv
namespace Tm
set_option maxHeartbeats 1000000
set_option maxRecDepth 100000

theorem may_const_t (w n l : Nat) (k0 k1 k2 : Int) (B p m : Nat) (sv : Value) (L : List Nd) (W : World) (oa : Array Value) (S : StoreAt B W p m sv L)
    (HO : Hid (∀ W : World, Calls Try.prog 48 #[.agg #[.int .u8 1, .int .u8 w, .int .i64 k0, .int .i64 k1, .int .i64 k2, .int .u64 n, .int .u8 l]] W fun e W' => e = .returned (.agg oa) ∧ Below W.heap.size W W'))
    (hq : ∀ W : World, (binOp .neq 57 (.agg #[.int .u8 1, .int .u8 w, .int .i64 k0, .int .i64 k1, .int .i64 k2, .int .u64 n, .int .u8 l]) (.agg oa)).run Try.prog W = .ok (.bool false) W)
    (HK : Hid (∀ W : World, Calls Try.prog 49 #[.int .u8 1] W fun e W' => e = .returned (.int .i64 0) ∧ W = W')) (hm : mayB w n = true) :
    Calls Try.prog 24 #[.pointer (some ⟨p, 0, none⟩), .agg #[.int .u8 1, .int .u8 w, .int .i64 k0, .int .i64 k1, .int .i64 k2, .int .u64 n, .int .u8 l]] W fun e W' => e = .returned (.bool true) ∧ Below W.heap.size W W' := by
  have hg := guard_nd
  have A := At7.new W (.int .u8 1) (.int .u8 w) (.int .i64 k0) (.int .i64 k1) (.int .i64 k2) (.int .u64 n) (.int .u8 l) 57
  go_enter Try.func24, Try.ntmps24
  go_wp2_with fail
  go_region_held3 (fun w' => w'.cell? ⟨W.heap.size, 0, none⟩ = some (.int .u8 1) ∧ w'.cell? ⟨W.heap.size, 1, none⟩ = some (.int .u8 w) ∧ w'.cell? ⟨W.heap.size, 2, none⟩ = some (.int .i64 k0) ∧ w'.cell? ⟨W.heap.size, 3, none⟩ = some (.int .i64 k1) ∧ w'.cell? ⟨W.heap.size, 4, none⟩ = some (.int .i64 k2) ∧ w'.cell? ⟨W.heap.size, 5, none⟩ = some (.int .u64 n) ∧ w'.cell? ⟨W.heap.size, 6, none⟩ = some (.int .u8 l))
    (first | exact A.drew | exact A.drew.keep hb)
    (first | (go_at_call 48; refine (HO.out _).mono ?_; rintro e w1 ⟨rfl, hb⟩))
  replace A := A.drew.keep hb
  have la := A.lt
  replace S := (S.alloc _).drew.call hb
  have hbel := bel_call (bel_alloc (Below.refl _ _) _).drew hb
  obtain ⟨a, c, rfl⟩ := S.shape
  have c0 := S.c0
  have A' := A
  unfold At7 at A'
  go_wp2_with (go_at_call 49; refine (HK.out _).mono ?_; rintro e w2 ⟨rfl, rfl⟩)
  refine wp_loop_rounds 1 ?_
  rw [rounds_succ]
  go_wp2_with (go_at_call 50; refine (may_any w n _).mono ?_; rw [hm]; rintro e w2 ⟨rfl, hb2⟩; obtain ⟨hc2, hf2⟩ := bcell hb2)
  go_ret
  exact ⟨rfl, bel_call hbel hb2⟩

theorem may_const_f (w n l : Nat) (k0 k1 k2 : Int) (B p m : Nat) (sv : Value) (L : List Nd) (W : World) (oa : Array Value) (S : StoreAt B W p m sv L)
    (HO : Hid (∀ W : World, Calls Try.prog 48 #[.agg #[.int .u8 1, .int .u8 w, .int .i64 k0, .int .i64 k1, .int .i64 k2, .int .u64 n, .int .u8 l]] W fun e W' => e = .returned (.agg oa) ∧ Below W.heap.size W W'))
    (hq : ∀ W : World, (binOp .neq 57 (.agg #[.int .u8 1, .int .u8 w, .int .i64 k0, .int .i64 k1, .int .i64 k2, .int .u64 n, .int .u8 l]) (.agg oa)).run Try.prog W = .ok (.bool false) W)
    (HK : Hid (∀ W : World, Calls Try.prog 49 #[.int .u8 1] W fun e W' => e = .returned (.int .i64 0) ∧ W = W')) (hm : mayB w n = false) :
    Calls Try.prog 24 #[.pointer (some ⟨p, 0, none⟩), .agg #[.int .u8 1, .int .u8 w, .int .i64 k0, .int .i64 k1, .int .i64 k2, .int .u64 n, .int .u8 l]] W fun e W' => e = .returned (.bool false) ∧ Below W.heap.size W W' := by
  have hg := guard_nd
  have A := At7.new W (.int .u8 1) (.int .u8 w) (.int .i64 k0) (.int .i64 k1) (.int .i64 k2) (.int .u64 n) (.int .u8 l) 57
  go_enter Try.func24, Try.ntmps24
  go_wp2_with fail
  go_region_held3 (fun w' => w'.cell? ⟨W.heap.size, 0, none⟩ = some (.int .u8 1) ∧ w'.cell? ⟨W.heap.size, 1, none⟩ = some (.int .u8 w) ∧ w'.cell? ⟨W.heap.size, 2, none⟩ = some (.int .i64 k0) ∧ w'.cell? ⟨W.heap.size, 3, none⟩ = some (.int .i64 k1) ∧ w'.cell? ⟨W.heap.size, 4, none⟩ = some (.int .i64 k2) ∧ w'.cell? ⟨W.heap.size, 5, none⟩ = some (.int .u64 n) ∧ w'.cell? ⟨W.heap.size, 6, none⟩ = some (.int .u8 l))
    (first | exact A.drew | exact A.drew.keep hb)
    (first | (go_at_call 48; refine (HO.out _).mono ?_; rintro e w1 ⟨rfl, hb⟩))
  replace A := A.drew.keep hb
  have la := A.lt
  replace S := (S.alloc _).drew.call hb
  have hbel := bel_call (bel_alloc (Below.refl _ _) _).drew hb
  obtain ⟨a, c, rfl⟩ := S.shape
  have c0 := S.c0
  have A' := A
  unfold At7 at A'
  go_wp2_with (go_at_call 49; refine (HK.out _).mono ?_; rintro e w2 ⟨rfl, rfl⟩)
  refine wp_loop_rounds 1 ?_
  rw [rounds_succ]
  go_wp2_with (go_at_call 50; refine (may_any w n _).mono ?_; rw [hm]; rintro e w2 ⟨rfl, hb2⟩; obtain ⟨hc2, hf2⟩ := bcell hb2)
  go_ret
  exact ⟨rfl, bel_call hbel hb2⟩

theorem may_var_t (w n l : Nat) (k0 k1 k2 : Int) (B p m : Nat) (sv : Value) (L : List Nd) (W : World) (oa : Array Value) (S : StoreAt B W p m sv L)
    (HO : Hid (∀ W : World, Calls Try.prog 48 #[.agg #[.int .u8 2, .int .u8 w, .int .i64 k0, .int .i64 k1, .int .i64 k2, .int .u64 n, .int .u8 l]] W fun e W' => e = .returned (.agg oa) ∧ Below W.heap.size W W'))
    (hq : ∀ W : World, (binOp .neq 57 (.agg #[.int .u8 2, .int .u8 w, .int .i64 k0, .int .i64 k1, .int .i64 k2, .int .u64 n, .int .u8 l]) (.agg oa)).run Try.prog W = .ok (.bool false) W)
    (HK : Hid (∀ W : World, Calls Try.prog 49 #[.int .u8 2] W fun e W' => e = .returned (.int .i64 0) ∧ W = W')) (hm : mayB w 0 = true) (d : decide ((n : Int) < 256) = true) :
    Calls Try.prog 24 #[.pointer (some ⟨p, 0, none⟩), .agg #[.int .u8 2, .int .u8 w, .int .i64 k0, .int .i64 k1, .int .i64 k2, .int .u64 n, .int .u8 l]] W fun e W' => e = .returned (.bool true) ∧ Below W.heap.size W W' := by
  have hg := guard_nd
  have A := At7.new W (.int .u8 2) (.int .u8 w) (.int .i64 k0) (.int .i64 k1) (.int .i64 k2) (.int .u64 n) (.int .u8 l) 57
  go_enter Try.func24, Try.ntmps24
  go_wp2_with fail
  go_region_held3 (fun w' => w'.cell? ⟨W.heap.size, 0, none⟩ = some (.int .u8 2) ∧ w'.cell? ⟨W.heap.size, 1, none⟩ = some (.int .u8 w) ∧ w'.cell? ⟨W.heap.size, 2, none⟩ = some (.int .i64 k0) ∧ w'.cell? ⟨W.heap.size, 3, none⟩ = some (.int .i64 k1) ∧ w'.cell? ⟨W.heap.size, 4, none⟩ = some (.int .i64 k2) ∧ w'.cell? ⟨W.heap.size, 5, none⟩ = some (.int .u64 n) ∧ w'.cell? ⟨W.heap.size, 6, none⟩ = some (.int .u8 l))
    (first | exact A.drew | exact A.drew.keep hb)
    (first | (go_at_call 48; refine (HO.out _).mono ?_; rintro e w1 ⟨rfl, hb⟩))
  replace A := A.drew.keep hb
  have la := A.lt
  replace S := (S.alloc _).drew.call hb
  have hbel := bel_call (bel_alloc (Below.refl _ _) _).drew hb
  obtain ⟨a, c, rfl⟩ := S.shape
  have c0 := S.c0
  have A' := A
  unfold At7 at A'
  go_wp2_with (go_at_call 49; refine (HK.out _).mono ?_; rintro e w2 ⟨rfl, rfl⟩)
  refine wp_loop_rounds 1 ?_
  rw [rounds_succ]
  go_wp2_with (go_at_call 50; refine (may_any w 0 _).mono ?_; rw [hm]; rintro e w2 ⟨rfl, hb2⟩; obtain ⟨hc2, hf2⟩ := bcell hb2)
  go_ret
  exact ⟨rfl, bel_call hbel hb2⟩

theorem may_var_f (w n l : Nat) (k0 k1 k2 : Int) (B p m : Nat) (sv : Value) (L : List Nd) (W : World) (oa : Array Value) (S : StoreAt B W p m sv L)
    (HO : Hid (∀ W : World, Calls Try.prog 48 #[.agg #[.int .u8 2, .int .u8 w, .int .i64 k0, .int .i64 k1, .int .i64 k2, .int .u64 n, .int .u8 l]] W fun e W' => e = .returned (.agg oa) ∧ Below W.heap.size W W'))
    (hq : ∀ W : World, (binOp .neq 57 (.agg #[.int .u8 2, .int .u8 w, .int .i64 k0, .int .i64 k1, .int .i64 k2, .int .u64 n, .int .u8 l]) (.agg oa)).run Try.prog W = .ok (.bool false) W)
    (HK : Hid (∀ W : World, Calls Try.prog 49 #[.int .u8 2] W fun e W' => e = .returned (.int .i64 0) ∧ W = W')) (hm : mayB w 0 = true) (d : decide ((n : Int) < 256) = false) :
    Calls Try.prog 24 #[.pointer (some ⟨p, 0, none⟩), .agg #[.int .u8 2, .int .u8 w, .int .i64 k0, .int .i64 k1, .int .i64 k2, .int .u64 n, .int .u8 l]] W fun e W' => e = .returned (.bool false) ∧ Below W.heap.size W W' := by
  have hg := guard_nd
  have A := At7.new W (.int .u8 2) (.int .u8 w) (.int .i64 k0) (.int .i64 k1) (.int .i64 k2) (.int .u64 n) (.int .u8 l) 57
  go_enter Try.func24, Try.ntmps24
  go_wp2_with fail
  go_region_held3 (fun w' => w'.cell? ⟨W.heap.size, 0, none⟩ = some (.int .u8 2) ∧ w'.cell? ⟨W.heap.size, 1, none⟩ = some (.int .u8 w) ∧ w'.cell? ⟨W.heap.size, 2, none⟩ = some (.int .i64 k0) ∧ w'.cell? ⟨W.heap.size, 3, none⟩ = some (.int .i64 k1) ∧ w'.cell? ⟨W.heap.size, 4, none⟩ = some (.int .i64 k2) ∧ w'.cell? ⟨W.heap.size, 5, none⟩ = some (.int .u64 n) ∧ w'.cell? ⟨W.heap.size, 6, none⟩ = some (.int .u8 l))
    (first | exact A.drew | exact A.drew.keep hb)
    (first | (go_at_call 48; refine (HO.out _).mono ?_; rintro e w1 ⟨rfl, hb⟩))
  replace A := A.drew.keep hb
  have la := A.lt
  replace S := (S.alloc _).drew.call hb
  have hbel := bel_call (bel_alloc (Below.refl _ _) _).drew hb
  obtain ⟨a, c, rfl⟩ := S.shape
  have c0 := S.c0
  have A' := A
  unfold At7 at A'
  go_wp2_with (go_at_call 49; refine (HK.out _).mono ?_; rintro e w2 ⟨rfl, rfl⟩)
  refine wp_loop_rounds 1 ?_
  rw [rounds_succ]
  go_wp2_with (go_at_call 50; refine (may_any w 0 _).mono ?_; rw [hm]; rintro e w2 ⟨rfl, hb2⟩; obtain ⟨hc2, hf2⟩ := bcell hb2)
  go_ret
  exact ⟨rfl, bel_call hbel hb2⟩

theorem may_var_no (w n l : Nat) (k0 k1 k2 : Int) (B p m : Nat) (sv : Value) (L : List Nd) (W : World) (oa : Array Value) (S : StoreAt B W p m sv L)
    (HO : Hid (∀ W : World, Calls Try.prog 48 #[.agg #[.int .u8 2, .int .u8 w, .int .i64 k0, .int .i64 k1, .int .i64 k2, .int .u64 n, .int .u8 l]] W fun e W' => e = .returned (.agg oa) ∧ Below W.heap.size W W'))
    (hq : ∀ W : World, (binOp .neq 57 (.agg #[.int .u8 2, .int .u8 w, .int .i64 k0, .int .i64 k1, .int .i64 k2, .int .u64 n, .int .u8 l]) (.agg oa)).run Try.prog W = .ok (.bool false) W)
    (HK : Hid (∀ W : World, Calls Try.prog 49 #[.int .u8 2] W fun e W' => e = .returned (.int .i64 0) ∧ W = W')) (hm : mayB w 0 = false) :
    Calls Try.prog 24 #[.pointer (some ⟨p, 0, none⟩), .agg #[.int .u8 2, .int .u8 w, .int .i64 k0, .int .i64 k1, .int .i64 k2, .int .u64 n, .int .u8 l]] W fun e W' => e = .returned (.bool false) ∧ Below W.heap.size W W' := by
  have hg := guard_nd
  have A := At7.new W (.int .u8 2) (.int .u8 w) (.int .i64 k0) (.int .i64 k1) (.int .i64 k2) (.int .u64 n) (.int .u8 l) 57
  go_enter Try.func24, Try.ntmps24
  go_wp2_with fail
  go_region_held3 (fun w' => w'.cell? ⟨W.heap.size, 0, none⟩ = some (.int .u8 2) ∧ w'.cell? ⟨W.heap.size, 1, none⟩ = some (.int .u8 w) ∧ w'.cell? ⟨W.heap.size, 2, none⟩ = some (.int .i64 k0) ∧ w'.cell? ⟨W.heap.size, 3, none⟩ = some (.int .i64 k1) ∧ w'.cell? ⟨W.heap.size, 4, none⟩ = some (.int .i64 k2) ∧ w'.cell? ⟨W.heap.size, 5, none⟩ = some (.int .u64 n) ∧ w'.cell? ⟨W.heap.size, 6, none⟩ = some (.int .u8 l))
    (first | exact A.drew | exact A.drew.keep hb)
    (first | (go_at_call 48; refine (HO.out _).mono ?_; rintro e w1 ⟨rfl, hb⟩))
  replace A := A.drew.keep hb
  have la := A.lt
  replace S := (S.alloc _).drew.call hb
  have hbel := bel_call (bel_alloc (Below.refl _ _) _).drew hb
  obtain ⟨a, c, rfl⟩ := S.shape
  have c0 := S.c0
  have A' := A
  unfold At7 at A'
  go_wp2_with (go_at_call 49; refine (HK.out _).mono ?_; rintro e w2 ⟨rfl, rfl⟩)
  refine wp_loop_rounds 1 ?_
  rw [rounds_succ]
  go_wp2_with (go_at_call 50; refine (may_any w 0 _).mono ?_; rw [hm]; rintro e w2 ⟨rfl, hb2⟩; obtain ⟨hc2, hf2⟩ := bcell hb2)
  go_ret
  exact ⟨rfl, bel_call hbel hb2⟩
end Tm
end Go.Proofs.Ytigjbngedbbdbaa
