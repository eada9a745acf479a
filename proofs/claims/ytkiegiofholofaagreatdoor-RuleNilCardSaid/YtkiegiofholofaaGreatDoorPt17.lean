/-
Rule 1 of layer rule, of whatever node of a store that was made, as a fact on one call.
Plain facts for layer rule: what rule 8 makes, case by case.
Rule 8 of layer rule, of an Extract of fewer bits than all, as facts on one call.
-/
import Derived.Test.YtkiegiofholofaaGreatDoorPt11
import Derived.Test.YtkiegiofholofaaGreatDoorPt16
import Derived.Test.YtkiegiofholofaaGreatDoorPt12
import Derived.Test.YtkiegiofholofaaGreatDoorPt06
import Derived.Test.YtkiegiofholofaaGreatDoorPt02
import Derived.BigRegion
import Derived.BigQuiet
import Derived.Lib.Hide
import Derived.Deep.RegionHeld3
namespace Go.Proofs.YtkiegiofholofaaGreatDoor
open Go.RowKit Go.Maps Bv Tm Kn
namespace Ru
set_option maxHeartbeats 1000000
set_option maxRecDepth 100000

theorem worthC_lt {x y0 y1 : Nd} (h : x.w ≤ 64) : worthC x y0 y1 < 18446744073709551616 := by
  have h2 : 2 ^ x.w ≤ 18446744073709551616 := by have := Nat.pow_le_pow_right (n := 2) (by decide) h; simpa using this
  unfold worthC
  repeat' split
  all_goals exact Nat.lt_of_lt_of_le (low_lt _ _) h2

/-- A kid that is a Const. -/
theorem kd_may {L : List Nd} (g : Gd L) (h : MayL L) {k : Nat} {x : Nd} (hx : L[k]? = some x) {i : Nat} (hi : i < kc x.o) (h1 : (kd L x i).o = 1) : mayB (kd L x i).w (kd L x i).n = true :=
  mayL_const h (kd_at g hx hi).2.2 h1

theorem ru1_any {B p m b q k : Nat} {sv : Value} {L : List Nd} {x : Nd} {W : World} (S : StoreAt B W p m sv L) (hB : B ≤ W.heap.size) (hM : MayL L) (hx : L[k]? = some x) (hkc : ¬ kc x.o = 0) (A : Apart b q p m sv) (C : ClosAt W b q p k x (kd L x 0) (kd L x 1) (kd L x 2)) :
    Calls Tryz.prog 78 #[.pointer (some ⟨b, 0, none⟩)] W (Did B p m sv L (ou1 x (kd L x 0) (kd L x 1)) W) := by
  have g := S.good
  by_cases ho : x.o = 25
  · exact ru1_ite C (kd_ok g x 0) ho
  have hop := mayN_op (hM k x hx)
  have hxw := g.w x (List.mem_of_getElem? hx)
  have hn1 : kc x.o = 1 ∨ kc x.o = 2 := by unfold kc at hkc ⊢; split <;> (try split) <;> (try split) <;> simp_all
  have k0 : 0 < kc x.o := by omega
  have w0 : widAt L x.k0 = (kd L x 0).w := widAt_kd g hx (i := 0) k0
  refine ru1_all S hB (g.ok x (List.mem_of_getElem? hx)) A C ho hop _ rfl hn1 (worthC x (kd L x 0) (kd L x 1)) (worthC_lt hxw.2) ?_ (fun _ _ => rfl)
  intro h0 h1 w hb
  have m0 := kd_may g hM hx k0 h0
  have CS := C.s.keep hb
  have hok := g.ok x (List.mem_of_getElem? hx)
  by_cases o3 : x.o = 3 ∨ x.o = 4
  · have e : worthC x (kd L x 0) (kd L x 1) = low (kd L x 0).w (numU x.o (kd L x 0).n) := by unfold worthC; rw [if_pos o3, ← w0, wd_un hM hx o3]
    have ew : x.w = (kd L x 0).w := by rw [← w0, wd_un hM hx o3]
    rw [e, ew]
    rcases o3 with o3 | o3
    · rw [← ew]
      refine work_u3 CS _ o3 (fun v => ?_)
      have := unary_ok 3 _ _ (.inl rfl) m0 v
      rw [← ew] at this
      rw [o3, ← ew]
      exact this
    · rw [← ew]
      refine work_u4 CS _ o3 (fun v => ?_)
      have := unary_ok 4 _ _ (.inr rfl) m0 v
      rw [← ew] at this
      rw [o3, ← ew]
      exact this
  by_cases o22 : x.o = 22
  · have hc := wd_cut hM hx o22
    have e : worthC x (kd L x 0) (kd L x 1) = low x.w ((kd L x 0).n / 2 ^ x.l) := by unfold worthC; rw [if_neg o3, if_pos o22]
    rw [e]
    exact work_x CS _ hok.l hok.w o22 (fun v => extract_ok _ _ _ _ m0 hxw.1 (by omega) v)
  by_cases o23 : x.o = 23 ∨ x.o = 24
  · have hc := wd_wide hM hx o23
    have e : worthC x (kd L x 0) (kd L x 1) = low x.w (numE x.o (kd L x 0).w (kd L x 0).n) := by unfold worthC; rw [if_neg o3, if_neg o22, if_pos o23]
    rw [e]
    rcases o23 with o23 | o23
    · rw [o23]
      exact work_e23 CS _ hok.l hok.w o23 (fun v => extend_ok 23 _ _ _ (.inl rfl) m0 (by omega) hxw.2 v)
    · rw [o23]
      exact work_e24 CS _ hok.l hok.w o23 (fun v => extend_ok 24 _ _ _ (.inr rfl) m0 (by omega) hxw.2 v)
  have k2 : kc x.o = 2 := by
    rcases hn1 with c | c
    · unfold kc at c; repeat' split at c
      all_goals omega
    · exact c
  have o5 : 5 ≤ x.o ∧ x.o ≤ 21 := by unfold kc at k2; repeat' split at k2
                                     all_goals omega
  have w1 : widAt L x.k1 = (kd L x 1).w := widAt_kd g hx (i := 1) (by omega)
  have m1 := kd_may g hM hx (i := 1) (by omega) (by rcases h1 with c | c; omega; exact c)
  have hwB : widthB x.o (kd L x 0).w (kd L x 1).w = x.w := by
    rw [← w0, ← w1]
    unfold widthB
    by_cases c1 : 5 ≤ x.o ∧ x.o ≤ 17
    · have := wd_bin hM hx c1
      rw [if_pos c1, this.1, this.2, if_pos rfl]
    · rw [if_neg c1]
      by_cases c2 : 18 ≤ x.o ∧ x.o ≤ 20
      · have := wd_cmp hM hx c2
        rw [if_pos c2, this.2.1, if_pos rfl, this.1]
      · have := wd_cat hM hx (by omega)
        rw [if_neg c2, if_pos (by omega), if_pos (by omega), this.1]
  have e : worthC x (kd L x 0) (kd L x 1) = low x.w (numB x.o (kd L x 0).w (kd L x 1).w (kd L x 0).n (kd L x 1).n) := by unfold worthC; rw [if_neg o3, if_neg o22, if_neg o23]
  rw [e]
  refine work_b CS _ (by omega) (fun v => ?_)
  have := binary_ok x.o _ _ _ _ m0 m1 (by rw [hwB]; omega) v
  rw [hwB] at this
  exact this
end Ru
end Go.Proofs.YtkiegiofholofaaGreatDoor

namespace Go.Proofs.YtkiegiofholofaaGreatDoor
open Bv Tm Kn
namespace Ru
set_option maxHeartbeats 400000

theorem ouP_22 {x y0 : Nd} {c b : Nat} (hx : x.o = 22) (h : y0.o = 22) : ouP x y0 c b = .make ⟨22, x.w, y0.k0, x.k1, x.k2, x.n, x.l + y0.l⟩ := by
  unfold ouP; rw [if_pos h, hx]
theorem ouP_21a {x y0 : Nd} {c b : Nat} (hx : x.o = 22) (h : y0.o = 21) (h1 : x.l + x.w ≤ b) : ouP x y0 c b = .make ⟨22, x.w, y0.k1, x.k1, x.k2, x.n, x.l⟩ := by
  unfold ouP; rw [if_neg (by omega), if_pos h, if_pos h1, hx]
theorem ouP_21b {x y0 : Nd} {c b : Nat} (hx : x.o = 22) (h : y0.o = 21) (h1 : ¬ x.l + x.w ≤ b) (h2 : b ≤ x.l) : ouP x y0 c b = .make ⟨22, x.w, y0.k0, x.k1, x.k2, x.n, x.l - b⟩ := by
  unfold ouP; rw [if_neg (by omega), if_pos h, if_neg h1, if_pos h2, hx]
theorem ouP_21c {x y0 : Nd} {c b : Nat} (h : y0.o = 21) (h1 : ¬ x.l + x.w ≤ b) (h2 : ¬ b ≤ x.l) : ouP x y0 c b = .no := by
  unfold ouP; rw [if_neg (by omega), if_pos h, if_neg h1, if_neg h2]
theorem ouP_23a {x y0 : Nd} {c b : Nat} (h : y0.o = 23 ∨ y0.o = 24) (h1 : c < x.l + x.w) : ouP x y0 c b = .no := by
  unfold ouP; rw [if_neg (by omega), if_neg (by omega), if_pos h, if_pos h1]
theorem ouP_23b {x y0 : Nd} {c b : Nat} (hx : x.o = 22) (h : y0.o = 23 ∨ y0.o = 24) (h1 : ¬ c < x.l + x.w) : ouP x y0 c b = .make ⟨22, x.w, y0.k0, x.k1, x.k2, x.n, x.l⟩ := by
  unfold ouP; rw [if_neg (by omega), if_neg (by omega), if_pos h, if_neg h1, hx]
theorem ouP_no {x y0 : Nd} {c b : Nat} (h : ¬ y0.o = 22 ∧ ¬ y0.o = 21 ∧ ¬ y0.o = 23 ∧ ¬ y0.o = 24) : ouP x y0 c b = .no := by
  unfold ouP; rw [if_neg (by omega), if_neg (by omega), if_neg (by omega)]
theorem ou8_not {L : List Nd} {x y0 : Nd} (h : ¬ (x.o = 22 ∨ x.o = 23 ∨ x.o = 24)) : ou8 L x y0 = .no := by unfold ou8; rw [if_pos h]
theorem ou8_same {L : List Nd} {x y0 : Nd} (h : x.o = 22 ∨ x.o = 23 ∨ x.o = 24) (h1 : x.w = y0.w) : ou8 L x y0 = .num x.k0 := by unfold ou8; rw [if_neg (by omega), if_pos h1]
theorem ou8_part {L : List Nd} {x y0 : Nd} (h : x.o = 22) (h1 : ¬ x.w = y0.w) : ou8 L x y0 = ouP x y0 (widAt L y0.k0) (widAt L y0.k1) := by unfold ou8; rw [if_neg (by omega), if_neg h1, if_pos h]
theorem ou8_ext {L : List Nd} {x y0 : Nd} (h : x.o = 23 ∨ x.o = 24) (h1 : ¬ x.w = y0.w) (h2 : x.o = y0.o) : ou8 L x y0 = .make ⟨x.o, x.w, y0.k0, x.k1, x.k2, x.n, x.l⟩ := by unfold ou8; rw [if_neg (by omega), if_neg h1, if_neg (by omega), if_pos h2]
theorem ou8_none {L : List Nd} {x y0 : Nd} (h : x.o = 23 ∨ x.o = 24) (h1 : ¬ x.w = y0.w) (h2 : ¬ x.o = y0.o) : ou8 L x y0 = .no := by unfold ou8; rw [if_neg (by omega), if_neg h1, if_neg (by omega), if_neg h2]
end Ru
end Go.Proofs.YtkiegiofholofaaGreatDoor

namespace Go.Proofs.YtkiegiofholofaaGreatDoor
open Go.RowKit Go.Maps Bv Tm Kn
namespace Ru
set_option maxHeartbeats 8000000
set_option maxRecDepth 100000

theorem two_new {W w1 : World} {o1 o2 : Obj} {q : Nat} (lq : q < W.heap.size) (hb : Below ((W.alloc o1).alloc o2).drew.heap.size ((W.alloc o1).alloc o2).drew w1) :
    (∀ j, w1.cell? ⟨W.heap.size, j, none⟩ = ((W.alloc o1).alloc o2).drew.cell? ⟨W.heap.size, j, none⟩) ∧ (∀ j, w1.cell? ⟨W.heap.size + 1, j, none⟩ = ((W.alloc o1).alloc o2).drew.cell? ⟨W.heap.size + 1, j, none⟩) ∧
    (∀ j, w1.frozen? ⟨W.heap.size, j, none⟩ = ((W.alloc o1).alloc o2).drew.frozen? ⟨W.heap.size, j, none⟩) ∧ (∀ j, w1.frozen? ⟨W.heap.size + 1, j, none⟩ = ((W.alloc o1).alloc o2).drew.frozen? ⟨W.heap.size + 1, j, none⟩) ∧
    w1.cell? ⟨q, 0, none⟩ = ((W.alloc o1).alloc o2).drew.cell? ⟨q, 0, none⟩ ∧ W.heap.size < w1.heap.size ∧ W.heap.size + 1 < w1.heap.size ∧ q < w1.heap.size ∧ Below W.heap.size W w1 := by
  have hs : ((W.alloc o1).alloc o2).drew.heap.size = W.heap.size + 1 + 1 := by simp [World.drew]
  have sz := hb.size
  refine ⟨fun j => hb.cell (p := ⟨W.heap.size, j, none⟩) (by rw [hs]; simp only; omega), fun j => hb.cell (p := ⟨W.heap.size + 1, j, none⟩) (by rw [hs]; simp only; omega), fun j => hb.frozen (p := ⟨W.heap.size, j, none⟩) (by rw [hs]; simp only; omega), fun j => hb.frozen (p := ⟨W.heap.size + 1, j, none⟩) (by rw [hs]; simp only; omega), hb.cell (p := ⟨q, 0, none⟩) (by rw [hs]; simp only; omega), by omega, by omega, by omega, ?_⟩
  exact bel_call ((bel_alloc (bel_alloc (Below.refl _ _) _) _).drew) hb
theorem part_22 {B p m q k : Nat} {sv : Value} {L : List Nd} {x y0 y1 y2 : Nd} {W : World} (S : StoreAt B W p m sv L) (hB : B ≤ W.heap.size) (hx : x.Ok) (hy : y0.Ok) (nq : ¬ foot p m sv q) (s : SiteAt W q p k x y0 y1 y2) (ho : x.o = 22) (hl : x.l + x.w ≤ 64) (c b : Nat) (h0 : y0.o = 22) (h1 : y0.l ≤ 64) :
    Calls Tryz.prog 93 #[.pointer (some ⟨q, 0, none⟩)] W (Did B p m sv L (ouP x y0 c b) W) := by
  have NQ := Lib.hid nq
  have NW : Hid (¬ foot p m sv W.heap.size) := Lib.hid (fun c => Nat.lt_irrefl _ (foot_lt S c))
  have NV : Hid (¬ foot p m sv (W.heap.size + 1)) := Lib.hid (fun c => by have := foot_lt S c; omega)
  have HOU := Lib.hid (ouP_22 (x := x) (c := c) (b := b) ho h0)
  obtain ⟨nl, hnl⟩ : ∃ nl, nl = x.l + y0.l := ⟨_, rfl⟩
  rw [← hnl] at HOU
  have e2 : IntKind.u8.wrap (((x.l : Nat) : Int) + ((y0.l : Nat) : Int)) = ((nl : Nat) : Int) := by rw [IntKind.wrap_u8]; omega
  have HM : Hid (∀ w, Below W.heap.size W w → Calls Tryz.prog 17 #[.pointer (some ⟨p, 0, none⟩), .agg #[.int .u8 22, .int .u8 ((x.w : Nat) : Int), .int .i64 y0.k0, .int .i64 x.k1, .int .i64 x.k2, .int .u64 ((x.n : Nat) : Int), .int .u8 ((nl : Nat) : Int)]] w (fun e w' => DidL B p m sv (mk L ⟨22, x.w, y0.k0, x.k1, x.k2, x.n, nl⟩).1 (((mk L ⟨22, x.w, y0.k0, x.k1, x.k2, x.n, nl⟩).2.1 : Nat) : Int) (((mk L ⟨22, x.w, y0.k0, x.k1, x.k2, x.n, nl⟩).2.2 : Nat) : Int) W e w' ∧ Kept (foot p m sv) w w')) :=
    Lib.hid (fun w hb => make_did S hB hb (y := ⟨22, x.w, y0.k0, x.k1, x.k2, x.n, nl⟩) ⟨by simp, hx.w, hy.k0, hx.k1, hx.k2, hx.n, by simp only; omega⟩)
  have e1 : IntKind.u8.wrap (((x.l : Nat) : Int) + ((x.w : Nat) : Int)) = ((x.l : Nat) : Int) + ((x.w : Nat) : Int) := by rw [IntKind.wrap_u8]; omega
  have lq := s.1
  have c0 := s.2 0 _ rfl
  have c2 := s.2 2 _ rfl
  have c3 := s.2 3 _ rfl
  have c4 := s.2 4 _ rfl
  have c5 := s.2 5 _ rfl
  have c6 := s.2 6 _ rfl
  have c7 := s.2 7 _ rfl
  have c8 := s.2 8 _ rfl
  have c9 := s.2 9 _ rfl
  have c10 := s.2 10 _ rfl
  have c11 := s.2 11 _ rfl
  have c12 := s.2 12 _ rfl
  have c13 := s.2 13 _ rfl
  have c14 := s.2 14 _ rfl
  have c15 := s.2 15 _ rfl
  rw [ho] at c2
  rw [h0] at c9
  simp only [Int.cast_ofNat_Int] at c2 c9
  clear s S hB hx hy nq
  clear hnl
  have ne2 : ¬ W.heap.size = q := by omega
  have ne4 : ¬ W.heap.size + 1 = q := by omega
  have lq1 : q < W.heap.size + 1 := by omega
  have lq2 : q < W.heap.size + 1 + 1 := by omega
  go_enter Tryz.func93, Tryz.ntmps93
  go_wp2_with fail
  go_region
  all_goals go_wp2_with (go_at_call 17; with_reducible refine (HM.out _ (by repeat (first | exact Below.refl _ _ | exact HB1.out | (refine bel_alloc ?_ _) | (refine Below.drew ?_) | (refine bel_drewN ?_ _) | (refine Below.setCell ?_ (by first | (simp; done) | exact Nat.le_refl _ | exact HB1.out.size) _)))).mono ?_; rintro e w2 ⟨⟨rfl, hd⟩, hk⟩; have HD := Lib.hid hd; clear hd hk)
  all_goals (try go_region)
  all_goals (try go_wp2_with (go_at_call 17; with_reducible refine (HM.out _ (by repeat (first | exact Below.refl _ _ | exact HB1.out | (refine bel_alloc ?_ _) | (refine Below.drew ?_) | (refine bel_drewN ?_ _) | (refine Below.setCell ?_ (by first | (simp; done) | exact Nat.le_refl _ | exact HB1.out.size) _)))).mono ?_; rintro e w2 ⟨⟨rfl, hd⟩, hk⟩; have HD := Lib.hid hd; clear hd hk))
  all_goals (try go_region_held3 (fun w' => w'.cell? ⟨q, 0, none⟩ = some (.pointer (some ⟨p, 0, none⟩)) ∧ w'.cell? ⟨W.heap.size, 0, none⟩ = some (.int .u8 22) ∧ w'.cell? ⟨W.heap.size, 1, none⟩ = some (.int .u8 ((x.w : Nat) : Int)) ∧ w'.cell? ⟨W.heap.size, 2, none⟩ = some (.int .i64 y0.k0) ∧ w'.cell? ⟨W.heap.size, 3, none⟩ = some (.int .i64 x.k1) ∧ w'.cell? ⟨W.heap.size, 4, none⟩ = some (.int .i64 x.k2) ∧ w'.cell? ⟨W.heap.size, 5, none⟩ = some (.int .u64 ((x.n : Nat) : Int)) ∧ w'.cell? ⟨W.heap.size, 6, none⟩ = some (.int .u8 ((nl : Nat) : Int))) (first | (refine ⟨?_, ?_, ?_, ?_, ?_, ?_, ?_, ?_⟩ <;> go_simp)) (first | (go_at_call 17; with_reducible refine (HM.out _ (by repeat (first | exact Below.refl _ _ | exact HB1.out | (refine bel_alloc ?_ _) | (refine Below.drew ?_) | (refine bel_drewN ?_ _) | (refine Below.setCell ?_ (by first | (simp; done) | exact Nat.le_refl _ | exact HB1.out.size) _)))).mono ?_; rintro e w2 ⟨⟨rfl, hd⟩, hk⟩; have HD := Lib.hid hd; have k0 := hk.cell (x := ⟨q, 0, none⟩) (by first | (simp; done) | (simp; omega) | omega) NQ.out; have k1 := hk.cell (x := ⟨W.heap.size, 0, none⟩) (by first | (simp; done) | (simp; omega) | omega) NW.out; have k2 := hk.cell (x := ⟨W.heap.size, 1, none⟩) (by first | (simp; done) | (simp; omega) | omega) NW.out; have k3 := hk.cell (x := ⟨W.heap.size, 2, none⟩) (by first | (simp; done) | (simp; omega) | omega) NW.out; have k4 := hk.cell (x := ⟨W.heap.size, 3, none⟩) (by first | (simp; done) | (simp; omega) | omega) NW.out; have k5 := hk.cell (x := ⟨W.heap.size, 4, none⟩) (by first | (simp; done) | (simp; omega) | omega) NW.out; have k6 := hk.cell (x := ⟨W.heap.size, 5, none⟩) (by first | (simp; done) | (simp; omega) | omega) NW.out; have k7 := hk.cell (x := ⟨W.heap.size, 6, none⟩) (by first | (simp; done) | (simp; omega) | omega) NW.out; clear hd hk)))
  all_goals (try go_region_held3 (fun w' => w'.cell? ⟨q, 0, none⟩ = some (.pointer (some ⟨p, 0, none⟩)) ∧ w'.cell? ⟨W.heap.size + 1, 0, none⟩ = some (.int .u8 22) ∧ w'.cell? ⟨W.heap.size + 1, 1, none⟩ = some (.int .u8 ((x.w : Nat) : Int)) ∧ w'.cell? ⟨W.heap.size + 1, 2, none⟩ = some (.int .i64 y0.k0) ∧ w'.cell? ⟨W.heap.size + 1, 3, none⟩ = some (.int .i64 x.k1) ∧ w'.cell? ⟨W.heap.size + 1, 4, none⟩ = some (.int .i64 x.k2) ∧ w'.cell? ⟨W.heap.size + 1, 5, none⟩ = some (.int .u64 ((x.n : Nat) : Int)) ∧ w'.cell? ⟨W.heap.size + 1, 6, none⟩ = some (.int .u8 ((nl : Nat) : Int))) (first | (refine ⟨?_, ?_, ?_, ?_, ?_, ?_, ?_, ?_⟩ <;> go_simp)) (first | (go_at_call 17; with_reducible refine (HM.out _ (by repeat (first | exact Below.refl _ _ | exact HB1.out | (refine bel_alloc ?_ _) | (refine Below.drew ?_) | (refine bel_drewN ?_ _) | (refine Below.setCell ?_ (by first | (simp; done) | exact Nat.le_refl _ | exact HB1.out.size) _)))).mono ?_; rintro e w2 ⟨⟨rfl, hd⟩, hk⟩; have HD := Lib.hid hd; have k0 := hk.cell (x := ⟨q, 0, none⟩) (by first | (simp; done) | (simp; omega) | omega) NQ.out; have k1 := hk.cell (x := ⟨W.heap.size + 1, 0, none⟩) (by first | (simp; done) | (simp; omega) | omega) NV.out; have k2 := hk.cell (x := ⟨W.heap.size + 1, 1, none⟩) (by first | (simp; done) | (simp; omega) | omega) NV.out; have k3 := hk.cell (x := ⟨W.heap.size + 1, 2, none⟩) (by first | (simp; done) | (simp; omega) | omega) NV.out; have k4 := hk.cell (x := ⟨W.heap.size + 1, 3, none⟩) (by first | (simp; done) | (simp; omega) | omega) NV.out; have k5 := hk.cell (x := ⟨W.heap.size + 1, 4, none⟩) (by first | (simp; done) | (simp; omega) | omega) NV.out; have k6 := hk.cell (x := ⟨W.heap.size + 1, 5, none⟩) (by first | (simp; done) | (simp; omega) | omega) NV.out; have k7 := hk.cell (x := ⟨W.heap.size + 1, 6, none⟩) (by first | (simp; done) | (simp; omega) | omega) NV.out; clear hd hk)))
  all_goals (try go_wp2_with fail)
  all_goals (refine bodyPost_ret (v := _) (by simp [results, Tryz.results93, go_sem]) rfl (did_make HOU.out ⟨rfl, HD.out⟩))
end Ru
end Go.Proofs.YtkiegiofholofaaGreatDoor
