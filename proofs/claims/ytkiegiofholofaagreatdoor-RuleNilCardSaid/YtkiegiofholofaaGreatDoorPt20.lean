/-
Rule 8 of layer rule, of whatever node of a store that was made, as a fact on one call.
Rule 3 of layer rule, as a fact on one call.
-/
import Derived.Test.YtkiegiofholofaaGreatDoorPt18
import Derived.Test.YtkiegiofholofaaGreatDoorPt19
import Derived.Test.YtkiegiofholofaaGreatDoorPt12
import Derived.Test.YtkiegiofholofaaGreatDoorPt10
import Derived.BigRegion
import Derived.BigQuiet
import Derived.Lib.Hide
import Derived.Deep.RegionHeld3
namespace Go.Proofs.YtkiegiofholofaaGreatDoor
open Go.RowKit Go.Maps Bv Tm Kn
namespace Ru
set_option maxHeartbeats 1000000
set_option maxRecDepth 100000

theorem didL_behind {B p m : Nat} {sv : Value} {L1 : List Nd} {a er : Int} {W w : World} {e : Ending} {w' : World} (hb : Below W.heap.size W w) (h : DidL B p m sv L1 a er w e w') : DidL B p m sv L1 a er W e w' := by
  obtain ⟨he, v, S', K, hv⟩ := h
  refine ⟨he, v, S', (Kept.ofBelow hb _).trans K, ?_⟩
  rcases hv with hv | ⟨g, hg, hv⟩
  · exact .inl hv
  · exact .inr ⟨g, Nat.le_trans hb.size hg, hv⟩
theorem did_behind {B p m : Nat} {sv : Value} {L : List Nd} {o : Out} {W w : World} {e : Ending} {w' : World} (hb : Below W.heap.size W w) (h : Did B p m sv L o w e w') : Did B p m sv L o W e w' := by
  cases o with
  | no => exact ⟨h.1, bel_call hb h.2⟩
  | num i => exact ⟨h.1, bel_call hb h.2⟩
  | make y => exact didL_behind hb h
  | two v i =>
    unfold Did at h ⊢
    simp only at h ⊢
    split at h
    · rename_i c; rw [if_pos c]; exact didL_behind hb h
    · rename_i c; rw [if_neg c]; exact didL_behind hb h
theorem did_tuple {B p m : Nat} {sv : Value} {L : List Nd} {o : Out} {W : World} {e : Ending} {w' : World} (h : Did B p m sv L o W e w') : ∃ a er : Int, e = .returned (.tuple #[.int .i64 a, .int .i64 er]) := by
  cases o with
  | no => exact ⟨_, _, h.1⟩
  | num i => exact ⟨_, _, h.1⟩
  | make y => exact ⟨_, _, h.e⟩
  | two v i =>
    unfold Did at h
    simp only at h
    split at h
    · exact ⟨_, _, h.e⟩
    · exact ⟨_, _, h.e⟩

theorem part_any {B p m q k : Nat} {sv : Value} {L : List Nd} {x : Nd} {W : World} (S : StoreAt B W p m sv L) (hB : B ≤ W.heap.size) (hM : MayL L) (hx : L[k]? = some x) (ho : x.o = 22) (nq : ¬ foot p m sv q) (s : SiteAt W q p k x (kd L x 0) (kd L x 1) (kd L x 2)) :
    Calls Tryz.prog 93 #[.pointer (some ⟨q, 0, none⟩)] W (Did B p m sv L (ouP x (kd L x 0) (widAt L (kd L x 0).k0) (widAt L (kd L x 0).k1)) W) := by
  have g := S.good
  have hok := g.ok x (List.mem_of_getElem? hx)
  have k0 : 0 < kc x.o := by rw [ho]; decide
  have hy := (kd_at g hx k0).2.2
  have hyok := kd_ok g x 0
  have hc := wd_cut hM hx ho
  have hl : x.l + x.w ≤ 64 := by omega
  generalize hye : kd L x 0 = y0 at hy hyok s ⊢
  have wid : ∀ i, i < kc y0.o → ∀ w, Below W.heap.size W w → Calls Tryz.prog 124 #[.pointer (some ⟨q, 0, none⟩), .int .i64 (y0.kid i)] w fun e w' => e = .returned (.int .u8 ((widAt L (y0.kid i) : Nat) : Int)) ∧ Below w.heap.size w w' := by
    intro i hi w hb
    obtain ⟨a, _, c⟩ := kd_at g hy hi
    have h := width_any (S.call hb) c (s.keep hb)
    rw [← widAt_kd g hy hi] at h
    rw [show (((y0.kid i).toNat : Nat) : Int) = y0.kid i by omega] at h
    exact h
  by_cases o22 : y0.o = 22
  · have := wd_cut hM hy o22
    exact part_22 S hB hok hyok nq s ho hl _ _ o22 (by omega)
  by_cases o21 : y0.o = 21
  · have w1 := wid 1 (by rw [o21]; decide)
    by_cases c1 : x.l + x.w ≤ widAt L y0.k1
    · exact part_21a S hB hok hyok nq s ho hl _ _ o21 c1 w1
    by_cases c2 : widAt L y0.k1 ≤ x.l
    · exact part_21b S hB hok hyok nq s ho hl _ _ o21 c1 c2 w1
    · exact part_21c S hB hok hyok nq s ho hl _ _ o21 c1 c2 w1
  by_cases o23 : y0.o = 23
  · have w0 := wid 0 (by rw [o23]; decide)
    by_cases c1 : widAt L y0.k0 < x.l + x.w
    · exact part_23a S hB hok hyok nq s ho hl _ _ o23 c1 w0
    · exact part_23b S hB hok hyok nq s ho hl _ _ o23 c1 w0
  by_cases o24 : y0.o = 24
  · have w0 := wid 0 (by rw [o24]; decide)
    by_cases c1 : widAt L y0.k0 < x.l + x.w
    · exact part_24a S hB hok hyok nq s ho hl _ _ o24 c1 w0
    · exact part_24b S hB hok hyok nq s ho hl _ _ o24 c1 w0
  exact part_no S hB hok hyok nq s ho hl _ _ ⟨o22, o21, o23, o24⟩

theorem ru8_any {B p m b q k : Nat} {sv : Value} {L : List Nd} {x : Nd} {W : World} (S : StoreAt B W p m sv L) (hB : B ≤ W.heap.size) (hM : MayL L) (hx : L[k]? = some x) (A : Apart b q p m sv) (C : ClosAt W b q p k x (kd L x 0) (kd L x 1) (kd L x 2)) :
    Calls Tryz.prog 92 #[.pointer (some ⟨b, 0, none⟩)] W (Did B p m sv L (ou8 L x (kd L x 0)) W) := by
  have g := S.good
  have hok := g.ok x (List.mem_of_getElem? hx)
  by_cases ho : x.o = 22 ∨ x.o = 23 ∨ x.o = 24
  · by_cases hw : x.w = (kd L x 0).w
    · rcases ho with ho | ho | ho
      · exact ru8_same22 C ho hw
      · exact ru8_same23 C ho hw
      · exact ru8_same24 C ho hw
    · rcases ho with ho | ho
      · refine ru8_part C ho hw (fun w hb => ?_) (fun h => did_tuple h)
        rw [ou8_part ho hw]
        exact (part_any (S.call hb) (Nat.le_trans hB hb.size) hM hx ho A.q (C.s.keep hb)).mono fun e w' h => did_behind hb h
      · by_cases h2 : x.o = (kd L x 0).o
        · rcases ho with ho | ho
          · exact ru8_ext23 S hB hok A C (kd_ok g x 0) ho hw h2
          · exact ru8_ext24 S hB hok A C (kd_ok g x 0) ho hw h2
        · rcases ho with ho | ho
          · exact ru8_none23 C ho hw h2
          · exact ru8_none24 C ho hw h2
  · exact ru8_not C ho
end Ru
end Go.Proofs.YtkiegiofholofaaGreatDoor

namespace Go.Proofs.YtkiegiofholofaaGreatDoor
open Go.RowKit Go.Maps Bv Tm Kn
namespace Ru
set_option maxHeartbeats 8000000
set_option maxRecDepth 100000

theorem ru3_5 {B p m b q k : Nat} {sv : Value} {L : List Nd} {x y0 y1 y2 : Nd} {W : World} (S : StoreAt B W p m sv L) (hB : B ≤ W.heap.size) (hx : x.Ok) (A : Apart b q p m sv) (C : ClosAt W b q p k x y0 y1 y2) (ho : x.o = 5) :
    Calls Tryz.prog 86 #[.pointer (some ⟨b, 0, none⟩)] W (Did B p m sv L (ou3 x y0 y1) W) := by
  have NB := Lib.hid A.b
  have NQ := Lib.hid A.q
  have NW : Hid (¬ foot p m sv W.heap.size) := Lib.hid (fun c => Nat.lt_irrefl _ (foot_lt S c))
  clear A
  have HM : Hid (∀ w, Below W.heap.size W w → Calls Tryz.prog 17 #[.pointer (some ⟨p, 0, none⟩), .agg #[.int .u8 ((x.o : Nat) : Int), .int .u8 ((x.w : Nat) : Int), .int .i64 x.k1, .int .i64 x.k0, .int .i64 x.k2, .int .u64 ((x.n : Nat) : Int), .int .u8 ((x.l : Nat) : Int)]] w (fun e w' => DidL B p m sv (mk L ⟨x.o, x.w, x.k1, x.k0, x.k2, x.n, x.l⟩).1 (((mk L ⟨x.o, x.w, x.k1, x.k0, x.k2, x.n, x.l⟩).2.1 : Nat) : Int) (((mk L ⟨x.o, x.w, x.k1, x.k0, x.k2, x.n, x.l⟩).2.2 : Nat) : Int) W e w' ∧ Kept (foot p m sv) w w')) :=
    Lib.hid (fun w hb => make_did S hB hb (y := ⟨x.o, x.w, x.k1, x.k0, x.k2, x.n, x.l⟩) ⟨hx.o, hx.w, hx.k1, hx.k0, hx.k2, hx.n, hx.l⟩)
  have lb := C.lb
  have lq := C.s.1
  have fb := C.fb
  have c0 := C.s.2 0 _ rfl
  have c2 := C.s.2 2 _ rfl
  have c3 := C.s.2 3 _ rfl
  have c4 := C.s.2 4 _ rfl
  have c5 := C.s.2 5 _ rfl
  have c6 := C.s.2 6 _ rfl
  have c7 := C.s.2 7 _ rfl
  have c8 := C.s.2 8 _ rfl
  have c9 := C.s.2 9 _ rfl
  have c16 := C.s.2 16 _ rfl
  clear C S hB hx
  obtain ⟨o, w, k0, k1, k2, n, l⟩ := x
  simp only at ho HM
  subst ho
  simp only [Int.cast_ofNat_Int] at HM
  go_enter Tryz.func86, Tryz.ntmps86
  go_wp2_with fail
  all_goals (try go_region)
  all_goals (try go_wp2_with fail)
  all_goals (try go_region_held3 (fun w' => w'.cell? ⟨b, 0, none⟩ = some (.pointer (some ⟨q, 0, none⟩)) ∧ w'.cell? ⟨q, 0, none⟩ = some (.pointer (some ⟨p, 0, none⟩)) ∧ w'.cell? ⟨W.heap.size, 0, none⟩ = some (.int .u8 5) ∧ w'.cell? ⟨W.heap.size, 1, none⟩ = some (.int .u8 ((w : Nat) : Int)) ∧ w'.cell? ⟨W.heap.size, 2, none⟩ = some (.int .i64 k1) ∧ w'.cell? ⟨W.heap.size, 3, none⟩ = some (.int .i64 k0) ∧ w'.cell? ⟨W.heap.size, 4, none⟩ = some (.int .i64 k2) ∧ w'.cell? ⟨W.heap.size, 5, none⟩ = some (.int .u64 ((n : Nat) : Int)) ∧ w'.cell? ⟨W.heap.size, 6, none⟩ = some (.int .u8 ((l : Nat) : Int))) (first | (refine ⟨?_, ?_, ?_, ?_, ?_, ?_, ?_, ?_, ?_⟩ <;> go_simp)) (first | (go_at_call 17; with_reducible refine (HM.out _ (by repeat (first | exact Below.refl _ _ | (refine bel_alloc ?_ _) | (refine Below.drew ?_) | (refine Below.setCell ?_ (by simp) _)))).mono ?_; rintro e w1 ⟨⟨rfl, hd⟩, hk⟩; have HD := Lib.hid hd; have g0 := hk.cell (x := ⟨b, 0, none⟩) (by simp <;> omega) NB.out; have g1 := hk.cell (x := ⟨q, 0, none⟩) (by simp <;> omega) NQ.out; have g2 := hk.cell (x := ⟨W.heap.size, 0, none⟩) (by simp <;> omega) NW.out; have g3 := hk.cell (x := ⟨W.heap.size, 1, none⟩) (by simp <;> omega) NW.out; have g4 := hk.cell (x := ⟨W.heap.size, 2, none⟩) (by simp <;> omega) NW.out; have g5 := hk.cell (x := ⟨W.heap.size, 3, none⟩) (by simp <;> omega) NW.out; have g6 := hk.cell (x := ⟨W.heap.size, 4, none⟩) (by simp <;> omega) NW.out; have g7 := hk.cell (x := ⟨W.heap.size, 5, none⟩) (by simp <;> omega) NW.out; have g8 := hk.cell (x := ⟨W.heap.size, 6, none⟩) (by simp <;> omega) NW.out; clear hd hk)))
  all_goals (try go_wp2_with fail)
  all_goals (clear HM c0 c2 c3 c4 c5 c6 c7 c8 c9 c16 lb lq fb)
  all_goals (try simp only [bne_iff_ne, beq_iff_eq, ne_eq] at *)
  all_goals first
    | (refine bodyPost_ret (v := .tuple #[.int .i64 (-1), .int .i64 0]) ?_ rfl (did_no ?_ rfl ?_)
       · simp [results, Tryz.results86, go_sem]
       · unfold ou3; (repeat' split) <;> first | rfl | (exfalso; omega) | (exfalso; simp_all; done) | (exfalso; simp_all; omega)
       · (repeat (first | exact Below.refl _ _ | (refine bel_alloc ?_ _) | (refine Below.drew ?_))))
    | (refine bodyPost_ret (v := _) ?_ rfl (did_make (y := ⟨5, w, k1, k0, k2, n, l⟩) ?_ ⟨rfl, HD.out⟩)
       · simp [results, Tryz.results86, go_sem]
       · unfold ou3; (repeat' split) <;> first | rfl | (exfalso; omega) | (exfalso; simp_all; done) | (exfalso; simp_all; omega))
theorem ru3_6 {B p m b q k : Nat} {sv : Value} {L : List Nd} {x y0 y1 y2 : Nd} {W : World} (S : StoreAt B W p m sv L) (hB : B ≤ W.heap.size) (hx : x.Ok) (A : Apart b q p m sv) (C : ClosAt W b q p k x y0 y1 y2) (ho : x.o = 6) :
    Calls Tryz.prog 86 #[.pointer (some ⟨b, 0, none⟩)] W (Did B p m sv L (ou3 x y0 y1) W) := by
  have NB := Lib.hid A.b
  have NQ := Lib.hid A.q
  have NW : Hid (¬ foot p m sv W.heap.size) := Lib.hid (fun c => Nat.lt_irrefl _ (foot_lt S c))
  clear A
  have HM : Hid (∀ w, Below W.heap.size W w → Calls Tryz.prog 17 #[.pointer (some ⟨p, 0, none⟩), .agg #[.int .u8 ((x.o : Nat) : Int), .int .u8 ((x.w : Nat) : Int), .int .i64 x.k1, .int .i64 x.k0, .int .i64 x.k2, .int .u64 ((x.n : Nat) : Int), .int .u8 ((x.l : Nat) : Int)]] w (fun e w' => DidL B p m sv (mk L ⟨x.o, x.w, x.k1, x.k0, x.k2, x.n, x.l⟩).1 (((mk L ⟨x.o, x.w, x.k1, x.k0, x.k2, x.n, x.l⟩).2.1 : Nat) : Int) (((mk L ⟨x.o, x.w, x.k1, x.k0, x.k2, x.n, x.l⟩).2.2 : Nat) : Int) W e w' ∧ Kept (foot p m sv) w w')) :=
    Lib.hid (fun w hb => make_did S hB hb (y := ⟨x.o, x.w, x.k1, x.k0, x.k2, x.n, x.l⟩) ⟨hx.o, hx.w, hx.k1, hx.k0, hx.k2, hx.n, hx.l⟩)
  have lb := C.lb
  have lq := C.s.1
  have fb := C.fb
  have c0 := C.s.2 0 _ rfl
  have c2 := C.s.2 2 _ rfl
  have c3 := C.s.2 3 _ rfl
  have c4 := C.s.2 4 _ rfl
  have c5 := C.s.2 5 _ rfl
  have c6 := C.s.2 6 _ rfl
  have c7 := C.s.2 7 _ rfl
  have c8 := C.s.2 8 _ rfl
  have c9 := C.s.2 9 _ rfl
  have c16 := C.s.2 16 _ rfl
  clear C S hB hx
  obtain ⟨o, w, k0, k1, k2, n, l⟩ := x
  simp only at ho HM
  subst ho
  simp only [Int.cast_ofNat_Int] at HM
  go_enter Tryz.func86, Tryz.ntmps86
  go_wp2_with fail
  all_goals (try go_region)
  all_goals (try go_wp2_with fail)
  all_goals (try go_region_held3 (fun w' => w'.cell? ⟨b, 0, none⟩ = some (.pointer (some ⟨q, 0, none⟩)) ∧ w'.cell? ⟨q, 0, none⟩ = some (.pointer (some ⟨p, 0, none⟩)) ∧ w'.cell? ⟨W.heap.size, 0, none⟩ = some (.int .u8 6) ∧ w'.cell? ⟨W.heap.size, 1, none⟩ = some (.int .u8 ((w : Nat) : Int)) ∧ w'.cell? ⟨W.heap.size, 2, none⟩ = some (.int .i64 k1) ∧ w'.cell? ⟨W.heap.size, 3, none⟩ = some (.int .i64 k0) ∧ w'.cell? ⟨W.heap.size, 4, none⟩ = some (.int .i64 k2) ∧ w'.cell? ⟨W.heap.size, 5, none⟩ = some (.int .u64 ((n : Nat) : Int)) ∧ w'.cell? ⟨W.heap.size, 6, none⟩ = some (.int .u8 ((l : Nat) : Int))) (first | (refine ⟨?_, ?_, ?_, ?_, ?_, ?_, ?_, ?_, ?_⟩ <;> go_simp)) (first | (go_at_call 17; with_reducible refine (HM.out _ (by repeat (first | exact Below.refl _ _ | (refine bel_alloc ?_ _) | (refine Below.drew ?_) | (refine Below.setCell ?_ (by simp) _)))).mono ?_; rintro e w1 ⟨⟨rfl, hd⟩, hk⟩; have HD := Lib.hid hd; have g0 := hk.cell (x := ⟨b, 0, none⟩) (by simp <;> omega) NB.out; have g1 := hk.cell (x := ⟨q, 0, none⟩) (by simp <;> omega) NQ.out; have g2 := hk.cell (x := ⟨W.heap.size, 0, none⟩) (by simp <;> omega) NW.out; have g3 := hk.cell (x := ⟨W.heap.size, 1, none⟩) (by simp <;> omega) NW.out; have g4 := hk.cell (x := ⟨W.heap.size, 2, none⟩) (by simp <;> omega) NW.out; have g5 := hk.cell (x := ⟨W.heap.size, 3, none⟩) (by simp <;> omega) NW.out; have g6 := hk.cell (x := ⟨W.heap.size, 4, none⟩) (by simp <;> omega) NW.out; have g7 := hk.cell (x := ⟨W.heap.size, 5, none⟩) (by simp <;> omega) NW.out; have g8 := hk.cell (x := ⟨W.heap.size, 6, none⟩) (by simp <;> omega) NW.out; clear hd hk)))
  all_goals (try go_wp2_with fail)
  all_goals (clear HM c0 c2 c3 c4 c5 c6 c7 c8 c9 c16 lb lq fb)
  all_goals (try simp only [bne_iff_ne, beq_iff_eq, ne_eq] at *)
  all_goals first
    | (refine bodyPost_ret (v := .tuple #[.int .i64 (-1), .int .i64 0]) ?_ rfl (did_no ?_ rfl ?_)
       · simp [results, Tryz.results86, go_sem]
       · unfold ou3; (repeat' split) <;> first | rfl | (exfalso; omega) | (exfalso; simp_all; done) | (exfalso; simp_all; omega)
       · (repeat (first | exact Below.refl _ _ | (refine bel_alloc ?_ _) | (refine Below.drew ?_))))
    | (refine bodyPost_ret (v := _) ?_ rfl (did_make (y := ⟨6, w, k1, k0, k2, n, l⟩) ?_ ⟨rfl, HD.out⟩)
       · simp [results, Tryz.results86, go_sem]
       · unfold ou3; (repeat' split) <;> first | rfl | (exfalso; omega) | (exfalso; simp_all; done) | (exfalso; simp_all; omega))
theorem ru3_7 {B p m b q k : Nat} {sv : Value} {L : List Nd} {x y0 y1 y2 : Nd} {W : World} (S : StoreAt B W p m sv L) (hB : B ≤ W.heap.size) (hx : x.Ok) (A : Apart b q p m sv) (C : ClosAt W b q p k x y0 y1 y2) (ho : x.o = 7) :
    Calls Tryz.prog 86 #[.pointer (some ⟨b, 0, none⟩)] W (Did B p m sv L (ou3 x y0 y1) W) := by
  have NB := Lib.hid A.b
  have NQ := Lib.hid A.q
  have NW : Hid (¬ foot p m sv W.heap.size) := Lib.hid (fun c => Nat.lt_irrefl _ (foot_lt S c))
  clear A
  have HM : Hid (∀ w, Below W.heap.size W w → Calls Tryz.prog 17 #[.pointer (some ⟨p, 0, none⟩), .agg #[.int .u8 ((x.o : Nat) : Int), .int .u8 ((x.w : Nat) : Int), .int .i64 x.k1, .int .i64 x.k0, .int .i64 x.k2, .int .u64 ((x.n : Nat) : Int), .int .u8 ((x.l : Nat) : Int)]] w (fun e w' => DidL B p m sv (mk L ⟨x.o, x.w, x.k1, x.k0, x.k2, x.n, x.l⟩).1 (((mk L ⟨x.o, x.w, x.k1, x.k0, x.k2, x.n, x.l⟩).2.1 : Nat) : Int) (((mk L ⟨x.o, x.w, x.k1, x.k0, x.k2, x.n, x.l⟩).2.2 : Nat) : Int) W e w' ∧ Kept (foot p m sv) w w')) :=
    Lib.hid (fun w hb => make_did S hB hb (y := ⟨x.o, x.w, x.k1, x.k0, x.k2, x.n, x.l⟩) ⟨hx.o, hx.w, hx.k1, hx.k0, hx.k2, hx.n, hx.l⟩)
  have lb := C.lb
  have lq := C.s.1
  have fb := C.fb
  have c0 := C.s.2 0 _ rfl
  have c2 := C.s.2 2 _ rfl
  have c3 := C.s.2 3 _ rfl
  have c4 := C.s.2 4 _ rfl
  have c5 := C.s.2 5 _ rfl
  have c6 := C.s.2 6 _ rfl
  have c7 := C.s.2 7 _ rfl
  have c8 := C.s.2 8 _ rfl
  have c9 := C.s.2 9 _ rfl
  have c16 := C.s.2 16 _ rfl
  clear C S hB hx
  obtain ⟨o, w, k0, k1, k2, n, l⟩ := x
  simp only at ho HM
  subst ho
  simp only [Int.cast_ofNat_Int] at HM
  go_enter Tryz.func86, Tryz.ntmps86
  go_wp2_with fail
  all_goals (try go_region)
  all_goals (try go_wp2_with fail)
  all_goals (try go_region_held3 (fun w' => w'.cell? ⟨b, 0, none⟩ = some (.pointer (some ⟨q, 0, none⟩)) ∧ w'.cell? ⟨q, 0, none⟩ = some (.pointer (some ⟨p, 0, none⟩)) ∧ w'.cell? ⟨W.heap.size, 0, none⟩ = some (.int .u8 7) ∧ w'.cell? ⟨W.heap.size, 1, none⟩ = some (.int .u8 ((w : Nat) : Int)) ∧ w'.cell? ⟨W.heap.size, 2, none⟩ = some (.int .i64 k1) ∧ w'.cell? ⟨W.heap.size, 3, none⟩ = some (.int .i64 k0) ∧ w'.cell? ⟨W.heap.size, 4, none⟩ = some (.int .i64 k2) ∧ w'.cell? ⟨W.heap.size, 5, none⟩ = some (.int .u64 ((n : Nat) : Int)) ∧ w'.cell? ⟨W.heap.size, 6, none⟩ = some (.int .u8 ((l : Nat) : Int))) (first | (refine ⟨?_, ?_, ?_, ?_, ?_, ?_, ?_, ?_, ?_⟩ <;> go_simp)) (first | (go_at_call 17; with_reducible refine (HM.out _ (by repeat (first | exact Below.refl _ _ | (refine bel_alloc ?_ _) | (refine Below.drew ?_) | (refine Below.setCell ?_ (by simp) _)))).mono ?_; rintro e w1 ⟨⟨rfl, hd⟩, hk⟩; have HD := Lib.hid hd; have g0 := hk.cell (x := ⟨b, 0, none⟩) (by simp <;> omega) NB.out; have g1 := hk.cell (x := ⟨q, 0, none⟩) (by simp <;> omega) NQ.out; have g2 := hk.cell (x := ⟨W.heap.size, 0, none⟩) (by simp <;> omega) NW.out; have g3 := hk.cell (x := ⟨W.heap.size, 1, none⟩) (by simp <;> omega) NW.out; have g4 := hk.cell (x := ⟨W.heap.size, 2, none⟩) (by simp <;> omega) NW.out; have g5 := hk.cell (x := ⟨W.heap.size, 3, none⟩) (by simp <;> omega) NW.out; have g6 := hk.cell (x := ⟨W.heap.size, 4, none⟩) (by simp <;> omega) NW.out; have g7 := hk.cell (x := ⟨W.heap.size, 5, none⟩) (by simp <;> omega) NW.out; have g8 := hk.cell (x := ⟨W.heap.size, 6, none⟩) (by simp <;> omega) NW.out; clear hd hk)))
  all_goals (try go_wp2_with fail)
  all_goals (clear HM c0 c2 c3 c4 c5 c6 c7 c8 c9 c16 lb lq fb)
  all_goals (try simp only [bne_iff_ne, beq_iff_eq, ne_eq] at *)
  all_goals first
    | (refine bodyPost_ret (v := .tuple #[.int .i64 (-1), .int .i64 0]) ?_ rfl (did_no ?_ rfl ?_)
       · simp [results, Tryz.results86, go_sem]
       · unfold ou3; (repeat' split) <;> first | rfl | (exfalso; omega) | (exfalso; simp_all; done) | (exfalso; simp_all; omega)
       · (repeat (first | exact Below.refl _ _ | (refine bel_alloc ?_ _) | (refine Below.drew ?_))))
    | (refine bodyPost_ret (v := _) ?_ rfl (did_make (y := ⟨7, w, k1, k0, k2, n, l⟩) ?_ ⟨rfl, HD.out⟩)
       · simp [results, Tryz.results86, go_sem]
       · unfold ou3; (repeat' split) <;> first | rfl | (exfalso; omega) | (exfalso; simp_all; done) | (exfalso; simp_all; omega))
theorem ru3_8 {B p m b q k : Nat} {sv : Value} {L : List Nd} {x y0 y1 y2 : Nd} {W : World} (S : StoreAt B W p m sv L) (hB : B ≤ W.heap.size) (hx : x.Ok) (A : Apart b q p m sv) (C : ClosAt W b q p k x y0 y1 y2) (ho : x.o = 8) :
    Calls Tryz.prog 86 #[.pointer (some ⟨b, 0, none⟩)] W (Did B p m sv L (ou3 x y0 y1) W) := by
  have NB := Lib.hid A.b
  have NQ := Lib.hid A.q
  have NW : Hid (¬ foot p m sv W.heap.size) := Lib.hid (fun c => Nat.lt_irrefl _ (foot_lt S c))
  clear A
  have HM : Hid (∀ w, Below W.heap.size W w → Calls Tryz.prog 17 #[.pointer (some ⟨p, 0, none⟩), .agg #[.int .u8 ((x.o : Nat) : Int), .int .u8 ((x.w : Nat) : Int), .int .i64 x.k1, .int .i64 x.k0, .int .i64 x.k2, .int .u64 ((x.n : Nat) : Int), .int .u8 ((x.l : Nat) : Int)]] w (fun e w' => DidL B p m sv (mk L ⟨x.o, x.w, x.k1, x.k0, x.k2, x.n, x.l⟩).1 (((mk L ⟨x.o, x.w, x.k1, x.k0, x.k2, x.n, x.l⟩).2.1 : Nat) : Int) (((mk L ⟨x.o, x.w, x.k1, x.k0, x.k2, x.n, x.l⟩).2.2 : Nat) : Int) W e w' ∧ Kept (foot p m sv) w w')) :=
    Lib.hid (fun w hb => make_did S hB hb (y := ⟨x.o, x.w, x.k1, x.k0, x.k2, x.n, x.l⟩) ⟨hx.o, hx.w, hx.k1, hx.k0, hx.k2, hx.n, hx.l⟩)
  have lb := C.lb
  have lq := C.s.1
  have fb := C.fb
  have c0 := C.s.2 0 _ rfl
  have c2 := C.s.2 2 _ rfl
  have c3 := C.s.2 3 _ rfl
  have c4 := C.s.2 4 _ rfl
  have c5 := C.s.2 5 _ rfl
  have c6 := C.s.2 6 _ rfl
  have c7 := C.s.2 7 _ rfl
  have c8 := C.s.2 8 _ rfl
  have c9 := C.s.2 9 _ rfl
  have c16 := C.s.2 16 _ rfl
  clear C S hB hx
  obtain ⟨o, w, k0, k1, k2, n, l⟩ := x
  simp only at ho HM
  subst ho
  simp only [Int.cast_ofNat_Int] at HM
  go_enter Tryz.func86, Tryz.ntmps86
  go_wp2_with fail
  all_goals (try go_region)
  all_goals (try go_wp2_with fail)
  all_goals (try go_region_held3 (fun w' => w'.cell? ⟨b, 0, none⟩ = some (.pointer (some ⟨q, 0, none⟩)) ∧ w'.cell? ⟨q, 0, none⟩ = some (.pointer (some ⟨p, 0, none⟩)) ∧ w'.cell? ⟨W.heap.size, 0, none⟩ = some (.int .u8 8) ∧ w'.cell? ⟨W.heap.size, 1, none⟩ = some (.int .u8 ((w : Nat) : Int)) ∧ w'.cell? ⟨W.heap.size, 2, none⟩ = some (.int .i64 k1) ∧ w'.cell? ⟨W.heap.size, 3, none⟩ = some (.int .i64 k0) ∧ w'.cell? ⟨W.heap.size, 4, none⟩ = some (.int .i64 k2) ∧ w'.cell? ⟨W.heap.size, 5, none⟩ = some (.int .u64 ((n : Nat) : Int)) ∧ w'.cell? ⟨W.heap.size, 6, none⟩ = some (.int .u8 ((l : Nat) : Int))) (first | (refine ⟨?_, ?_, ?_, ?_, ?_, ?_, ?_, ?_, ?_⟩ <;> go_simp)) (first | (go_at_call 17; with_reducible refine (HM.out _ (by repeat (first | exact Below.refl _ _ | (refine bel_alloc ?_ _) | (refine Below.drew ?_) | (refine Below.setCell ?_ (by simp) _)))).mono ?_; rintro e w1 ⟨⟨rfl, hd⟩, hk⟩; have HD := Lib.hid hd; have g0 := hk.cell (x := ⟨b, 0, none⟩) (by simp <;> omega) NB.out; have g1 := hk.cell (x := ⟨q, 0, none⟩) (by simp <;> omega) NQ.out; have g2 := hk.cell (x := ⟨W.heap.size, 0, none⟩) (by simp <;> omega) NW.out; have g3 := hk.cell (x := ⟨W.heap.size, 1, none⟩) (by simp <;> omega) NW.out; have g4 := hk.cell (x := ⟨W.heap.size, 2, none⟩) (by simp <;> omega) NW.out; have g5 := hk.cell (x := ⟨W.heap.size, 3, none⟩) (by simp <;> omega) NW.out; have g6 := hk.cell (x := ⟨W.heap.size, 4, none⟩) (by simp <;> omega) NW.out; have g7 := hk.cell (x := ⟨W.heap.size, 5, none⟩) (by simp <;> omega) NW.out; have g8 := hk.cell (x := ⟨W.heap.size, 6, none⟩) (by simp <;> omega) NW.out; clear hd hk)))
  all_goals (try go_wp2_with fail)
  all_goals (clear HM c0 c2 c3 c4 c5 c6 c7 c8 c9 c16 lb lq fb)
  all_goals (try simp only [bne_iff_ne, beq_iff_eq, ne_eq] at *)
  all_goals first
    | (refine bodyPost_ret (v := .tuple #[.int .i64 (-1), .int .i64 0]) ?_ rfl (did_no ?_ rfl ?_)
       · simp [results, Tryz.results86, go_sem]
       · unfold ou3; (repeat' split) <;> first | rfl | (exfalso; omega) | (exfalso; simp_all; done) | (exfalso; simp_all; omega)
       · (repeat (first | exact Below.refl _ _ | (refine bel_alloc ?_ _) | (refine Below.drew ?_))))
    | (refine bodyPost_ret (v := _) ?_ rfl (did_make (y := ⟨8, w, k1, k0, k2, n, l⟩) ?_ ⟨rfl, HD.out⟩)
       · simp [results, Tryz.results86, go_sem]
       · unfold ou3; (repeat' split) <;> first | rfl | (exfalso; omega) | (exfalso; simp_all; done) | (exfalso; simp_all; omega))
theorem ru3_10 {B p m b q k : Nat} {sv : Value} {L : List Nd} {x y0 y1 y2 : Nd} {W : World} (S : StoreAt B W p m sv L) (hB : B ≤ W.heap.size) (hx : x.Ok) (A : Apart b q p m sv) (C : ClosAt W b q p k x y0 y1 y2) (ho : x.o = 10) :
    Calls Tryz.prog 86 #[.pointer (some ⟨b, 0, none⟩)] W (Did B p m sv L (ou3 x y0 y1) W) := by
  have NB := Lib.hid A.b
  have NQ := Lib.hid A.q
  have NW : Hid (¬ foot p m sv W.heap.size) := Lib.hid (fun c => Nat.lt_irrefl _ (foot_lt S c))
  clear A
  have HM : Hid (∀ w, Below W.heap.size W w → Calls Tryz.prog 17 #[.pointer (some ⟨p, 0, none⟩), .agg #[.int .u8 ((x.o : Nat) : Int), .int .u8 ((x.w : Nat) : Int), .int .i64 x.k1, .int .i64 x.k0, .int .i64 x.k2, .int .u64 ((x.n : Nat) : Int), .int .u8 ((x.l : Nat) : Int)]] w (fun e w' => DidL B p m sv (mk L ⟨x.o, x.w, x.k1, x.k0, x.k2, x.n, x.l⟩).1 (((mk L ⟨x.o, x.w, x.k1, x.k0, x.k2, x.n, x.l⟩).2.1 : Nat) : Int) (((mk L ⟨x.o, x.w, x.k1, x.k0, x.k2, x.n, x.l⟩).2.2 : Nat) : Int) W e w' ∧ Kept (foot p m sv) w w')) :=
    Lib.hid (fun w hb => make_did S hB hb (y := ⟨x.o, x.w, x.k1, x.k0, x.k2, x.n, x.l⟩) ⟨hx.o, hx.w, hx.k1, hx.k0, hx.k2, hx.n, hx.l⟩)
  have lb := C.lb
  have lq := C.s.1
  have fb := C.fb
  have c0 := C.s.2 0 _ rfl
  have c2 := C.s.2 2 _ rfl
  have c3 := C.s.2 3 _ rfl
  have c4 := C.s.2 4 _ rfl
  have c5 := C.s.2 5 _ rfl
  have c6 := C.s.2 6 _ rfl
  have c7 := C.s.2 7 _ rfl
  have c8 := C.s.2 8 _ rfl
  have c9 := C.s.2 9 _ rfl
  have c16 := C.s.2 16 _ rfl
  clear C S hB hx
  obtain ⟨o, w, k0, k1, k2, n, l⟩ := x
  simp only at ho HM
  subst ho
  simp only [Int.cast_ofNat_Int] at HM
  go_enter Tryz.func86, Tryz.ntmps86
  go_wp2_with fail
  all_goals (try go_region)
  all_goals (try go_wp2_with fail)
  all_goals (try go_region_held3 (fun w' => w'.cell? ⟨b, 0, none⟩ = some (.pointer (some ⟨q, 0, none⟩)) ∧ w'.cell? ⟨q, 0, none⟩ = some (.pointer (some ⟨p, 0, none⟩)) ∧ w'.cell? ⟨W.heap.size, 0, none⟩ = some (.int .u8 10) ∧ w'.cell? ⟨W.heap.size, 1, none⟩ = some (.int .u8 ((w : Nat) : Int)) ∧ w'.cell? ⟨W.heap.size, 2, none⟩ = some (.int .i64 k1) ∧ w'.cell? ⟨W.heap.size, 3, none⟩ = some (.int .i64 k0) ∧ w'.cell? ⟨W.heap.size, 4, none⟩ = some (.int .i64 k2) ∧ w'.cell? ⟨W.heap.size, 5, none⟩ = some (.int .u64 ((n : Nat) : Int)) ∧ w'.cell? ⟨W.heap.size, 6, none⟩ = some (.int .u8 ((l : Nat) : Int))) (first | (refine ⟨?_, ?_, ?_, ?_, ?_, ?_, ?_, ?_, ?_⟩ <;> go_simp)) (first | (go_at_call 17; with_reducible refine (HM.out _ (by repeat (first | exact Below.refl _ _ | (refine bel_alloc ?_ _) | (refine Below.drew ?_) | (refine Below.setCell ?_ (by simp) _)))).mono ?_; rintro e w1 ⟨⟨rfl, hd⟩, hk⟩; have HD := Lib.hid hd; have g0 := hk.cell (x := ⟨b, 0, none⟩) (by simp <;> omega) NB.out; have g1 := hk.cell (x := ⟨q, 0, none⟩) (by simp <;> omega) NQ.out; have g2 := hk.cell (x := ⟨W.heap.size, 0, none⟩) (by simp <;> omega) NW.out; have g3 := hk.cell (x := ⟨W.heap.size, 1, none⟩) (by simp <;> omega) NW.out; have g4 := hk.cell (x := ⟨W.heap.size, 2, none⟩) (by simp <;> omega) NW.out; have g5 := hk.cell (x := ⟨W.heap.size, 3, none⟩) (by simp <;> omega) NW.out; have g6 := hk.cell (x := ⟨W.heap.size, 4, none⟩) (by simp <;> omega) NW.out; have g7 := hk.cell (x := ⟨W.heap.size, 5, none⟩) (by simp <;> omega) NW.out; have g8 := hk.cell (x := ⟨W.heap.size, 6, none⟩) (by simp <;> omega) NW.out; clear hd hk)))
  all_goals (try go_wp2_with fail)
  all_goals (clear HM c0 c2 c3 c4 c5 c6 c7 c8 c9 c16 lb lq fb)
  all_goals (try simp only [bne_iff_ne, beq_iff_eq, ne_eq] at *)
  all_goals first
    | (refine bodyPost_ret (v := .tuple #[.int .i64 (-1), .int .i64 0]) ?_ rfl (did_no ?_ rfl ?_)
       · simp [results, Tryz.results86, go_sem]
       · unfold ou3; (repeat' split) <;> first | rfl | (exfalso; omega) | (exfalso; simp_all; done) | (exfalso; simp_all; omega)
       · (repeat (first | exact Below.refl _ _ | (refine bel_alloc ?_ _) | (refine Below.drew ?_))))
    | (refine bodyPost_ret (v := _) ?_ rfl (did_make (y := ⟨10, w, k1, k0, k2, n, l⟩) ?_ ⟨rfl, HD.out⟩)
       · simp [results, Tryz.results86, go_sem]
       · unfold ou3; (repeat' split) <;> first | rfl | (exfalso; omega) | (exfalso; simp_all; done) | (exfalso; simp_all; omega))
theorem ru3_18 {B p m b q k : Nat} {sv : Value} {L : List Nd} {x y0 y1 y2 : Nd} {W : World} (S : StoreAt B W p m sv L) (hB : B ≤ W.heap.size) (hx : x.Ok) (A : Apart b q p m sv) (C : ClosAt W b q p k x y0 y1 y2) (ho : x.o = 18) :
    Calls Tryz.prog 86 #[.pointer (some ⟨b, 0, none⟩)] W (Did B p m sv L (ou3 x y0 y1) W) := by
  have NB := Lib.hid A.b
  have NQ := Lib.hid A.q
  have NW : Hid (¬ foot p m sv W.heap.size) := Lib.hid (fun c => Nat.lt_irrefl _ (foot_lt S c))
  clear A
  have HM : Hid (∀ w, Below W.heap.size W w → Calls Tryz.prog 17 #[.pointer (some ⟨p, 0, none⟩), .agg #[.int .u8 ((x.o : Nat) : Int), .int .u8 ((x.w : Nat) : Int), .int .i64 x.k1, .int .i64 x.k0, .int .i64 x.k2, .int .u64 ((x.n : Nat) : Int), .int .u8 ((x.l : Nat) : Int)]] w (fun e w' => DidL B p m sv (mk L ⟨x.o, x.w, x.k1, x.k0, x.k2, x.n, x.l⟩).1 (((mk L ⟨x.o, x.w, x.k1, x.k0, x.k2, x.n, x.l⟩).2.1 : Nat) : Int) (((mk L ⟨x.o, x.w, x.k1, x.k0, x.k2, x.n, x.l⟩).2.2 : Nat) : Int) W e w' ∧ Kept (foot p m sv) w w')) :=
    Lib.hid (fun w hb => make_did S hB hb (y := ⟨x.o, x.w, x.k1, x.k0, x.k2, x.n, x.l⟩) ⟨hx.o, hx.w, hx.k1, hx.k0, hx.k2, hx.n, hx.l⟩)
  have lb := C.lb
  have lq := C.s.1
  have fb := C.fb
  have c0 := C.s.2 0 _ rfl
  have c2 := C.s.2 2 _ rfl
  have c3 := C.s.2 3 _ rfl
  have c4 := C.s.2 4 _ rfl
  have c5 := C.s.2 5 _ rfl
  have c6 := C.s.2 6 _ rfl
  have c7 := C.s.2 7 _ rfl
  have c8 := C.s.2 8 _ rfl
  have c9 := C.s.2 9 _ rfl
  have c16 := C.s.2 16 _ rfl
  clear C S hB hx
  obtain ⟨o, w, k0, k1, k2, n, l⟩ := x
  simp only at ho HM
  subst ho
  simp only [Int.cast_ofNat_Int] at HM
  go_enter Tryz.func86, Tryz.ntmps86
  go_wp2_with fail
  all_goals (try go_region)
  all_goals (try go_wp2_with fail)
  all_goals (try go_region_held3 (fun w' => w'.cell? ⟨b, 0, none⟩ = some (.pointer (some ⟨q, 0, none⟩)) ∧ w'.cell? ⟨q, 0, none⟩ = some (.pointer (some ⟨p, 0, none⟩)) ∧ w'.cell? ⟨W.heap.size, 0, none⟩ = some (.int .u8 18) ∧ w'.cell? ⟨W.heap.size, 1, none⟩ = some (.int .u8 ((w : Nat) : Int)) ∧ w'.cell? ⟨W.heap.size, 2, none⟩ = some (.int .i64 k1) ∧ w'.cell? ⟨W.heap.size, 3, none⟩ = some (.int .i64 k0) ∧ w'.cell? ⟨W.heap.size, 4, none⟩ = some (.int .i64 k2) ∧ w'.cell? ⟨W.heap.size, 5, none⟩ = some (.int .u64 ((n : Nat) : Int)) ∧ w'.cell? ⟨W.heap.size, 6, none⟩ = some (.int .u8 ((l : Nat) : Int))) (first | (refine ⟨?_, ?_, ?_, ?_, ?_, ?_, ?_, ?_, ?_⟩ <;> go_simp)) (first | (go_at_call 17; with_reducible refine (HM.out _ (by repeat (first | exact Below.refl _ _ | (refine bel_alloc ?_ _) | (refine Below.drew ?_) | (refine Below.setCell ?_ (by simp) _)))).mono ?_; rintro e w1 ⟨⟨rfl, hd⟩, hk⟩; have HD := Lib.hid hd; have g0 := hk.cell (x := ⟨b, 0, none⟩) (by simp <;> omega) NB.out; have g1 := hk.cell (x := ⟨q, 0, none⟩) (by simp <;> omega) NQ.out; have g2 := hk.cell (x := ⟨W.heap.size, 0, none⟩) (by simp <;> omega) NW.out; have g3 := hk.cell (x := ⟨W.heap.size, 1, none⟩) (by simp <;> omega) NW.out; have g4 := hk.cell (x := ⟨W.heap.size, 2, none⟩) (by simp <;> omega) NW.out; have g5 := hk.cell (x := ⟨W.heap.size, 3, none⟩) (by simp <;> omega) NW.out; have g6 := hk.cell (x := ⟨W.heap.size, 4, none⟩) (by simp <;> omega) NW.out; have g7 := hk.cell (x := ⟨W.heap.size, 5, none⟩) (by simp <;> omega) NW.out; have g8 := hk.cell (x := ⟨W.heap.size, 6, none⟩) (by simp <;> omega) NW.out; clear hd hk)))
  all_goals (try go_wp2_with fail)
  all_goals (clear HM c0 c2 c3 c4 c5 c6 c7 c8 c9 c16 lb lq fb)
  all_goals (try simp only [bne_iff_ne, beq_iff_eq, ne_eq] at *)
  all_goals first
    | (refine bodyPost_ret (v := .tuple #[.int .i64 (-1), .int .i64 0]) ?_ rfl (did_no ?_ rfl ?_)
       · simp [results, Tryz.results86, go_sem]
       · unfold ou3; (repeat' split) <;> first | rfl | (exfalso; omega) | (exfalso; simp_all; done) | (exfalso; simp_all; omega)
       · (repeat (first | exact Below.refl _ _ | (refine bel_alloc ?_ _) | (refine Below.drew ?_))))
    | (refine bodyPost_ret (v := _) ?_ rfl (did_make (y := ⟨18, w, k1, k0, k2, n, l⟩) ?_ ⟨rfl, HD.out⟩)
       · simp [results, Tryz.results86, go_sem]
       · unfold ou3; (repeat' split) <;> first | rfl | (exfalso; omega) | (exfalso; simp_all; done) | (exfalso; simp_all; omega))
theorem ru3_not {B p m b q k : Nat} {sv : Value} {L : List Nd} {x y0 y1 y2 : Nd} {W : World} (C : ClosAt W b q p k x y0 y1 y2) (ho : ¬ (x.o = 5 ∨ x.o = 6 ∨ x.o = 7 ∨ x.o = 8 ∨ x.o = 10 ∨ x.o = 18)) :
    Calls Tryz.prog 86 #[.pointer (some ⟨b, 0, none⟩)] W (Did B p m sv L (ou3 x y0 y1) W) := by
  have lb := C.lb
  have lq := C.s.1
  have fb := C.fb
  have c0 := C.s.2 0 _ rfl
  have c2 := C.s.2 2 _ rfl
  have c3 := C.s.2 3 _ rfl
  have c4 := C.s.2 4 _ rfl
  have c5 := C.s.2 5 _ rfl
  have c6 := C.s.2 6 _ rfl
  have c7 := C.s.2 7 _ rfl
  have c8 := C.s.2 8 _ rfl
  clear C
  have n1 : ¬ ((x.o : Nat) : Int) = 5 := by omega
  have n2 : ¬ ((x.o : Nat) : Int) = 6 := by omega
  have n3 : ¬ ((x.o : Nat) : Int) = 7 := by omega
  have n4 : ¬ ((x.o : Nat) : Int) = 8 := by omega
  have n5 : ¬ ((x.o : Nat) : Int) = 10 := by omega
  have n6 : ¬ ((x.o : Nat) : Int) = 18 := by omega
  go_enter Tryz.func86, Tryz.ntmps86
  go_wp2_with fail
  all_goals (try go_region)
  all_goals (try go_wp2_with fail)
  all_goals (clear c0 c2 c3 c4 c5 c6 c7 c8 lb lq fb)
  all_goals (try simp only [bne_iff_ne, Bool.and_eq_true, Bool.or_eq_true, beq_iff_eq, decide_eq_true_eq, decide_eq_false_iff_not, Bool.and_eq_false_iff, Bool.not_eq_true, ne_eq] at *)
  all_goals first
    | (refine bodyPost_ret (v := .tuple #[.int .i64 (-1), .int .i64 0]) ?_ rfl (did_no ?_ rfl ?_)
       · simp [results, Tryz.results86, go_sem]
       · unfold ou3; (repeat' split) <;> first | rfl | (exfalso; omega) | (exfalso; simp_all; done) | (exfalso; simp_all; omega)
       · (repeat (first | exact Below.refl _ _ | (refine bel_alloc ?_ _) | (refine Below.drew ?_))))
theorem ru3 {B p m b q k : Nat} {sv : Value} {L : List Nd} {x y0 y1 y2 : Nd} {W : World} (S : StoreAt B W p m sv L) (hB : B ≤ W.heap.size) (hx : x.Ok) (A : Apart b q p m sv) (C : ClosAt W b q p k x y0 y1 y2) :
    Calls Tryz.prog 86 #[.pointer (some ⟨b, 0, none⟩)] W (Did B p m sv L (ou3 x y0 y1) W) := by
  by_cases ho : x.o = 5 ∨ x.o = 6 ∨ x.o = 7 ∨ x.o = 8 ∨ x.o = 10 ∨ x.o = 18
  · rcases ho with ho | ho | ho | ho | ho | ho
    · exact ru3_5 S hB hx A C ho
    · exact ru3_6 S hB hx A C ho
    · exact ru3_7 S hB hx A C ho
    · exact ru3_8 S hB hx A C ho
    · exact ru3_10 S hB hx A C ho
    · exact ru3_18 S hB hx A C ho
  · exact ru3_not C ho
end Ru
end Go.Proofs.YtkiegiofholofaaGreatDoor
