/-
Rule 4 of layer rule, as a fact on one call.
Rule 5 of layer rule, as a fact on one call.
Rule 6 of layer rule, as a fact on one call.
Rule 7 of layer rule, as a fact on one call.
-/
import Derived.Test.YtkiegiofholofaaGreatDoorPt11
import Derived.BigRegion
import Derived.BigQuiet
import Derived.Lib.Hide
import Derived.Deep.RegionHeld3
import Derived.Test.YtkiegiofholofaaGreatDoorPt10
namespace Go.Proofs.YtkiegiofholofaaGreatDoor
open Go.RowKit Go.Maps Bv Tm Kn
namespace Ru
set_option maxHeartbeats 8000000
set_option maxRecDepth 100000

theorem ru4 {B p m b q k : Nat} {sv : Value} {L : List Nd} {x y0 y1 y2 : Nd} {W : World} (S : StoreAt B W p m sv L) (hB : B ≤ W.heap.size) (hx : x.Ok) (A : Apart b q p m sv) (C : ClosAt W b q p k x y0 y1 y2) (hy : y0.Ok) (hy1 : y1.Ok) (hw1 : 1 ≤ x.w) (hw2 : x.w ≤ 64) :
    Calls Tryz.prog 87 #[.pointer (some ⟨b, 0, none⟩)] W (Did B p m sv L (ou4 x y0 y1) W) := by
  have NB := Lib.hid A.b
  have NQ := Lib.hid A.q
  have NW : Hid (¬ foot p m sv W.heap.size) := Lib.hid (fun c => Nat.lt_irrefl _ (foot_lt S c))
  clear A
  have NV : Hid (¬ foot p m sv (W.heap.size + 1 + 1 + 1)) := Lib.hid (fun c => by have := foot_lt S c; omega)
  have HK0 : Hid (∀ w, Below W.heap.size W w → Calls Tryz.prog 80 #[.pointer (some ⟨q, 0, none⟩), .int .i64 0] w fun e w' => e = .returned (.tuple #[.int .i64 x.k0, .int .i64 0]) ∧ w = w') :=
    Lib.hid (fun w hb => skid_0 (C.s.keep hb))
  have HK1 : Hid (∀ w, Below W.heap.size W w → Calls Tryz.prog 80 #[.pointer (some ⟨q, 0, none⟩), .int .i64 1] w fun e w' => e = .returned (.tuple #[.int .i64 x.k1, .int .i64 0]) ∧ w = w') :=
    Lib.hid (fun w hb => skid_1 (C.s.keep hb))
  have HNOT : Hid (∀ w, Below W.heap.size W w → Calls Tryz.prog 88 #[.pointer (some ⟨q, 0, none⟩)] w (fun e w' => DidL B p m sv (mk L ⟨3, y0.w, x.k0, 0, 0, 0, 0⟩).1 (((mk L ⟨3, y0.w, x.k0, 0, 0, 0, 0⟩).2.1 : Nat) : Int) (((mk L ⟨3, y0.w, x.k0, 0, 0, 0, 0⟩).2.2 : Nat) : Int) W e w')) := Lib.hid (fun w hb => not_behind S hB hx hy NQ.out C.s hb)
  have hall : 2 ^ x.w - 1 < 18446744073709551616 := by have := pow_le64 hw2; omega
  have HMASK : Hid (∀ w : World, Calls Tryz.prog 85 #[.int .u8 ((x.w : Nat) : Int)] w fun e w' => e = .returned (.int .u64 ((2 ^ x.w - 1 : Nat) : Int)) ∧ w = w') := Lib.hid (fun w => rmask_any x.w hw1 hw2 w)
  have HMc : Hid (∀ w, Below W.heap.size W w → Calls Tryz.prog 17 #[.pointer (some ⟨p, 0, none⟩), .agg #[.int .u8 1, .int .u8 ((x.w : Nat) : Int), .int .i64 0, .int .i64 0, .int .i64 0, .int .u64 0, .int .u8 0]] w (fun e w' => DidL B p m sv (mk L ⟨1, x.w, 0, 0, 0, 0, 0⟩).1 (((mk L ⟨1, x.w, 0, 0, 0, 0, 0⟩).2.1 : Nat) : Int) (((mk L ⟨1, x.w, 0, 0, 0, 0, 0⟩).2.2 : Nat) : Int) W e w' ∧ Kept (foot p m sv) w w')) :=
    Lib.hid (fun w hb => make_did S hB hb (y := ⟨1, x.w, 0, 0, 0, 0, 0⟩) (cn_ok hx.w (by decide)))
  have HQ0 := fun W' => equal_byC x.o 5 y1 x.w (2 ^ x.w - 1) hx.o (by decide) hy1 hx.w hall W'
  have HQ1 := fun W' => equal_byC x.o 6 y1 x.w 0 hx.o (by decide) hy1 hx.w (by decide) W'
  have HQ2 := fun W' => equal_byC x.o 7 y1 x.w 0 hx.o (by decide) hy1 hx.w (by decide) W'
  have HQ3 := fun W' => equal_byC x.o 8 y1 x.w 0 hx.o (by decide) hy1 hx.w (by decide) W'
  have HQ4 := fun W' => equal_byC x.o 9 y1 x.w 0 hx.o (by decide) hy1 hx.w (by decide) W'
  have HQ5 := fun W' => equal_byC x.o 15 y1 x.w 0 hx.o (by decide) hy1 hx.w (by decide) W'
  have HQ6 := fun W' => equal_byC x.o 16 y1 x.w 0 hx.o (by decide) hy1 hx.w (by decide) W'
  have HQ7 := fun W' => equal_byC x.o 17 y1 x.w 0 hx.o (by decide) hy1 hx.w (by decide) W'
  have HQ8 := fun W' => equal_byC x.o 10 y1 x.w 1 hx.o (by decide) hy1 hx.w (by decide) W'
  have HQ9 := fun W' => equal_byC x.o 11 y1 x.w 1 hx.o (by decide) hy1 hx.w (by decide) W'
  have HQ10 := fun W' => equal_byC x.o 5 y1 x.w 0 hx.o (by decide) hy1 hx.w (by decide) W'
  have HQ11 := fun W' => equal_byC x.o 6 y1 x.w (2 ^ x.w - 1) hx.o (by decide) hy1 hx.w hall W'
  have HQ12 := fun W' => equal_byC x.o 10 y1 x.w 0 hx.o (by decide) hy1 hx.w (by decide) W'
  have HQ13 := fun W' => equal_byC x.o 7 y1 x.w (2 ^ x.w - 1) hx.o (by decide) hy1 hx.w hall W'
  have HQ14 := fun W' => equal_byC x.o 12 y1 x.w 1 hx.o (by decide) hy1 hx.w (by decide) W'
  obtain ⟨al, hal⟩ : ∃ al, al = 2 ^ x.w - 1 := ⟨_, rfl⟩
  rw [← hal] at HMASK HQ0 HQ11 HQ13
  simp only [Int.cast_ofNat_Int] at HQ0 HQ1 HQ2 HQ3 HQ4 HQ5 HQ6 HQ7 HQ8 HQ9 HQ10 HQ11 HQ12 HQ13 HQ14
  have lb := C.lb
  have lq := C.s.1
  have fb := C.fb
  have c0 := C.s.2 0 _ rfl
  have c2 := C.s.2 2 _ rfl
  have c3 := C.s.2 3 _ rfl
  have c4 := C.s.2 4 _ rfl
  have c5 := C.s.2 5 _ rfl
  have c16 := C.s.2 16 _ rfl
  have c17 := C.s.2 17 _ rfl
  have c18 := C.s.2 18 _ rfl
  have c19 := C.s.2 19 _ rfl
  have c20 := C.s.2 20 _ rfl
  have c21 := C.s.2 21 _ rfl
  have c22 := C.s.2 22 _ rfl
  clear C S hB hx
  clear hy hy1 hw1 hw2 hall
  have lb1 : b < W.heap.size + 1 := by omega
  have lb2 : b < W.heap.size + 1 + 1 := by omega
  have lb3 : b < W.heap.size + 1 + 1 + 1 := by omega
  have lb4 : b < W.heap.size + 1 + 1 + 1 + 1 := by omega
  have lb5 : b < W.heap.size + 1 + 1 + 1 + 1 + 1 := by omega
  have lb6 : b < W.heap.size + 1 + 1 + 1 + 1 + 1 + 1 := by omega
  have lb7 : b < W.heap.size + 1 + 1 + 1 + 1 + 1 + 1 + 1 := by omega
  have lb8 : b < W.heap.size + 1 + 1 + 1 + 1 + 1 + 1 + 1 + 1 := by omega
  have lq1 : q < W.heap.size + 1 := by omega
  have lq2 : q < W.heap.size + 1 + 1 := by omega
  have lq3 : q < W.heap.size + 1 + 1 + 1 := by omega
  have lq4 : q < W.heap.size + 1 + 1 + 1 + 1 := by omega
  have lq5 : q < W.heap.size + 1 + 1 + 1 + 1 + 1 := by omega
  have lq6 : q < W.heap.size + 1 + 1 + 1 + 1 + 1 + 1 := by omega
  have lq7 : q < W.heap.size + 1 + 1 + 1 + 1 + 1 + 1 + 1 := by omega
  have lq8 : q < W.heap.size + 1 + 1 + 1 + 1 + 1 + 1 + 1 + 1 := by omega
  have HAL := Lib.hid hal
  clear hal
  go_enter Tryz.func87, Tryz.ntmps87
  go_wp2_with (first | (go_at_call 79; with_reducible refine (rconst_any _ _ _).mono ?_; rintro e w1 ⟨rfl, rfl⟩) | (go_at_call 85; with_reducible refine (HMASK.out _).mono ?_; rintro e w1 ⟨rfl, rfl⟩))
  go_region
  all_goals (try go_wp2_with (first | (go_at_call 80; with_reducible refine (HK0.out _ (by repeat (first | exact Below.refl _ _ | (refine bel_alloc ?_ _) | (refine Below.drew ?_) | (refine Below.setCell ?_ (by simp) _)))).mono ?_; rintro e w1 ⟨rfl, rfl⟩) | (go_at_call 80; with_reducible refine (HK1.out _ (by repeat (first | exact Below.refl _ _ | (refine bel_alloc ?_ _) | (refine Below.drew ?_) | (refine Below.setCell ?_ (by simp) _)))).mono ?_; rintro e w1 ⟨rfl, rfl⟩) | (go_at_call 88; with_reducible refine (HNOT.out _ (by repeat (first | exact Below.refl _ _ | (refine bel_alloc ?_ _) | (refine Below.drew ?_) | (refine Below.setCell ?_ (by simp) _)))).mono ?_; rintro e w1 ⟨rfl, hd⟩; have HD := Lib.hid hd; clear hd)))
  all_goals (try simp only [← Classical.not_and_iff_not_or_not] at *)
  all_goals (try (exfalso; contradiction))
  all_goals (try go_region_held3 (fun w' => w'.cell? ⟨b, 0, none⟩ = some (.pointer (some ⟨q, 0, none⟩)) ∧ w'.cell? ⟨q, 0, none⟩ = some (.pointer (some ⟨p, 0, none⟩)) ∧ w'.cell? ⟨W.heap.size + 1 + 1 + 1, 0, none⟩ = some (.int .u8 1) ∧ w'.cell? ⟨W.heap.size + 1 + 1 + 1, 1, none⟩ = some (.int .u8 ((x.w : Nat) : Int)) ∧ w'.cell? ⟨W.heap.size + 1 + 1 + 1, 2, none⟩ = some (.int .i64 0) ∧ w'.cell? ⟨W.heap.size + 1 + 1 + 1, 3, none⟩ = some (.int .i64 0) ∧ w'.cell? ⟨W.heap.size + 1 + 1 + 1, 4, none⟩ = some (.int .i64 0) ∧ w'.cell? ⟨W.heap.size + 1 + 1 + 1, 5, none⟩ = some (.int .u64 0) ∧ w'.cell? ⟨W.heap.size + 1 + 1 + 1, 6, none⟩ = some (.int .u8 0)) (first | (refine ⟨?_, ?_, ?_, ?_, ?_, ?_, ?_, ?_, ?_⟩ <;> go_simp)) (first | (go_at_call 79; with_reducible refine (rconst_any _ _ _).mono ?_; rintro e w1 ⟨rfl, rfl⟩) | (go_at_call 17; with_reducible refine (HMc.out _ (by repeat (first | exact Below.refl _ _ | (refine bel_alloc ?_ _) | (refine Below.drew ?_) | (refine Below.setCell ?_ (by simp) _)))).mono ?_; rintro e w1 ⟨⟨rfl, hd⟩, hk⟩; have HD := Lib.hid hd; have g0 := hk.cell (x := ⟨b, 0, none⟩) (by simp <;> omega) NB.out; have g1 := hk.cell (x := ⟨q, 0, none⟩) (by simp <;> omega) NQ.out; have g2 := hk.cell (x := ⟨W.heap.size + 1 + 1 + 1, 0, none⟩) (by simp <;> omega) NV.out; have g3 := hk.cell (x := ⟨W.heap.size + 1 + 1 + 1, 1, none⟩) (by simp <;> omega) NV.out; have g4 := hk.cell (x := ⟨W.heap.size + 1 + 1 + 1, 2, none⟩) (by simp <;> omega) NV.out; have g5 := hk.cell (x := ⟨W.heap.size + 1 + 1 + 1, 3, none⟩) (by simp <;> omega) NV.out; have g6 := hk.cell (x := ⟨W.heap.size + 1 + 1 + 1, 4, none⟩) (by simp <;> omega) NV.out; have g7 := hk.cell (x := ⟨W.heap.size + 1 + 1 + 1, 5, none⟩) (by simp <;> omega) NV.out; have g8 := hk.cell (x := ⟨W.heap.size + 1 + 1 + 1, 6, none⟩) (by simp <;> omega) NV.out; clear hd hk)))
  all_goals (try go_wp2_with fail)
  all_goals (clear HK0 HK1 HNOT HMASK HMc HQ0 HQ1 HQ2 HQ3 HQ4 HQ5 HQ6 HQ7 HQ8 HQ9 HQ10 HQ11 HQ12 HQ13 HQ14 c0 c2 c3 c4 c5 c16 c17 c18 c19 c20 c21 c22 lb lq fb lb1 lb2 lb3 lb4 lb5 lb6 lb7 lb8 lq1 lq2 lq3 lq4 lq5 lq6 lq7 lq8)
  all_goals (try simp only [bne_eq_false_iff_eq, beq_eq_false_iff_ne, ← Classical.not_and_iff_not_or_not, bne_iff_ne, Bool.and_eq_true, Bool.or_eq_true, beq_iff_eq, decide_eq_true_eq, decide_eq_false_iff_not, Bool.and_eq_false_iff, Bool.not_eq_true, ne_eq] at *)
  all_goals first
    | (refine bodyPost_ret (v := .tuple #[.int .i64 (-1), .int .i64 0]) ?_ rfl (did_no ?_ rfl ?_)
       · simp [results, Tryz.results87, go_sem]
       · unfold ou4; rw [← HAL.out]; repeat (first | rfl | rw [if_pos (by assumption)] | rw [if_neg (by assumption)])
       · (repeat (first | exact Below.refl _ _ | (refine bel_alloc ?_ _) | (refine Below.drew ?_))))
    | (refine bodyPost_ret (v := .tuple #[.int .i64 (x.k0), .int .i64 0]) ?_ rfl (did_num ?_ rfl ?_)
       · simp [results, Tryz.results87, go_sem]
       · unfold ou4; rw [← HAL.out]; repeat (first | rfl | rw [if_pos (by assumption)] | rw [if_neg (by assumption)])
       · (repeat (first | exact Below.refl _ _ | (refine bel_alloc ?_ _) | (refine Below.drew ?_))))
    | (refine bodyPost_ret (v := .tuple #[.int .i64 (x.k1), .int .i64 0]) ?_ rfl (did_num ?_ rfl ?_)
       · simp [results, Tryz.results87, go_sem]
       · unfold ou4; rw [← HAL.out]; repeat (first | rfl | rw [if_pos (by assumption)] | rw [if_neg (by assumption)])
       · (repeat (first | exact Below.refl _ _ | (refine bel_alloc ?_ _) | (refine Below.drew ?_))))
    | (refine bodyPost_ret (v := _) ?_ rfl (did_make (y := ⟨3, y0.w, x.k0, 0, 0, 0, 0⟩) ?_ ⟨rfl, HD.out⟩)
       · simp [results, Tryz.results87, go_sem]
       · unfold ou4; rw [← HAL.out]; repeat (first | rfl | rw [if_pos (by assumption)] | rw [if_neg (by assumption)]))
    | (refine bodyPost_ret (v := _) ?_ rfl (did_make (y := ⟨1, x.w, 0, 0, 0, 0, 0⟩) ?_ ⟨rfl, HD.out⟩)
       · simp [results, Tryz.results87, go_sem]
       · unfold ou4; rw [← HAL.out]; repeat (first | rfl | rw [if_pos (by assumption)] | rw [if_neg (by assumption)]))
end Ru
end Go.Proofs.YtkiegiofholofaaGreatDoor

namespace Go.Proofs.YtkiegiofholofaaGreatDoor
open Go.RowKit Go.Maps Bv Tm Kn
namespace Ru
set_option maxHeartbeats 8000000
set_option maxRecDepth 100000

theorem ru5 {B p m b q k : Nat} {sv : Value} {L : List Nd} {x y0 y1 y2 : Nd} {W : World} (S : StoreAt B W p m sv L) (hB : B ≤ W.heap.size) (hx : x.Ok) (A : Apart b q p m sv) (C : ClosAt W b q p k x y0 y1 y2) :
    Calls Tryz.prog 89 #[.pointer (some ⟨b, 0, none⟩)] W (Did B p m sv L (ou5 x) W) := by
  have NB := Lib.hid A.b
  have NQ := Lib.hid A.q
  have NW : Hid (¬ foot p m sv W.heap.size) := Lib.hid (fun c => Nat.lt_irrefl _ (foot_lt S c))
  clear A
  have HM0 : Hid (∀ w, Below W.heap.size W w → Calls Tryz.prog 17 #[.pointer (some ⟨p, 0, none⟩), .agg #[.int .u8 1, .int .u8 ((x.w : Nat) : Int), .int .i64 0, .int .i64 0, .int .i64 0, .int .u64 0, .int .u8 0]] w (fun e w' => DidL B p m sv (mk L ⟨1, x.w, 0, 0, 0, 0, 0⟩).1 (((mk L ⟨1, x.w, 0, 0, 0, 0, 0⟩).2.1 : Nat) : Int) (((mk L ⟨1, x.w, 0, 0, 0, 0, 0⟩).2.2 : Nat) : Int) W e w' ∧ Kept (foot p m sv) w w')) :=
    Lib.hid (fun w hb => make_did S hB hb (y := ⟨1, x.w, 0, 0, 0, 0, 0⟩) (cn_ok hx.w (by decide)))
  have HM1 : Hid (∀ w, Below W.heap.size W w → Calls Tryz.prog 17 #[.pointer (some ⟨p, 0, none⟩), .agg #[.int .u8 1, .int .u8 ((x.w : Nat) : Int), .int .i64 0, .int .i64 0, .int .i64 0, .int .u64 1, .int .u8 0]] w (fun e w' => DidL B p m sv (mk L ⟨1, x.w, 0, 0, 0, 1, 0⟩).1 (((mk L ⟨1, x.w, 0, 0, 0, 1, 0⟩).2.1 : Nat) : Int) (((mk L ⟨1, x.w, 0, 0, 0, 1, 0⟩).2.2 : Nat) : Int) W e w' ∧ Kept (foot p m sv) w w')) :=
    Lib.hid (fun w hb => make_did S hB hb (y := ⟨1, x.w, 0, 0, 0, 1, 0⟩) (cn_ok hx.w (by decide)))
  have HK0 : Hid (∀ w, Below W.heap.size W w → Calls Tryz.prog 80 #[.pointer (some ⟨q, 0, none⟩), .int .i64 0] w fun e w' => e = .returned (.tuple #[.int .i64 x.k0, .int .i64 0]) ∧ w = w') :=
    Lib.hid (fun w hb => skid_0 (C.s.keep hb))
  have HK1 : Hid (∀ w, Below W.heap.size W w → Calls Tryz.prog 80 #[.pointer (some ⟨q, 0, none⟩), .int .i64 1] w fun e w' => e = .returned (.tuple #[.int .i64 x.k1, .int .i64 0]) ∧ w = w') :=
    Lib.hid (fun w hb => skid_1 (C.s.keep hb))
  have lb := C.lb
  have lq := C.s.1
  have fb := C.fb
  have c0 := C.s.2 0 _ rfl
  have c2 := C.s.2 2 _ rfl
  have c3 := C.s.2 3 _ rfl
  have c4 := C.s.2 4 _ rfl
  have c5 := C.s.2 5 _ rfl
  have c6 := C.s.2 6 _ rfl
  have c7 := C.s.2 7 _ rfl
  have c8 := C.s.2 8 _ rfl
  clear C S hB hx
  obtain ⟨o, w, k0, k1, k2, n, l⟩ := x
  simp only at HM0 HM1 HK0 HK1
  go_enter Tryz.func89, Tryz.ntmps89
  go_wp2_with (first | (go_at_call 80; with_reducible refine (HK0.out _ (by repeat (first | exact Below.refl _ _ | (refine bel_alloc ?_ _) | (refine Below.drew ?_) | (refine Below.setCell ?_ (by simp) _)))).mono ?_; rintro e w1 ⟨rfl, rfl⟩) | (go_at_call 80; with_reducible refine (HK1.out _ (by repeat (first | exact Below.refl _ _ | (refine bel_alloc ?_ _) | (refine Below.drew ?_) | (refine Below.setCell ?_ (by simp) _)))).mono ?_; rintro e w1 ⟨rfl, rfl⟩))
  all_goals (try go_region_held3 (fun w' => w'.cell? ⟨b, 0, none⟩ = some (.pointer (some ⟨q, 0, none⟩)) ∧ w'.cell? ⟨q, 0, none⟩ = some (.pointer (some ⟨p, 0, none⟩)) ∧ w'.cell? ⟨W.heap.size, 1, none⟩ = some (.int .u8 ((w : Nat) : Int))) (first | (refine ⟨?_, ?_, ?_⟩ <;> go_simp)) (first | (go_at_call 79; with_reducible refine (rconst_any _ _ _).mono ?_; rintro e w1 ⟨rfl, rfl⟩) | (go_at_call 17; with_reducible refine (HM0.out _ (by repeat (first | exact Below.refl _ _ | (refine bel_alloc ?_ _) | (refine Below.drew ?_) | (refine Below.setCell ?_ (by simp) _)))).mono ?_; rintro e w1 ⟨⟨rfl, hd⟩, hk⟩; have HD := Lib.hid hd; have g0 := hk.cell (x := ⟨b, 0, none⟩) (by simp <;> omega) NB.out; have g1 := hk.cell (x := ⟨q, 0, none⟩) (by simp <;> omega) NQ.out; have g2 := hk.cell (x := ⟨W.heap.size, 1, none⟩) (by simp <;> omega) NW.out; clear hd hk) | (go_at_call 17; with_reducible refine (HM1.out _ (by repeat (first | exact Below.refl _ _ | (refine bel_alloc ?_ _) | (refine Below.drew ?_) | (refine Below.setCell ?_ (by simp) _)))).mono ?_; rintro e w1 ⟨⟨rfl, hd⟩, hk⟩; have HD := Lib.hid hd; have g0 := hk.cell (x := ⟨b, 0, none⟩) (by simp <;> omega) NB.out; have g1 := hk.cell (x := ⟨q, 0, none⟩) (by simp <;> omega) NQ.out; have g2 := hk.cell (x := ⟨W.heap.size, 1, none⟩) (by simp <;> omega) NW.out; clear hd hk)))
  all_goals (try go_wp2_with fail)
  all_goals (clear HM0 HM1 HK0 HK1 c0 c2 c3 c4 c5 c6 c7 c8 lb lq fb)
  all_goals (try simp only [bne_iff_ne, beq_iff_eq, ne_eq] at *)
  all_goals first
    | (refine bodyPost_ret (v := .tuple #[.int .i64 (-1), .int .i64 0]) ?_ rfl (did_no ?_ rfl ?_)
       · simp [results, Tryz.results89, go_sem]
       · unfold ou5; (repeat' split) <;> first | rfl | (exfalso; omega) | (exfalso; simp_all; done) | (exfalso; simp_all; omega)
       · (repeat (first | exact Below.refl _ _ | (refine bel_alloc ?_ _) | (refine Below.drew ?_))))
    | (refine bodyPost_ret (v := .tuple #[.int .i64 (k0), .int .i64 0]) ?_ rfl (did_num ?_ rfl ?_)
       · simp [results, Tryz.results89, go_sem]
       · unfold ou5; (repeat' split) <;> first | rfl | (exfalso; omega) | (exfalso; simp_all; done) | (exfalso; simp_all; omega)
       · (repeat (first | exact Below.refl _ _ | (refine bel_alloc ?_ _) | (refine Below.drew ?_))))
    | (refine bodyPost_ret (v := .tuple #[.int .i64 (k1), .int .i64 0]) ?_ rfl (did_num ?_ rfl ?_)
       · simp [results, Tryz.results89, go_sem]
       · unfold ou5; (repeat' split) <;> first | rfl | (exfalso; omega) | (exfalso; simp_all; done) | (exfalso; simp_all; omega)
       · (repeat (first | exact Below.refl _ _ | (refine bel_alloc ?_ _) | (refine Below.drew ?_))))
    | (refine bodyPost_ret (v := _) ?_ rfl (did_make (y := ⟨1, w, 0, 0, 0, 0, 0⟩) ?_ ⟨rfl, HD.out⟩)
       · simp [results, Tryz.results89, go_sem]
       · unfold ou5; (repeat' split) <;> first | rfl | (exfalso; omega) | (exfalso; simp_all; done) | (exfalso; simp_all; omega))
    | (refine bodyPost_ret (v := _) ?_ rfl (did_make (y := ⟨1, w, 0, 0, 0, 1, 0⟩) ?_ ⟨rfl, HD.out⟩)
       · simp [results, Tryz.results89, go_sem]
       · unfold ou5; (repeat' split) <;> first | rfl | (exfalso; omega) | (exfalso; simp_all; done) | (exfalso; simp_all; omega))
end Ru
end Go.Proofs.YtkiegiofholofaaGreatDoor

namespace Go.Proofs.YtkiegiofholofaaGreatDoor
open Go.RowKit Go.Maps Bv Tm Kn
namespace Ru
set_option maxHeartbeats 1000000
set_option maxRecDepth 100000

theorem ru6 {B p m b q k : Nat} {sv : Value} {L : List Nd} {x y0 y1 y2 : Nd} {W : World} (C : ClosAt W b q p k x y0 y1 y2) :
    Calls Tryz.prog 90 #[.pointer (some ⟨b, 0, none⟩)] W (Did B p m sv L (ou6 x y0) W) := by
  have lb := C.lb
  have lq := C.s.1
  have fb := C.fb
  have c2 := C.s.2 2 _ rfl
  have d0 := C.s.2 9 _ rfl
  have d1 := C.s.2 10 _ rfl
  have d2 := C.s.2 11 _ rfl
  have d3 := C.s.2 12 _ rfl
  have d4 := C.s.2 13 _ rfl
  have d5 := C.s.2 14 _ rfl
  have d6 := C.s.2 15 _ rfl
  clear C
  go_enter Tryz.func90, Tryz.ntmps90
  go_wp2
  go_region
  all_goals (go_wp2)
  all_goals (clear fb c2 d0 d1 d2 d3 d4 d5 d6 lb lq)
  all_goals (try simp only [bne_iff_ne, ne_eq] at *)
  all_goals first
    | (refine bodyPost_ret (v := .tuple #[.int .i64 (-1), .int .i64 0]) ?_ rfl (did_no ?_ rfl ?_)
       · simp [results, Tryz.results90, go_sem]
       · unfold ou6; (repeat' split) <;> first | rfl | (exfalso; omega) | (exfalso; simp_all; done) | (exfalso; simp_all; omega)
       · (repeat (first | exact Below.refl _ _ | (refine bel_alloc ?_ _) | (refine Below.drew ?_))))
    | (refine bodyPost_ret (v := .tuple #[.int .i64 (y0.k0), .int .i64 0]) ?_ rfl (did_num ?_ rfl ?_)
       · simp [results, Tryz.results90, go_sem]
       · unfold ou6; (repeat' split) <;> first | rfl | (exfalso; omega) | (exfalso; simp_all; done) | (exfalso; simp_all; omega)
       · (repeat (first | exact Below.refl _ _ | (refine bel_alloc ?_ _) | (refine Below.drew ?_))))
end Ru
end Go.Proofs.YtkiegiofholofaaGreatDoor

namespace Go.Proofs.YtkiegiofholofaaGreatDoor
open Go.RowKit Go.Maps Bv Tm Kn
namespace Ru
set_option maxHeartbeats 8000000
set_option maxRecDepth 100000

theorem ru7_not {B p m b q k : Nat} {sv : Value} {L : List Nd} {x y0 y1 y2 : Nd} {W : World} (C : ClosAt W b q p k x y0 y1 y2) (ho : ¬ x.o = 25) :
    Calls Tryz.prog 91 #[.pointer (some ⟨b, 0, none⟩)] W (Did B p m sv L (ou7 x y0 y1 y2) W) := by
  have lb := C.lb
  have lq := C.s.1
  have fb := C.fb
  have c0 := C.s.2 0 _ rfl
  have c2 := C.s.2 2 _ rfl
  have c3 := C.s.2 3 _ rfl
  have c4 := C.s.2 4 _ rfl
  have c5 := C.s.2 5 _ rfl
  have c6 := C.s.2 6 _ rfl
  have c7 := C.s.2 7 _ rfl
  have c8 := C.s.2 8 _ rfl
  have c9 := C.s.2 9 _ rfl
  have c10 := C.s.2 10 _ rfl
  have c11 := C.s.2 11 _ rfl
  have c12 := C.s.2 12 _ rfl
  have c13 := C.s.2 13 _ rfl
  have c14 := C.s.2 14 _ rfl
  have c15 := C.s.2 15 _ rfl
  clear C
  have n1 : ¬ ((x.o : Nat) : Int) = 25 := by omega
  go_enter Tryz.func91, Tryz.ntmps91
  go_wp2_with fail
  go_region
  all_goals (try go_wp2_with fail)
  all_goals (clear c0 c2 c3 c4 c5 c6 c7 c8 c9 c10 c11 c12 c13 c14 c15 lb lq fb)
  all_goals (try simp only [bne_iff_ne, ne_eq] at *)
  all_goals first
    | (refine bodyPost_ret (v := .tuple #[.int .i64 (-1), .int .i64 0]) ?_ rfl (did_no ?_ rfl ?_)
       · simp [results, Tryz.results91, go_sem]
       · unfold ou7; (repeat' split) <;> first | rfl | (exfalso; omega) | (exfalso; simp_all; done) | (exfalso; simp_all; omega)
       · (repeat (first | exact Below.refl _ _ | (refine bel_alloc ?_ _) | (refine Below.drew ?_))))
theorem ru7_neg {B p m b q k : Nat} {sv : Value} {L : List Nd} {x y0 y1 y2 : Nd} {W : World} (S : StoreAt B W p m sv L) (hB : B ≤ W.heap.size) (hx : x.Ok) (A : Apart b q p m sv) (C : ClosAt W b q p k x y0 y1 y2) (hy : y0.Ok) (ho : x.o = 25) (hn : y0.o = 3) :
    Calls Tryz.prog 91 #[.pointer (some ⟨b, 0, none⟩)] W (Did B p m sv L (ou7 x y0 y1 y2) W) := by
  have NB := Lib.hid A.b
  have NQ := Lib.hid A.q
  have NW : Hid (¬ foot p m sv W.heap.size) := Lib.hid (fun c => Nat.lt_irrefl _ (foot_lt S c))
  clear A
  have NV : Hid (¬ foot p m sv (W.heap.size + 1)) := Lib.hid (fun c => by have := foot_lt S c; omega)
  have HM : Hid (∀ w, Below W.heap.size W w → Calls Tryz.prog 17 #[.pointer (some ⟨p, 0, none⟩), .agg #[.int .u8 ((x.o : Nat) : Int), .int .u8 ((x.w : Nat) : Int), .int .i64 y0.k0, .int .i64 x.k2, .int .i64 x.k1, .int .u64 ((x.n : Nat) : Int), .int .u8 ((x.l : Nat) : Int)]] w (fun e w' => DidL B p m sv (mk L ⟨x.o, x.w, y0.k0, x.k2, x.k1, x.n, x.l⟩).1 (((mk L ⟨x.o, x.w, y0.k0, x.k2, x.k1, x.n, x.l⟩).2.1 : Nat) : Int) (((mk L ⟨x.o, x.w, y0.k0, x.k2, x.k1, x.n, x.l⟩).2.2 : Nat) : Int) W e w' ∧ Kept (foot p m sv) w w')) :=
    Lib.hid (fun w hb => make_did S hB hb (y := ⟨x.o, x.w, y0.k0, x.k2, x.k1, x.n, x.l⟩) ⟨hx.o, hx.w, hy.k0, hx.k2, hx.k1, hx.n, hx.l⟩)
  have lb := C.lb
  have lq := C.s.1
  have fb := C.fb
  have c0 := C.s.2 0 _ rfl
  have c2 := C.s.2 2 _ rfl
  have c3 := C.s.2 3 _ rfl
  have c4 := C.s.2 4 _ rfl
  have c5 := C.s.2 5 _ rfl
  have c6 := C.s.2 6 _ rfl
  have c7 := C.s.2 7 _ rfl
  have c8 := C.s.2 8 _ rfl
  have c9 := C.s.2 9 _ rfl
  have c10 := C.s.2 10 _ rfl
  have c11 := C.s.2 11 _ rfl
  have c12 := C.s.2 12 _ rfl
  have c13 := C.s.2 13 _ rfl
  have c14 := C.s.2 14 _ rfl
  have c15 := C.s.2 15 _ rfl
  clear C S hB hx
  clear hy
  have HN := Lib.hid hn
  obtain ⟨o, w, k0, k1, k2, n, l⟩ := x
  simp only at ho HM
  subst ho
  simp only [Int.cast_ofNat_Int] at HM
  have n1 : ((y0.o : Nat) : Int) = 3 := by omega
  go_enter Tryz.func91, Tryz.ntmps91
  go_wp2_with fail
  go_region
  all_goals (try go_wp2_with fail)
  all_goals (try go_region)
  all_goals (try go_wp2_with fail)
  all_goals (try go_region_held3 (fun w' => w'.cell? ⟨b, 0, none⟩ = some (.pointer (some ⟨q, 0, none⟩)) ∧ w'.cell? ⟨q, 0, none⟩ = some (.pointer (some ⟨p, 0, none⟩)) ∧ w'.cell? ⟨W.heap.size, 0, none⟩ = some (.int .u8 25) ∧ w'.cell? ⟨W.heap.size, 1, none⟩ = some (.int .u8 ((w : Nat) : Int)) ∧ w'.cell? ⟨W.heap.size, 2, none⟩ = some (.int .i64 y0.k0) ∧ w'.cell? ⟨W.heap.size, 3, none⟩ = some (.int .i64 k2) ∧ w'.cell? ⟨W.heap.size, 4, none⟩ = some (.int .i64 k1) ∧ w'.cell? ⟨W.heap.size, 5, none⟩ = some (.int .u64 ((n : Nat) : Int)) ∧ w'.cell? ⟨W.heap.size, 6, none⟩ = some (.int .u8 ((l : Nat) : Int))) (first | (refine ⟨?_, ?_, ?_, ?_, ?_, ?_, ?_, ?_, ?_⟩ <;> go_simp)) (first | (go_at_call 17; with_reducible refine (HM.out _ (by repeat (first | exact Below.refl _ _ | (refine bel_alloc ?_ _) | (refine Below.drew ?_) | (refine Below.setCell ?_ (by simp) _)))).mono ?_; rintro e w1 ⟨⟨rfl, hd⟩, hk⟩; have HD := Lib.hid hd; have g0 := hk.cell (x := ⟨b, 0, none⟩) (by simp <;> omega) NB.out; have g1 := hk.cell (x := ⟨q, 0, none⟩) (by simp <;> omega) NQ.out; have g2 := hk.cell (x := ⟨W.heap.size, 0, none⟩) (by simp <;> omega) NW.out; have g3 := hk.cell (x := ⟨W.heap.size, 1, none⟩) (by simp <;> omega) NW.out; have g4 := hk.cell (x := ⟨W.heap.size, 2, none⟩) (by simp <;> omega) NW.out; have g5 := hk.cell (x := ⟨W.heap.size, 3, none⟩) (by simp <;> omega) NW.out; have g6 := hk.cell (x := ⟨W.heap.size, 4, none⟩) (by simp <;> omega) NW.out; have g7 := hk.cell (x := ⟨W.heap.size, 5, none⟩) (by simp <;> omega) NW.out; have g8 := hk.cell (x := ⟨W.heap.size, 6, none⟩) (by simp <;> omega) NW.out; clear hd hk)))
  all_goals (try go_region_held3 (fun w' => w'.cell? ⟨b, 0, none⟩ = some (.pointer (some ⟨q, 0, none⟩)) ∧ w'.cell? ⟨q, 0, none⟩ = some (.pointer (some ⟨p, 0, none⟩)) ∧ w'.cell? ⟨W.heap.size + 1, 0, none⟩ = some (.int .u8 25) ∧ w'.cell? ⟨W.heap.size + 1, 1, none⟩ = some (.int .u8 ((w : Nat) : Int)) ∧ w'.cell? ⟨W.heap.size + 1, 2, none⟩ = some (.int .i64 y0.k0) ∧ w'.cell? ⟨W.heap.size + 1, 3, none⟩ = some (.int .i64 k2) ∧ w'.cell? ⟨W.heap.size + 1, 4, none⟩ = some (.int .i64 k1) ∧ w'.cell? ⟨W.heap.size + 1, 5, none⟩ = some (.int .u64 ((n : Nat) : Int)) ∧ w'.cell? ⟨W.heap.size + 1, 6, none⟩ = some (.int .u8 ((l : Nat) : Int))) (first | (refine ⟨?_, ?_, ?_, ?_, ?_, ?_, ?_, ?_, ?_⟩ <;> go_simp)) (first | (go_at_call 17; with_reducible refine (HM.out _ (by repeat (first | exact Below.refl _ _ | (refine bel_alloc ?_ _) | (refine Below.drew ?_) | (refine Below.setCell ?_ (by simp) _)))).mono ?_; rintro e w1 ⟨⟨rfl, hd⟩, hk⟩; have HD := Lib.hid hd; have g0 := hk.cell (x := ⟨b, 0, none⟩) (by simp <;> omega) NB.out; have g1 := hk.cell (x := ⟨q, 0, none⟩) (by simp <;> omega) NQ.out; have g2 := hk.cell (x := ⟨W.heap.size + 1, 0, none⟩) (by simp <;> omega) NV.out; have g3 := hk.cell (x := ⟨W.heap.size + 1, 1, none⟩) (by simp <;> omega) NV.out; have g4 := hk.cell (x := ⟨W.heap.size + 1, 2, none⟩) (by simp <;> omega) NV.out; have g5 := hk.cell (x := ⟨W.heap.size + 1, 3, none⟩) (by simp <;> omega) NV.out; have g6 := hk.cell (x := ⟨W.heap.size + 1, 4, none⟩) (by simp <;> omega) NV.out; have g7 := hk.cell (x := ⟨W.heap.size + 1, 5, none⟩) (by simp <;> omega) NV.out; have g8 := hk.cell (x := ⟨W.heap.size + 1, 6, none⟩) (by simp <;> omega) NV.out; clear hd hk)))
  all_goals (try go_wp2_with fail)
  all_goals (clear n1)
  all_goals (clear HM c0 c2 c3 c4 c5 c6 c7 c8 c9 c10 c11 c12 c13 c14 c15 lb lq fb)
  all_goals (try simp only [← Classical.not_and_iff_not_or_not, bne_iff_ne, Bool.and_eq_true, Bool.or_eq_true, beq_iff_eq, decide_eq_true_eq, decide_eq_false_iff_not, Bool.and_eq_false_iff, Bool.not_eq_true, ne_eq] at *)
  all_goals first
    | (refine bodyPost_ret (v := .tuple #[.int .i64 (-1), .int .i64 0]) ?_ rfl (did_no ?_ rfl ?_)
       · simp [results, Tryz.results91, go_sem]
       · unfold ou7; (repeat' split) <;> first | rfl | (exfalso; have hn1 := HN.out; simp_all; done)
       · (repeat (first | exact Below.refl _ _ | (refine bel_alloc ?_ _) | (refine Below.drew ?_))))
    | (refine bodyPost_ret (v := _) ?_ rfl (did_make (y := ⟨25, w, y0.k0, k2, k1, n, l⟩) ?_ ⟨rfl, HD.out⟩)
       · simp [results, Tryz.results91, go_sem]
       · unfold ou7; (repeat' split) <;> first | rfl | (exfalso; have hn1 := HN.out; simp_all; done))
theorem ru7_two {B p m b q k : Nat} {sv : Value} {L : List Nd} {x y0 y1 y2 : Nd} {W : World} (S : StoreAt B W p m sv L) (hB : B ≤ W.heap.size) (hx : x.Ok) (A : Apart b q p m sv) (C : ClosAt W b q p k x y0 y1 y2) (hy : y0.Ok) (hy1 : y1.Ok) (hy2 : y2.Ok) (ho : x.o = 25) (hn : ¬ y0.o = 3) :
    Calls Tryz.prog 91 #[.pointer (some ⟨b, 0, none⟩)] W (Did B p m sv L (ou7 x y0 y1 y2) W) := by
  have NB := Lib.hid A.b
  have NQ := Lib.hid A.q
  have NW : Hid (¬ foot p m sv W.heap.size) := Lib.hid (fun c => Nat.lt_irrefl _ (foot_lt S c))
  clear A
  have HK0 : Hid (∀ w, Below W.heap.size W w → Calls Tryz.prog 80 #[.pointer (some ⟨q, 0, none⟩), .int .i64 0] w fun e w' => e = .returned (.tuple #[.int .i64 x.k0, .int .i64 0]) ∧ w = w') :=
    Lib.hid (fun w hb => skid_0 (C.s.keep hb))
  have HNOT : Hid (∀ w, Below W.heap.size W w → Calls Tryz.prog 88 #[.pointer (some ⟨q, 0, none⟩)] w (fun e w' => DidL B p m sv (mk L ⟨3, y0.w, x.k0, 0, 0, 0, 0⟩).1 (((mk L ⟨3, y0.w, x.k0, 0, 0, 0, 0⟩).2.1 : Nat) : Int) (((mk L ⟨3, y0.w, x.k0, 0, 0, 0, 0⟩).2.2 : Nat) : Int) W e w')) := Lib.hid (fun w hb => not_behind S hB hx hy NQ.out C.s hb)
  have HQ1 := fun W' => equal_twoC y1 y2 1 1 1 0 hy1 hy2 (by decide) (by decide) (by decide) (by decide) W'
  have HQ2 := fun W' => equal_twoC y1 y2 1 0 1 1 hy1 hy2 (by decide) (by decide) (by decide) (by decide) W'
  simp only [Int.cast_ofNat_Int] at HQ1 HQ2
  have lb := C.lb
  have lq := C.s.1
  have fb := C.fb
  have c0 := C.s.2 0 _ rfl
  have c2 := C.s.2 2 _ rfl
  have c3 := C.s.2 3 _ rfl
  have c4 := C.s.2 4 _ rfl
  have c5 := C.s.2 5 _ rfl
  have c6 := C.s.2 6 _ rfl
  have c7 := C.s.2 7 _ rfl
  have c8 := C.s.2 8 _ rfl
  have c9 := C.s.2 9 _ rfl
  have c10 := C.s.2 10 _ rfl
  have c11 := C.s.2 11 _ rfl
  have c12 := C.s.2 12 _ rfl
  have c13 := C.s.2 13 _ rfl
  have c14 := C.s.2 14 _ rfl
  have c15 := C.s.2 15 _ rfl
  have c16 := C.s.2 16 _ rfl
  have c17 := C.s.2 17 _ rfl
  have c18 := C.s.2 18 _ rfl
  have c19 := C.s.2 19 _ rfl
  have c20 := C.s.2 20 _ rfl
  have c21 := C.s.2 21 _ rfl
  have c22 := C.s.2 22 _ rfl
  have c23 := C.s.2 23 _ rfl
  have c24 := C.s.2 24 _ rfl
  have c25 := C.s.2 25 _ rfl
  have c26 := C.s.2 26 _ rfl
  have c27 := C.s.2 27 _ rfl
  have c28 := C.s.2 28 _ rfl
  have c29 := C.s.2 29 _ rfl
  clear C S hB hx
  clear hy hy1 hy2
  have HN := Lib.hid hn
  obtain ⟨o, w, k0, k1, k2, n, l⟩ := x
  simp only at ho HK0 HNOT
  subst ho
  have n1 : ¬ ((y0.o : Nat) : Int) = 3 := by omega
  have lb1 : b < W.heap.size + 1 := by omega
  have lb2 : b < W.heap.size + 1 + 1 := by omega
  have lb3 : b < W.heap.size + 1 + 1 + 1 := by omega
  have lb4 : b < W.heap.size + 1 + 1 + 1 + 1 := by omega
  have lb5 : b < W.heap.size + 1 + 1 + 1 + 1 + 1 := by omega
  have lq1 : q < W.heap.size + 1 := by omega
  have lq2 : q < W.heap.size + 1 + 1 := by omega
  have lq3 : q < W.heap.size + 1 + 1 + 1 := by omega
  have lq4 : q < W.heap.size + 1 + 1 + 1 + 1 := by omega
  have lq5 : q < W.heap.size + 1 + 1 + 1 + 1 + 1 := by omega
  go_enter Tryz.func91, Tryz.ntmps91
  go_wp2_with fail
  go_region
  all_goals (try go_wp2_with (go_at_call 79; with_reducible refine (rconst_any _ _ _).mono ?_; rintro e w1 ⟨rfl, rfl⟩))
  all_goals go_region
  all_goals (try go_wp2_with (first | (go_at_call 80; with_reducible refine (HK0.out _ (by repeat (first | exact Below.refl _ _ | (refine bel_alloc ?_ _) | (refine Below.drew ?_) | (refine Below.setCell ?_ (by simp) _)))).mono ?_; rintro e w1 ⟨rfl, rfl⟩) | (go_at_call 88; with_reducible refine (HNOT.out _ (by repeat (first | exact Below.refl _ _ | (refine bel_alloc ?_ _) | (refine Below.drew ?_) | (refine Below.setCell ?_ (by simp) _)))).mono ?_; rintro e w1 ⟨rfl, hd⟩; have HD := Lib.hid hd; clear hd)))
  all_goals (clear HK0 HNOT HQ1 HQ2 c0 c2 c3 c4 c5 c6 c7 c8 c9 c10 c11 c12 c13 c14 c15 c16 c17 c18 c19 c20 c21 c22 c23 c24 c25 c26 c27 c28 c29 lb lq fb lb1 lb2 lb3 lb4 lb5 lq1 lq2 lq3 lq4 lq5)
  all_goals (try simp only [← Classical.not_and_iff_not_or_not] at *)
  all_goals first
    | (refine bodyPost_ret (v := .tuple #[.int .i64 (-1), .int .i64 0]) ?_ rfl (did_no ?_ rfl ?_)
       · simp [results, Tryz.results91, go_sem]
       · unfold ou7; (repeat' split) <;> first | rfl | contradiction | (exfalso; have hn1 := HN.out; contradiction) | (rename_i hh; exact absurd rfl hh)
       · (repeat (first | exact Below.refl _ _ | (refine bel_alloc ?_ _) | (refine Below.drew ?_))))
    | (refine bodyPost_ret (v := .tuple #[.int .i64 (k0), .int .i64 0]) ?_ rfl (did_num ?_ rfl ?_)
       · simp [results, Tryz.results91, go_sem]
       · unfold ou7; (repeat' split) <;> first | rfl | contradiction | (exfalso; have hn1 := HN.out; contradiction) | (rename_i hh; exact absurd rfl hh)
       · (repeat (first | exact Below.refl _ _ | (refine bel_alloc ?_ _) | (refine Below.drew ?_))))
    | (refine bodyPost_ret (v := _) ?_ rfl (did_make (y := ⟨3, y0.w, k0, 0, 0, 0, 0⟩) ?_ ⟨rfl, HD.out⟩)
       · simp [results, Tryz.results91, go_sem]
       · unfold ou7; (repeat' split) <;> first | rfl | contradiction | (exfalso; have hn1 := HN.out; contradiction) | (rename_i hh; exact absurd rfl hh))
theorem ru7 {B p m b q k : Nat} {sv : Value} {L : List Nd} {x y0 y1 y2 : Nd} {W : World} (S : StoreAt B W p m sv L) (hB : B ≤ W.heap.size) (hx : x.Ok) (A : Apart b q p m sv) (C : ClosAt W b q p k x y0 y1 y2) (hy : y0.Ok) (hy1 : y1.Ok) (hy2 : y2.Ok) :
    Calls Tryz.prog 91 #[.pointer (some ⟨b, 0, none⟩)] W (Did B p m sv L (ou7 x y0 y1 y2) W) := by
  by_cases ho : x.o = 25
  · by_cases hn : y0.o = 3
    · exact ru7_neg S hB hx A C hy ho hn
    · exact ru7_two S hB hx A C hy hy1 hy2 ho hn
  · exact ru7_not C ho
end Ru
end Go.Proofs.YtkiegiofholofaaGreatDoor
