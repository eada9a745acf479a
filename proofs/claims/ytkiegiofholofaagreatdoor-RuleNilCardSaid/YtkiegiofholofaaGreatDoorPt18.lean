/-
Rule 8 of layer rule, as a fact on one call.
Rule 8 of layer rule, of an Extract of fewer bits than all, as facts on one call.
-/
import Derived.Test.YtkiegiofholofaaGreatDoorPt17
import Derived.BigRegion
import Derived.BigQuiet
import Derived.Lib.Hide
import Derived.Deep.RegionHeld3
import Derived.Test.YtkiegiofholofaaGreatDoorPt11
namespace Go.Proofs.YtkiegiofholofaaGreatDoor
open Go.RowKit Go.Maps Bv Tm Kn
namespace Ru
set_option maxHeartbeats 8000000
set_option maxRecDepth 100000

theorem ru8_not {B p m b q k : Nat} {sv : Value} {L : List Nd} {x y0 y1 y2 : Nd} {W : World} (C : ClosAt W b q p k x y0 y1 y2) (ho : ¬ (x.o = 22 ∨ x.o = 23 ∨ x.o = 24)) :
    Calls Tryz.prog 92 #[.pointer (some ⟨b, 0, none⟩)] W (Did B p m sv L (ou8 L x y0) W) := by
  have HOU := Lib.hid (ou8_not (L := L) (y0 := y0) ho)
  have lb := C.lb
  have lq := C.s.1
  have fb := C.fb
  have c0 := C.s.2 0 _ rfl
  have c2 := C.s.2 2 _ rfl
  have c3 := C.s.2 3 _ rfl
  have c4 := C.s.2 4 _ rfl
  have c5 := C.s.2 5 _ rfl
  have c6 := C.s.2 6 _ rfl
  have c7 := C.s.2 7 _ rfl
  have c8 := C.s.2 8 _ rfl
  have c9 := C.s.2 9 _ rfl
  have c10 := C.s.2 10 _ rfl
  have c11 := C.s.2 11 _ rfl
  have c12 := C.s.2 12 _ rfl
  have c13 := C.s.2 13 _ rfl
  have c14 := C.s.2 14 _ rfl
  have c15 := C.s.2 15 _ rfl
  clear C
  have n1 : ¬ ((x.o : Nat) : Int) = 22 := by omega
  have n2 : ¬ ((x.o : Nat) : Int) = 23 := by omega
  have n3 : ¬ ((x.o : Nat) : Int) = 24 := by omega
  go_enter Tryz.func92, Tryz.ntmps92
  go_wp2_with fail
  go_region
  all_goals (try go_wp2_with fail)
  all_goals (refine bodyPost_ret (v := .tuple #[.int .i64 (-1), .int .i64 0]) (by simp [results, Tryz.results92, go_sem]) rfl (did_no HOU.out rfl (by repeat (first | exact Below.refl _ _ | (refine bel_alloc ?_ _) | (refine Below.drew ?_) | (refine Below.setCell ?_ (by simp) _)))))
theorem ru8_same22 {B p m b q k : Nat} {sv : Value} {L : List Nd} {x y0 y1 y2 : Nd} {W : World} (C : ClosAt W b q p k x y0 y1 y2) (ho : x.o = 22) (hw : x.w = y0.w) :
    Calls Tryz.prog 92 #[.pointer (some ⟨b, 0, none⟩)] W (Did B p m sv L (ou8 L x y0) W) := by
  have HOU := Lib.hid (ou8_same (L := L) (.inl ho) hw)
  have HK0 : Hid (∀ w, Below W.heap.size W w → Calls Tryz.prog 80 #[.pointer (some ⟨q, 0, none⟩), .int .i64 0] w fun e w' => e = .returned (.tuple #[.int .i64 x.k0, .int .i64 0]) ∧ w = w') :=
    Lib.hid (fun w hb => skid_0 (C.s.keep hb))
  have lb := C.lb
  have lq := C.s.1
  have fb := C.fb
  have c0 := C.s.2 0 _ rfl
  have c2 := C.s.2 2 _ rfl
  have c3 := C.s.2 3 _ rfl
  have c4 := C.s.2 4 _ rfl
  have c5 := C.s.2 5 _ rfl
  have c6 := C.s.2 6 _ rfl
  have c7 := C.s.2 7 _ rfl
  have c8 := C.s.2 8 _ rfl
  have c9 := C.s.2 9 _ rfl
  have c10 := C.s.2 10 _ rfl
  have c11 := C.s.2 11 _ rfl
  have c12 := C.s.2 12 _ rfl
  have c13 := C.s.2 13 _ rfl
  have c14 := C.s.2 14 _ rfl
  have c15 := C.s.2 15 _ rfl
  clear C
  rw [ho] at c2
  simp only [Int.cast_ofNat_Int] at c2
  have n1 : ((x.w : Nat) : Int) = ((y0.w : Nat) : Int) := by omega
  have lb1 : b < W.heap.size + 1 := by omega
  have lb2 : b < W.heap.size + 1 + 1 := by omega
  have lb3 : b < W.heap.size + 1 + 1 + 1 := by omega
  have lq1 : q < W.heap.size + 1 := by omega
  have lq2 : q < W.heap.size + 1 + 1 := by omega
  have lq3 : q < W.heap.size + 1 + 1 + 1 := by omega
  go_enter Tryz.func92, Tryz.ntmps92
  go_wp2_with fail
  go_region
  all_goals (try go_wp2_with (go_at_call 80; with_reducible refine (HK0.out _ (by repeat (first | exact Below.refl _ _ | (refine bel_alloc ?_ _) | (refine Below.drew ?_) | (refine Below.setCell ?_ (by simp) _)))).mono ?_; rintro e w1 ⟨rfl, rfl⟩))
  all_goals (refine bodyPost_ret (v := .tuple #[.int .i64 (x.k0), .int .i64 0]) (by simp [results, Tryz.results92, go_sem]) rfl (did_num HOU.out rfl (by repeat (first | exact Below.refl _ _ | (refine bel_alloc ?_ _) | (refine Below.drew ?_) | (refine Below.setCell ?_ (by simp) _)))))
theorem ru8_same23 {B p m b q k : Nat} {sv : Value} {L : List Nd} {x y0 y1 y2 : Nd} {W : World} (C : ClosAt W b q p k x y0 y1 y2) (ho : x.o = 23) (hw : x.w = y0.w) :
    Calls Tryz.prog 92 #[.pointer (some ⟨b, 0, none⟩)] W (Did B p m sv L (ou8 L x y0) W) := by
  have HOU := Lib.hid (ou8_same (L := L) (.inr (.inl ho)) hw)
  have HK0 : Hid (∀ w, Below W.heap.size W w → Calls Tryz.prog 80 #[.pointer (some ⟨q, 0, none⟩), .int .i64 0] w fun e w' => e = .returned (.tuple #[.int .i64 x.k0, .int .i64 0]) ∧ w = w') :=
    Lib.hid (fun w hb => skid_0 (C.s.keep hb))
  have lb := C.lb
  have lq := C.s.1
  have fb := C.fb
  have c0 := C.s.2 0 _ rfl
  have c2 := C.s.2 2 _ rfl
  have c3 := C.s.2 3 _ rfl
  have c4 := C.s.2 4 _ rfl
  have c5 := C.s.2 5 _ rfl
  have c6 := C.s.2 6 _ rfl
  have c7 := C.s.2 7 _ rfl
  have c8 := C.s.2 8 _ rfl
  have c9 := C.s.2 9 _ rfl
  have c10 := C.s.2 10 _ rfl
  have c11 := C.s.2 11 _ rfl
  have c12 := C.s.2 12 _ rfl
  have c13 := C.s.2 13 _ rfl
  have c14 := C.s.2 14 _ rfl
  have c15 := C.s.2 15 _ rfl
  clear C
  rw [ho] at c2
  simp only [Int.cast_ofNat_Int] at c2
  have n1 : ((x.w : Nat) : Int) = ((y0.w : Nat) : Int) := by omega
  have lb1 : b < W.heap.size + 1 := by omega
  have lb2 : b < W.heap.size + 1 + 1 := by omega
  have lb3 : b < W.heap.size + 1 + 1 + 1 := by omega
  have lq1 : q < W.heap.size + 1 := by omega
  have lq2 : q < W.heap.size + 1 + 1 := by omega
  have lq3 : q < W.heap.size + 1 + 1 + 1 := by omega
  go_enter Tryz.func92, Tryz.ntmps92
  go_wp2_with fail
  go_region
  all_goals (try go_wp2_with (go_at_call 80; with_reducible refine (HK0.out _ (by repeat (first | exact Below.refl _ _ | (refine bel_alloc ?_ _) | (refine Below.drew ?_) | (refine Below.setCell ?_ (by simp) _)))).mono ?_; rintro e w1 ⟨rfl, rfl⟩))
  all_goals (refine bodyPost_ret (v := .tuple #[.int .i64 (x.k0), .int .i64 0]) (by simp [results, Tryz.results92, go_sem]) rfl (did_num HOU.out rfl (by repeat (first | exact Below.refl _ _ | (refine bel_alloc ?_ _) | (refine Below.drew ?_) | (refine Below.setCell ?_ (by simp) _)))))
theorem ru8_same24 {B p m b q k : Nat} {sv : Value} {L : List Nd} {x y0 y1 y2 : Nd} {W : World} (C : ClosAt W b q p k x y0 y1 y2) (ho : x.o = 24) (hw : x.w = y0.w) :
    Calls Tryz.prog 92 #[.pointer (some ⟨b, 0, none⟩)] W (Did B p m sv L (ou8 L x y0) W) := by
  have HOU := Lib.hid (ou8_same (L := L) (.inr (.inr ho)) hw)
  have HK0 : Hid (∀ w, Below W.heap.size W w → Calls Tryz.prog 80 #[.pointer (some ⟨q, 0, none⟩), .int .i64 0] w fun e w' => e = .returned (.tuple #[.int .i64 x.k0, .int .i64 0]) ∧ w = w') :=
    Lib.hid (fun w hb => skid_0 (C.s.keep hb))
  have lb := C.lb
  have lq := C.s.1
  have fb := C.fb
  have c0 := C.s.2 0 _ rfl
  have c2 := C.s.2 2 _ rfl
  have c3 := C.s.2 3 _ rfl
  have c4 := C.s.2 4 _ rfl
  have c5 := C.s.2 5 _ rfl
  have c6 := C.s.2 6 _ rfl
  have c7 := C.s.2 7 _ rfl
  have c8 := C.s.2 8 _ rfl
  have c9 := C.s.2 9 _ rfl
  have c10 := C.s.2 10 _ rfl
  have c11 := C.s.2 11 _ rfl
  have c12 := C.s.2 12 _ rfl
  have c13 := C.s.2 13 _ rfl
  have c14 := C.s.2 14 _ rfl
  have c15 := C.s.2 15 _ rfl
  clear C
  rw [ho] at c2
  simp only [Int.cast_ofNat_Int] at c2
  have n1 : ((x.w : Nat) : Int) = ((y0.w : Nat) : Int) := by omega
  have lb1 : b < W.heap.size + 1 := by omega
  have lb2 : b < W.heap.size + 1 + 1 := by omega
  have lb3 : b < W.heap.size + 1 + 1 + 1 := by omega
  have lq1 : q < W.heap.size + 1 := by omega
  have lq2 : q < W.heap.size + 1 + 1 := by omega
  have lq3 : q < W.heap.size + 1 + 1 + 1 := by omega
  go_enter Tryz.func92, Tryz.ntmps92
  go_wp2_with fail
  go_region
  all_goals (try go_wp2_with (go_at_call 80; with_reducible refine (HK0.out _ (by repeat (first | exact Below.refl _ _ | (refine bel_alloc ?_ _) | (refine Below.drew ?_) | (refine Below.setCell ?_ (by simp) _)))).mono ?_; rintro e w1 ⟨rfl, rfl⟩))
  all_goals (refine bodyPost_ret (v := .tuple #[.int .i64 (x.k0), .int .i64 0]) (by simp [results, Tryz.results92, go_sem]) rfl (did_num HOU.out rfl (by repeat (first | exact Below.refl _ _ | (refine bel_alloc ?_ _) | (refine Below.drew ?_) | (refine Below.setCell ?_ (by simp) _)))))
theorem ru8_part {B p m b q k : Nat} {sv : Value} {L : List Nd} {x y0 y1 y2 : Nd} {W : World} (C : ClosAt W b q p k x y0 y1 y2) (ho : x.o = 22) (hw : ¬ x.w = y0.w) (hp : ∀ w, Below W.heap.size W w → Calls Tryz.prog 93 #[.pointer (some ⟨q, 0, none⟩)] w (fun e w' => Did B p m sv L (ou8 L x y0) W e w')) (hE : ∀ {e w'}, Did B p m sv L (ou8 L x y0) W e w' → ∃ a er : Int, e = .returned (.tuple #[.int .i64 a, .int .i64 er])) :
    Calls Tryz.prog 92 #[.pointer (some ⟨b, 0, none⟩)] W (Did B p m sv L (ou8 L x y0) W) := by
  have HP := Lib.hid hp
  have HE := Lib.hid (fun e w' => @hE e w')
  have lb := C.lb
  have lq := C.s.1
  have fb := C.fb
  have c0 := C.s.2 0 _ rfl
  have c2 := C.s.2 2 _ rfl
  have c3 := C.s.2 3 _ rfl
  have c4 := C.s.2 4 _ rfl
  have c5 := C.s.2 5 _ rfl
  have c6 := C.s.2 6 _ rfl
  have c7 := C.s.2 7 _ rfl
  have c8 := C.s.2 8 _ rfl
  have c9 := C.s.2 9 _ rfl
  have c10 := C.s.2 10 _ rfl
  have c11 := C.s.2 11 _ rfl
  have c12 := C.s.2 12 _ rfl
  have c13 := C.s.2 13 _ rfl
  have c14 := C.s.2 14 _ rfl
  have c15 := C.s.2 15 _ rfl
  clear C hp hE
  rw [ho] at c2
  simp only [Int.cast_ofNat_Int] at c2
  have n1 : ¬ ((x.w : Nat) : Int) = ((y0.w : Nat) : Int) := by omega
  have lb1 : b < W.heap.size + 1 := by omega
  have lb2 : b < W.heap.size + 1 + 1 := by omega
  have lb3 : b < W.heap.size + 1 + 1 + 1 := by omega
  have lq1 : q < W.heap.size + 1 := by omega
  have lq2 : q < W.heap.size + 1 + 1 := by omega
  have lq3 : q < W.heap.size + 1 + 1 + 1 := by omega
  go_enter Tryz.func92, Tryz.ntmps92
  go_wp2_with fail
  go_region
  all_goals (try go_wp2_with (go_at_call 93; with_reducible refine (HP.out _ (by repeat (first | exact Below.refl _ _ | (refine bel_alloc ?_ _) | (refine Below.drew ?_) | (refine Below.setCell ?_ (by simp) _)))).mono ?_; intro e w1 hd; obtain ⟨a1, a2, rfl⟩ := HE.out _ _ hd; have HD := Lib.hid hd; clear hd))
  all_goals (exact bodyPost_ret (v := .tuple #[.int .i64 a1, .int .i64 a2]) (by simp [results, Tryz.results92, go_sem]) rfl HD.out)
theorem ru8_none23 {B p m b q k : Nat} {sv : Value} {L : List Nd} {x y0 y1 y2 : Nd} {W : World} (C : ClosAt W b q p k x y0 y1 y2) (ho : x.o = 23) (hw : ¬ x.w = y0.w) (h2 : ¬ x.o = y0.o) :
    Calls Tryz.prog 92 #[.pointer (some ⟨b, 0, none⟩)] W (Did B p m sv L (ou8 L x y0) W) := by
  have HOU := Lib.hid (ou8_none (L := L) (.inl ho) hw h2)
  have lb := C.lb
  have lq := C.s.1
  have fb := C.fb
  have c0 := C.s.2 0 _ rfl
  have c2 := C.s.2 2 _ rfl
  have c3 := C.s.2 3 _ rfl
  have c4 := C.s.2 4 _ rfl
  have c5 := C.s.2 5 _ rfl
  have c6 := C.s.2 6 _ rfl
  have c7 := C.s.2 7 _ rfl
  have c8 := C.s.2 8 _ rfl
  have c9 := C.s.2 9 _ rfl
  have c10 := C.s.2 10 _ rfl
  have c11 := C.s.2 11 _ rfl
  have c12 := C.s.2 12 _ rfl
  have c13 := C.s.2 13 _ rfl
  have c14 := C.s.2 14 _ rfl
  have c15 := C.s.2 15 _ rfl
  clear C
  rw [ho] at c2
  simp only [Int.cast_ofNat_Int] at c2
  have n1 : ¬ ((x.w : Nat) : Int) = ((y0.w : Nat) : Int) := by omega
  have n2 : ¬ (23 : Int) = ((y0.o : Nat) : Int) := by omega
  go_enter Tryz.func92, Tryz.ntmps92
  go_wp2_with fail
  go_region
  all_goals (try go_wp2_with fail)
  all_goals (refine bodyPost_ret (v := .tuple #[.int .i64 (-1), .int .i64 0]) (by simp [results, Tryz.results92, go_sem]) rfl (did_no HOU.out rfl (by repeat (first | exact Below.refl _ _ | (refine bel_alloc ?_ _) | (refine Below.drew ?_) | (refine Below.setCell ?_ (by simp) _)))))
theorem ru8_ext23 {B p m b q k : Nat} {sv : Value} {L : List Nd} {x y0 y1 y2 : Nd} {W : World} (S : StoreAt B W p m sv L) (hB : B ≤ W.heap.size) (hx : x.Ok) (A : Apart b q p m sv) (C : ClosAt W b q p k x y0 y1 y2) (hy : y0.Ok) (ho : x.o = 23) (hw : ¬ x.w = y0.w) (h2 : x.o = y0.o) :
    Calls Tryz.prog 92 #[.pointer (some ⟨b, 0, none⟩)] W (Did B p m sv L (ou8 L x y0) W) := by
  have HOU := Lib.hid (ou8_ext (L := L) (.inl ho) hw h2)
  have NB := Lib.hid A.b
  have NQ := Lib.hid A.q
  have NW : Hid (¬ foot p m sv W.heap.size) := Lib.hid (fun c => Nat.lt_irrefl _ (foot_lt S c))
  clear A
  have NV : Hid (¬ foot p m sv (W.heap.size + 1)) := Lib.hid (fun c => by have := foot_lt S c; omega)
  have HM : Hid (∀ w, Below W.heap.size W w → Calls Tryz.prog 17 #[.pointer (some ⟨p, 0, none⟩), .agg #[.int .u8 ((x.o : Nat) : Int), .int .u8 ((x.w : Nat) : Int), .int .i64 y0.k0, .int .i64 x.k1, .int .i64 x.k2, .int .u64 ((x.n : Nat) : Int), .int .u8 ((x.l : Nat) : Int)]] w (fun e w' => DidL B p m sv (mk L ⟨x.o, x.w, y0.k0, x.k1, x.k2, x.n, x.l⟩).1 (((mk L ⟨x.o, x.w, y0.k0, x.k1, x.k2, x.n, x.l⟩).2.1 : Nat) : Int) (((mk L ⟨x.o, x.w, y0.k0, x.k1, x.k2, x.n, x.l⟩).2.2 : Nat) : Int) W e w' ∧ Kept (foot p m sv) w w')) :=
    Lib.hid (fun w hb => make_did S hB hb (y := ⟨x.o, x.w, y0.k0, x.k1, x.k2, x.n, x.l⟩) ⟨hx.o, hx.w, hy.k0, hx.k1, hx.k2, hx.n, hx.l⟩)
  have lb := C.lb
  have lq := C.s.1
  have fb := C.fb
  have c0 := C.s.2 0 _ rfl
  have c2 := C.s.2 2 _ rfl
  have c3 := C.s.2 3 _ rfl
  have c4 := C.s.2 4 _ rfl
  have c5 := C.s.2 5 _ rfl
  have c6 := C.s.2 6 _ rfl
  have c7 := C.s.2 7 _ rfl
  have c8 := C.s.2 8 _ rfl
  have c9 := C.s.2 9 _ rfl
  have c10 := C.s.2 10 _ rfl
  have c11 := C.s.2 11 _ rfl
  have c12 := C.s.2 12 _ rfl
  have c13 := C.s.2 13 _ rfl
  have c14 := C.s.2 14 _ rfl
  have c15 := C.s.2 15 _ rfl
  clear C S hB hx
  have hyo : y0.o = 23 := by omega
  rw [ho] at c2
  rw [hyo] at c9
  simp only [Int.cast_ofNat_Int] at c2 c9
  have hoi : ((x.o : Nat) : Int) = 23 := by omega
  rw [hoi] at HM
  clear hoi hyo h2 ho hy
  have n1 : ¬ ((x.w : Nat) : Int) = ((y0.w : Nat) : Int) := by omega
  have lb1 : b < W.heap.size + 1 := by omega
  have lb2 : b < W.heap.size + 1 + 1 := by omega
  have lb3 : b < W.heap.size + 1 + 1 + 1 := by omega
  have lq1 : q < W.heap.size + 1 := by omega
  have lq2 : q < W.heap.size + 1 + 1 := by omega
  have lq3 : q < W.heap.size + 1 + 1 + 1 := by omega
  have ne1 : ¬ W.heap.size = b := by omega
  have ne2 : ¬ W.heap.size = q := by omega
  have ne3 : ¬ W.heap.size + 1 = b := by omega
  have ne4 : ¬ W.heap.size + 1 = q := by omega
  go_enter Tryz.func92, Tryz.ntmps92
  go_wp2_with fail
  go_region
  all_goals (try go_wp2_with fail)
  all_goals (try go_region)
  all_goals (try go_wp2_with fail)
  all_goals (try go_region_held3 (fun w' => w'.cell? ⟨b, 0, none⟩ = some (.pointer (some ⟨q, 0, none⟩)) ∧ w'.cell? ⟨q, 0, none⟩ = some (.pointer (some ⟨p, 0, none⟩)) ∧ w'.cell? ⟨W.heap.size, 0, none⟩ = some (.int .u8 23) ∧ w'.cell? ⟨W.heap.size, 1, none⟩ = some (.int .u8 ((x.w : Nat) : Int)) ∧ w'.cell? ⟨W.heap.size, 2, none⟩ = some (.int .i64 y0.k0) ∧ w'.cell? ⟨W.heap.size, 3, none⟩ = some (.int .i64 x.k1) ∧ w'.cell? ⟨W.heap.size, 4, none⟩ = some (.int .i64 x.k2) ∧ w'.cell? ⟨W.heap.size, 5, none⟩ = some (.int .u64 ((x.n : Nat) : Int)) ∧ w'.cell? ⟨W.heap.size, 6, none⟩ = some (.int .u8 ((x.l : Nat) : Int))) (first | (refine ⟨?_, ?_, ?_, ?_, ?_, ?_, ?_, ?_, ?_⟩ <;> go_simp)) (first | (go_at_call 17; with_reducible refine (HM.out _ (by repeat (first | exact Below.refl _ _ | (refine bel_alloc ?_ _) | (refine Below.drew ?_) | (refine Below.setCell ?_ (by simp) _)))).mono ?_; rintro e w2 ⟨⟨rfl, hd⟩, hk⟩; have HD := Lib.hid hd; have k0 := hk.cell (x := ⟨b, 0, none⟩) (by first | (simp; done) | (simp; omega) | omega) NB.out; have k1 := hk.cell (x := ⟨q, 0, none⟩) (by first | (simp; done) | (simp; omega) | omega) NQ.out; have k2 := hk.cell (x := ⟨W.heap.size, 0, none⟩) (by first | (simp; done) | (simp; omega) | omega) NW.out; have k3 := hk.cell (x := ⟨W.heap.size, 1, none⟩) (by first | (simp; done) | (simp; omega) | omega) NW.out; have k4 := hk.cell (x := ⟨W.heap.size, 2, none⟩) (by first | (simp; done) | (simp; omega) | omega) NW.out; have k5 := hk.cell (x := ⟨W.heap.size, 3, none⟩) (by first | (simp; done) | (simp; omega) | omega) NW.out; have k6 := hk.cell (x := ⟨W.heap.size, 4, none⟩) (by first | (simp; done) | (simp; omega) | omega) NW.out; have k7 := hk.cell (x := ⟨W.heap.size, 5, none⟩) (by first | (simp; done) | (simp; omega) | omega) NW.out; have k8 := hk.cell (x := ⟨W.heap.size, 6, none⟩) (by first | (simp; done) | (simp; omega) | omega) NW.out; clear hd hk)))
  all_goals (try go_region_held3 (fun w' => w'.cell? ⟨b, 0, none⟩ = some (.pointer (some ⟨q, 0, none⟩)) ∧ w'.cell? ⟨q, 0, none⟩ = some (.pointer (some ⟨p, 0, none⟩)) ∧ w'.cell? ⟨W.heap.size + 1, 0, none⟩ = some (.int .u8 23) ∧ w'.cell? ⟨W.heap.size + 1, 1, none⟩ = some (.int .u8 ((x.w : Nat) : Int)) ∧ w'.cell? ⟨W.heap.size + 1, 2, none⟩ = some (.int .i64 y0.k0) ∧ w'.cell? ⟨W.heap.size + 1, 3, none⟩ = some (.int .i64 x.k1) ∧ w'.cell? ⟨W.heap.size + 1, 4, none⟩ = some (.int .i64 x.k2) ∧ w'.cell? ⟨W.heap.size + 1, 5, none⟩ = some (.int .u64 ((x.n : Nat) : Int)) ∧ w'.cell? ⟨W.heap.size + 1, 6, none⟩ = some (.int .u8 ((x.l : Nat) : Int))) (first | (refine ⟨?_, ?_, ?_, ?_, ?_, ?_, ?_, ?_, ?_⟩ <;> go_simp)) (first | (go_at_call 17; with_reducible refine (HM.out _ (by repeat (first | exact Below.refl _ _ | (refine bel_alloc ?_ _) | (refine Below.drew ?_) | (refine Below.setCell ?_ (by simp) _)))).mono ?_; rintro e w2 ⟨⟨rfl, hd⟩, hk⟩; have HD := Lib.hid hd; have k0 := hk.cell (x := ⟨b, 0, none⟩) (by first | (simp; done) | (simp; omega) | omega) NB.out; have k1 := hk.cell (x := ⟨q, 0, none⟩) (by first | (simp; done) | (simp; omega) | omega) NQ.out; have k2 := hk.cell (x := ⟨W.heap.size + 1, 0, none⟩) (by first | (simp; done) | (simp; omega) | omega) NV.out; have k3 := hk.cell (x := ⟨W.heap.size + 1, 1, none⟩) (by first | (simp; done) | (simp; omega) | omega) NV.out; have k4 := hk.cell (x := ⟨W.heap.size + 1, 2, none⟩) (by first | (simp; done) | (simp; omega) | omega) NV.out; have k5 := hk.cell (x := ⟨W.heap.size + 1, 3, none⟩) (by first | (simp; done) | (simp; omega) | omega) NV.out; have k6 := hk.cell (x := ⟨W.heap.size + 1, 4, none⟩) (by first | (simp; done) | (simp; omega) | omega) NV.out; have k7 := hk.cell (x := ⟨W.heap.size + 1, 5, none⟩) (by first | (simp; done) | (simp; omega) | omega) NV.out; have k8 := hk.cell (x := ⟨W.heap.size + 1, 6, none⟩) (by first | (simp; done) | (simp; omega) | omega) NV.out; clear hd hk)))
  all_goals (try go_wp2_with fail)
  all_goals (refine bodyPost_ret (v := _) (by simp [results, Tryz.results92, go_sem]) rfl (did_make HOU.out ⟨rfl, HD.out⟩))
theorem ru8_none24 {B p m b q k : Nat} {sv : Value} {L : List Nd} {x y0 y1 y2 : Nd} {W : World} (C : ClosAt W b q p k x y0 y1 y2) (ho : x.o = 24) (hw : ¬ x.w = y0.w) (h2 : ¬ x.o = y0.o) :
    Calls Tryz.prog 92 #[.pointer (some ⟨b, 0, none⟩)] W (Did B p m sv L (ou8 L x y0) W) := by
  have HOU := Lib.hid (ou8_none (L := L) (.inr ho) hw h2)
  have lb := C.lb
  have lq := C.s.1
  have fb := C.fb
  have c0 := C.s.2 0 _ rfl
  have c2 := C.s.2 2 _ rfl
  have c3 := C.s.2 3 _ rfl
  have c4 := C.s.2 4 _ rfl
  have c5 := C.s.2 5 _ rfl
  have c6 := C.s.2 6 _ rfl
  have c7 := C.s.2 7 _ rfl
  have c8 := C.s.2 8 _ rfl
  have c9 := C.s.2 9 _ rfl
  have c10 := C.s.2 10 _ rfl
  have c11 := C.s.2 11 _ rfl
  have c12 := C.s.2 12 _ rfl
  have c13 := C.s.2 13 _ rfl
  have c14 := C.s.2 14 _ rfl
  have c15 := C.s.2 15 _ rfl
  clear C
  rw [ho] at c2
  simp only [Int.cast_ofNat_Int] at c2
  have n1 : ¬ ((x.w : Nat) : Int) = ((y0.w : Nat) : Int) := by omega
  have n2 : ¬ (24 : Int) = ((y0.o : Nat) : Int) := by omega
  go_enter Tryz.func92, Tryz.ntmps92
  go_wp2_with fail
  go_region
  all_goals (try go_wp2_with fail)
  all_goals (refine bodyPost_ret (v := .tuple #[.int .i64 (-1), .int .i64 0]) (by simp [results, Tryz.results92, go_sem]) rfl (did_no HOU.out rfl (by repeat (first | exact Below.refl _ _ | (refine bel_alloc ?_ _) | (refine Below.drew ?_) | (refine Below.setCell ?_ (by simp) _)))))
theorem ru8_ext24 {B p m b q k : Nat} {sv : Value} {L : List Nd} {x y0 y1 y2 : Nd} {W : World} (S : StoreAt B W p m sv L) (hB : B ≤ W.heap.size) (hx : x.Ok) (A : Apart b q p m sv) (C : ClosAt W b q p k x y0 y1 y2) (hy : y0.Ok) (ho : x.o = 24) (hw : ¬ x.w = y0.w) (h2 : x.o = y0.o) :
    Calls Tryz.prog 92 #[.pointer (some ⟨b, 0, none⟩)] W (Did B p m sv L (ou8 L x y0) W) := by
  have HOU := Lib.hid (ou8_ext (L := L) (.inr ho) hw h2)
  have NB := Lib.hid A.b
  have NQ := Lib.hid A.q
  have NW : Hid (¬ foot p m sv W.heap.size) := Lib.hid (fun c => Nat.lt_irrefl _ (foot_lt S c))
  clear A
  have NV : Hid (¬ foot p m sv (W.heap.size + 1)) := Lib.hid (fun c => by have := foot_lt S c; omega)
  have HM : Hid (∀ w, Below W.heap.size W w → Calls Tryz.prog 17 #[.pointer (some ⟨p, 0, none⟩), .agg #[.int .u8 ((x.o : Nat) : Int), .int .u8 ((x.w : Nat) : Int), .int .i64 y0.k0, .int .i64 x.k1, .int .i64 x.k2, .int .u64 ((x.n : Nat) : Int), .int .u8 ((x.l : Nat) : Int)]] w (fun e w' => DidL B p m sv (mk L ⟨x.o, x.w, y0.k0, x.k1, x.k2, x.n, x.l⟩).1 (((mk L ⟨x.o, x.w, y0.k0, x.k1, x.k2, x.n, x.l⟩).2.1 : Nat) : Int) (((mk L ⟨x.o, x.w, y0.k0, x.k1, x.k2, x.n, x.l⟩).2.2 : Nat) : Int) W e w' ∧ Kept (foot p m sv) w w')) :=
    Lib.hid (fun w hb => make_did S hB hb (y := ⟨x.o, x.w, y0.k0, x.k1, x.k2, x.n, x.l⟩) ⟨hx.o, hx.w, hy.k0, hx.k1, hx.k2, hx.n, hx.l⟩)
  have lb := C.lb
  have lq := C.s.1
  have fb := C.fb
  have c0 := C.s.2 0 _ rfl
  have c2 := C.s.2 2 _ rfl
  have c3 := C.s.2 3 _ rfl
  have c4 := C.s.2 4 _ rfl
  have c5 := C.s.2 5 _ rfl
  have c6 := C.s.2 6 _ rfl
  have c7 := C.s.2 7 _ rfl
  have c8 := C.s.2 8 _ rfl
  have c9 := C.s.2 9 _ rfl
  have c10 := C.s.2 10 _ rfl
  have c11 := C.s.2 11 _ rfl
  have c12 := C.s.2 12 _ rfl
  have c13 := C.s.2 13 _ rfl
  have c14 := C.s.2 14 _ rfl
  have c15 := C.s.2 15 _ rfl
  clear C S hB hx
  have hyo : y0.o = 24 := by omega
  rw [ho] at c2
  rw [hyo] at c9
  simp only [Int.cast_ofNat_Int] at c2 c9
  have hoi : ((x.o : Nat) : Int) = 24 := by omega
  rw [hoi] at HM
  clear hoi hyo h2 ho hy
  have n1 : ¬ ((x.w : Nat) : Int) = ((y0.w : Nat) : Int) := by omega
  have lb1 : b < W.heap.size + 1 := by omega
  have lb2 : b < W.heap.size + 1 + 1 := by omega
  have lb3 : b < W.heap.size + 1 + 1 + 1 := by omega
  have lq1 : q < W.heap.size + 1 := by omega
  have lq2 : q < W.heap.size + 1 + 1 := by omega
  have lq3 : q < W.heap.size + 1 + 1 + 1 := by omega
  have ne1 : ¬ W.heap.size = b := by omega
  have ne2 : ¬ W.heap.size = q := by omega
  have ne3 : ¬ W.heap.size + 1 = b := by omega
  have ne4 : ¬ W.heap.size + 1 = q := by omega
  go_enter Tryz.func92, Tryz.ntmps92
  go_wp2_with fail
  go_region
  all_goals (try go_wp2_with fail)
  all_goals (try go_region)
  all_goals (try go_wp2_with fail)
  all_goals (try go_region_held3 (fun w' => w'.cell? ⟨b, 0, none⟩ = some (.pointer (some ⟨q, 0, none⟩)) ∧ w'.cell? ⟨q, 0, none⟩ = some (.pointer (some ⟨p, 0, none⟩)) ∧ w'.cell? ⟨W.heap.size, 0, none⟩ = some (.int .u8 24) ∧ w'.cell? ⟨W.heap.size, 1, none⟩ = some (.int .u8 ((x.w : Nat) : Int)) ∧ w'.cell? ⟨W.heap.size, 2, none⟩ = some (.int .i64 y0.k0) ∧ w'.cell? ⟨W.heap.size, 3, none⟩ = some (.int .i64 x.k1) ∧ w'.cell? ⟨W.heap.size, 4, none⟩ = some (.int .i64 x.k2) ∧ w'.cell? ⟨W.heap.size, 5, none⟩ = some (.int .u64 ((x.n : Nat) : Int)) ∧ w'.cell? ⟨W.heap.size, 6, none⟩ = some (.int .u8 ((x.l : Nat) : Int))) (first | (refine ⟨?_, ?_, ?_, ?_, ?_, ?_, ?_, ?_, ?_⟩ <;> go_simp)) (first | (go_at_call 17; with_reducible refine (HM.out _ (by repeat (first | exact Below.refl _ _ | (refine bel_alloc ?_ _) | (refine Below.drew ?_) | (refine Below.setCell ?_ (by simp) _)))).mono ?_; rintro e w2 ⟨⟨rfl, hd⟩, hk⟩; have HD := Lib.hid hd; have k0 := hk.cell (x := ⟨b, 0, none⟩) (by first | (simp; done) | (simp; omega) | omega) NB.out; have k1 := hk.cell (x := ⟨q, 0, none⟩) (by first | (simp; done) | (simp; omega) | omega) NQ.out; have k2 := hk.cell (x := ⟨W.heap.size, 0, none⟩) (by first | (simp; done) | (simp; omega) | omega) NW.out; have k3 := hk.cell (x := ⟨W.heap.size, 1, none⟩) (by first | (simp; done) | (simp; omega) | omega) NW.out; have k4 := hk.cell (x := ⟨W.heap.size, 2, none⟩) (by first | (simp; done) | (simp; omega) | omega) NW.out; have k5 := hk.cell (x := ⟨W.heap.size, 3, none⟩) (by first | (simp; done) | (simp; omega) | omega) NW.out; have k6 := hk.cell (x := ⟨W.heap.size, 4, none⟩) (by first | (simp; done) | (simp; omega) | omega) NW.out; have k7 := hk.cell (x := ⟨W.heap.size, 5, none⟩) (by first | (simp; done) | (simp; omega) | omega) NW.out; have k8 := hk.cell (x := ⟨W.heap.size, 6, none⟩) (by first | (simp; done) | (simp; omega) | omega) NW.out; clear hd hk)))
  all_goals (try go_region_held3 (fun w' => w'.cell? ⟨b, 0, none⟩ = some (.pointer (some ⟨q, 0, none⟩)) ∧ w'.cell? ⟨q, 0, none⟩ = some (.pointer (some ⟨p, 0, none⟩)) ∧ w'.cell? ⟨W.heap.size + 1, 0, none⟩ = some (.int .u8 24) ∧ w'.cell? ⟨W.heap.size + 1, 1, none⟩ = some (.int .u8 ((x.w : Nat) : Int)) ∧ w'.cell? ⟨W.heap.size + 1, 2, none⟩ = some (.int .i64 y0.k0) ∧ w'.cell? ⟨W.heap.size + 1, 3, none⟩ = some (.int .i64 x.k1) ∧ w'.cell? ⟨W.heap.size + 1, 4, none⟩ = some (.int .i64 x.k2) ∧ w'.cell? ⟨W.heap.size + 1, 5, none⟩ = some (.int .u64 ((x.n : Nat) : Int)) ∧ w'.cell? ⟨W.heap.size + 1, 6, none⟩ = some (.int .u8 ((x.l : Nat) : Int))) (first | (refine ⟨?_, ?_, ?_, ?_, ?_, ?_, ?_, ?_, ?_⟩ <;> go_simp)) (first | (go_at_call 17; with_reducible refine (HM.out _ (by repeat (first | exact Below.refl _ _ | (refine bel_alloc ?_ _) | (refine Below.drew ?_) | (refine Below.setCell ?_ (by simp) _)))).mono ?_; rintro e w2 ⟨⟨rfl, hd⟩, hk⟩; have HD := Lib.hid hd; have k0 := hk.cell (x := ⟨b, 0, none⟩) (by first | (simp; done) | (simp; omega) | omega) NB.out; have k1 := hk.cell (x := ⟨q, 0, none⟩) (by first | (simp; done) | (simp; omega) | omega) NQ.out; have k2 := hk.cell (x := ⟨W.heap.size + 1, 0, none⟩) (by first | (simp; done) | (simp; omega) | omega) NV.out; have k3 := hk.cell (x := ⟨W.heap.size + 1, 1, none⟩) (by first | (simp; done) | (simp; omega) | omega) NV.out; have k4 := hk.cell (x := ⟨W.heap.size + 1, 2, none⟩) (by first | (simp; done) | (simp; omega) | omega) NV.out; have k5 := hk.cell (x := ⟨W.heap.size + 1, 3, none⟩) (by first | (simp; done) | (simp; omega) | omega) NV.out; have k6 := hk.cell (x := ⟨W.heap.size + 1, 4, none⟩) (by first | (simp; done) | (simp; omega) | omega) NV.out; have k7 := hk.cell (x := ⟨W.heap.size + 1, 5, none⟩) (by first | (simp; done) | (simp; omega) | omega) NV.out; have k8 := hk.cell (x := ⟨W.heap.size + 1, 6, none⟩) (by first | (simp; done) | (simp; omega) | omega) NV.out; clear hd hk)))
  all_goals (try go_wp2_with fail)
  all_goals (refine bodyPost_ret (v := _) (by simp [results, Tryz.results92, go_sem]) rfl (did_make HOU.out ⟨rfl, HD.out⟩))
end Ru
end Go.Proofs.YtkiegiofholofaaGreatDoor

namespace Go.Proofs.YtkiegiofholofaaGreatDoor
open Go.RowKit Go.Maps Bv Tm Kn
namespace Ru
set_option maxHeartbeats 8000000
set_option maxRecDepth 100000

theorem part_21a {B p m q k : Nat} {sv : Value} {L : List Nd} {x y0 y1 y2 : Nd} {W : World} (S : StoreAt B W p m sv L) (hB : B ≤ W.heap.size) (hx : x.Ok) (hy : y0.Ok) (nq : ¬ foot p m sv q) (s : SiteAt W q p k x y0 y1 y2) (ho : x.o = 22) (hl : x.l + x.w ≤ 64) (c b : Nat) (h0 : y0.o = 21) (h1 : x.l + x.w ≤ b) (hw : ∀ w, Below W.heap.size W w → Calls Tryz.prog 124 #[.pointer (some ⟨q, 0, none⟩), .int .i64 y0.k1] w fun e w' => e = .returned (.int .u8 ((b : Nat) : Int)) ∧ Below w.heap.size w w') :
    Calls Tryz.prog 93 #[.pointer (some ⟨q, 0, none⟩)] W (Did B p m sv L (ouP x y0 c b) W) := by
  have NQ := Lib.hid nq
  have NW : Hid (¬ foot p m sv W.heap.size) := Lib.hid (fun c => Nat.lt_irrefl _ (foot_lt S c))
  have NV : Hid (¬ foot p m sv (W.heap.size + 1)) := Lib.hid (fun c => by have := foot_lt S c; omega)
  have HOU := Lib.hid (ouP_21a (x := x) (c := c) (b := b) ho h0 h1)
  have HWI := Lib.hid hw
  clear hw
  have t1 : ((x.l : Nat) : Int) + ((x.w : Nat) : Int) ≤ ((b : Nat) : Int) := by omega
  have HM : Hid (∀ w, Below W.heap.size W w → Calls Tryz.prog 17 #[.pointer (some ⟨p, 0, none⟩), .agg #[.int .u8 22, .int .u8 ((x.w : Nat) : Int), .int .i64 y0.k1, .int .i64 x.k1, .int .i64 x.k2, .int .u64 ((x.n : Nat) : Int), .int .u8 ((x.l : Nat) : Int)]] w (fun e w' => DidL B p m sv (mk L ⟨22, x.w, y0.k1, x.k1, x.k2, x.n, x.l⟩).1 (((mk L ⟨22, x.w, y0.k1, x.k1, x.k2, x.n, x.l⟩).2.1 : Nat) : Int) (((mk L ⟨22, x.w, y0.k1, x.k1, x.k2, x.n, x.l⟩).2.2 : Nat) : Int) W e w' ∧ Kept (foot p m sv) w w')) :=
    Lib.hid (fun w hb => make_did S hB hb (y := ⟨22, x.w, y0.k1, x.k1, x.k2, x.n, x.l⟩) ⟨by simp, hx.w, hy.k1, hx.k1, hx.k2, hx.n, hx.l⟩)
  have e1 : IntKind.u8.wrap (((x.l : Nat) : Int) + ((x.w : Nat) : Int)) = ((x.l : Nat) : Int) + ((x.w : Nat) : Int) := by rw [IntKind.wrap_u8]; omega
  have lq := s.1
  have c0 := s.2 0 _ rfl
  have c2 := s.2 2 _ rfl
  have c3 := s.2 3 _ rfl
  have c4 := s.2 4 _ rfl
  have c5 := s.2 5 _ rfl
  have c6 := s.2 6 _ rfl
  have c7 := s.2 7 _ rfl
  have c8 := s.2 8 _ rfl
  have c9 := s.2 9 _ rfl
  have c10 := s.2 10 _ rfl
  have c11 := s.2 11 _ rfl
  have c12 := s.2 12 _ rfl
  have c13 := s.2 13 _ rfl
  have c14 := s.2 14 _ rfl
  have c15 := s.2 15 _ rfl
  rw [ho] at c2
  rw [h0] at c9
  simp only [Int.cast_ofNat_Int] at c2 c9
  clear s S hB hx hy nq
  have ne2 : ¬ W.heap.size = q := by omega
  have ne4 : ¬ W.heap.size + 1 = q := by omega
  have lq1 : q < W.heap.size + 1 := by omega
  have lq2 : q < W.heap.size + 1 + 1 := by omega
  go_enter Tryz.func93, Tryz.ntmps93
  go_wp2_with fail
  go_region
  all_goals go_wp2_with (first | (go_at_call 124; with_reducible refine (HWI.out _ (by repeat (first | exact Below.refl _ _ | (refine bel_alloc ?_ _) | (refine Below.drew ?_) | (refine Below.setCell ?_ (by simp) _)))).mono ?_; rintro e w1 ⟨rfl, hb1⟩; obtain ⟨A0, A1, F0, F1, gq, lz1, lz2, lz3, hB1⟩ := two_new lq hb1; have ga0 := A0 0; have ga1 := A0 1; have ga2 := A0 2; have ga3 := A0 3; have ga4 := A0 4; have ga5 := A0 5; have ga6 := A0 6; have gb0 := A1 0; have gb1 := A1 1; have gb2 := A1 2; have gb3 := A1 3; have gb4 := A1 4; have gb5 := A1 5; have gb6 := A1 6; have fa2 := F0 2; have fa6 := F0 6; have fb2 := F1 2; have fb6 := F1 6; have HB1 := Lib.hid hB1; clear hb1 A0 A1 F0 F1 hB1) | (go_at_call 17; with_reducible refine (HM.out _ (by repeat (first | exact Below.refl _ _ | exact HB1.out | (refine bel_alloc ?_ _) | (refine Below.drew ?_) | (refine bel_drewN ?_ _) | (refine Below.setCell ?_ (by first | (simp; done) | exact Nat.le_refl _ | exact HB1.out.size) _)))).mono ?_; rintro e w2 ⟨⟨rfl, hd⟩, hk⟩; have HD := Lib.hid hd; clear hd hk))
  all_goals (try go_region)
  all_goals (try go_wp2_with (first | (go_at_call 124; with_reducible refine (HWI.out _ (by repeat (first | exact Below.refl _ _ | (refine bel_alloc ?_ _) | (refine Below.drew ?_) | (refine Below.setCell ?_ (by simp) _)))).mono ?_; rintro e w1 ⟨rfl, hb1⟩; obtain ⟨A0, A1, F0, F1, gq, lz1, lz2, lz3, hB1⟩ := two_new lq hb1; have ga0 := A0 0; have ga1 := A0 1; have ga2 := A0 2; have ga3 := A0 3; have ga4 := A0 4; have ga5 := A0 5; have ga6 := A0 6; have gb0 := A1 0; have gb1 := A1 1; have gb2 := A1 2; have gb3 := A1 3; have gb4 := A1 4; have gb5 := A1 5; have gb6 := A1 6; have fa2 := F0 2; have fa6 := F0 6; have fb2 := F1 2; have fb6 := F1 6; have HB1 := Lib.hid hB1; clear hb1 A0 A1 F0 F1 hB1) | (go_at_call 17; with_reducible refine (HM.out _ (by repeat (first | exact Below.refl _ _ | exact HB1.out | (refine bel_alloc ?_ _) | (refine Below.drew ?_) | (refine bel_drewN ?_ _) | (refine Below.setCell ?_ (by first | (simp; done) | exact Nat.le_refl _ | exact HB1.out.size) _)))).mono ?_; rintro e w2 ⟨⟨rfl, hd⟩, hk⟩; have HD := Lib.hid hd; clear hd hk)))
  all_goals (try go_region_held3 (fun w' => w'.cell? ⟨q, 0, none⟩ = some (.pointer (some ⟨p, 0, none⟩)) ∧ w'.cell? ⟨W.heap.size, 0, none⟩ = some (.int .u8 22) ∧ w'.cell? ⟨W.heap.size, 1, none⟩ = some (.int .u8 ((x.w : Nat) : Int)) ∧ w'.cell? ⟨W.heap.size, 2, none⟩ = some (.int .i64 y0.k1) ∧ w'.cell? ⟨W.heap.size, 3, none⟩ = some (.int .i64 x.k1) ∧ w'.cell? ⟨W.heap.size, 4, none⟩ = some (.int .i64 x.k2) ∧ w'.cell? ⟨W.heap.size, 5, none⟩ = some (.int .u64 ((x.n : Nat) : Int)) ∧ w'.cell? ⟨W.heap.size, 6, none⟩ = some (.int .u8 ((x.l : Nat) : Int))) (first | (refine ⟨?_, ?_, ?_, ?_, ?_, ?_, ?_, ?_⟩ <;> go_simp)) (first | (go_at_call 17; with_reducible refine (HM.out _ (by repeat (first | exact Below.refl _ _ | exact HB1.out | (refine bel_alloc ?_ _) | (refine Below.drew ?_) | (refine bel_drewN ?_ _) | (refine Below.setCell ?_ (by first | (simp; done) | exact Nat.le_refl _ | exact HB1.out.size) _)))).mono ?_; rintro e w2 ⟨⟨rfl, hd⟩, hk⟩; have HD := Lib.hid hd; have k0 := hk.cell (x := ⟨q, 0, none⟩) (by first | (simp; done) | (simp; omega) | omega) NQ.out; have k1 := hk.cell (x := ⟨W.heap.size, 0, none⟩) (by first | (simp; done) | (simp; omega) | omega) NW.out; have k2 := hk.cell (x := ⟨W.heap.size, 1, none⟩) (by first | (simp; done) | (simp; omega) | omega) NW.out; have k3 := hk.cell (x := ⟨W.heap.size, 2, none⟩) (by first | (simp; done) | (simp; omega) | omega) NW.out; have k4 := hk.cell (x := ⟨W.heap.size, 3, none⟩) (by first | (simp; done) | (simp; omega) | omega) NW.out; have k5 := hk.cell (x := ⟨W.heap.size, 4, none⟩) (by first | (simp; done) | (simp; omega) | omega) NW.out; have k6 := hk.cell (x := ⟨W.heap.size, 5, none⟩) (by first | (simp; done) | (simp; omega) | omega) NW.out; have k7 := hk.cell (x := ⟨W.heap.size, 6, none⟩) (by first | (simp; done) | (simp; omega) | omega) NW.out; clear hd hk)))
  all_goals (try go_region_held3 (fun w' => w'.cell? ⟨q, 0, none⟩ = some (.pointer (some ⟨p, 0, none⟩)) ∧ w'.cell? ⟨W.heap.size + 1, 0, none⟩ = some (.int .u8 22) ∧ w'.cell? ⟨W.heap.size + 1, 1, none⟩ = some (.int .u8 ((x.w : Nat) : Int)) ∧ w'.cell? ⟨W.heap.size + 1, 2, none⟩ = some (.int .i64 y0.k1) ∧ w'.cell? ⟨W.heap.size + 1, 3, none⟩ = some (.int .i64 x.k1) ∧ w'.cell? ⟨W.heap.size + 1, 4, none⟩ = some (.int .i64 x.k2) ∧ w'.cell? ⟨W.heap.size + 1, 5, none⟩ = some (.int .u64 ((x.n : Nat) : Int)) ∧ w'.cell? ⟨W.heap.size + 1, 6, none⟩ = some (.int .u8 ((x.l : Nat) : Int))) (first | (refine ⟨?_, ?_, ?_, ?_, ?_, ?_, ?_, ?_⟩ <;> go_simp)) (first | (go_at_call 17; with_reducible refine (HM.out _ (by repeat (first | exact Below.refl _ _ | exact HB1.out | (refine bel_alloc ?_ _) | (refine Below.drew ?_) | (refine bel_drewN ?_ _) | (refine Below.setCell ?_ (by first | (simp; done) | exact Nat.le_refl _ | exact HB1.out.size) _)))).mono ?_; rintro e w2 ⟨⟨rfl, hd⟩, hk⟩; have HD := Lib.hid hd; have k0 := hk.cell (x := ⟨q, 0, none⟩) (by first | (simp; done) | (simp; omega) | omega) NQ.out; have k1 := hk.cell (x := ⟨W.heap.size + 1, 0, none⟩) (by first | (simp; done) | (simp; omega) | omega) NV.out; have k2 := hk.cell (x := ⟨W.heap.size + 1, 1, none⟩) (by first | (simp; done) | (simp; omega) | omega) NV.out; have k3 := hk.cell (x := ⟨W.heap.size + 1, 2, none⟩) (by first | (simp; done) | (simp; omega) | omega) NV.out; have k4 := hk.cell (x := ⟨W.heap.size + 1, 3, none⟩) (by first | (simp; done) | (simp; omega) | omega) NV.out; have k5 := hk.cell (x := ⟨W.heap.size + 1, 4, none⟩) (by first | (simp; done) | (simp; omega) | omega) NV.out; have k6 := hk.cell (x := ⟨W.heap.size + 1, 5, none⟩) (by first | (simp; done) | (simp; omega) | omega) NV.out; have k7 := hk.cell (x := ⟨W.heap.size + 1, 6, none⟩) (by first | (simp; done) | (simp; omega) | omega) NV.out; clear hd hk)))
  all_goals (try go_wp2_with fail)
  all_goals (refine bodyPost_ret (v := _) (by simp [results, Tryz.results93, go_sem]) rfl (did_make HOU.out ⟨rfl, HD.out⟩))
end Ru
end Go.Proofs.YtkiegiofholofaaGreatDoor
