/-
Rule 9 of layer rule, as a fact on one call.
Each rule's closure, of whatever node of a store that was made, as one fact.
What an outcome of a rule comes to, told by one form.
-/
import Derived.Test.YtkiegiofholofaaGreatDoorPt11
import Derived.BigRegion
import Derived.BigQuiet
import Derived.Lib.Hide
import Derived.Deep.RegionHeld3
import Derived.Test.YtkiegiofholofaaGreatDoorPt10
import Derived.Test.YtkiegiofholofaaGreatDoorPt17
import Derived.Test.YtkiegiofholofaaGreatDoorPt20
import Derived.Test.YtkiegiofholofaaGreatDoorPt15
import Derived.Test.YtkiegiofholofaaGreatDoorPt21
namespace Go.Proofs.YtkiegiofholofaaGreatDoor
open Go.RowKit Go.Maps Bv Tm Kn
namespace Ru
set_option maxHeartbeats 8000000
set_option maxRecDepth 100000

theorem ru9 {B p m b q k : Nat} {sv : Value} {L : List Nd} {x y0 y1 y2 : Nd} {W : World} (S : StoreAt B W p m sv L) (hB : B ≤ W.heap.size) (hx : x.Ok) (A : Apart b q p m sv) (C : ClosAt W b q p k x y0 y1 y2) (hy : y0.Ok) (hy1 : y1.Ok) :
    Calls Tryz.prog 94 #[.pointer (some ⟨b, 0, none⟩)] W (Did B p m sv L (ou9 x y0 y1) W) := by
  have NB := Lib.hid A.b
  have NQ := Lib.hid A.q
  have NW : Hid (¬ foot p m sv W.heap.size) := Lib.hid (fun c => Nat.lt_irrefl _ (foot_lt S c))
  clear A
  have HK0 : Hid (∀ w, Below W.heap.size W w → Calls Tryz.prog 80 #[.pointer (some ⟨q, 0, none⟩), .int .i64 0] w fun e w' => e = .returned (.tuple #[.int .i64 x.k0, .int .i64 0]) ∧ w = w') :=
    Lib.hid (fun w hb => skid_0 (C.s.keep hb))
  have HS := Lib.hid S
  have HB := Lib.hid hB
  have HOK : Hid (Nd.Ok ⟨18, 1, x.k0, ((mk L ⟨1, y0.w, 0, 0, 0, 0, 0⟩).2.1 : Nat), 0, 0, 0⟩) := Lib.hid ⟨by simp, by simp, hx.k0, by have := mk_num_le S.good (⟨1, y0.w, 0, 0, 0, 0, 0⟩); unfold I64; simp only; omega, by simp [I64], by simp, by simp⟩
  have HNOT : Hid (∀ w, Below W.heap.size W w → Calls Tryz.prog 88 #[.pointer (some ⟨q, 0, none⟩)] w (fun e w' => DidL B p m sv (mk L ⟨3, y0.w, x.k0, 0, 0, 0, 0⟩).1 (((mk L ⟨3, y0.w, x.k0, 0, 0, 0, 0⟩).2.1 : Nat) : Int) (((mk L ⟨3, y0.w, x.k0, 0, 0, 0, 0⟩).2.2 : Nat) : Int) W e w')) := Lib.hid (fun w hb => not_behind S hB hx hy NQ.out C.s hb)
  have HQ1 := fun W' => equal_byC x.o 18 y1 1 1 hx.o (by decide) hy1 (by decide) (by decide) W'
  have HQ2 := fun W' => equal_byC x.o 18 y1 1 0 hx.o (by decide) hy1 (by decide) (by decide) W'
  have HQ3 := fun W' => equal_byC x.o 19 y1 y0.w 0 hx.o (by decide) hy1 hy.w (by decide) W'
  have HQ4 := fun W' => equal_byC x.o 19 y1 y0.w 1 hx.o (by decide) hy1 hy.w (by decide) W'
  simp only [Int.cast_ofNat_Int] at HQ1 HQ2 HQ3 HQ4
  have HMc : Hid (∀ w, Below W.heap.size W w → Calls Tryz.prog 17 #[.pointer (some ⟨p, 0, none⟩), .agg #[.int .u8 1, .int .u8 1, .int .i64 0, .int .i64 0, .int .i64 0, .int .u64 0, .int .u8 0]] w (fun e w' => DidL B p m sv (mk L ⟨1, 1, 0, 0, 0, 0, 0⟩).1 (((mk L ⟨1, 1, 0, 0, 0, 0, 0⟩).2.1 : Nat) : Int) (((mk L ⟨1, 1, 0, 0, 0, 0, 0⟩).2.2 : Nat) : Int) W e w' ∧ Kept (foot p m sv) w w')) :=
    Lib.hid (fun w hb => make_did S hB hb (y := ⟨1, 1, 0, 0, 0, 0, 0⟩) (cn_ok (by decide) (by decide)))
  have HMz : Hid (∀ w, Below W.heap.size W w → Calls Tryz.prog 17 #[.pointer (some ⟨p, 0, none⟩), .agg #[.int .u8 1, .int .u8 ((y0.w : Nat) : Int), .int .i64 0, .int .i64 0, .int .i64 0, .int .u64 0, .int .u8 0]] w (fun e w' => DidL B p m sv (mk L ⟨1, y0.w, 0, 0, 0, 0, 0⟩).1 (((mk L ⟨1, y0.w, 0, 0, 0, 0, 0⟩).2.1 : Nat) : Int) (((mk L ⟨1, y0.w, 0, 0, 0, 0, 0⟩).2.2 : Nat) : Int) W e w' ∧ Kept (foot p m sv) w w')) :=
    Lib.hid (fun w hb => make_did S hB hb (y := ⟨1, y0.w, 0, 0, 0, 0, 0⟩) (cn_ok hy.w (by decide)))
  have lb := C.lb
  have lq := C.s.1
  have fb := C.fb
  have c0 := C.s.2 0 _ rfl
  have c2 := C.s.2 2 _ rfl
  have c4 := C.s.2 4 _ rfl
  have c10 := C.s.2 10 _ rfl
  have c16 := C.s.2 16 _ rfl
  have c17 := C.s.2 17 _ rfl
  have c18 := C.s.2 18 _ rfl
  have c19 := C.s.2 19 _ rfl
  have c20 := C.s.2 20 _ rfl
  have c21 := C.s.2 21 _ rfl
  have c22 := C.s.2 22 _ rfl
  clear C S hB hx
  clear hy hy1
  have lb1 : b < W.heap.size + 1 := by omega
  have lb2 : b < W.heap.size + 1 + 1 := by omega
  have lb3 : b < W.heap.size + 1 + 1 + 1 := by omega
  have lb4 : b < W.heap.size + 1 + 1 + 1 + 1 := by omega
  have lb5 : b < W.heap.size + 1 + 1 + 1 + 1 + 1 := by omega
  have lb6 : b < W.heap.size + 1 + 1 + 1 + 1 + 1 + 1 := by omega
  have lq1 : q < W.heap.size + 1 := by omega
  have lq2 : q < W.heap.size + 1 + 1 := by omega
  have lq3 : q < W.heap.size + 1 + 1 + 1 := by omega
  have lq4 : q < W.heap.size + 1 + 1 + 1 + 1 := by omega
  have lq5 : q < W.heap.size + 1 + 1 + 1 + 1 + 1 := by omega
  have lq6 : q < W.heap.size + 1 + 1 + 1 + 1 + 1 + 1 := by omega
  go_enter Tryz.func94, Tryz.ntmps94
  go_wp2_with (first | (go_at_call 79; with_reducible refine (rconst_any _ _ _).mono ?_; rintro e w1 ⟨rfl, rfl⟩) | (go_at_call 80; with_reducible refine (HK0.out _ (by repeat (first | exact Below.refl _ _ | (refine bel_alloc ?_ _) | (refine Below.drew ?_) | (refine Below.setCell ?_ (by simp) _)))).mono ?_; rintro e w1 ⟨rfl, rfl⟩) | (go_at_call 88; with_reducible refine (HNOT.out _ (by repeat (first | exact Below.refl _ _ | (refine bel_alloc ?_ _) | (refine Below.drew ?_) | (refine Below.setCell ?_ (by simp) _)))).mono ?_; rintro e w1 ⟨rfl, hd⟩; have HD := Lib.hid hd; clear hd))
  go_region
  all_goals (try go_wp2_with (first | (go_at_call 79; with_reducible refine (rconst_any _ _ _).mono ?_; rintro e w1 ⟨rfl, rfl⟩) | (go_at_call 80; with_reducible refine (HK0.out _ (by repeat (first | exact Below.refl _ _ | (refine bel_alloc ?_ _) | (refine Below.drew ?_) | (refine Below.setCell ?_ (by simp) _)))).mono ?_; rintro e w1 ⟨rfl, rfl⟩) | (go_at_call 88; with_reducible refine (HNOT.out _ (by repeat (first | exact Below.refl _ _ | (refine bel_alloc ?_ _) | (refine Below.drew ?_) | (refine Below.setCell ?_ (by simp) _)))).mono ?_; rintro e w1 ⟨rfl, hd⟩; have HD := Lib.hid hd; clear hd)))
  all_goals (try go_region_held3 (fun w' => w'.cell? ⟨b, 0, none⟩ = some (.pointer (some ⟨q, 0, none⟩)) ∧ w'.cell? ⟨q, 0, none⟩ = some (.pointer (some ⟨p, 0, none⟩)) ∧ w'.cell? ⟨q, 4, none⟩ = some (.int .i64 x.k0)) (first | (refine ⟨?_, ?_, ?_⟩ <;> go_simp)) (first | (go_at_call 79; with_reducible refine (rconst_any _ _ _).mono ?_; rintro e w1 ⟨rfl, rfl⟩) | (go_at_call 17; with_reducible refine (HMc.out _ (by repeat (first | exact Below.refl _ _ | (refine bel_alloc ?_ _) | (refine Below.drew ?_) | (refine Below.setCell ?_ (by simp) _)))).mono ?_; rintro e w1 ⟨⟨rfl, hd⟩, hk⟩; have HD := Lib.hid hd; have g0 := hk.cell (x := ⟨b, 0, none⟩) (by simp <;> omega) NB.out; have g1 := hk.cell (x := ⟨q, 0, none⟩) (by simp <;> omega) NQ.out; have g2 := hk.cell (x := ⟨q, 4, none⟩) (by simp <;> omega) NQ.out; clear hd hk) | (go_at_call 17; with_reducible refine (HMz.out _ (by repeat (first | exact Below.refl _ _ | (refine bel_alloc ?_ _) | (refine Below.drew ?_) | (refine Below.setCell ?_ (by simp) _)))).mono ?_; rintro e w1 ⟨⟨rfl, hd⟩, hk⟩; have HD := Lib.hid hd; have g0 := hk.cell (x := ⟨b, 0, none⟩) (by simp <;> omega) NB.out; have g1 := hk.cell (x := ⟨q, 0, none⟩) (by simp <;> omega) NQ.out; have g2 := hk.cell (x := ⟨q, 4, none⟩) (by simp <;> omega) NQ.out; clear hd hk)))
  all_goals (try go_wp2_with fail)
  all_goals (clear HK0 HNOT HQ1 HQ2 HQ3 HQ4 HMc HMz)
  · (try simp only [bne_eq_false_iff_eq, beq_eq_false_iff_ne, ← Classical.not_and_iff_not_or_not, bne_iff_ne, Bool.and_eq_true, Bool.or_eq_true, beq_iff_eq, decide_eq_true_eq, decide_eq_false_iff_not, Bool.and_eq_false_iff, Bool.not_eq_true, ne_eq] at *)
    refine bodyPost_ret (v := .tuple #[.int .i64 (x.k0), .int .i64 0]) ?_ rfl (did_num ?_ rfl ?_)
    · simp [results, Tryz.results94, go_sem]
    · unfold ou9; rw [if_pos (by assumption)]
    · (repeat (first | exact Below.refl _ _ | (refine bel_alloc ?_ _) | (refine Below.drew ?_)))
  · (try simp only [← Classical.not_and_iff_not_or_not] at *)
    refine bodyPost_ret (v := _) ?_ rfl (did_make (y := ⟨3, y0.w, x.k0, 0, 0, 0, 0⟩) ?_ ⟨rfl, HD.out⟩)
    · simp [results, Tryz.results94, go_sem]
    · unfold ou9; rw [if_neg (by assumption), if_pos (by assumption)]
  · (try simp only [← Classical.not_and_iff_not_or_not] at *)
    refine bodyPost_ret (v := _) ?_ rfl (did_make (y := ⟨1, 1, 0, 0, 0, 0, 0⟩) ?_ ⟨rfl, HD.out⟩)
    · simp [results, Tryz.results94, go_sem]
    · unfold ou9; rw [if_neg (by assumption), if_neg (by assumption), if_pos (by assumption)]; rfl
  · (try simp only [← Classical.not_and_iff_not_or_not, bne_iff_ne, ne_eq] at *)
    refine bodyPost_ret (v := _) ?_ rfl (did_two_err (w := y0.w) (k := x.k0) ?_ (by rw [show cn y0.w 0 = ⟨1, y0.w, 0, 0, 0, 0, 0⟩ from rfl]; omega) ⟨rfl, HD.out⟩)
    · simp [results, Tryz.results94, go_sem]
      try rfl
    · unfold ou9; rw [if_neg (by assumption), if_neg (by assumption), if_neg (by assumption), if_pos (by assumption)]
  · (try simp only [bne_eq_false_iff_eq, ← Classical.not_and_iff_not_or_not] at *)
    have HM2 : Hid (∀ w, Below w1.heap.size w1 w → Calls Tryz.prog 17 #[.pointer (some ⟨p, 0, none⟩), .agg #[.int .u8 18, .int .u8 1, .int .i64 x.k0, .int .i64 (((mk L ⟨1, y0.w, 0, 0, 0, 0, 0⟩).2.1 : Nat) : Int), .int .i64 0, .int .u64 0, .int .u8 0]] w (fun e w' => DidL B p m sv (mk (mk L ⟨1, y0.w, 0, 0, 0, 0, 0⟩).1 ⟨18, 1, x.k0, ((mk L ⟨1, y0.w, 0, 0, 0, 0, 0⟩).2.1 : Nat), 0, 0, 0⟩).1 (((mk (mk L ⟨1, y0.w, 0, 0, 0, 0, 0⟩).1 ⟨18, 1, x.k0, ((mk L ⟨1, y0.w, 0, 0, 0, 0, 0⟩).2.1 : Nat), 0, 0, 0⟩).2.1 : Nat) : Int) (((mk (mk L ⟨1, y0.w, 0, 0, 0, 0, 0⟩).1 ⟨18, 1, x.k0, ((mk L ⟨1, y0.w, 0, 0, 0, 0, 0⟩).2.1 : Nat), 0, 0, 0⟩).2.2 : Nat) : Int) W e w' ∧ ∀ i o, i < W.heap.size → ¬ foot p m sv i → w'.cell? ⟨i, o, none⟩ = w.cell? ⟨i, o, none⟩)) :=
      Lib.hid (fun w hb => make_more HS.out HB.out HD.out hb (y := ⟨18, 1, x.k0, ((mk L ⟨1, y0.w, 0, 0, 0, 0, 0⟩).2.1 : Nat), 0, 0, 0⟩) HOK.out)
    go_region_held3 (fun w' => w'.cell? ⟨b, 0, none⟩ = some (.pointer (some ⟨q, 0, none⟩)) ∧ w'.cell? ⟨q, 0, none⟩ = some (.pointer (some ⟨p, 0, none⟩)) ∧ w'.cell? ⟨q, 4, none⟩ = some (.int .i64 x.k0)) (first | (refine ⟨?_, ?_, ?_⟩ <;> go_simp)) (first | (go_at_call 17; with_reducible refine (HM2.out _ (by repeat (first | exact Below.refl _ _ | (refine bel_alloc ?_ _) | (refine Below.drew ?_) | (refine Below.setCell ?_ (by simp) _)))).mono ?_; rintro e w2 ⟨⟨rfl, hd⟩, hk⟩; have HD2 := Lib.hid hd; have g3 := hk b 0 lb NB.out; have g4 := hk q 0 lq NQ.out; have g5 := hk q 4 lq NQ.out; clear hd hk))
    go_wp2_with fail
    refine bodyPost_ret (v := _) ?_ rfl (did_two (w := y0.w) (k := x.k0) ?_ (by rw [show cn y0.w 0 = ⟨1, y0.w, 0, 0, 0, 0, 0⟩ from rfl]; omega) ⟨rfl, HD2.out⟩)
    · simp [results, Tryz.results94, go_sem]
      try exact ⟨rfl, rfl⟩
    · unfold ou9; rw [if_neg (by assumption), if_neg (by assumption), if_neg (by assumption), if_pos (by assumption)]
  · (try simp only [← Classical.not_and_iff_not_or_not] at *)
    refine bodyPost_ret (v := .tuple #[.int .i64 (-1), .int .i64 0]) ?_ rfl (did_no ?_ rfl ?_)
    · simp [results, Tryz.results94, go_sem]
    · unfold ou9; rw [if_neg (by assumption), if_neg (by assumption), if_neg (by assumption), if_neg (by assumption)]
    · (repeat (first | exact Below.refl _ _ | (refine bel_alloc ?_ _) | (refine Below.drew ?_)))
end Ru
end Go.Proofs.YtkiegiofholofaaGreatDoor

namespace Go.Proofs.YtkiegiofholofaaGreatDoor
open Go.RowKit Go.Maps Bv Tm Kn
namespace Ru
set_option maxHeartbeats 1000000
set_option maxRecDepth 100000

theorem clos_any {B p m b q k r : Nat} {sv : Value} {L : List Nd} {x : Nd} {W : World} (S : StoreAt B W p m sv L) (hB : B ≤ W.heap.size) (hM : MayL L) (hx : L[k]? = some x) (hkc : ¬ kc x.o = 0) (A : Apart b q p m sv) (C : ClosAt W b q p k x (kd L x 0) (kd L x 1) (kd L x 2)) (h1 : 1 ≤ r) (h9 : r ≤ 9) :
    Calls Tryz.prog (fnOf r) #[.pointer (some ⟨b, 0, none⟩)] W (Did B p m sv L (ou L k x r) W) := by
  have g := S.good
  have hok := g.ok x (List.mem_of_getElem? hx)
  have hw := g.w x (List.mem_of_getElem? hx)
  match r, h1, h9 with
  | 1, _, _ => exact ru1_any S hB hM hx hkc A C
  | 2, _, _ => exact ru2 S hB hok A C hM hx
  | 3, _, _ => exact ru3 S hB hok A C
  | 4, _, _ => exact ru4 S hB hok A C (kd_ok g x 0) (kd_ok g x 1) hw.1 hw.2
  | 5, _, _ => exact ru5 S hB hok A C
  | 6, _, _ => exact ru6 C
  | 7, _, _ => exact ru7 S hB hok A C (kd_ok g x 0) (kd_ok g x 1) (kd_ok g x 2)
  | 8, _, _ => exact ru8_any S hB hM hx A C
  | 9, _, _ => exact ru9 S hB hok A C (kd_ok g x 0) (kd_ok g x 1)
  | r + 10, _, h => omega
end Ru
end Go.Proofs.YtkiegiofholofaaGreatDoor

namespace Go.Proofs.YtkiegiofholofaaGreatDoor
open Go.RowKit Go.Maps Bv Tm Kn
namespace Ru
set_option maxHeartbeats 1000000
set_option maxRecDepth 100000

theorem kids_nonneg {L : List Nd} (g : Gd L) {k : Nat} {x : Nd} (hx : L[k]? = some x) : 0 ≤ x.k0 ∧ 0 ≤ x.k1 ∧ 0 ≤ x.k2 := by
  have ho := g.own x (List.mem_of_getElem? hx)
  have hk := g.kid k x hx
  refine ⟨?_, ?_, ?_⟩
  · by_cases h : 1 ≤ kc x.o
    · exact (hk 0 (by omega)).1
    · have : x.k0 = (own x).k0 := by rw [← ho]
      rw [this]; unfold own; simp only; rw [if_neg h]; exact Int.le_refl _
  · by_cases h : 2 ≤ kc x.o
    · exact (hk 1 (by omega)).1
    · have : x.k1 = (own x).k1 := by rw [← ho]
      rw [this]; unfold own; simp only; rw [if_neg h]; exact Int.le_refl _
  · by_cases h : 3 ≤ kc x.o
    · exact (hk 2 (by omega)).1
    · have : x.k2 = (own x).k2 := by rw [← ho]
      rw [this]; unfold own; simp only; rw [if_neg h]; exact Int.le_refl _
theorem kd_nonneg {L : List Nd} (g : Gd L) (x : Nd) (i : Nat) : 0 ≤ (kd L x i).k0 := by
  unfold kd
  split
  · unfold ndAt
    cases h : L[(x.kid i).toNat]? with
    | none => decide
    | some y => exact (kids_nonneg g h).1
  · decide
theorem ou_num {L : List Nd} (g : Gd L) {k r : Nat} {x : Nd} (hx : L[k]? = some x) {i : Int} (h : ou L k x r = .num i) : 0 ≤ i := by
  obtain ⟨a0, a1, a2⟩ := kids_nonneg g hx
  have b0 := kd_nonneg g x 0
  unfold ou at h
  split at h
  · unfold ou1 at h; repeat' split at h
    all_goals first | (injection h with h; subst h; first | assumption | omega) | cases h | (simp at h)
  · unfold ou2 at h; repeat' split at h
    all_goals first | (injection h with h; subst h; first | assumption | omega) | cases h | (simp at h)
  · unfold ou3 at h; repeat' split at h
    all_goals first | (injection h with h; subst h; first | assumption | omega) | cases h | (simp at h)
  · unfold ou4 at h
    by_cases c0 : x.o = 5 ∧ kd L x 1 = cn x.w (2 ^ x.w - 1)
    · rw [if_pos c0] at h; (injection h with h; subst h; exact a0)
    rw [if_neg c0] at h
    by_cases c1 : x.o = 6 ∧ kd L x 1 = cn x.w 0
    · rw [if_pos c1] at h; (injection h with h; subst h; exact a0)
    rw [if_neg c1] at h
    by_cases c2 : x.o = 7 ∧ kd L x 1 = cn x.w 0
    · rw [if_pos c2] at h; (injection h with h; subst h; exact a0)
    rw [if_neg c2] at h
    by_cases c3 : x.o = 8 ∧ kd L x 1 = cn x.w 0
    · rw [if_pos c3] at h; (injection h with h; subst h; exact a0)
    rw [if_neg c3] at h
    by_cases c4 : x.o = 9 ∧ kd L x 1 = cn x.w 0
    · rw [if_pos c4] at h; (injection h with h; subst h; exact a0)
    rw [if_neg c4] at h
    by_cases c5 : x.o = 15 ∧ kd L x 1 = cn x.w 0
    · rw [if_pos c5] at h; (injection h with h; subst h; exact a0)
    rw [if_neg c5] at h
    by_cases c6 : x.o = 16 ∧ kd L x 1 = cn x.w 0
    · rw [if_pos c6] at h; (injection h with h; subst h; exact a0)
    rw [if_neg c6] at h
    by_cases c7 : x.o = 17 ∧ kd L x 1 = cn x.w 0
    · rw [if_pos c7] at h; (injection h with h; subst h; exact a0)
    rw [if_neg c7] at h
    by_cases c8 : x.o = 10 ∧ kd L x 1 = cn x.w 1
    · rw [if_pos c8] at h; (injection h with h; subst h; exact a0)
    rw [if_neg c8] at h
    by_cases c9 : x.o = 11 ∧ kd L x 1 = cn x.w 1
    · rw [if_pos c9] at h; (injection h with h; subst h; exact a0)
    rw [if_neg c9] at h
    by_cases c10 : x.o = 5 ∧ kd L x 1 = cn x.w 0
    · rw [if_pos c10] at h; (injection h with h; subst h; exact a1)
    rw [if_neg c10] at h
    by_cases c11 : x.o = 6 ∧ kd L x 1 = cn x.w (2 ^ x.w - 1)
    · rw [if_pos c11] at h; (injection h with h; subst h; exact a1)
    rw [if_neg c11] at h
    by_cases c12 : x.o = 10 ∧ kd L x 1 = cn x.w 0
    · rw [if_pos c12] at h; (injection h with h; subst h; exact a1)
    rw [if_neg c12] at h
    by_cases c13 : x.o = 7 ∧ kd L x 1 = cn x.w (2 ^ x.w - 1)
    · rw [if_pos c13] at h; cases h
    rw [if_neg c13] at h
    by_cases c14 : x.o = 12 ∧ kd L x 1 = cn x.w 1
    · rw [if_pos c14] at h; cases h
    rw [if_neg c14] at h
    cases h
  · unfold ou5 at h; repeat' split at h
    all_goals first | (injection h with h; subst h; first | assumption | omega) | cases h | (simp at h)
  · unfold ou6 at h; repeat' split at h
    all_goals first | (injection h with h; subst h; first | assumption | omega) | cases h | (simp at h)
  · unfold ou7 at h; repeat' split at h
    all_goals first | (injection h with h; subst h; first | assumption | omega) | cases h | (simp at h)
  · unfold ou8 at h
    split at h
    · cases h
    split at h
    · injection h with h; subst h; exact a0
    split at h
    · generalize kd L x 0 = y at h
      unfold ouP at h
      split at h
      · cases h
      split at h
      · split at h
        · cases h
        split at h
        · cases h
        · cases h
      split at h
      · split at h
        · cases h
        · cases h
      · cases h
    split at h
    · cases h
    · cases h
  · unfold ou9 at h; repeat' split at h
    all_goals first | (injection h with h; subst h; first | assumption | omega) | cases h | (simp at h)

/-- What a rule that fits has done. -/
theorem did_fits {B p m : Nat} {sv : Value} {L : List Nd} {o : Out} {W : World} {e : Ending} {W' : World} (S : StoreAt B W p m sv L) (ho : o ≠ .no) (hn : ∀ i, o = .num i → 0 ≤ i) (h : Did B p m sv L o W e W') :
    ∃ a er : Int, e = .returned (.tuple #[.int .i64 a, .int .i64 er]) ∧ er = (((outL L o).2.2 : Nat) : Int) ∧ (er = 0 → a = (((outL L o).2.1 : Nat) : Int)) ∧
      ∃ v, StoreAt B W' p m v (outL L o).1 ∧ Kept (foot p m sv) W W' ∧ (v.ownBlock = sv.ownBlock ∨ ∃ g, W.heap.size ≤ g ∧ v.ownBlock = some g) := by
  cases o with
  | no => exact absurd rfl ho
  | num i =>
    have := hn i rfl
    exact ⟨i, 0, h.1, rfl, fun _ => by show i = ((i.toNat : Nat) : Int); omega, sv, S.call h.2, Kept.ofBelow h.2 _, .inl rfl⟩
  | make y => exact ⟨_, _, h.e, rfl, fun _ => rfl, h.r⟩
  | two v i =>
    unfold Did at h
    simp only at h
    split at h
    · rename_i c
      simp only [outL, if_pos c]
      exact ⟨_, _, h.e, rfl, fun _ => rfl, h.r⟩
    · rename_i c
      simp only [outL, if_neg c]
      exact ⟨_, _, h.e, rfl, fun z => absurd (by omega) c, h.r⟩
theorem firstR_none {L : List Nd} {k : Nat} {x : Nd} : ∀ {n r : Nat}, (∀ j, r ≤ j → j < r + n → ou L k x j = .no) → firstR L k x r n = none
  | 0, _, _ => rfl
  | n + 1, r, h => by
    unfold firstR
    rw [if_pos (h r (by omega) (by omega))]
    exact firstR_none (fun j h1 h2 => h j (by omega) (by omega))
theorem firstR_some {L : List Nd} {k : Nat} {x : Nd} {j : Nat} (hj : ou L k x j ≠ .no) : ∀ {n r : Nat}, r ≤ j → j < r + n → (∀ i, r ≤ i → i < j → ou L k x i = .no) → firstR L k x r n = some j
  | 0, r, h1, h2, _ => by omega
  | n + 1, r, h1, h2, h => by
    unfold firstR
    by_cases e : r = j
    · subst e; rw [if_neg hj]
    · rw [if_pos (h r (by omega) (by omega))]
      exact firstR_some hj (by omega) (by omega) (fun i a b => h i (by omega) b)
end Ru
end Go.Proofs.YtkiegiofholofaaGreatDoor
