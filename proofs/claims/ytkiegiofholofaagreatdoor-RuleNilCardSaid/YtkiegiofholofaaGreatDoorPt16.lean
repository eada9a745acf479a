/-
What bv says of a node whose kids are Consts, as facts on one call.
Rule 1 (but of Ite) of layer rule, as a fact on one call.
-/
import Derived.Test.YtkiegiofholofaaGreatDoorPt10
import Derived.BigRegion
import Derived.BigQuiet
import Derived.Lib.Hide
import Derived.Deep.RegionHeld3
import Derived.Test.YtkiegiofholofaaGreatDoorPt15
import Derived.Deep.LoopGhost
namespace Go.Proofs.YtkiegiofholofaaGreatDoor
open Go.RowKit Go.Maps Bv Tm Kn
namespace Ru
set_option maxHeartbeats 8000000
set_option maxRecDepth 100000

theorem work_u3 {W : World} {q p k : Nat} {x y0 y1 y2 : Nd} (s : SiteAt W q p k x y0 y1 y2) (N : Nat) (ho : x.o = 3) (hv : ∀ w : World, Calls Tryz.prog 108 #[.int .u8 3, .agg #[.int .u8 ((y0.w : Nat) : Int), .int .u64 ((y0.n : Nat) : Int)]] w fun e w' => e = .returned (.tuple #[.agg #[.int .u8 ((x.w : Nat) : Int), .int .u64 ((N : Nat) : Int)], .int .i64 0]) ∧ Below w.heap.size w w') :
    Calls Tryz.prog 81 #[.pointer (some ⟨q, 0, none⟩)] W fun e w' => e = .returned (.tuple #[.agg #[.int .u8 ((x.w : Nat) : Int), .int .u64 ((N : Nat) : Int)], .int .i64 0]) ∧ Below W.heap.size W w' := by
  have HV := Lib.hid hv
  have lq := s.1
  have c2 := s.2 2 _ rfl
  have c3 := s.2 3 _ rfl
  have c4 := s.2 4 _ rfl
  have c5 := s.2 5 _ rfl
  have c6 := s.2 6 _ rfl
  have c7 := s.2 7 _ rfl
  have c8 := s.2 8 _ rfl
  have c10 := s.2 10 _ rfl
  have c14 := s.2 14 _ rfl
  have c17 := s.2 17 _ rfl
  have c21 := s.2 21 _ rfl
  rw [ho] at c2
  simp only [Int.cast_ofNat_Int] at c2
  clear s hv ho
  have lq1 : q < W.heap.size + 1 := by omega
  have lq2 : q < W.heap.size + 1 + 1 := by omega
  have lq4 : q < W.heap.size + 1 + 1 + 1 + 1 := by omega
  have ne1 : ¬ W.heap.size = q := by omega
  have lq3 : q < W.heap.size + 1 + 1 + 1 := by omega
  go_enter Tryz.func81, Tryz.ntmps81
  go_wp2_with fail
  all_goals (try go_region)
  all_goals (try go_wp2_with fail)
  all_goals (try go_region)
  all_goals (try go_wp2_with fail)
  all_goals (try go_region_held3 (fun w' => w'.cell? ⟨W.heap.size + 1 + 1 + 1, 0, none⟩ = some (.int .u8 3) ∧ w'.cell? ⟨W.heap.size + 1, 0, none⟩ = some (.int .u8 ((y0.w : Nat) : Int)) ∧ w'.cell? ⟨W.heap.size + 1, 1, none⟩ = some (.int .u64 ((y0.n : Nat) : Int))) (first | (refine ⟨?_, ?_, ?_⟩ <;> go_simp)) (first | (go_at_call 108; with_reducible refine (HV.out _).mono ?_; rintro e w1 ⟨rfl, hb1⟩; have k0 := hb1.cell (p := ⟨W.heap.size + 1 + 1 + 1, 0, none⟩) (by first | (simp; done) | (simp; omega)); have k1 := hb1.cell (p := ⟨W.heap.size + 1, 0, none⟩) (by first | (simp; done) | (simp; omega)); have k2 := hb1.cell (p := ⟨W.heap.size + 1, 1, none⟩) (by first | (simp; done) | (simp; omega)); have ka : w1.cell? ⟨W.heap.size, 0, none⟩ = some (.int .u8 0) := (hb1.cell (p := ⟨W.heap.size, 0, none⟩) (by first | (simp; done) | (simp; omega))).trans (by simp [go_sem]); have kb : w1.cell? ⟨W.heap.size, 1, none⟩ = some (.int .u64 0) := (hb1.cell (p := ⟨W.heap.size, 1, none⟩) (by first | (simp; done) | (simp; omega))).trans (by simp [go_sem]); have kc : w1.frozen? ⟨W.heap.size, 0, none⟩ = false := (hb1.frozen (p := ⟨W.heap.size, 0, none⟩) (by first | (simp; done) | (simp; omega))).trans (by simp [go_sem]); have kd : w1.frozen? ⟨W.heap.size, 1, none⟩ = false := (hb1.frozen (p := ⟨W.heap.size, 1, none⟩) (by first | (simp; done) | (simp; omega))).trans (by simp [go_sem]); have al : W.heap.size < w1.heap.size := Nat.lt_of_lt_of_le (by first | (simp; done) | (simp; omega)) hb1.size; have HB1 := Lib.hid (bel_call (show Below W.heap.size W _ from (by repeat (first | exact Below.refl _ _ | (refine bel_alloc ?_ _) | (refine Below.drew ?_) | (refine Below.setCell ?_ (by simp) _)))) hb1); clear hb1)))
  all_goals (try go_wp2_with (go_at_call 108; with_reducible refine (HV.out _).mono ?_; rintro e w1 ⟨rfl, hb1⟩; have k0 := hb1.cell (p := ⟨W.heap.size + 1 + 1 + 1, 0, none⟩) (by first | (simp; done) | (simp; omega)); have k1 := hb1.cell (p := ⟨W.heap.size + 1, 0, none⟩) (by first | (simp; done) | (simp; omega)); have k2 := hb1.cell (p := ⟨W.heap.size + 1, 1, none⟩) (by first | (simp; done) | (simp; omega)); have ka : w1.cell? ⟨W.heap.size, 0, none⟩ = some (.int .u8 0) := (hb1.cell (p := ⟨W.heap.size, 0, none⟩) (by first | (simp; done) | (simp; omega))).trans (by simp [go_sem]); have kb : w1.cell? ⟨W.heap.size, 1, none⟩ = some (.int .u64 0) := (hb1.cell (p := ⟨W.heap.size, 1, none⟩) (by first | (simp; done) | (simp; omega))).trans (by simp [go_sem]); have kc : w1.frozen? ⟨W.heap.size, 0, none⟩ = false := (hb1.frozen (p := ⟨W.heap.size, 0, none⟩) (by first | (simp; done) | (simp; omega))).trans (by simp [go_sem]); have kd : w1.frozen? ⟨W.heap.size, 1, none⟩ = false := (hb1.frozen (p := ⟨W.heap.size, 1, none⟩) (by first | (simp; done) | (simp; omega))).trans (by simp [go_sem]); have al : W.heap.size < w1.heap.size := Nat.lt_of_lt_of_le (by first | (simp; done) | (simp; omega)) hb1.size; have HB1 := Lib.hid (bel_call (show Below W.heap.size W _ from (by repeat (first | exact Below.refl _ _ | (refine bel_alloc ?_ _) | (refine Below.drew ?_) | (refine Below.setCell ?_ (by simp) _)))) hb1); clear hb1))
  all_goals (exact bodyPost_ret (v := .tuple #[.agg #[.int .u8 ((x.w : Nat) : Int), .int .u64 ((N : Nat) : Int)], .int .i64 0]) (by simp [results, Tryz.results81, go_sem, ka, kb]) rfl ⟨rfl, by repeat (first | exact HB1.out | (refine bel_alloc ?_ _) | (refine Below.drew ?_) | (refine Below.setCell ?_ (by exact Nat.le_refl _) _))⟩)
theorem work_u4 {W : World} {q p k : Nat} {x y0 y1 y2 : Nd} (s : SiteAt W q p k x y0 y1 y2) (N : Nat) (ho : x.o = 4) (hv : ∀ w : World, Calls Tryz.prog 108 #[.int .u8 4, .agg #[.int .u8 ((y0.w : Nat) : Int), .int .u64 ((y0.n : Nat) : Int)]] w fun e w' => e = .returned (.tuple #[.agg #[.int .u8 ((x.w : Nat) : Int), .int .u64 ((N : Nat) : Int)], .int .i64 0]) ∧ Below w.heap.size w w') :
    Calls Tryz.prog 81 #[.pointer (some ⟨q, 0, none⟩)] W fun e w' => e = .returned (.tuple #[.agg #[.int .u8 ((x.w : Nat) : Int), .int .u64 ((N : Nat) : Int)], .int .i64 0]) ∧ Below W.heap.size W w' := by
  have HV := Lib.hid hv
  have lq := s.1
  have c2 := s.2 2 _ rfl
  have c3 := s.2 3 _ rfl
  have c4 := s.2 4 _ rfl
  have c5 := s.2 5 _ rfl
  have c6 := s.2 6 _ rfl
  have c7 := s.2 7 _ rfl
  have c8 := s.2 8 _ rfl
  have c10 := s.2 10 _ rfl
  have c14 := s.2 14 _ rfl
  have c17 := s.2 17 _ rfl
  have c21 := s.2 21 _ rfl
  rw [ho] at c2
  simp only [Int.cast_ofNat_Int] at c2
  clear s hv ho
  have lq1 : q < W.heap.size + 1 := by omega
  have lq2 : q < W.heap.size + 1 + 1 := by omega
  have lq4 : q < W.heap.size + 1 + 1 + 1 + 1 := by omega
  have ne1 : ¬ W.heap.size = q := by omega
  have lq3 : q < W.heap.size + 1 + 1 + 1 := by omega
  go_enter Tryz.func81, Tryz.ntmps81
  go_wp2_with fail
  all_goals (try go_region)
  all_goals (try go_wp2_with fail)
  all_goals (try go_region)
  all_goals (try go_wp2_with fail)
  all_goals (try go_region_held3 (fun w' => w'.cell? ⟨W.heap.size + 1 + 1 + 1, 0, none⟩ = some (.int .u8 4) ∧ w'.cell? ⟨W.heap.size + 1, 0, none⟩ = some (.int .u8 ((y0.w : Nat) : Int)) ∧ w'.cell? ⟨W.heap.size + 1, 1, none⟩ = some (.int .u64 ((y0.n : Nat) : Int))) (first | (refine ⟨?_, ?_, ?_⟩ <;> go_simp)) (first | (go_at_call 108; with_reducible refine (HV.out _).mono ?_; rintro e w1 ⟨rfl, hb1⟩; have k0 := hb1.cell (p := ⟨W.heap.size + 1 + 1 + 1, 0, none⟩) (by first | (simp; done) | (simp; omega)); have k1 := hb1.cell (p := ⟨W.heap.size + 1, 0, none⟩) (by first | (simp; done) | (simp; omega)); have k2 := hb1.cell (p := ⟨W.heap.size + 1, 1, none⟩) (by first | (simp; done) | (simp; omega)); have ka : w1.cell? ⟨W.heap.size, 0, none⟩ = some (.int .u8 0) := (hb1.cell (p := ⟨W.heap.size, 0, none⟩) (by first | (simp; done) | (simp; omega))).trans (by simp [go_sem]); have kb : w1.cell? ⟨W.heap.size, 1, none⟩ = some (.int .u64 0) := (hb1.cell (p := ⟨W.heap.size, 1, none⟩) (by first | (simp; done) | (simp; omega))).trans (by simp [go_sem]); have kc : w1.frozen? ⟨W.heap.size, 0, none⟩ = false := (hb1.frozen (p := ⟨W.heap.size, 0, none⟩) (by first | (simp; done) | (simp; omega))).trans (by simp [go_sem]); have kd : w1.frozen? ⟨W.heap.size, 1, none⟩ = false := (hb1.frozen (p := ⟨W.heap.size, 1, none⟩) (by first | (simp; done) | (simp; omega))).trans (by simp [go_sem]); have al : W.heap.size < w1.heap.size := Nat.lt_of_lt_of_le (by first | (simp; done) | (simp; omega)) hb1.size; have HB1 := Lib.hid (bel_call (show Below W.heap.size W _ from (by repeat (first | exact Below.refl _ _ | (refine bel_alloc ?_ _) | (refine Below.drew ?_) | (refine Below.setCell ?_ (by simp) _)))) hb1); clear hb1)))
  all_goals (try go_wp2_with (go_at_call 108; with_reducible refine (HV.out _).mono ?_; rintro e w1 ⟨rfl, hb1⟩; have k0 := hb1.cell (p := ⟨W.heap.size + 1 + 1 + 1, 0, none⟩) (by first | (simp; done) | (simp; omega)); have k1 := hb1.cell (p := ⟨W.heap.size + 1, 0, none⟩) (by first | (simp; done) | (simp; omega)); have k2 := hb1.cell (p := ⟨W.heap.size + 1, 1, none⟩) (by first | (simp; done) | (simp; omega)); have ka : w1.cell? ⟨W.heap.size, 0, none⟩ = some (.int .u8 0) := (hb1.cell (p := ⟨W.heap.size, 0, none⟩) (by first | (simp; done) | (simp; omega))).trans (by simp [go_sem]); have kb : w1.cell? ⟨W.heap.size, 1, none⟩ = some (.int .u64 0) := (hb1.cell (p := ⟨W.heap.size, 1, none⟩) (by first | (simp; done) | (simp; omega))).trans (by simp [go_sem]); have kc : w1.frozen? ⟨W.heap.size, 0, none⟩ = false := (hb1.frozen (p := ⟨W.heap.size, 0, none⟩) (by first | (simp; done) | (simp; omega))).trans (by simp [go_sem]); have kd : w1.frozen? ⟨W.heap.size, 1, none⟩ = false := (hb1.frozen (p := ⟨W.heap.size, 1, none⟩) (by first | (simp; done) | (simp; omega))).trans (by simp [go_sem]); have al : W.heap.size < w1.heap.size := Nat.lt_of_lt_of_le (by first | (simp; done) | (simp; omega)) hb1.size; have HB1 := Lib.hid (bel_call (show Below W.heap.size W _ from (by repeat (first | exact Below.refl _ _ | (refine bel_alloc ?_ _) | (refine Below.drew ?_) | (refine Below.setCell ?_ (by simp) _)))) hb1); clear hb1))
  all_goals (exact bodyPost_ret (v := .tuple #[.agg #[.int .u8 ((x.w : Nat) : Int), .int .u64 ((N : Nat) : Int)], .int .i64 0]) (by simp [results, Tryz.results81, go_sem, ka, kb]) rfl ⟨rfl, by repeat (first | exact HB1.out | (refine bel_alloc ?_ _) | (refine Below.drew ?_) | (refine Below.setCell ?_ (by exact Nat.le_refl _) _))⟩)
theorem work_x {W : World} {q p k : Nat} {x y0 y1 y2 : Nd} (s : SiteAt W q p k x y0 y1 y2) (N : Nat) (hl : x.l ≤ 255) (hw : x.w ≤ 255) (ho : x.o = 22) (hv : ∀ w : World, Calls Tryz.prog 106 #[.agg #[.int .u8 ((y0.w : Nat) : Int), .int .u64 ((y0.n : Nat) : Int)], .int .i64 ((x.l : Nat) : Int), .int .i64 ((x.w : Nat) : Int)] w fun e w' => e = .returned (.tuple #[.agg #[.int .u8 ((x.w : Nat) : Int), .int .u64 ((N : Nat) : Int)], .int .i64 0]) ∧ Below w.heap.size w w') :
    Calls Tryz.prog 81 #[.pointer (some ⟨q, 0, none⟩)] W fun e w' => e = .returned (.tuple #[.agg #[.int .u8 ((x.w : Nat) : Int), .int .u64 ((N : Nat) : Int)], .int .i64 0]) ∧ Below W.heap.size W w' := by
  have HV := Lib.hid hv
  have w1 : IntKind.i64.wrap ((x.l : Nat) : Int) = ((x.l : Nat) : Int) := by rw [IntKind.wrap_i64]; omega
  have w2 : IntKind.i64.wrap ((x.w : Nat) : Int) = ((x.w : Nat) : Int) := by rw [IntKind.wrap_i64]; omega
  clear hl hw
  have lq := s.1
  have c2 := s.2 2 _ rfl
  have c3 := s.2 3 _ rfl
  have c4 := s.2 4 _ rfl
  have c5 := s.2 5 _ rfl
  have c6 := s.2 6 _ rfl
  have c7 := s.2 7 _ rfl
  have c8 := s.2 8 _ rfl
  have c10 := s.2 10 _ rfl
  have c14 := s.2 14 _ rfl
  have c17 := s.2 17 _ rfl
  have c21 := s.2 21 _ rfl
  rw [ho] at c2
  simp only [Int.cast_ofNat_Int] at c2
  clear s hv ho
  have lq1 : q < W.heap.size + 1 := by omega
  have lq2 : q < W.heap.size + 1 + 1 := by omega
  have lq4 : q < W.heap.size + 1 + 1 + 1 + 1 := by omega
  have ne1 : ¬ W.heap.size = q := by omega
  have lq3 : q < W.heap.size + 1 + 1 + 1 := by omega
  go_enter Tryz.func81, Tryz.ntmps81
  go_wp2_with fail
  all_goals (try go_region)
  all_goals (try go_wp2_with fail)
  all_goals (try go_region)
  all_goals (try go_wp2_with fail)
  all_goals (try go_region_held3 (fun w' => w'.cell? ⟨W.heap.size + 1 + 1 + 1, 1, none⟩ = some (.int .u8 ((x.w : Nat) : Int)) ∧ w'.cell? ⟨W.heap.size + 1 + 1 + 1, 6, none⟩ = some (.int .u8 ((x.l : Nat) : Int)) ∧ w'.cell? ⟨W.heap.size + 1, 0, none⟩ = some (.int .u8 ((y0.w : Nat) : Int)) ∧ w'.cell? ⟨W.heap.size + 1, 1, none⟩ = some (.int .u64 ((y0.n : Nat) : Int))) (first | (refine ⟨?_, ?_, ?_, ?_⟩ <;> go_simp)) (first | (go_at_call 106; with_reducible refine (HV.out _).mono ?_; rintro e w1 ⟨rfl, hb1⟩; have k0 := hb1.cell (p := ⟨W.heap.size + 1 + 1 + 1, 1, none⟩) (by first | (simp; done) | (simp; omega)); have k1 := hb1.cell (p := ⟨W.heap.size + 1 + 1 + 1, 6, none⟩) (by first | (simp; done) | (simp; omega)); have k2 := hb1.cell (p := ⟨W.heap.size + 1, 0, none⟩) (by first | (simp; done) | (simp; omega)); have k3 := hb1.cell (p := ⟨W.heap.size + 1, 1, none⟩) (by first | (simp; done) | (simp; omega)); have ka : w1.cell? ⟨W.heap.size, 0, none⟩ = some (.int .u8 0) := (hb1.cell (p := ⟨W.heap.size, 0, none⟩) (by first | (simp; done) | (simp; omega))).trans (by simp [go_sem]); have kb : w1.cell? ⟨W.heap.size, 1, none⟩ = some (.int .u64 0) := (hb1.cell (p := ⟨W.heap.size, 1, none⟩) (by first | (simp; done) | (simp; omega))).trans (by simp [go_sem]); have kc : w1.frozen? ⟨W.heap.size, 0, none⟩ = false := (hb1.frozen (p := ⟨W.heap.size, 0, none⟩) (by first | (simp; done) | (simp; omega))).trans (by simp [go_sem]); have kd : w1.frozen? ⟨W.heap.size, 1, none⟩ = false := (hb1.frozen (p := ⟨W.heap.size, 1, none⟩) (by first | (simp; done) | (simp; omega))).trans (by simp [go_sem]); have al : W.heap.size < w1.heap.size := Nat.lt_of_lt_of_le (by first | (simp; done) | (simp; omega)) hb1.size; have HB1 := Lib.hid (bel_call (show Below W.heap.size W _ from (by repeat (first | exact Below.refl _ _ | (refine bel_alloc ?_ _) | (refine Below.drew ?_) | (refine Below.setCell ?_ (by simp) _)))) hb1); clear hb1)))
  all_goals (try go_wp2_with (go_at_call 106; with_reducible refine (HV.out _).mono ?_; rintro e w1 ⟨rfl, hb1⟩; have k0 := hb1.cell (p := ⟨W.heap.size + 1 + 1 + 1, 1, none⟩) (by first | (simp; done) | (simp; omega)); have k1 := hb1.cell (p := ⟨W.heap.size + 1 + 1 + 1, 6, none⟩) (by first | (simp; done) | (simp; omega)); have k2 := hb1.cell (p := ⟨W.heap.size + 1, 0, none⟩) (by first | (simp; done) | (simp; omega)); have k3 := hb1.cell (p := ⟨W.heap.size + 1, 1, none⟩) (by first | (simp; done) | (simp; omega)); have ka : w1.cell? ⟨W.heap.size, 0, none⟩ = some (.int .u8 0) := (hb1.cell (p := ⟨W.heap.size, 0, none⟩) (by first | (simp; done) | (simp; omega))).trans (by simp [go_sem]); have kb : w1.cell? ⟨W.heap.size, 1, none⟩ = some (.int .u64 0) := (hb1.cell (p := ⟨W.heap.size, 1, none⟩) (by first | (simp; done) | (simp; omega))).trans (by simp [go_sem]); have kc : w1.frozen? ⟨W.heap.size, 0, none⟩ = false := (hb1.frozen (p := ⟨W.heap.size, 0, none⟩) (by first | (simp; done) | (simp; omega))).trans (by simp [go_sem]); have kd : w1.frozen? ⟨W.heap.size, 1, none⟩ = false := (hb1.frozen (p := ⟨W.heap.size, 1, none⟩) (by first | (simp; done) | (simp; omega))).trans (by simp [go_sem]); have al : W.heap.size < w1.heap.size := Nat.lt_of_lt_of_le (by first | (simp; done) | (simp; omega)) hb1.size; have HB1 := Lib.hid (bel_call (show Below W.heap.size W _ from (by repeat (first | exact Below.refl _ _ | (refine bel_alloc ?_ _) | (refine Below.drew ?_) | (refine Below.setCell ?_ (by simp) _)))) hb1); clear hb1))
  all_goals (exact bodyPost_ret (v := .tuple #[.agg #[.int .u8 ((x.w : Nat) : Int), .int .u64 ((N : Nat) : Int)], .int .i64 0]) (by simp [results, Tryz.results81, go_sem, ka, kb]) rfl ⟨rfl, by repeat (first | exact HB1.out | (refine bel_alloc ?_ _) | (refine Below.drew ?_) | (refine Below.setCell ?_ (by exact Nat.le_refl _) _))⟩)
theorem work_e23 {W : World} {q p k : Nat} {x y0 y1 y2 : Nd} (s : SiteAt W q p k x y0 y1 y2) (N : Nat) (hl : x.l ≤ 255) (hw : x.w ≤ 255) (ho : x.o = 23) (hv : ∀ w : World, Calls Tryz.prog 109 #[.int .u8 23, .agg #[.int .u8 ((y0.w : Nat) : Int), .int .u64 ((y0.n : Nat) : Int)], .int .i64 ((x.w : Nat) : Int)] w fun e w' => e = .returned (.tuple #[.agg #[.int .u8 ((x.w : Nat) : Int), .int .u64 ((N : Nat) : Int)], .int .i64 0]) ∧ Below w.heap.size w w') :
    Calls Tryz.prog 81 #[.pointer (some ⟨q, 0, none⟩)] W fun e w' => e = .returned (.tuple #[.agg #[.int .u8 ((x.w : Nat) : Int), .int .u64 ((N : Nat) : Int)], .int .i64 0]) ∧ Below W.heap.size W w' := by
  have HV := Lib.hid hv
  have w1 : IntKind.i64.wrap ((x.l : Nat) : Int) = ((x.l : Nat) : Int) := by rw [IntKind.wrap_i64]; omega
  have w2 : IntKind.i64.wrap ((x.w : Nat) : Int) = ((x.w : Nat) : Int) := by rw [IntKind.wrap_i64]; omega
  clear hl hw
  have lq := s.1
  have c2 := s.2 2 _ rfl
  have c3 := s.2 3 _ rfl
  have c4 := s.2 4 _ rfl
  have c5 := s.2 5 _ rfl
  have c6 := s.2 6 _ rfl
  have c7 := s.2 7 _ rfl
  have c8 := s.2 8 _ rfl
  have c10 := s.2 10 _ rfl
  have c14 := s.2 14 _ rfl
  have c17 := s.2 17 _ rfl
  have c21 := s.2 21 _ rfl
  rw [ho] at c2
  simp only [Int.cast_ofNat_Int] at c2
  clear s hv ho
  have lq1 : q < W.heap.size + 1 := by omega
  have lq2 : q < W.heap.size + 1 + 1 := by omega
  have lq4 : q < W.heap.size + 1 + 1 + 1 + 1 := by omega
  have ne1 : ¬ W.heap.size = q := by omega
  have lq3 : q < W.heap.size + 1 + 1 + 1 := by omega
  go_enter Tryz.func81, Tryz.ntmps81
  go_wp2_with fail
  all_goals (try go_region)
  all_goals (try go_wp2_with fail)
  all_goals (try go_region)
  all_goals (try go_wp2_with fail)
  all_goals (try go_region_held3 (fun w' => w'.cell? ⟨W.heap.size + 1 + 1 + 1, 0, none⟩ = some (.int .u8 23) ∧ w'.cell? ⟨W.heap.size + 1 + 1 + 1, 1, none⟩ = some (.int .u8 ((x.w : Nat) : Int)) ∧ w'.cell? ⟨W.heap.size + 1, 0, none⟩ = some (.int .u8 ((y0.w : Nat) : Int)) ∧ w'.cell? ⟨W.heap.size + 1, 1, none⟩ = some (.int .u64 ((y0.n : Nat) : Int))) (first | (refine ⟨?_, ?_, ?_, ?_⟩ <;> go_simp)) (first | (go_at_call 109; with_reducible refine (HV.out _).mono ?_; rintro e w1 ⟨rfl, hb1⟩; have k0 := hb1.cell (p := ⟨W.heap.size + 1 + 1 + 1, 0, none⟩) (by first | (simp; done) | (simp; omega)); have k1 := hb1.cell (p := ⟨W.heap.size + 1 + 1 + 1, 1, none⟩) (by first | (simp; done) | (simp; omega)); have k2 := hb1.cell (p := ⟨W.heap.size + 1, 0, none⟩) (by first | (simp; done) | (simp; omega)); have k3 := hb1.cell (p := ⟨W.heap.size + 1, 1, none⟩) (by first | (simp; done) | (simp; omega)); have ka : w1.cell? ⟨W.heap.size, 0, none⟩ = some (.int .u8 0) := (hb1.cell (p := ⟨W.heap.size, 0, none⟩) (by first | (simp; done) | (simp; omega))).trans (by simp [go_sem]); have kb : w1.cell? ⟨W.heap.size, 1, none⟩ = some (.int .u64 0) := (hb1.cell (p := ⟨W.heap.size, 1, none⟩) (by first | (simp; done) | (simp; omega))).trans (by simp [go_sem]); have kc : w1.frozen? ⟨W.heap.size, 0, none⟩ = false := (hb1.frozen (p := ⟨W.heap.size, 0, none⟩) (by first | (simp; done) | (simp; omega))).trans (by simp [go_sem]); have kd : w1.frozen? ⟨W.heap.size, 1, none⟩ = false := (hb1.frozen (p := ⟨W.heap.size, 1, none⟩) (by first | (simp; done) | (simp; omega))).trans (by simp [go_sem]); have al : W.heap.size < w1.heap.size := Nat.lt_of_lt_of_le (by first | (simp; done) | (simp; omega)) hb1.size; have HB1 := Lib.hid (bel_call (show Below W.heap.size W _ from (by repeat (first | exact Below.refl _ _ | (refine bel_alloc ?_ _) | (refine Below.drew ?_) | (refine Below.setCell ?_ (by simp) _)))) hb1); clear hb1)))
  all_goals (try go_wp2_with (go_at_call 109; with_reducible refine (HV.out _).mono ?_; rintro e w1 ⟨rfl, hb1⟩; have k0 := hb1.cell (p := ⟨W.heap.size + 1 + 1 + 1, 0, none⟩) (by first | (simp; done) | (simp; omega)); have k1 := hb1.cell (p := ⟨W.heap.size + 1 + 1 + 1, 1, none⟩) (by first | (simp; done) | (simp; omega)); have k2 := hb1.cell (p := ⟨W.heap.size + 1, 0, none⟩) (by first | (simp; done) | (simp; omega)); have k3 := hb1.cell (p := ⟨W.heap.size + 1, 1, none⟩) (by first | (simp; done) | (simp; omega)); have ka : w1.cell? ⟨W.heap.size, 0, none⟩ = some (.int .u8 0) := (hb1.cell (p := ⟨W.heap.size, 0, none⟩) (by first | (simp; done) | (simp; omega))).trans (by simp [go_sem]); have kb : w1.cell? ⟨W.heap.size, 1, none⟩ = some (.int .u64 0) := (hb1.cell (p := ⟨W.heap.size, 1, none⟩) (by first | (simp; done) | (simp; omega))).trans (by simp [go_sem]); have kc : w1.frozen? ⟨W.heap.size, 0, none⟩ = false := (hb1.frozen (p := ⟨W.heap.size, 0, none⟩) (by first | (simp; done) | (simp; omega))).trans (by simp [go_sem]); have kd : w1.frozen? ⟨W.heap.size, 1, none⟩ = false := (hb1.frozen (p := ⟨W.heap.size, 1, none⟩) (by first | (simp; done) | (simp; omega))).trans (by simp [go_sem]); have al : W.heap.size < w1.heap.size := Nat.lt_of_lt_of_le (by first | (simp; done) | (simp; omega)) hb1.size; have HB1 := Lib.hid (bel_call (show Below W.heap.size W _ from (by repeat (first | exact Below.refl _ _ | (refine bel_alloc ?_ _) | (refine Below.drew ?_) | (refine Below.setCell ?_ (by simp) _)))) hb1); clear hb1))
  all_goals (exact bodyPost_ret (v := .tuple #[.agg #[.int .u8 ((x.w : Nat) : Int), .int .u64 ((N : Nat) : Int)], .int .i64 0]) (by simp [results, Tryz.results81, go_sem, ka, kb]) rfl ⟨rfl, by repeat (first | exact HB1.out | (refine bel_alloc ?_ _) | (refine Below.drew ?_) | (refine Below.setCell ?_ (by exact Nat.le_refl _) _))⟩)
theorem work_e24 {W : World} {q p k : Nat} {x y0 y1 y2 : Nd} (s : SiteAt W q p k x y0 y1 y2) (N : Nat) (hl : x.l ≤ 255) (hw : x.w ≤ 255) (ho : x.o = 24) (hv : ∀ w : World, Calls Tryz.prog 109 #[.int .u8 24, .agg #[.int .u8 ((y0.w : Nat) : Int), .int .u64 ((y0.n : Nat) : Int)], .int .i64 ((x.w : Nat) : Int)] w fun e w' => e = .returned (.tuple #[.agg #[.int .u8 ((x.w : Nat) : Int), .int .u64 ((N : Nat) : Int)], .int .i64 0]) ∧ Below w.heap.size w w') :
    Calls Tryz.prog 81 #[.pointer (some ⟨q, 0, none⟩)] W fun e w' => e = .returned (.tuple #[.agg #[.int .u8 ((x.w : Nat) : Int), .int .u64 ((N : Nat) : Int)], .int .i64 0]) ∧ Below W.heap.size W w' := by
  have HV := Lib.hid hv
  have w1 : IntKind.i64.wrap ((x.l : Nat) : Int) = ((x.l : Nat) : Int) := by rw [IntKind.wrap_i64]; omega
  have w2 : IntKind.i64.wrap ((x.w : Nat) : Int) = ((x.w : Nat) : Int) := by rw [IntKind.wrap_i64]; omega
  clear hl hw
  have lq := s.1
  have c2 := s.2 2 _ rfl
  have c3 := s.2 3 _ rfl
  have c4 := s.2 4 _ rfl
  have c5 := s.2 5 _ rfl
  have c6 := s.2 6 _ rfl
  have c7 := s.2 7 _ rfl
  have c8 := s.2 8 _ rfl
  have c10 := s.2 10 _ rfl
  have c14 := s.2 14 _ rfl
  have c17 := s.2 17 _ rfl
  have c21 := s.2 21 _ rfl
  rw [ho] at c2
  simp only [Int.cast_ofNat_Int] at c2
  clear s hv ho
  have lq1 : q < W.heap.size + 1 := by omega
  have lq2 : q < W.heap.size + 1 + 1 := by omega
  have lq4 : q < W.heap.size + 1 + 1 + 1 + 1 := by omega
  have ne1 : ¬ W.heap.size = q := by omega
  have lq3 : q < W.heap.size + 1 + 1 + 1 := by omega
  go_enter Tryz.func81, Tryz.ntmps81
  go_wp2_with fail
  all_goals (try go_region)
  all_goals (try go_wp2_with fail)
  all_goals (try go_region)
  all_goals (try go_wp2_with fail)
  all_goals (try go_region_held3 (fun w' => w'.cell? ⟨W.heap.size + 1 + 1 + 1, 0, none⟩ = some (.int .u8 24) ∧ w'.cell? ⟨W.heap.size + 1 + 1 + 1, 1, none⟩ = some (.int .u8 ((x.w : Nat) : Int)) ∧ w'.cell? ⟨W.heap.size + 1, 0, none⟩ = some (.int .u8 ((y0.w : Nat) : Int)) ∧ w'.cell? ⟨W.heap.size + 1, 1, none⟩ = some (.int .u64 ((y0.n : Nat) : Int))) (first | (refine ⟨?_, ?_, ?_, ?_⟩ <;> go_simp)) (first | (go_at_call 109; with_reducible refine (HV.out _).mono ?_; rintro e w1 ⟨rfl, hb1⟩; have k0 := hb1.cell (p := ⟨W.heap.size + 1 + 1 + 1, 0, none⟩) (by first | (simp; done) | (simp; omega)); have k1 := hb1.cell (p := ⟨W.heap.size + 1 + 1 + 1, 1, none⟩) (by first | (simp; done) | (simp; omega)); have k2 := hb1.cell (p := ⟨W.heap.size + 1, 0, none⟩) (by first | (simp; done) | (simp; omega)); have k3 := hb1.cell (p := ⟨W.heap.size + 1, 1, none⟩) (by first | (simp; done) | (simp; omega)); have ka : w1.cell? ⟨W.heap.size, 0, none⟩ = some (.int .u8 0) := (hb1.cell (p := ⟨W.heap.size, 0, none⟩) (by first | (simp; done) | (simp; omega))).trans (by simp [go_sem]); have kb : w1.cell? ⟨W.heap.size, 1, none⟩ = some (.int .u64 0) := (hb1.cell (p := ⟨W.heap.size, 1, none⟩) (by first | (simp; done) | (simp; omega))).trans (by simp [go_sem]); have kc : w1.frozen? ⟨W.heap.size, 0, none⟩ = false := (hb1.frozen (p := ⟨W.heap.size, 0, none⟩) (by first | (simp; done) | (simp; omega))).trans (by simp [go_sem]); have kd : w1.frozen? ⟨W.heap.size, 1, none⟩ = false := (hb1.frozen (p := ⟨W.heap.size, 1, none⟩) (by first | (simp; done) | (simp; omega))).trans (by simp [go_sem]); have al : W.heap.size < w1.heap.size := Nat.lt_of_lt_of_le (by first | (simp; done) | (simp; omega)) hb1.size; have HB1 := Lib.hid (bel_call (show Below W.heap.size W _ from (by repeat (first | exact Below.refl _ _ | (refine bel_alloc ?_ _) | (refine Below.drew ?_) | (refine Below.setCell ?_ (by simp) _)))) hb1); clear hb1)))
  all_goals (try go_wp2_with (go_at_call 109; with_reducible refine (HV.out _).mono ?_; rintro e w1 ⟨rfl, hb1⟩; have k0 := hb1.cell (p := ⟨W.heap.size + 1 + 1 + 1, 0, none⟩) (by first | (simp; done) | (simp; omega)); have k1 := hb1.cell (p := ⟨W.heap.size + 1 + 1 + 1, 1, none⟩) (by first | (simp; done) | (simp; omega)); have k2 := hb1.cell (p := ⟨W.heap.size + 1, 0, none⟩) (by first | (simp; done) | (simp; omega)); have k3 := hb1.cell (p := ⟨W.heap.size + 1, 1, none⟩) (by first | (simp; done) | (simp; omega)); have ka : w1.cell? ⟨W.heap.size, 0, none⟩ = some (.int .u8 0) := (hb1.cell (p := ⟨W.heap.size, 0, none⟩) (by first | (simp; done) | (simp; omega))).trans (by simp [go_sem]); have kb : w1.cell? ⟨W.heap.size, 1, none⟩ = some (.int .u64 0) := (hb1.cell (p := ⟨W.heap.size, 1, none⟩) (by first | (simp; done) | (simp; omega))).trans (by simp [go_sem]); have kc : w1.frozen? ⟨W.heap.size, 0, none⟩ = false := (hb1.frozen (p := ⟨W.heap.size, 0, none⟩) (by first | (simp; done) | (simp; omega))).trans (by simp [go_sem]); have kd : w1.frozen? ⟨W.heap.size, 1, none⟩ = false := (hb1.frozen (p := ⟨W.heap.size, 1, none⟩) (by first | (simp; done) | (simp; omega))).trans (by simp [go_sem]); have al : W.heap.size < w1.heap.size := Nat.lt_of_lt_of_le (by first | (simp; done) | (simp; omega)) hb1.size; have HB1 := Lib.hid (bel_call (show Below W.heap.size W _ from (by repeat (first | exact Below.refl _ _ | (refine bel_alloc ?_ _) | (refine Below.drew ?_) | (refine Below.setCell ?_ (by simp) _)))) hb1); clear hb1))
  all_goals (exact bodyPost_ret (v := .tuple #[.agg #[.int .u8 ((x.w : Nat) : Int), .int .u64 ((N : Nat) : Int)], .int .i64 0]) (by simp [results, Tryz.results81, go_sem, ka, kb]) rfl ⟨rfl, by repeat (first | exact HB1.out | (refine bel_alloc ?_ _) | (refine Below.drew ?_) | (refine Below.setCell ?_ (by exact Nat.le_refl _) _))⟩)
theorem work_b {W : World} {q p k : Nat} {x y0 y1 y2 : Nd} (s : SiteAt W q p k x y0 y1 y2) (N : Nat) (ho : ¬ x.o = 3 ∧ ¬ x.o = 4 ∧ ¬ x.o = 22 ∧ ¬ x.o = 23 ∧ ¬ x.o = 24) (hv : ∀ w : World, Calls Tryz.prog 111 #[.int .u8 ((x.o : Nat) : Int), .agg #[.int .u8 ((y0.w : Nat) : Int), .int .u64 ((y0.n : Nat) : Int)], .agg #[.int .u8 ((y1.w : Nat) : Int), .int .u64 ((y1.n : Nat) : Int)]] w fun e w' => e = .returned (.tuple #[.agg #[.int .u8 ((x.w : Nat) : Int), .int .u64 ((N : Nat) : Int)], .int .i64 0]) ∧ Below w.heap.size w w') :
    Calls Tryz.prog 81 #[.pointer (some ⟨q, 0, none⟩)] W fun e w' => e = .returned (.tuple #[.agg #[.int .u8 ((x.w : Nat) : Int), .int .u64 ((N : Nat) : Int)], .int .i64 0]) ∧ Below W.heap.size W w' := by
  have HV := Lib.hid hv
  have lq := s.1
  have c2 := s.2 2 _ rfl
  have c3 := s.2 3 _ rfl
  have c4 := s.2 4 _ rfl
  have c5 := s.2 5 _ rfl
  have c6 := s.2 6 _ rfl
  have c7 := s.2 7 _ rfl
  have c8 := s.2 8 _ rfl
  have c10 := s.2 10 _ rfl
  have c14 := s.2 14 _ rfl
  have c17 := s.2 17 _ rfl
  have c21 := s.2 21 _ rfl
  have n3 : ¬ ((x.o : Nat) : Int) = 3 := by omega
  have n4 : ¬ ((x.o : Nat) : Int) = 4 := by omega
  have n22 : ¬ ((x.o : Nat) : Int) = 22 := by omega
  have n23 : ¬ ((x.o : Nat) : Int) = 23 := by omega
  have n24 : ¬ ((x.o : Nat) : Int) = 24 := by omega
  clear s hv ho
  have lq1 : q < W.heap.size + 1 := by omega
  have lq2 : q < W.heap.size + 1 + 1 := by omega
  have lq4 : q < W.heap.size + 1 + 1 + 1 + 1 := by omega
  have ne1 : ¬ W.heap.size = q := by omega
  have lq3 : q < W.heap.size + 1 + 1 + 1 := by omega
  go_enter Tryz.func81, Tryz.ntmps81
  go_wp2_with fail
  all_goals (try go_region)
  all_goals (try go_wp2_with fail)
  all_goals (try go_region)
  all_goals (try go_wp2_with fail)
  all_goals (try go_region_held3 (fun w' => w'.cell? ⟨W.heap.size + 1 + 1 + 1, 0, none⟩ = some (.int .u8 ((x.o : Nat) : Int)) ∧ w'.cell? ⟨W.heap.size + 1, 0, none⟩ = some (.int .u8 ((y0.w : Nat) : Int)) ∧ w'.cell? ⟨W.heap.size + 1, 1, none⟩ = some (.int .u64 ((y0.n : Nat) : Int)) ∧ w'.cell? ⟨W.heap.size + 1 + 1, 0, none⟩ = some (.int .u8 ((y1.w : Nat) : Int)) ∧ w'.cell? ⟨W.heap.size + 1 + 1, 1, none⟩ = some (.int .u64 ((y1.n : Nat) : Int))) (first | (refine ⟨?_, ?_, ?_, ?_, ?_⟩ <;> go_simp)) (first | (go_at_call 111; with_reducible refine (HV.out _).mono ?_; rintro e w1 ⟨rfl, hb1⟩; have k0 := hb1.cell (p := ⟨W.heap.size + 1 + 1 + 1, 0, none⟩) (by first | (simp; done) | (simp; omega)); have k1 := hb1.cell (p := ⟨W.heap.size + 1, 0, none⟩) (by first | (simp; done) | (simp; omega)); have k2 := hb1.cell (p := ⟨W.heap.size + 1, 1, none⟩) (by first | (simp; done) | (simp; omega)); have k3 := hb1.cell (p := ⟨W.heap.size + 1 + 1, 0, none⟩) (by first | (simp; done) | (simp; omega)); have k4 := hb1.cell (p := ⟨W.heap.size + 1 + 1, 1, none⟩) (by first | (simp; done) | (simp; omega)); have ka : w1.cell? ⟨W.heap.size, 0, none⟩ = some (.int .u8 0) := (hb1.cell (p := ⟨W.heap.size, 0, none⟩) (by first | (simp; done) | (simp; omega))).trans (by simp [go_sem]); have kb : w1.cell? ⟨W.heap.size, 1, none⟩ = some (.int .u64 0) := (hb1.cell (p := ⟨W.heap.size, 1, none⟩) (by first | (simp; done) | (simp; omega))).trans (by simp [go_sem]); have kc : w1.frozen? ⟨W.heap.size, 0, none⟩ = false := (hb1.frozen (p := ⟨W.heap.size, 0, none⟩) (by first | (simp; done) | (simp; omega))).trans (by simp [go_sem]); have kd : w1.frozen? ⟨W.heap.size, 1, none⟩ = false := (hb1.frozen (p := ⟨W.heap.size, 1, none⟩) (by first | (simp; done) | (simp; omega))).trans (by simp [go_sem]); have al : W.heap.size < w1.heap.size := Nat.lt_of_lt_of_le (by first | (simp; done) | (simp; omega)) hb1.size; have HB1 := Lib.hid (bel_call (show Below W.heap.size W _ from (by repeat (first | exact Below.refl _ _ | (refine bel_alloc ?_ _) | (refine Below.drew ?_) | (refine Below.setCell ?_ (by simp) _)))) hb1); clear hb1)))
  all_goals (try go_wp2_with (go_at_call 111; with_reducible refine (HV.out _).mono ?_; rintro e w1 ⟨rfl, hb1⟩; have k0 := hb1.cell (p := ⟨W.heap.size + 1 + 1 + 1, 0, none⟩) (by first | (simp; done) | (simp; omega)); have k1 := hb1.cell (p := ⟨W.heap.size + 1, 0, none⟩) (by first | (simp; done) | (simp; omega)); have k2 := hb1.cell (p := ⟨W.heap.size + 1, 1, none⟩) (by first | (simp; done) | (simp; omega)); have k3 := hb1.cell (p := ⟨W.heap.size + 1 + 1, 0, none⟩) (by first | (simp; done) | (simp; omega)); have k4 := hb1.cell (p := ⟨W.heap.size + 1 + 1, 1, none⟩) (by first | (simp; done) | (simp; omega)); have ka : w1.cell? ⟨W.heap.size, 0, none⟩ = some (.int .u8 0) := (hb1.cell (p := ⟨W.heap.size, 0, none⟩) (by first | (simp; done) | (simp; omega))).trans (by simp [go_sem]); have kb : w1.cell? ⟨W.heap.size, 1, none⟩ = some (.int .u64 0) := (hb1.cell (p := ⟨W.heap.size, 1, none⟩) (by first | (simp; done) | (simp; omega))).trans (by simp [go_sem]); have kc : w1.frozen? ⟨W.heap.size, 0, none⟩ = false := (hb1.frozen (p := ⟨W.heap.size, 0, none⟩) (by first | (simp; done) | (simp; omega))).trans (by simp [go_sem]); have kd : w1.frozen? ⟨W.heap.size, 1, none⟩ = false := (hb1.frozen (p := ⟨W.heap.size, 1, none⟩) (by first | (simp; done) | (simp; omega))).trans (by simp [go_sem]); have al : W.heap.size < w1.heap.size := Nat.lt_of_lt_of_le (by first | (simp; done) | (simp; omega)) hb1.size; have HB1 := Lib.hid (bel_call (show Below W.heap.size W _ from (by repeat (first | exact Below.refl _ _ | (refine bel_alloc ?_ _) | (refine Below.drew ?_) | (refine Below.setCell ?_ (by simp) _)))) hb1); clear hb1))
  all_goals (exact bodyPost_ret (v := .tuple #[.agg #[.int .u8 ((x.w : Nat) : Int), .int .u64 ((N : Nat) : Int)], .int .i64 0]) (by simp [results, Tryz.results81, go_sem, ka, kb]) rfl ⟨rfl, by repeat (first | exact HB1.out | (refine bel_alloc ?_ _) | (refine Below.drew ?_) | (refine Below.setCell ?_ (by exact Nat.le_refl _) _))⟩)
end Ru
end Go.Proofs.YtkiegiofholofaaGreatDoor

namespace Go.Proofs.YtkiegiofholofaaGreatDoor
open Go.RowKit Go.Maps Bv Tm Kn
namespace Ru
set_option maxHeartbeats 8000000
set_option maxRecDepth 100000

theorem ru1_all {B p m b q k : Nat} {sv : Value} {L : List Nd} {x y0 y1 y2 : Nd} {W : World} (S : StoreAt B W p m sv L) (hB : B ≤ W.heap.size) (hx : x.Ok) (A : Apart b q p m sv) (C : ClosAt W b q p k x y0 y1 y2) (ho : ¬ x.o = 25) (ho1 : 1 ≤ x.o ∧ x.o ≤ 25) (n : Nat) (hn : kc x.o = n) (hn1 : n = 1 ∨ n = 2) (N : Nat) (hN : N < 18446744073709551616)
    (hw : y0.o = 1 → (n = 1 ∨ y1.o = 1) → ∀ w, Below W.heap.size W w → Calls Tryz.prog 81 #[.pointer (some ⟨q, 0, none⟩)] w fun e w' => e = .returned (.tuple #[.agg #[.int .u8 ((x.w : Nat) : Int), .int .u64 ((N : Nat) : Int)], .int .i64 0]) ∧ Below w.heap.size w w')
    (hN1 : y0.o = 1 → (n = 1 ∨ y1.o = 1) → worthC x y0 y1 = N) :
    Calls Tryz.prog 78 #[.pointer (some ⟨b, 0, none⟩)] W (Did B p m sv L (ou1 x y0 y1) W) := by
  have HKC : Hid (∀ w : World, Calls Tryz.prog 35 #[.int .u8 ((x.o : Nat) : Int)] w fun e w' => e = .returned (.int .i64 ((n : Nat) : Int)) ∧ w = w') := Lib.hid (fun w => by have h := rkids_any ho1.2 (by omega) w; rw [hn] at h; exact h)
  have HWK := Lib.hid hw
  have HN1 := Lib.hid hN1
  have HW0 := Lib.hid hx.w
  have HS := Lib.hid S
  have HB := Lib.hid hB
  have HNN := Lib.hid hN
  have HCON : Hid (∀ w, Below W.heap.size W w → Calls Tryz.prog 82 #[.pointer (some ⟨p, 0, none⟩), .int .i64 ((x.w : Nat) : Int), .int .u64 ((N : Nat) : Int)] w (fun e w' => DidL B p m sv (mk L (cn x.w N)).1 (((mk L (cn x.w N)).2.1 : Nat) : Int) (((mk L (cn x.w N)).2.2 : Nat) : Int) W e w' ∧ Kept (foot p m sv) w w')) := Lib.hid (fun w hb => const_did HS.out HB.out hb HW0.out HNN.out)
  have e2 : IntKind.i64.wrap ((x.w : Nat) : Int) = ((x.w : Nat) : Int) := by have := HW0.out; rw [IntKind.wrap_i64]; omega
  have NB := Lib.hid A.b
  have NQ := Lib.hid A.q
  have NW : Hid (¬ foot p m sv W.heap.size) := Lib.hid (fun c => Nat.lt_irrefl _ (foot_lt S c))
  clear A
  have HC := Lib.hid C
  have n0 : ¬ ((x.o : Nat) : Int) = 25 := by omega
  have q3 : ((n : Nat) : Int) ≤ 3 := by omega
  have q0 : (0 : Int) ≤ ((n : Nat) : Int) := by omega
  have HL1 := Lib.hid hn1
  have HKN := Lib.hid hn
  have HO := Lib.hid ho
  have lb := C.lb
  have lq := C.s.1
  have fb := C.fb
  have c0 := C.s.2 0 _ rfl
  have c2 := C.s.2 2 _ rfl
  have c9 := C.s.2 9 _ rfl
  have c10 := C.s.2 10 _ rfl
  have c11 := C.s.2 11 _ rfl
  have c12 := C.s.2 12 _ rfl
  have c13 := C.s.2 13 _ rfl
  have c14 := C.s.2 14 _ rfl
  have c15 := C.s.2 15 _ rfl
  have c16 := C.s.2 16 _ rfl
  have c17 := C.s.2 17 _ rfl
  have c18 := C.s.2 18 _ rfl
  have c19 := C.s.2 19 _ rfl
  have c20 := C.s.2 20 _ rfl
  have c21 := C.s.2 21 _ rfl
  have c22 := C.s.2 22 _ rfl
  clear C S hB hx
  clear ho ho1 hn hn1 hN hw hN1
  go_enter Tryz.func78, Tryz.ntmps78
  go_wp2_with fail
  go_quiet ((go_at_call 35; exact Calls.quiet_of_same ((HKC.out _).mono fun _ _ h => ⟨h.1, h.2.symm⟩)))
  go_wp2_with fail
  go_loopg [43] n (fun gk u43 wr => ∃ i : Nat, u43 = .int .i64 ((i : Nat) : Int) ∧ i + gk = n ∧ (1 ≤ i → y0.o = 1) ∧ (2 ≤ i → y1.o = 1) ∧ Below W.heap.size W wr)
  case atStart => exact ⟨0, rfl, by omega, by omega, by omega, by repeat (first | exact Below.refl _ _ | (refine bel_alloc ?_ _) | (refine Below.drew ?_) | (refine bel_drewN ?_ _))⟩
  case round =>
    obtain ⟨i, rfl, hgk, h1, h2, hb⟩ := hrel
    have HBR := Lib.hid hb
    have H1 := Lib.hid h1
    have H2 := Lib.hid h2
    have HGK := Lib.hid hgk
    have CW := Lib.hid (HC.out.s.keep hb)
    have fbw := (hb.cell (p := ⟨b, 0, none⟩) lb).trans fb
    have lbw : b < wr.heap.size := Nat.lt_of_lt_of_le lb hb.size
    have lqw : q < wr.heap.size := Nat.lt_of_lt_of_le lq hb.size
    have cw0 := CW.out.2 0 _ rfl
    clear hb h1 h2 hgk fb lb lq c0 c2 c9 c10 c11 c12 c13 c14 c15 c16 c17 c18 c19 c20 c21 c22
    by_cases hi : i < n
    case pos =>
      have HI := Lib.hid hi
      have hi01 : i = 0 ∨ i = 1 := by have := HL1.out; omega
      rcases hi01 with rfl | rfl
      · have q1 : (0 : Int) < ((n : Nat) : Int) := by omega
        have d9 := CW.out.2 9 _ rfl
        have d10 := CW.out.2 10 _ rfl
        have d11 := CW.out.2 11 _ rfl
        have d12 := CW.out.2 12 _ rfl
        have d13 := CW.out.2 13 _ rfl
        have d14 := CW.out.2 14 _ rfl
        have d15 := CW.out.2 15 _ rfl
        clear hi
        by_cases hy : y0.o = 1
        · have hyi : ((y0.o : Nat) : Int) = 1 := by omega
          go_wp2_with fail
          go_roundg (gk - 1)
          case rel => exact ⟨1, rfl, by have := HGK.out; have := HI.out; omega, fun _ => hy, by omega, by repeat (first | exact HBR.out | (refine bel_alloc ?_ _) | (refine Below.drew ?_) | (refine bel_drewN ?_ _))⟩
          case measure => have := HGK.out; have := HI.out; omega
        · have hyi : ¬ ((y0.o : Nat) : Int) = 1 := by omega
          go_wp2_with fail
          exact bodyPost_ret (v := .tuple #[.int .i64 (-1), .int .i64 0]) (by simp [results, Tryz.results78, go_sem]) rfl (did_no (by unfold ou1; rw [if_neg HO.out, if_neg (fun c => hy c.1)]) rfl (by repeat (first | exact HBR.out | (refine bel_alloc ?_ _) | (refine Below.drew ?_) | (refine bel_drewN ?_ _))))
      · have q1 : (1 : Int) < ((n : Nat) : Int) := by omega
        have d16 := CW.out.2 16 _ rfl
        have d17 := CW.out.2 17 _ rfl
        have d18 := CW.out.2 18 _ rfl
        have d19 := CW.out.2 19 _ rfl
        have d20 := CW.out.2 20 _ rfl
        have d21 := CW.out.2 21 _ rfl
        have d22 := CW.out.2 22 _ rfl
        clear hi
        by_cases hy : y1.o = 1
        · have hyi : ((y1.o : Nat) : Int) = 1 := by omega
          go_wp2_with fail
          go_roundg (gk - 1)
          case rel => exact ⟨2, rfl, by have := HGK.out; have := HI.out; omega, fun _ => H1.out (by omega), fun _ => hy, by repeat (first | exact HBR.out | (refine bel_alloc ?_ _) | (refine Below.drew ?_) | (refine bel_drewN ?_ _))⟩
          case measure => have := HGK.out; have := HI.out; omega
        · have hyi : ¬ ((y1.o : Nat) : Int) = 1 := by omega
          go_wp2_with fail
          exact bodyPost_ret (v := .tuple #[.int .i64 (-1), .int .i64 0]) (by simp [results, Tryz.results78, go_sem]) rfl (did_no (by unfold ou1; rw [if_neg HO.out, if_neg (fun c => c.2.elim (fun c1 => by have := HKN.out; have := HI.out; omega) hy)]) rfl (by repeat (first | exact HBR.out | (refine bel_alloc ?_ _) | (refine Below.drew ?_) | (refine bel_drewN ?_ _))))
    case neg =>
      have hin : i = n := by have := HGK.out; omega
      subst hin
      have q1 : ¬ ((i : Nat) : Int) < ((i : Nat) : Int) := by omega
      have HYY : Hid (y0.o = 1 ∧ (i = 1 ∨ y1.o = 1)) := Lib.hid ⟨H1.out (by have := HL1.out; omega), by rcases HL1.out with c | c; exact .inl c; exact .inr (H2.out (by omega))⟩
      have HWKK := Lib.hid (HWK.out HYY.out.1 HYY.out.2)
      clear hi
      have HKEEP : Hid (∀ w', Below W.heap.size W w' → w'.cell? ⟨b, 0, none⟩ = some (.pointer (some ⟨q, 0, none⟩)) ∧ w'.cell? ⟨q, 0, none⟩ = some (.pointer (some ⟨p, 0, none⟩))) :=
        Lib.hid (fun w' hb => ⟨(hb.cell (p := ⟨b, 0, none⟩) HC.out.lb).trans HC.out.fb, (hb.cell (p := ⟨q, 0, none⟩) HC.out.s.1).trans (HC.out.s.2 0 _ rfl)⟩)
      have nw : Hid (¬ foot p m sv wr.heap.size) := Lib.hid (fun c => by have := foot_lt HS.out c; have := HBR.out.size; omega)
      have lrw := HBR.out.size
      go_wp2_with (go_at_call 81; with_reducible refine (HWKK.out _ HBR.out).mono ?_; rintro e w1 ⟨rfl, hb1⟩; have lb1 : b < w1.heap.size := Nat.lt_of_lt_of_le lbw hb1.size; have lq1 : q < w1.heap.size := Nat.lt_of_lt_of_le lqw hb1.size; have HB1 := Lib.hid (bel_call HBR.out hb1); have ne1 : ¬ w1.heap.size = b := Nat.ne_of_gt lb1; have ne2 : ¬ w1.heap.size = q := Nat.ne_of_gt lq1; have g0 := (HKEEP.out _ HB1.out).1; have g1 := (HKEEP.out _ HB1.out).2; have nk : Hid (¬ foot p m sv w1.heap.size) := Lib.hid (fun c => absurd (foot_lt HS.out c) (Nat.not_lt_of_le HB1.out.size)); clear hb1)
      all_goals (try go_wp2_with fail)
      go_region_held3 (fun w' => w'.cell? ⟨b, 0, none⟩ = some (.pointer (some ⟨q, 0, none⟩)) ∧ w'.cell? ⟨q, 0, none⟩ = some (.pointer (some ⟨p, 0, none⟩)) ∧ w'.cell? ⟨w1.heap.size, 0, none⟩ = some (.int .u8 ((x.w : Nat) : Int)) ∧ w'.cell? ⟨w1.heap.size, 1, none⟩ = some (.int .u64 ((N : Nat) : Int))) (first | (refine ⟨?_, ?_, ?_, ?_⟩ <;> go_simp)) (first | (go_at_call 82; with_reducible refine (HCON.out _ (by repeat (first | exact HB1.out | exact HBR.out | (refine bel_alloc ?_ _) | (refine Below.drew ?_) | (refine bel_drewN ?_ _) | (refine Below.setCell ?_ (by first | exact HBR.out.size | exact HB1.out.size) _)))).mono ?_; rintro e w3 ⟨⟨rfl, hd⟩, hk⟩; have HD := Lib.hid hd; have y0 := hk.cell (x := ⟨b, 0, none⟩) (by first | (simp; done) | (simp; omega)) NB.out; have y1 := hk.cell (x := ⟨q, 0, none⟩) (by first | (simp; done) | (simp; omega)) NQ.out; have y2 := hk.cell (x := ⟨w1.heap.size, 0, none⟩) (by simp) nk.out; have y3 := hk.cell (x := ⟨w1.heap.size, 1, none⟩) (by simp) nk.out; clear hd hk))
      go_wp2_with fail
      all_goals (refine bodyPost_ret (v := _) (by simp [results, Tryz.results78, go_sem]) rfl (did_make (y := cn x.w N) (by unfold ou1; rw [if_neg HO.out, if_pos ⟨HYY.out.1, by rw [HKN.out]; exact HYY.out.2⟩, HN1.out HYY.out.1 HYY.out.2]) ⟨rfl, HD.out⟩))
end Ru
end Go.Proofs.YtkiegiofholofaaGreatDoor
