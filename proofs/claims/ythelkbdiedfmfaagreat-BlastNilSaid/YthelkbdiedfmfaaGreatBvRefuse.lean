/-
  What Extract, Extend and Ite of layer bv return where they refuse, and Ite whole.
-/
import Derived.Test.YthelkbdiedfmfaaGreatBvFitsA
namespace Go.Proofs.YthelkbdiedfmfaaGreat
open Go.RowKit
namespace Bv
set_option maxHeartbeats 400000
set_option maxRecDepth 100000

theorem extract_b1 (w n : Nat) (l r : Int) (HA : Hid (mayB w n = false)) (W : World) :
    Calls Tryz.prog 87 #[.agg #[.int .u8 w, .int .u64 n], .int .i64 l, .int .i64 r] W fun e W' => e = .returned (.tuple #[.agg #[.int .u8 0, .int .u64 0], .int .i64 2]) ∧ Below W.heap.size W W' := by
  go_enter Tryz.func87, Tryz.ntmps87
  go_wp2_with fail
  refine (may_no HA.out _).mono ?_; rintro e w1 ⟨rfl, hb1⟩
  have ka : At w1 (W.heap.size) (.int .u8 w) (.int .u64 n) := by have h0 := (((At.new _ _ _ _).alloc _)).keep hb1; simpa using h0
  have la := ka.lt
  have oa := ka
  unfold At at oa
  have kres : At w1 (W.heap.size + 1) (.int .u8 0) (.int .u64 0) := by have h0 := ((At.new _ _ _ _)).keep hb1; simpa using h0
  have lres := kres.lt
  have ores := kres
  unfold At at ores
  have fres : w1.frozen? ⟨W.heap.size + 1, 0, none⟩ = false ∧ w1.frozen? ⟨W.heap.size + 1, 1, none⟩ = false := by constructor <;> (rw [Below.frozen hb1 (by simp)]; simp [go_sem])
  go_wp2_with fail
  refine bodyPost_ret (v := .tuple #[.agg #[.int .u8 0, .int .u64 0], .int .i64 2]) (by simp [results, Tryz.results87, go_sem, ores]) rfl ⟨rfl, ?_⟩
  exact ((bel_call (bel_alloc (bel_alloc (Below.refl _ _) _) _) hb1).setCell (by first | (simp; done) | (simp; omega) | omega) _).setCell (by first | (simp; done) | (simp; omega) | omega) _

theorem extract_b2 (w n : Nat) (l r : Int) (HA : Hid (mayB w n = true)) (h : l < 0) (W : World) :
    Calls Tryz.prog 87 #[.agg #[.int .u8 w, .int .u64 n], .int .i64 l, .int .i64 r] W fun e W' => e = .returned (.tuple #[.agg #[.int .u8 0, .int .u64 0], .int .i64 2]) ∧ Below W.heap.size W W' := by
  go_enter Tryz.func87, Tryz.ntmps87
  go_wp2_with fail
  refine (may_yes HA.out _).mono ?_; rintro e w1 ⟨rfl, hb1⟩
  have ka : At w1 (W.heap.size) (.int .u8 w) (.int .u64 n) := by have h0 := (((At.new _ _ _ _).alloc _)).keep hb1; simpa using h0
  have la := ka.lt
  have oa := ka
  unfold At at oa
  have kres : At w1 (W.heap.size + 1) (.int .u8 0) (.int .u64 0) := by have h0 := ((At.new _ _ _ _)).keep hb1; simpa using h0
  have lres := kres.lt
  have ores := kres
  unfold At at ores
  have fres : w1.frozen? ⟨W.heap.size + 1, 0, none⟩ = false ∧ w1.frozen? ⟨W.heap.size + 1, 1, none⟩ = false := by constructor <;> (rw [Below.frozen hb1 (by simp)]; simp [go_sem])
  go_wp2_with fail
  refine bodyPost_ret (v := .tuple #[.agg #[.int .u8 0, .int .u64 0], .int .i64 2]) (by simp [results, Tryz.results87, go_sem, ores]) rfl ⟨rfl, ?_⟩
  exact ((bel_call (bel_alloc (bel_alloc (Below.refl _ _) _) _) hb1).setCell (by first | (simp; done) | (simp; omega) | omega) _).setCell (by first | (simp; done) | (simp; omega) | omega) _

theorem extract_b3 (w n : Nat) (l r : Int) (HA : Hid (mayB w n = true)) (h0 : 0 ≤ l) (h : r < 1) (W : World) :
    Calls Tryz.prog 87 #[.agg #[.int .u8 w, .int .u64 n], .int .i64 l, .int .i64 r] W fun e W' => e = .returned (.tuple #[.agg #[.int .u8 0, .int .u64 0], .int .i64 2]) ∧ Below W.heap.size W W' := by
  go_enter Tryz.func87, Tryz.ntmps87
  go_wp2_with fail
  refine (may_yes HA.out _).mono ?_; rintro e w1 ⟨rfl, hb1⟩
  have ka : At w1 (W.heap.size) (.int .u8 w) (.int .u64 n) := by have h0 := (((At.new _ _ _ _).alloc _)).keep hb1; simpa using h0
  have la := ka.lt
  have oa := ka
  unfold At at oa
  have kres : At w1 (W.heap.size + 1) (.int .u8 0) (.int .u64 0) := by have h0 := ((At.new _ _ _ _)).keep hb1; simpa using h0
  have lres := kres.lt
  have ores := kres
  unfold At at ores
  have fres : w1.frozen? ⟨W.heap.size + 1, 0, none⟩ = false ∧ w1.frozen? ⟨W.heap.size + 1, 1, none⟩ = false := by constructor <;> (rw [Below.frozen hb1 (by simp)]; simp [go_sem])
  go_wp2_with fail
  refine bodyPost_ret (v := .tuple #[.agg #[.int .u8 0, .int .u64 0], .int .i64 2]) (by simp [results, Tryz.results87, go_sem, ores]) rfl ⟨rfl, ?_⟩
  exact ((bel_call (bel_alloc (bel_alloc (Below.refl _ _) _) _) hb1).setCell (by first | (simp; done) | (simp; omega) | omega) _).setCell (by first | (simp; done) | (simp; omega) | omega) _

theorem extract_b4 (w n : Nat) (l r : Int) (HA : Hid (mayB w n = true)) (hw : w ≤ 64) (h0 : 0 ≤ l) (h1 : 1 ≤ r) (hr1 : r < 9223372036854775808) (h : (w : Int) - r < l) (W : World) :
    Calls Tryz.prog 87 #[.agg #[.int .u8 w, .int .u64 n], .int .i64 l, .int .i64 r] W fun e W' => e = .returned (.tuple #[.agg #[.int .u8 0, .int .u64 0], .int .i64 2]) ∧ Below W.heap.size W W' := by
  go_enter Tryz.func87, Tryz.ntmps87
  go_wp2_with fail
  refine (may_yes HA.out _).mono ?_; rintro e w1 ⟨rfl, hb1⟩
  have ka : At w1 (W.heap.size) (.int .u8 w) (.int .u64 n) := by have h0 := (((At.new _ _ _ _).alloc _)).keep hb1; simpa using h0
  have la := ka.lt
  have oa := ka
  unfold At at oa
  have kres : At w1 (W.heap.size + 1) (.int .u8 0) (.int .u64 0) := by have h0 := ((At.new _ _ _ _)).keep hb1; simpa using h0
  have lres := kres.lt
  have ores := kres
  unfold At at ores
  have fres : w1.frozen? ⟨W.heap.size + 1, 0, none⟩ = false ∧ w1.frozen? ⟨W.heap.size + 1, 1, none⟩ = false := by constructor <;> (rw [Below.frozen hb1 (by simp)]; simp [go_sem])
  go_wp2_with fail
  refine bodyPost_ret (v := .tuple #[.agg #[.int .u8 0, .int .u64 0], .int .i64 2]) (by simp [results, Tryz.results87, go_sem, ores]) rfl ⟨rfl, ?_⟩
  exact ((bel_call (bel_alloc (bel_alloc (Below.refl _ _) _) _) hb1).setCell (by first | (simp; done) | (simp; omega) | omega) _).setCell (by first | (simp; done) | (simp; omega) | omega) _

theorem extend_b1 (o w n : Nat) (r : Int) (HA : Hid (mayB w n = false)) (W : World) :
    Calls Tryz.prog 88 #[.int .u8 o, .agg #[.int .u8 w, .int .u64 n], .int .i64 r] W fun e W' => e = .returned (.tuple #[.agg #[.int .u8 0, .int .u64 0], .int .i64 2]) ∧ Below W.heap.size W W' := by
  go_enter Tryz.func88, Tryz.ntmps88
  go_wp2_with fail
  refine (may_no HA.out _).mono ?_; rintro e w1 ⟨rfl, hb1⟩
  have ka : At w1 (W.heap.size) (.int .u8 w) (.int .u64 n) := by have h0 := (((At.new _ _ _ _).alloc _)).keep hb1; simpa using h0
  have la := ka.lt
  have oa := ka
  unfold At at oa
  have kres : At w1 (W.heap.size + 1) (.int .u8 0) (.int .u64 0) := by have h0 := ((At.new _ _ _ _)).keep hb1; simpa using h0
  have lres := kres.lt
  have ores := kres
  unfold At at ores
  have fres : w1.frozen? ⟨W.heap.size + 1, 0, none⟩ = false ∧ w1.frozen? ⟨W.heap.size + 1, 1, none⟩ = false := by constructor <;> (rw [Below.frozen hb1 (by simp)]; simp [go_sem])
  go_wp2_with fail
  refine bodyPost_ret (v := .tuple #[.agg #[.int .u8 0, .int .u64 0], .int .i64 2]) (by simp [results, Tryz.results88, go_sem, ores]) rfl ⟨rfl, ?_⟩
  exact ((bel_call (bel_alloc (bel_alloc (Below.refl _ _) _) _) hb1).setCell (by first | (simp; done) | (simp; omega) | omega) _).setCell (by first | (simp; done) | (simp; omega) | omega) _

theorem extend_b2 (o w n : Nat) (r : Int) (HA : Hid (mayB w n = true)) (hw : w ≤ 64) (h : r < (w : Int)) (W : World) :
    Calls Tryz.prog 88 #[.int .u8 o, .agg #[.int .u8 w, .int .u64 n], .int .i64 r] W fun e W' => e = .returned (.tuple #[.agg #[.int .u8 0, .int .u64 0], .int .i64 2]) ∧ Below W.heap.size W W' := by
  go_enter Tryz.func88, Tryz.ntmps88
  go_wp2_with fail
  refine (may_yes HA.out _).mono ?_; rintro e w1 ⟨rfl, hb1⟩
  have ka : At w1 (W.heap.size) (.int .u8 w) (.int .u64 n) := by have h0 := (((At.new _ _ _ _).alloc _)).keep hb1; simpa using h0
  have la := ka.lt
  have oa := ka
  unfold At at oa
  have kres : At w1 (W.heap.size + 1) (.int .u8 0) (.int .u64 0) := by have h0 := ((At.new _ _ _ _)).keep hb1; simpa using h0
  have lres := kres.lt
  have ores := kres
  unfold At at ores
  have fres : w1.frozen? ⟨W.heap.size + 1, 0, none⟩ = false ∧ w1.frozen? ⟨W.heap.size + 1, 1, none⟩ = false := by constructor <;> (rw [Below.frozen hb1 (by simp)]; simp [go_sem])
  go_wp2_with fail
  refine bodyPost_ret (v := .tuple #[.agg #[.int .u8 0, .int .u64 0], .int .i64 2]) (by simp [results, Tryz.results88, go_sem, ores]) rfl ⟨rfl, ?_⟩
  exact ((bel_call (bel_alloc (bel_alloc (Below.refl _ _) _) _) hb1).setCell (by first | (simp; done) | (simp; omega) | omega) _).setCell (by first | (simp; done) | (simp; omega) | omega) _

theorem extend_b3 (o w n : Nat) (r : Int) (HA : Hid (mayB w n = true)) (hw : w ≤ 64) (h0 : (w : Int) ≤ r) (h : 64 < r) (W : World) :
    Calls Tryz.prog 88 #[.int .u8 o, .agg #[.int .u8 w, .int .u64 n], .int .i64 r] W fun e W' => e = .returned (.tuple #[.agg #[.int .u8 0, .int .u64 0], .int .i64 2]) ∧ Below W.heap.size W W' := by
  go_enter Tryz.func88, Tryz.ntmps88
  go_wp2_with fail
  refine (may_yes HA.out _).mono ?_; rintro e w1 ⟨rfl, hb1⟩
  have ka : At w1 (W.heap.size) (.int .u8 w) (.int .u64 n) := by have h0 := (((At.new _ _ _ _).alloc _)).keep hb1; simpa using h0
  have la := ka.lt
  have oa := ka
  unfold At at oa
  have kres : At w1 (W.heap.size + 1) (.int .u8 0) (.int .u64 0) := by have h0 := ((At.new _ _ _ _)).keep hb1; simpa using h0
  have lres := kres.lt
  have ores := kres
  unfold At at ores
  have fres : w1.frozen? ⟨W.heap.size + 1, 0, none⟩ = false ∧ w1.frozen? ⟨W.heap.size + 1, 1, none⟩ = false := by constructor <;> (rw [Below.frozen hb1 (by simp)]; simp [go_sem])
  go_wp2_with fail
  refine bodyPost_ret (v := .tuple #[.agg #[.int .u8 0, .int .u64 0], .int .i64 2]) (by simp [results, Tryz.results88, go_sem, ores]) rfl ⟨rfl, ?_⟩
  exact ((bel_call (bel_alloc (bel_alloc (Below.refl _ _) _) _) hb1).setCell (by first | (simp; done) | (simp; omega) | omega) _).setCell (by first | (simp; done) | (simp; omega) | omega) _

theorem extend_b4 (o w n : Nat) (r : Int) (HA : Hid (mayB w n = true)) (hw : w ≤ 64) (h0 : (w : Int) ≤ r) (h1 : r ≤ 64) (d3 : ((o : Int) == 23) = false) (d4 : ((o : Int) == 24) = false) (W : World) :
    Calls Tryz.prog 88 #[.int .u8 o, .agg #[.int .u8 w, .int .u64 n], .int .i64 r] W fun e W' => e = .returned (.tuple #[.agg #[.int .u8 0, .int .u64 0], .int .i64 2]) ∧ Below W.heap.size W W' := by
  go_enter Tryz.func88, Tryz.ntmps88
  go_wp2_with fail
  refine (may_yes HA.out _).mono ?_; rintro e w1 ⟨rfl, hb1⟩
  have ka : At w1 (W.heap.size) (.int .u8 w) (.int .u64 n) := by have h0 := (((At.new _ _ _ _).alloc _)).keep hb1; simpa using h0
  have la := ka.lt
  have oa := ka
  unfold At at oa
  have kres : At w1 (W.heap.size + 1) (.int .u8 0) (.int .u64 0) := by have h0 := ((At.new _ _ _ _)).keep hb1; simpa using h0
  have lres := kres.lt
  have ores := kres
  unfold At at ores
  have fres : w1.frozen? ⟨W.heap.size + 1, 0, none⟩ = false ∧ w1.frozen? ⟨W.heap.size + 1, 1, none⟩ = false := by constructor <;> (rw [Below.frozen hb1 (by simp)]; simp [go_sem])
  go_wp2_with fail
  refine bodyPost_ret (v := .tuple #[.agg #[.int .u8 0, .int .u64 0], .int .i64 2]) (by simp [results, Tryz.results88, go_sem, ores]) rfl ⟨rfl, ?_⟩
  exact ((bel_call (bel_alloc (bel_alloc (Below.refl _ _) _) _) hb1).setCell (by first | (simp; done) | (simp; omega) | omega) _).setCell (by first | (simp; done) | (simp; omega) | omega) _

theorem ite_b1 (cw cn w n v m : Nat) (HC : Hid (mayB cw cn = false)) (W : World) :
    Calls Tryz.prog 89 #[.agg #[.int .u8 cw, .int .u64 cn], .agg #[.int .u8 w, .int .u64 n], .agg #[.int .u8 v, .int .u64 m]] W fun e W' => e = .returned (.tuple #[.agg #[.int .u8 0, .int .u64 0], .int .i64 2]) ∧ Below W.heap.size W W' := by
  go_enter Tryz.func89, Tryz.ntmps89
  go_wp2_with fail
  refine (may_no HC.out _).mono ?_; rintro e w1 ⟨rfl, hb1⟩
  have kc : At w1 (W.heap.size) (.int .u8 cw) (.int .u64 cn) := by have h0 := (((((At.new _ _ _ _).alloc _).alloc _).alloc _)).keep hb1; simpa using h0
  have lc := kc.lt
  have oc := kc
  unfold At at oc
  have ka : At w1 (W.heap.size + 1) (.int .u8 w) (.int .u64 n) := by have h0 := ((((At.new _ _ _ _).alloc _).alloc _)).keep hb1; simpa using h0
  have la := ka.lt
  have oa := ka
  unfold At at oa
  have kb : At w1 (W.heap.size + 1 + 1) (.int .u8 v) (.int .u64 m) := by have h0 := (((At.new _ _ _ _).alloc _)).keep hb1; simpa using h0
  have lb := kb.lt
  have ob := kb
  unfold At at ob
  have kres : At w1 (W.heap.size + 1 + 1 + 1) (.int .u8 0) (.int .u64 0) := by have h0 := ((At.new _ _ _ _)).keep hb1; simpa using h0
  have lres := kres.lt
  have ores := kres
  unfold At at ores
  have fres : w1.frozen? ⟨W.heap.size + 1 + 1 + 1, 0, none⟩ = false ∧ w1.frozen? ⟨W.heap.size + 1 + 1 + 1, 1, none⟩ = false := by constructor <;> (rw [Below.frozen hb1 (by simp)]; simp [go_sem])
  go_wp2_with fail
  refine bodyPost_ret (v := .tuple #[.agg #[.int .u8 0, .int .u64 0], .int .i64 2]) (by simp [results, Tryz.results89, go_sem, ores]) rfl ⟨rfl, ?_⟩
  exact ((bel_call (bel_alloc (bel_alloc (bel_alloc (bel_alloc (Below.refl _ _) _) _) _) _) hb1).setCell (by first | (simp; done) | (simp; omega) | omega) _).setCell (by first | (simp; done) | (simp; omega) | omega) _

theorem ite_b2 (cw cn w n v m : Nat) (HC : Hid (mayB cw cn = true)) (HA : Hid (mayB w n = false)) (W : World) :
    Calls Tryz.prog 89 #[.agg #[.int .u8 cw, .int .u64 cn], .agg #[.int .u8 w, .int .u64 n], .agg #[.int .u8 v, .int .u64 m]] W fun e W' => e = .returned (.tuple #[.agg #[.int .u8 0, .int .u64 0], .int .i64 2]) ∧ Below W.heap.size W W' := by
  go_enter Tryz.func89, Tryz.ntmps89
  go_wp2_with fail
  refine (may_yes HC.out _).mono ?_; rintro e w1 ⟨rfl, hb1⟩
  have kc : At w1 (W.heap.size) (.int .u8 cw) (.int .u64 cn) := by have h0 := (((((At.new _ _ _ _).alloc _).alloc _).alloc _)).keep hb1; simpa using h0
  have lc := kc.lt
  have oc := kc
  unfold At at oc
  have ka : At w1 (W.heap.size + 1) (.int .u8 w) (.int .u64 n) := by have h0 := ((((At.new _ _ _ _).alloc _).alloc _)).keep hb1; simpa using h0
  have la := ka.lt
  have oa := ka
  unfold At at oa
  have kb : At w1 (W.heap.size + 1 + 1) (.int .u8 v) (.int .u64 m) := by have h0 := (((At.new _ _ _ _).alloc _)).keep hb1; simpa using h0
  have lb := kb.lt
  have ob := kb
  unfold At at ob
  have kres : At w1 (W.heap.size + 1 + 1 + 1) (.int .u8 0) (.int .u64 0) := by have h0 := ((At.new _ _ _ _)).keep hb1; simpa using h0
  have lres := kres.lt
  have ores := kres
  unfold At at ores
  have fres : w1.frozen? ⟨W.heap.size + 1 + 1 + 1, 0, none⟩ = false ∧ w1.frozen? ⟨W.heap.size + 1 + 1 + 1, 1, none⟩ = false := by constructor <;> (rw [Below.frozen hb1 (by simp)]; simp [go_sem])
  go_wp2_with fail
  refine (may_no HA.out _).mono ?_; rintro e w2 ⟨rfl, hb2⟩
  replace kc := kc.keep hb2
  replace lc := kc.lt
  replace oc := kc
  unfold At at oc
  replace ka := ka.keep hb2
  replace la := ka.lt
  replace oa := ka
  unfold At at oa
  replace kb := kb.keep hb2
  replace lb := kb.lt
  replace ob := kb
  unfold At at ob
  replace fres : w2.frozen? ⟨W.heap.size + 1 + 1 + 1, 0, none⟩ = false ∧ w2.frozen? ⟨W.heap.size + 1 + 1 + 1, 1, none⟩ = false := ⟨(Below.frozen hb2 (p := ⟨_, 0, none⟩) lres).trans fres.1, (Below.frozen hb2 (p := ⟨_, 1, none⟩) lres).trans fres.2⟩
  replace kres := kres.keep hb2
  replace lres := kres.lt
  replace ores := kres
  unfold At at ores
  go_wp2_with fail
  refine bodyPost_ret (v := .tuple #[.agg #[.int .u8 0, .int .u64 0], .int .i64 2]) (by simp [results, Tryz.results89, go_sem, ores]) rfl ⟨rfl, ?_⟩
  exact ((bel_call (bel_call (bel_alloc (bel_alloc (bel_alloc (bel_alloc (Below.refl _ _) _) _) _) _) hb1) hb2).setCell (by first | (simp; done) | (simp; omega) | omega) _).setCell (by first | (simp; done) | (simp; omega) | omega) _

theorem ite_b3 (cw cn w n v m : Nat) (HC : Hid (mayB cw cn = true)) (HA : Hid (mayB w n = true)) (HB : Hid (mayB v m = false)) (W : World) :
    Calls Tryz.prog 89 #[.agg #[.int .u8 cw, .int .u64 cn], .agg #[.int .u8 w, .int .u64 n], .agg #[.int .u8 v, .int .u64 m]] W fun e W' => e = .returned (.tuple #[.agg #[.int .u8 0, .int .u64 0], .int .i64 2]) ∧ Below W.heap.size W W' := by
  go_enter Tryz.func89, Tryz.ntmps89
  go_wp2_with fail
  refine (may_yes HC.out _).mono ?_; rintro e w1 ⟨rfl, hb1⟩
  have kc : At w1 (W.heap.size) (.int .u8 cw) (.int .u64 cn) := by have h0 := (((((At.new _ _ _ _).alloc _).alloc _).alloc _)).keep hb1; simpa using h0
  have lc := kc.lt
  have oc := kc
  unfold At at oc
  have ka : At w1 (W.heap.size + 1) (.int .u8 w) (.int .u64 n) := by have h0 := ((((At.new _ _ _ _).alloc _).alloc _)).keep hb1; simpa using h0
  have la := ka.lt
  have oa := ka
  unfold At at oa
  have kb : At w1 (W.heap.size + 1 + 1) (.int .u8 v) (.int .u64 m) := by have h0 := (((At.new _ _ _ _).alloc _)).keep hb1; simpa using h0
  have lb := kb.lt
  have ob := kb
  unfold At at ob
  have kres : At w1 (W.heap.size + 1 + 1 + 1) (.int .u8 0) (.int .u64 0) := by have h0 := ((At.new _ _ _ _)).keep hb1; simpa using h0
  have lres := kres.lt
  have ores := kres
  unfold At at ores
  have fres : w1.frozen? ⟨W.heap.size + 1 + 1 + 1, 0, none⟩ = false ∧ w1.frozen? ⟨W.heap.size + 1 + 1 + 1, 1, none⟩ = false := by constructor <;> (rw [Below.frozen hb1 (by simp)]; simp [go_sem])
  go_wp2_with fail
  refine (may_yes HA.out _).mono ?_; rintro e w2 ⟨rfl, hb2⟩
  replace kc := kc.keep hb2
  replace lc := kc.lt
  replace oc := kc
  unfold At at oc
  replace ka := ka.keep hb2
  replace la := ka.lt
  replace oa := ka
  unfold At at oa
  replace kb := kb.keep hb2
  replace lb := kb.lt
  replace ob := kb
  unfold At at ob
  replace fres : w2.frozen? ⟨W.heap.size + 1 + 1 + 1, 0, none⟩ = false ∧ w2.frozen? ⟨W.heap.size + 1 + 1 + 1, 1, none⟩ = false := ⟨(Below.frozen hb2 (p := ⟨_, 0, none⟩) lres).trans fres.1, (Below.frozen hb2 (p := ⟨_, 1, none⟩) lres).trans fres.2⟩
  replace kres := kres.keep hb2
  replace lres := kres.lt
  replace ores := kres
  unfold At at ores
  go_wp2_with fail
  refine (may_no HB.out _).mono ?_; rintro e w3 ⟨rfl, hb3⟩
  replace kc := kc.keep hb3
  replace lc := kc.lt
  replace oc := kc
  unfold At at oc
  replace ka := ka.keep hb3
  replace la := ka.lt
  replace oa := ka
  unfold At at oa
  replace kb := kb.keep hb3
  replace lb := kb.lt
  replace ob := kb
  unfold At at ob
  replace fres : w3.frozen? ⟨W.heap.size + 1 + 1 + 1, 0, none⟩ = false ∧ w3.frozen? ⟨W.heap.size + 1 + 1 + 1, 1, none⟩ = false := ⟨(Below.frozen hb3 (p := ⟨_, 0, none⟩) lres).trans fres.1, (Below.frozen hb3 (p := ⟨_, 1, none⟩) lres).trans fres.2⟩
  replace kres := kres.keep hb3
  replace lres := kres.lt
  replace ores := kres
  unfold At at ores
  go_wp2_with fail
  refine bodyPost_ret (v := .tuple #[.agg #[.int .u8 0, .int .u64 0], .int .i64 2]) (by simp [results, Tryz.results89, go_sem, ores]) rfl ⟨rfl, ?_⟩
  exact ((bel_call (bel_call (bel_call (bel_alloc (bel_alloc (bel_alloc (bel_alloc (Below.refl _ _) _) _) _) _) hb1) hb2) hb3).setCell (by first | (simp; done) | (simp; omega) | omega) _).setCell (by first | (simp; done) | (simp; omega) | omega) _

theorem ite_b4 (cw cn w n v m : Nat) (HC : Hid (mayB cw cn = true)) (HA : Hid (mayB w n = true)) (HB : Hid (mayB v m = true)) (h1 : ((cw : Int) != 1) = true) (W : World) :
    Calls Tryz.prog 89 #[.agg #[.int .u8 cw, .int .u64 cn], .agg #[.int .u8 w, .int .u64 n], .agg #[.int .u8 v, .int .u64 m]] W fun e W' => e = .returned (.tuple #[.agg #[.int .u8 0, .int .u64 0], .int .i64 2]) ∧ Below W.heap.size W W' := by
  go_enter Tryz.func89, Tryz.ntmps89
  go_wp2_with fail
  refine (may_yes HC.out _).mono ?_; rintro e w1 ⟨rfl, hb1⟩
  have kc : At w1 (W.heap.size) (.int .u8 cw) (.int .u64 cn) := by have h0 := (((((At.new _ _ _ _).alloc _).alloc _).alloc _)).keep hb1; simpa using h0
  have lc := kc.lt
  have oc := kc
  unfold At at oc
  have ka : At w1 (W.heap.size + 1) (.int .u8 w) (.int .u64 n) := by have h0 := ((((At.new _ _ _ _).alloc _).alloc _)).keep hb1; simpa using h0
  have la := ka.lt
  have oa := ka
  unfold At at oa
  have kb : At w1 (W.heap.size + 1 + 1) (.int .u8 v) (.int .u64 m) := by have h0 := (((At.new _ _ _ _).alloc _)).keep hb1; simpa using h0
  have lb := kb.lt
  have ob := kb
  unfold At at ob
  have kres : At w1 (W.heap.size + 1 + 1 + 1) (.int .u8 0) (.int .u64 0) := by have h0 := ((At.new _ _ _ _)).keep hb1; simpa using h0
  have lres := kres.lt
  have ores := kres
  unfold At at ores
  have fres : w1.frozen? ⟨W.heap.size + 1 + 1 + 1, 0, none⟩ = false ∧ w1.frozen? ⟨W.heap.size + 1 + 1 + 1, 1, none⟩ = false := by constructor <;> (rw [Below.frozen hb1 (by simp)]; simp [go_sem])
  go_wp2_with fail
  refine (may_yes HA.out _).mono ?_; rintro e w2 ⟨rfl, hb2⟩
  replace kc := kc.keep hb2
  replace lc := kc.lt
  replace oc := kc
  unfold At at oc
  replace ka := ka.keep hb2
  replace la := ka.lt
  replace oa := ka
  unfold At at oa
  replace kb := kb.keep hb2
  replace lb := kb.lt
  replace ob := kb
  unfold At at ob
  replace fres : w2.frozen? ⟨W.heap.size + 1 + 1 + 1, 0, none⟩ = false ∧ w2.frozen? ⟨W.heap.size + 1 + 1 + 1, 1, none⟩ = false := ⟨(Below.frozen hb2 (p := ⟨_, 0, none⟩) lres).trans fres.1, (Below.frozen hb2 (p := ⟨_, 1, none⟩) lres).trans fres.2⟩
  replace kres := kres.keep hb2
  replace lres := kres.lt
  replace ores := kres
  unfold At at ores
  go_wp2_with fail
  refine (may_yes HB.out _).mono ?_; rintro e w3 ⟨rfl, hb3⟩
  replace kc := kc.keep hb3
  replace lc := kc.lt
  replace oc := kc
  unfold At at oc
  replace ka := ka.keep hb3
  replace la := ka.lt
  replace oa := ka
  unfold At at oa
  replace kb := kb.keep hb3
  replace lb := kb.lt
  replace ob := kb
  unfold At at ob
  replace fres : w3.frozen? ⟨W.heap.size + 1 + 1 + 1, 0, none⟩ = false ∧ w3.frozen? ⟨W.heap.size + 1 + 1 + 1, 1, none⟩ = false := ⟨(Below.frozen hb3 (p := ⟨_, 0, none⟩) lres).trans fres.1, (Below.frozen hb3 (p := ⟨_, 1, none⟩) lres).trans fres.2⟩
  replace kres := kres.keep hb3
  replace lres := kres.lt
  replace ores := kres
  unfold At at ores
  go_wp2_with fail
  refine bodyPost_ret (v := .tuple #[.agg #[.int .u8 0, .int .u64 0], .int .i64 2]) (by simp [results, Tryz.results89, go_sem, ores]) rfl ⟨rfl, ?_⟩
  exact ((bel_call (bel_call (bel_call (bel_alloc (bel_alloc (bel_alloc (bel_alloc (Below.refl _ _) _) _) _) _) hb1) hb2) hb3).setCell (by first | (simp; done) | (simp; omega) | omega) _).setCell (by first | (simp; done) | (simp; omega) | omega) _

theorem ite_b5 (cw cn w n v m : Nat) (HC : Hid (mayB cw cn = true)) (HA : Hid (mayB w n = true)) (HB : Hid (mayB v m = true)) (h1 : ((cw : Int) != 1) = false) (h2 : ((w : Int) != (v : Int)) = true) (W : World) :
    Calls Tryz.prog 89 #[.agg #[.int .u8 cw, .int .u64 cn], .agg #[.int .u8 w, .int .u64 n], .agg #[.int .u8 v, .int .u64 m]] W fun e W' => e = .returned (.tuple #[.agg #[.int .u8 0, .int .u64 0], .int .i64 2]) ∧ Below W.heap.size W W' := by
  go_enter Tryz.func89, Tryz.ntmps89
  go_wp2_with fail
  refine (may_yes HC.out _).mono ?_; rintro e w1 ⟨rfl, hb1⟩
  have kc : At w1 (W.heap.size) (.int .u8 cw) (.int .u64 cn) := by have h0 := (((((At.new _ _ _ _).alloc _).alloc _).alloc _)).keep hb1; simpa using h0
  have lc := kc.lt
  have oc := kc
  unfold At at oc
  have ka : At w1 (W.heap.size + 1) (.int .u8 w) (.int .u64 n) := by have h0 := ((((At.new _ _ _ _).alloc _).alloc _)).keep hb1; simpa using h0
  have la := ka.lt
  have oa := ka
  unfold At at oa
  have kb : At w1 (W.heap.size + 1 + 1) (.int .u8 v) (.int .u64 m) := by have h0 := (((At.new _ _ _ _).alloc _)).keep hb1; simpa using h0
  have lb := kb.lt
  have ob := kb
  unfold At at ob
  have kres : At w1 (W.heap.size + 1 + 1 + 1) (.int .u8 0) (.int .u64 0) := by have h0 := ((At.new _ _ _ _)).keep hb1; simpa using h0
  have lres := kres.lt
  have ores := kres
  unfold At at ores
  have fres : w1.frozen? ⟨W.heap.size + 1 + 1 + 1, 0, none⟩ = false ∧ w1.frozen? ⟨W.heap.size + 1 + 1 + 1, 1, none⟩ = false := by constructor <;> (rw [Below.frozen hb1 (by simp)]; simp [go_sem])
  go_wp2_with fail
  refine (may_yes HA.out _).mono ?_; rintro e w2 ⟨rfl, hb2⟩
  replace kc := kc.keep hb2
  replace lc := kc.lt
  replace oc := kc
  unfold At at oc
  replace ka := ka.keep hb2
  replace la := ka.lt
  replace oa := ka
  unfold At at oa
  replace kb := kb.keep hb2
  replace lb := kb.lt
  replace ob := kb
  unfold At at ob
  replace fres : w2.frozen? ⟨W.heap.size + 1 + 1 + 1, 0, none⟩ = false ∧ w2.frozen? ⟨W.heap.size + 1 + 1 + 1, 1, none⟩ = false := ⟨(Below.frozen hb2 (p := ⟨_, 0, none⟩) lres).trans fres.1, (Below.frozen hb2 (p := ⟨_, 1, none⟩) lres).trans fres.2⟩
  replace kres := kres.keep hb2
  replace lres := kres.lt
  replace ores := kres
  unfold At at ores
  go_wp2_with fail
  refine (may_yes HB.out _).mono ?_; rintro e w3 ⟨rfl, hb3⟩
  replace kc := kc.keep hb3
  replace lc := kc.lt
  replace oc := kc
  unfold At at oc
  replace ka := ka.keep hb3
  replace la := ka.lt
  replace oa := ka
  unfold At at oa
  replace kb := kb.keep hb3
  replace lb := kb.lt
  replace ob := kb
  unfold At at ob
  replace fres : w3.frozen? ⟨W.heap.size + 1 + 1 + 1, 0, none⟩ = false ∧ w3.frozen? ⟨W.heap.size + 1 + 1 + 1, 1, none⟩ = false := ⟨(Below.frozen hb3 (p := ⟨_, 0, none⟩) lres).trans fres.1, (Below.frozen hb3 (p := ⟨_, 1, none⟩) lres).trans fres.2⟩
  replace kres := kres.keep hb3
  replace lres := kres.lt
  replace ores := kres
  unfold At at ores
  go_wp2_with fail
  refine bodyPost_ret (v := .tuple #[.agg #[.int .u8 0, .int .u64 0], .int .i64 2]) (by simp [results, Tryz.results89, go_sem, ores]) rfl ⟨rfl, ?_⟩
  exact ((bel_call (bel_call (bel_call (bel_alloc (bel_alloc (bel_alloc (bel_alloc (Below.refl _ _) _) _) _) _) hb1) hb2) hb3).setCell (by first | (simp; done) | (simp; omega) | omega) _).setCell (by first | (simp; done) | (simp; omega) | omega) _

theorem ite_a (cw cn w n v m : Nat) (HC : Hid (mayB cw cn = true)) (HA : Hid (mayB w n = true)) (HB : Hid (mayB v m = true)) (h1 : ((cw : Int) != 1) = false) (h2 : ((w : Int) != (v : Int)) = false) (h3 : ((cn : Int) == 1) = true) (W : World) :
    Calls Tryz.prog 89 #[.agg #[.int .u8 cw, .int .u64 cn], .agg #[.int .u8 w, .int .u64 n], .agg #[.int .u8 v, .int .u64 m]] W fun e W' => e = .returned (.tuple #[.agg #[.int .u8 w, .int .u64 n], .int .i64 0]) ∧ Below W.heap.size W W' := by
  go_enter Tryz.func89, Tryz.ntmps89
  go_wp2_with fail
  refine (may_yes HC.out _).mono ?_; rintro e w1 ⟨rfl, hb1⟩
  have kc : At w1 (W.heap.size) (.int .u8 cw) (.int .u64 cn) := by have h0 := (((((At.new _ _ _ _).alloc _).alloc _).alloc _)).keep hb1; simpa using h0
  have lc := kc.lt
  have oc := kc
  unfold At at oc
  have ka : At w1 (W.heap.size + 1) (.int .u8 w) (.int .u64 n) := by have h0 := ((((At.new _ _ _ _).alloc _).alloc _)).keep hb1; simpa using h0
  have la := ka.lt
  have oa := ka
  unfold At at oa
  have kb : At w1 (W.heap.size + 1 + 1) (.int .u8 v) (.int .u64 m) := by have h0 := (((At.new _ _ _ _).alloc _)).keep hb1; simpa using h0
  have lb := kb.lt
  have ob := kb
  unfold At at ob
  have kres : At w1 (W.heap.size + 1 + 1 + 1) (.int .u8 0) (.int .u64 0) := by have h0 := ((At.new _ _ _ _)).keep hb1; simpa using h0
  have lres := kres.lt
  have ores := kres
  unfold At at ores
  have fres : w1.frozen? ⟨W.heap.size + 1 + 1 + 1, 0, none⟩ = false ∧ w1.frozen? ⟨W.heap.size + 1 + 1 + 1, 1, none⟩ = false := by constructor <;> (rw [Below.frozen hb1 (by simp)]; simp [go_sem])
  go_wp2_with fail
  refine (may_yes HA.out _).mono ?_; rintro e w2 ⟨rfl, hb2⟩
  replace kc := kc.keep hb2
  replace lc := kc.lt
  replace oc := kc
  unfold At at oc
  replace ka := ka.keep hb2
  replace la := ka.lt
  replace oa := ka
  unfold At at oa
  replace kb := kb.keep hb2
  replace lb := kb.lt
  replace ob := kb
  unfold At at ob
  replace fres : w2.frozen? ⟨W.heap.size + 1 + 1 + 1, 0, none⟩ = false ∧ w2.frozen? ⟨W.heap.size + 1 + 1 + 1, 1, none⟩ = false := ⟨(Below.frozen hb2 (p := ⟨_, 0, none⟩) lres).trans fres.1, (Below.frozen hb2 (p := ⟨_, 1, none⟩) lres).trans fres.2⟩
  replace kres := kres.keep hb2
  replace lres := kres.lt
  replace ores := kres
  unfold At at ores
  go_wp2_with fail
  refine (may_yes HB.out _).mono ?_; rintro e w3 ⟨rfl, hb3⟩
  replace kc := kc.keep hb3
  replace lc := kc.lt
  replace oc := kc
  unfold At at oc
  replace ka := ka.keep hb3
  replace la := ka.lt
  replace oa := ka
  unfold At at oa
  replace kb := kb.keep hb3
  replace lb := kb.lt
  replace ob := kb
  unfold At at ob
  replace fres : w3.frozen? ⟨W.heap.size + 1 + 1 + 1, 0, none⟩ = false ∧ w3.frozen? ⟨W.heap.size + 1 + 1 + 1, 1, none⟩ = false := ⟨(Below.frozen hb3 (p := ⟨_, 0, none⟩) lres).trans fres.1, (Below.frozen hb3 (p := ⟨_, 1, none⟩) lres).trans fres.2⟩
  replace kres := kres.keep hb3
  replace lres := kres.lt
  replace ores := kres
  unfold At at ores
  go_wp2_with fail
  refine bodyPost_ret (v := .tuple #[.agg #[.int .u8 w, .int .u64 n], .int .i64 0]) (by simp [results, Tryz.results89, go_sem, ores]) rfl ⟨rfl, ?_⟩
  exact ((bel_call (bel_call (bel_call (bel_alloc (bel_alloc (bel_alloc (bel_alloc (Below.refl _ _) _) _) _) _) hb1) hb2) hb3).setCell (by first | (simp; done) | (simp; omega) | omega) _).setCell (by first | (simp; done) | (simp; omega) | omega) _

theorem ite_b (cw cn w n v m : Nat) (HC : Hid (mayB cw cn = true)) (HA : Hid (mayB w n = true)) (HB : Hid (mayB v m = true)) (h1 : ((cw : Int) != 1) = false) (h2 : ((w : Int) != (v : Int)) = false) (h3 : ((cn : Int) == 1) = false) (W : World) :
    Calls Tryz.prog 89 #[.agg #[.int .u8 cw, .int .u64 cn], .agg #[.int .u8 w, .int .u64 n], .agg #[.int .u8 v, .int .u64 m]] W fun e W' => e = .returned (.tuple #[.agg #[.int .u8 v, .int .u64 m], .int .i64 0]) ∧ Below W.heap.size W W' := by
  go_enter Tryz.func89, Tryz.ntmps89
  go_wp2_with fail
  refine (may_yes HC.out _).mono ?_; rintro e w1 ⟨rfl, hb1⟩
  have kc : At w1 (W.heap.size) (.int .u8 cw) (.int .u64 cn) := by have h0 := (((((At.new _ _ _ _).alloc _).alloc _).alloc _)).keep hb1; simpa using h0
  have lc := kc.lt
  have oc := kc
  unfold At at oc
  have ka : At w1 (W.heap.size + 1) (.int .u8 w) (.int .u64 n) := by have h0 := ((((At.new _ _ _ _).alloc _).alloc _)).keep hb1; simpa using h0
  have la := ka.lt
  have oa := ka
  unfold At at oa
  have kb : At w1 (W.heap.size + 1 + 1) (.int .u8 v) (.int .u64 m) := by have h0 := (((At.new _ _ _ _).alloc _)).keep hb1; simpa using h0
  have lb := kb.lt
  have ob := kb
  unfold At at ob
  have kres : At w1 (W.heap.size + 1 + 1 + 1) (.int .u8 0) (.int .u64 0) := by have h0 := ((At.new _ _ _ _)).keep hb1; simpa using h0
  have lres := kres.lt
  have ores := kres
  unfold At at ores
  have fres : w1.frozen? ⟨W.heap.size + 1 + 1 + 1, 0, none⟩ = false ∧ w1.frozen? ⟨W.heap.size + 1 + 1 + 1, 1, none⟩ = false := by constructor <;> (rw [Below.frozen hb1 (by simp)]; simp [go_sem])
  go_wp2_with fail
  refine (may_yes HA.out _).mono ?_; rintro e w2 ⟨rfl, hb2⟩
  replace kc := kc.keep hb2
  replace lc := kc.lt
  replace oc := kc
  unfold At at oc
  replace ka := ka.keep hb2
  replace la := ka.lt
  replace oa := ka
  unfold At at oa
  replace kb := kb.keep hb2
  replace lb := kb.lt
  replace ob := kb
  unfold At at ob
  replace fres : w2.frozen? ⟨W.heap.size + 1 + 1 + 1, 0, none⟩ = false ∧ w2.frozen? ⟨W.heap.size + 1 + 1 + 1, 1, none⟩ = false := ⟨(Below.frozen hb2 (p := ⟨_, 0, none⟩) lres).trans fres.1, (Below.frozen hb2 (p := ⟨_, 1, none⟩) lres).trans fres.2⟩
  replace kres := kres.keep hb2
  replace lres := kres.lt
  replace ores := kres
  unfold At at ores
  go_wp2_with fail
  refine (may_yes HB.out _).mono ?_; rintro e w3 ⟨rfl, hb3⟩
  replace kc := kc.keep hb3
  replace lc := kc.lt
  replace oc := kc
  unfold At at oc
  replace ka := ka.keep hb3
  replace la := ka.lt
  replace oa := ka
  unfold At at oa
  replace kb := kb.keep hb3
  replace lb := kb.lt
  replace ob := kb
  unfold At at ob
  replace fres : w3.frozen? ⟨W.heap.size + 1 + 1 + 1, 0, none⟩ = false ∧ w3.frozen? ⟨W.heap.size + 1 + 1 + 1, 1, none⟩ = false := ⟨(Below.frozen hb3 (p := ⟨_, 0, none⟩) lres).trans fres.1, (Below.frozen hb3 (p := ⟨_, 1, none⟩) lres).trans fres.2⟩
  replace kres := kres.keep hb3
  replace lres := kres.lt
  replace ores := kres
  unfold At at ores
  go_wp2_with fail
  refine bodyPost_ret (v := .tuple #[.agg #[.int .u8 v, .int .u64 m], .int .i64 0]) (by simp [results, Tryz.results89, go_sem, ores]) rfl ⟨rfl, ?_⟩
  exact ((bel_call (bel_call (bel_call (bel_alloc (bel_alloc (bel_alloc (bel_alloc (Below.refl _ _) _) _) _) _) hb1) hb2) hb3).setCell (by first | (simp; done) | (simp; omega) | omega) _).setCell (by first | (simp; done) | (simp; omega) | omega) _

end Bv
end Go.Proofs.YthelkbdiedfmfaaGreat
