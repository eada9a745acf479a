/-
What Extract, Extend and Ite of layer bv return where they refuse, and Ite whole.
own, vector of layer term: for every node, each as a fact on one call.
-/
import Derived.Test.YtigjbngedbbdbaaPt05
import Derived.Test.YtigjbngedbbdbaaPt04
namespace Go.Proofs.Ytigjbngedbbdbaa
open Go.RowKit
namespace Bv
set_option maxHeartbeats 400000
set_option maxRecDepth 100000

theorem extract_b1 (w n : Nat) (l r : Int) (HA : Hid (mayB w n = false)) (W : World) :
    Calls Try.prog 66 #[.agg #[.int .u8 w, .int .u64 n], .int .i64 l, .int .i64 r] W fun e W' => e = .returned (.tuple #[.agg #[.int .u8 0, .int .u64 0], .int .i64 2]) ∧ Below W.heap.size W W' := by
  go_enter Try.func66, Try.ntmps66
  go_wp2_with fail
  refine (may_no HA.out _).mono ?_; rintro e w1 ⟨rfl, hb1⟩
  have ka : At w1 (W.heap.size) (.int .u8 w) (.int .u64 n) := by have h0 := (((At.new _ _ _ _).alloc _)).keep hb1; simpa using h0
  have la := ka.lt
  have oa := ka
  unfold At at oa
  have kres : At w1 (W.heap.size + 1) (.int .u8 0) (.int .u64 0) := by have h0 := ((At.new _ _ _ _)).keep hb1; simpa using h0
  have lres := kres.lt
  have ores := kres
  unfold At at ores
  have fres : w1.frozen? ⟨W.heap.size + 1, 0, none⟩ = false ∧ w1.frozen? ⟨W.heap.size + 1, 1, none⟩ = false := by constructor <;> (rw [Below.frozen hb1 (by simp)]; simp [go_sem])
  go_wp2_with fail
  refine bodyPost_ret (v := .tuple #[.agg #[.int .u8 0, .int .u64 0], .int .i64 2]) (by simp [results, Try.results66, go_sem, ores]) rfl ⟨rfl, ?_⟩
  exact ((bel_call (bel_alloc (bel_alloc (Below.refl _ _) _) _) hb1).setCell (by first | (simp; done) | (simp; omega) | omega) _).setCell (by first | (simp; done) | (simp; omega) | omega) _

theorem extract_b2 (w n : Nat) (l r : Int) (HA : Hid (mayB w n = true)) (h : l < 0) (W : World) :
    Calls Try.prog 66 #[.agg #[.int .u8 w, .int .u64 n], .int .i64 l, .int .i64 r] W fun e W' => e = .returned (.tuple #[.agg #[.int .u8 0, .int .u64 0], .int .i64 2]) ∧ Below W.heap.size W W' := by
  go_enter Try.func66, Try.ntmps66
  go_wp2_with fail
  refine (may_yes HA.out _).mono ?_; rintro e w1 ⟨rfl, hb1⟩
  have ka : At w1 (W.heap.size) (.int .u8 w) (.int .u64 n) := by have h0 := (((At.new _ _ _ _).alloc _)).keep hb1; simpa using h0
  have la := ka.lt
  have oa := ka
  unfold At at oa
  have kres : At w1 (W.heap.size + 1) (.int .u8 0) (.int .u64 0) := by have h0 := ((At.new _ _ _ _)).keep hb1; simpa using h0
  have lres := kres.lt
  have ores := kres
  unfold At at ores
  have fres : w1.frozen? ⟨W.heap.size + 1, 0, none⟩ = false ∧ w1.frozen? ⟨W.heap.size + 1, 1, none⟩ = false := by constructor <;> (rw [Below.frozen hb1 (by simp)]; simp [go_sem])
  go_wp2_with fail
  refine bodyPost_ret (v := .tuple #[.agg #[.int .u8 0, .int .u64 0], .int .i64 2]) (by simp [results, Try.results66, go_sem, ores]) rfl ⟨rfl, ?_⟩
  exact ((bel_call (bel_alloc (bel_alloc (Below.refl _ _) _) _) hb1).setCell (by first | (simp; done) | (simp; omega) | omega) _).setCell (by first | (simp; done) | (simp; omega) | omega) _

theorem extract_b3 (w n : Nat) (l r : Int) (HA : Hid (mayB w n = true)) (h0 : 0 ≤ l) (h : r < 1) (W : World) :
    Calls Try.prog 66 #[.agg #[.int .u8 w, .int .u64 n], .int .i64 l, .int .i64 r] W fun e W' => e = .returned (.tuple #[.agg #[.int .u8 0, .int .u64 0], .int .i64 2]) ∧ Below W.heap.size W W' := by
  go_enter Try.func66, Try.ntmps66
  go_wp2_with fail
  refine (may_yes HA.out _).mono ?_; rintro e w1 ⟨rfl, hb1⟩
  have ka : At w1 (W.heap.size) (.int .u8 w) (.int .u64 n) := by have h0 := (((At.new _ _ _ _).alloc _)).keep hb1; simpa using h0
  have la := ka.lt
  have oa := ka
  unfold At at oa
  have kres : At w1 (W.heap.size + 1) (.int .u8 0) (.int .u64 0) := by have h0 := ((At.new _ _ _ _)).keep hb1; simpa using h0
  have lres := kres.lt
  have ores := kres
  unfold At at ores
  have fres : w1.frozen? ⟨W.heap.size + 1, 0, none⟩ = false ∧ w1.frozen? ⟨W.heap.size + 1, 1, none⟩ = false := by constructor <;> (rw [Below.frozen hb1 (by simp)]; simp [go_sem])
  go_wp2_with fail
  refine bodyPost_ret (v := .tuple #[.agg #[.int .u8 0, .int .u64 0], .int .i64 2]) (by simp [results, Try.results66, go_sem, ores]) rfl ⟨rfl, ?_⟩
  exact ((bel_call (bel_alloc (bel_alloc (Below.refl _ _) _) _) hb1).setCell (by first | (simp; done) | (simp; omega) | omega) _).setCell (by first | (simp; done) | (simp; omega) | omega) _

theorem extract_b4 (w n : Nat) (l r : Int) (HA : Hid (mayB w n = true)) (hw : w ≤ 64) (h0 : 0 ≤ l) (h1 : 1 ≤ r) (hr1 : r < 9223372036854775808) (h : (w : Int) - r < l) (W : World) :
    Calls Try.prog 66 #[.agg #[.int .u8 w, .int .u64 n], .int .i64 l, .int .i64 r] W fun e W' => e = .returned (.tuple #[.agg #[.int .u8 0, .int .u64 0], .int .i64 2]) ∧ Below W.heap.size W W' := by
  go_enter Try.func66, Try.ntmps66
  go_wp2_with fail
  refine (may_yes HA.out _).mono ?_; rintro e w1 ⟨rfl, hb1⟩
  have ka : At w1 (W.heap.size) (.int .u8 w) (.int .u64 n) := by have h0 := (((At.new _ _ _ _).alloc _)).keep hb1; simpa using h0
  have la := ka.lt
  have oa := ka
  unfold At at oa
  have kres : At w1 (W.heap.size + 1) (.int .u8 0) (.int .u64 0) := by have h0 := ((At.new _ _ _ _)).keep hb1; simpa using h0
  have lres := kres.lt
  have ores := kres
  unfold At at ores
  have fres : w1.frozen? ⟨W.heap.size + 1, 0, none⟩ = false ∧ w1.frozen? ⟨W.heap.size + 1, 1, none⟩ = false := by constructor <;> (rw [Below.frozen hb1 (by simp)]; simp [go_sem])
  go_wp2_with fail
  refine bodyPost_ret (v := .tuple #[.agg #[.int .u8 0, .int .u64 0], .int .i64 2]) (by simp [results, Try.results66, go_sem, ores]) rfl ⟨rfl, ?_⟩
  exact ((bel_call (bel_alloc (bel_alloc (Below.refl _ _) _) _) hb1).setCell (by first | (simp; done) | (simp; omega) | omega) _).setCell (by first | (simp; done) | (simp; omega) | omega) _

theorem extend_b1 (o w n : Nat) (r : Int) (HA : Hid (mayB w n = false)) (W : World) :
    Calls Try.prog 67 #[.int .u8 o, .agg #[.int .u8 w, .int .u64 n], .int .i64 r] W fun e W' => e = .returned (.tuple #[.agg #[.int .u8 0, .int .u64 0], .int .i64 2]) ∧ Below W.heap.size W W' := by
  go_enter Try.func67, Try.ntmps67
  go_wp2_with fail
  refine (may_no HA.out _).mono ?_; rintro e w1 ⟨rfl, hb1⟩
  have ka : At w1 (W.heap.size) (.int .u8 w) (.int .u64 n) := by have h0 := (((At.new _ _ _ _).alloc _)).keep hb1; simpa using h0
  have la := ka.lt
  have oa := ka
  unfold At at oa
  have kres : At w1 (W.heap.size + 1) (.int .u8 0) (.int .u64 0) := by have h0 := ((At.new _ _ _ _)).keep hb1; simpa using h0
  have lres := kres.lt
  have ores := kres
  unfold At at ores
  have fres : w1.frozen? ⟨W.heap.size + 1, 0, none⟩ = false ∧ w1.frozen? ⟨W.heap.size + 1, 1, none⟩ = false := by constructor <;> (rw [Below.frozen hb1 (by simp)]; simp [go_sem])
  go_wp2_with fail
  refine bodyPost_ret (v := .tuple #[.agg #[.int .u8 0, .int .u64 0], .int .i64 2]) (by simp [results, Try.results67, go_sem, ores]) rfl ⟨rfl, ?_⟩
  exact ((bel_call (bel_alloc (bel_alloc (Below.refl _ _) _) _) hb1).setCell (by first | (simp; done) | (simp; omega) | omega) _).setCell (by first | (simp; done) | (simp; omega) | omega) _

theorem extend_b2 (o w n : Nat) (r : Int) (HA : Hid (mayB w n = true)) (hw : w ≤ 64) (h : r < (w : Int)) (W : World) :
    Calls Try.prog 67 #[.int .u8 o, .agg #[.int .u8 w, .int .u64 n], .int .i64 r] W fun e W' => e = .returned (.tuple #[.agg #[.int .u8 0, .int .u64 0], .int .i64 2]) ∧ Below W.heap.size W W' := by
  go_enter Try.func67, Try.ntmps67
  go_wp2_with fail
  refine (may_yes HA.out _).mono ?_; rintro e w1 ⟨rfl, hb1⟩
  have ka : At w1 (W.heap.size) (.int .u8 w) (.int .u64 n) := by have h0 := (((At.new _ _ _ _).alloc _)).keep hb1; simpa using h0
  have la := ka.lt
  have oa := ka
  unfold At at oa
  have kres : At w1 (W.heap.size + 1) (.int .u8 0) (.int .u64 0) := by have h0 := ((At.new _ _ _ _)).keep hb1; simpa using h0
  have lres := kres.lt
  have ores := kres
  unfold At at ores
  have fres : w1.frozen? ⟨W.heap.size + 1, 0, none⟩ = false ∧ w1.frozen? ⟨W.heap.size + 1, 1, none⟩ = false := by constructor <;> (rw [Below.frozen hb1 (by simp)]; simp [go_sem])
  go_wp2_with fail
  refine bodyPost_ret (v := .tuple #[.agg #[.int .u8 0, .int .u64 0], .int .i64 2]) (by simp [results, Try.results67, go_sem, ores]) rfl ⟨rfl, ?_⟩
  exact ((bel_call (bel_alloc (bel_alloc (Below.refl _ _) _) _) hb1).setCell (by first | (simp; done) | (simp; omega) | omega) _).setCell (by first | (simp; done) | (simp; omega) | omega) _

theorem extend_b3 (o w n : Nat) (r : Int) (HA : Hid (mayB w n = true)) (hw : w ≤ 64) (h0 : (w : Int) ≤ r) (h : 64 < r) (W : World) :
    Calls Try.prog 67 #[.int .u8 o, .agg #[.int .u8 w, .int .u64 n], .int .i64 r] W fun e W' => e = .returned (.tuple #[.agg #[.int .u8 0, .int .u64 0], .int .i64 2]) ∧ Below W.heap.size W W' := by
  go_enter Try.func67, Try.ntmps67
  go_wp2_with fail
  refine (may_yes HA.out _).mono ?_; rintro e w1 ⟨rfl, hb1⟩
  have ka : At w1 (W.heap.size) (.int .u8 w) (.int .u64 n) := by have h0 := (((At.new _ _ _ _).alloc _)).keep hb1; simpa using h0
  have la := ka.lt
  have oa := ka
  unfold At at oa
  have kres : At w1 (W.heap.size + 1) (.int .u8 0) (.int .u64 0) := by have h0 := ((At.new _ _ _ _)).keep hb1; simpa using h0
  have lres := kres.lt
  have ores := kres
  unfold At at ores
  have fres : w1.frozen? ⟨W.heap.size + 1, 0, none⟩ = false ∧ w1.frozen? ⟨W.heap.size + 1, 1, none⟩ = false := by constructor <;> (rw [Below.frozen hb1 (by simp)]; simp [go_sem])
  go_wp2_with fail
  refine bodyPost_ret (v := .tuple #[.agg #[.int .u8 0, .int .u64 0], .int .i64 2]) (by simp [results, Try.results67, go_sem, ores]) rfl ⟨rfl, ?_⟩
  exact ((bel_call (bel_alloc (bel_alloc (Below.refl _ _) _) _) hb1).setCell (by first | (simp; done) | (simp; omega) | omega) _).setCell (by first | (simp; done) | (simp; omega) | omega) _

theorem extend_b4 (o w n : Nat) (r : Int) (HA : Hid (mayB w n = true)) (hw : w ≤ 64) (h0 : (w : Int) ≤ r) (h1 : r ≤ 64) (d3 : ((o : Int) == 23) = false) (d4 : ((o : Int) == 24) = false) (W : World) :
    Calls Try.prog 67 #[.int .u8 o, .agg #[.int .u8 w, .int .u64 n], .int .i64 r] W fun e W' => e = .returned (.tuple #[.agg #[.int .u8 0, .int .u64 0], .int .i64 2]) ∧ Below W.heap.size W W' := by
  go_enter Try.func67, Try.ntmps67
  go_wp2_with fail
  refine (may_yes HA.out _).mono ?_; rintro e w1 ⟨rfl, hb1⟩
  have ka : At w1 (W.heap.size) (.int .u8 w) (.int .u64 n) := by have h0 := (((At.new _ _ _ _).alloc _)).keep hb1; simpa using h0
  have la := ka.lt
  have oa := ka
  unfold At at oa
  have kres : At w1 (W.heap.size + 1) (.int .u8 0) (.int .u64 0) := by have h0 := ((At.new _ _ _ _)).keep hb1; simpa using h0
  have lres := kres.lt
  have ores := kres
  unfold At at ores
  have fres : w1.frozen? ⟨W.heap.size + 1, 0, none⟩ = false ∧ w1.frozen? ⟨W.heap.size + 1, 1, none⟩ = false := by constructor <;> (rw [Below.frozen hb1 (by simp)]; simp [go_sem])
  go_wp2_with fail
  refine bodyPost_ret (v := .tuple #[.agg #[.int .u8 0, .int .u64 0], .int .i64 2]) (by simp [results, Try.results67, go_sem, ores]) rfl ⟨rfl, ?_⟩
  exact ((bel_call (bel_alloc (bel_alloc (Below.refl _ _) _) _) hb1).setCell (by first | (simp; done) | (simp; omega) | omega) _).setCell (by first | (simp; done) | (simp; omega) | omega) _

theorem ite_b1 (cw cn w n v m : Nat) (HC : Hid (mayB cw cn = false)) (W : World) :
    Calls Try.prog 68 #[.agg #[.int .u8 cw, .int .u64 cn], .agg #[.int .u8 w, .int .u64 n], .agg #[.int .u8 v, .int .u64 m]] W fun e W' => e = .returned (.tuple #[.agg #[.int .u8 0, .int .u64 0], .int .i64 2]) ∧ Below W.heap.size W W' := by
  go_enter Try.func68, Try.ntmps68
  go_wp2_with fail
  refine (may_no HC.out _).mono ?_; rintro e w1 ⟨rfl, hb1⟩
  have kc : At w1 (W.heap.size) (.int .u8 cw) (.int .u64 cn) := by have h0 := (((((At.new _ _ _ _).alloc _).alloc _).alloc _)).keep hb1; simpa using h0
  have lc := kc.lt
  have oc := kc
  unfold At at oc
  have ka : At w1 (W.heap.size + 1) (.int .u8 w) (.int .u64 n) := by have h0 := ((((At.new _ _ _ _).alloc _).alloc _)).keep hb1; simpa using h0
  have la := ka.lt
  have oa := ka
  unfold At at oa
  have kb : At w1 (W.heap.size + 1 + 1) (.int .u8 v) (.int .u64 m) := by have h0 := (((At.new _ _ _ _).alloc _)).keep hb1; simpa using h0
  have lb := kb.lt
  have ob := kb
  unfold At at ob
  have kres : At w1 (W.heap.size + 1 + 1 + 1) (.int .u8 0) (.int .u64 0) := by have h0 := ((At.new _ _ _ _)).keep hb1; simpa using h0
  have lres := kres.lt
  have ores := kres
  unfold At at ores
  have fres : w1.frozen? ⟨W.heap.size + 1 + 1 + 1, 0, none⟩ = false ∧ w1.frozen? ⟨W.heap.size + 1 + 1 + 1, 1, none⟩ = false := by constructor <;> (rw [Below.frozen hb1 (by simp)]; simp [go_sem])
  go_wp2_with fail
  refine bodyPost_ret (v := .tuple #[.agg #[.int .u8 0, .int .u64 0], .int .i64 2]) (by simp [results, Try.results68, go_sem, ores]) rfl ⟨rfl, ?_⟩
  exact ((bel_call (bel_alloc (bel_alloc (bel_alloc (bel_alloc (Below.refl _ _) _) _) _) _) hb1).setCell (by first | (simp; done) | (simp; omega) | omega) _).setCell (by first | (simp; done) | (simp; omega) | omega) _

theorem ite_b2 (cw cn w n v m : Nat) (HC : Hid (mayB cw cn = true)) (HA : Hid (mayB w n = false)) (W : World) :
    Calls Try.prog 68 #[.agg #[.int .u8 cw, .int .u64 cn], .agg #[.int .u8 w, .int .u64 n], .agg #[.int .u8 v, .int .u64 m]] W fun e W' => e = .returned (.tuple #[.agg #[.int .u8 0, .int .u64 0], .int .i64 2]) ∧ Below W.heap.size W W' := by
  go_enter Try.func68, Try.ntmps68
  go_wp2_with fail
  refine (may_yes HC.out _).mono ?_; rintro e w1 ⟨rfl, hb1⟩
  have kc : At w1 (W.heap.size) (.int .u8 cw) (.int .u64 cn) := by have h0 := (((((At.new _ _ _ _).alloc _).alloc _).alloc _)).keep hb1; simpa using h0
  have lc := kc.lt
  have oc := kc
  unfold At at oc
  have ka : At w1 (W.heap.size + 1) (.int .u8 w) (.int .u64 n) := by have h0 := ((((At.new _ _ _ _).alloc _).alloc _)).keep hb1; simpa using h0
  have la := ka.lt
  have oa := ka
  unfold At at oa
  have kb : At w1 (W.heap.size + 1 + 1) (.int .u8 v) (.int .u64 m) := by have h0 := (((At.new _ _ _ _).alloc _)).keep hb1; simpa using h0
  have lb := kb.lt
  have ob := kb
  unfold At at ob
  have kres : At w1 (W.heap.size + 1 + 1 + 1) (.int .u8 0) (.int .u64 0) := by have h0 := ((At.new _ _ _ _)).keep hb1; simpa using h0
  have lres := kres.lt
  have ores := kres
  unfold At at ores
  have fres : w1.frozen? ⟨W.heap.size + 1 + 1 + 1, 0, none⟩ = false ∧ w1.frozen? ⟨W.heap.size + 1 + 1 + 1, 1, none⟩ = false := by constructor <;> (rw [Below.frozen hb1 (by simp)]; simp [go_sem])
  go_wp2_with fail
  refine (may_no HA.out _).mono ?_; rintro e w2 ⟨rfl, hb2⟩
  replace kc := kc.keep hb2
  replace lc := kc.lt
  replace oc := kc
  unfold At at oc
  replace ka := ka.keep hb2
  replace la := ka.lt
  replace oa := ka
  unfold At at oa
  replace kb := kb.keep hb2
  replace lb := kb.lt
  replace ob := kb
  unfold At at ob
  replace fres : w2.frozen? ⟨W.heap.size + 1 + 1 + 1, 0, none⟩ = false ∧ w2.frozen? ⟨W.heap.size + 1 + 1 + 1, 1, none⟩ = false := ⟨(Below.frozen hb2 (p := ⟨_, 0, none⟩) lres).trans fres.1, (Below.frozen hb2 (p := ⟨_, 1, none⟩) lres).trans fres.2⟩
  replace kres := kres.keep hb2
  replace lres := kres.lt
  replace ores := kres
  unfold At at ores
  go_wp2_with fail
  refine bodyPost_ret (v := .tuple #[.agg #[.int .u8 0, .int .u64 0], .int .i64 2]) (by simp [results, Try.results68, go_sem, ores]) rfl ⟨rfl, ?_⟩
  exact ((bel_call (bel_call (bel_alloc (bel_alloc (bel_alloc (bel_alloc (Below.refl _ _) _) _) _) _) hb1) hb2).setCell (by first | (simp; done) | (simp; omega) | omega) _).setCell (by first | (simp; done) | (simp; omega) | omega) _

theorem ite_b3 (cw cn w n v m : Nat) (HC : Hid (mayB cw cn = true)) (HA : Hid (mayB w n = true)) (HB : Hid (mayB v m = false)) (W : World) :
    Calls Try.prog 68 #[.agg #[.int .u8 cw, .int .u64 cn], .agg #[.int .u8 w, .int .u64 n], .agg #[.int .u8 v, .int .u64 m]] W fun e W' => e = .returned (.tuple #[.agg #[.int .u8 0, .int .u64 0], .int .i64 2]) ∧ Below W.heap.size W W' := by
  go_enter Try.func68, Try.ntmps68
  go_wp2_with fail
  refine (may_yes HC.out _).mono ?_; rintro e w1 ⟨rfl, hb1⟩
  have kc : At w1 (W.heap.size) (.int .u8 cw) (.int .u64 cn) := by have h0 := (((((At.new _ _ _ _).alloc _).alloc _).alloc _)).keep hb1; simpa using h0
  have lc := kc.lt
  have oc := kc
  unfold At at oc
  have ka : At w1 (W.heap.size + 1) (.int .u8 w) (.int .u64 n) := by have h0 := ((((At.new _ _ _ _).alloc _).alloc _)).keep hb1; simpa using h0
  have la := ka.lt
  have oa := ka
  unfold At at oa
  have kb : At w1 (W.heap.size + 1 + 1) (.int .u8 v) (.int .u64 m) := by have h0 := (((At.new _ _ _ _).alloc _)).keep hb1; simpa using h0
  have lb := kb.lt
  have ob := kb
  unfold At at ob
  have kres : At w1 (W.heap.size + 1 + 1 + 1) (.int .u8 0) (.int .u64 0) := by have h0 := ((At.new _ _ _ _)).keep hb1; simpa using h0
  have lres := kres.lt
  have ores := kres
  unfold At at ores
  have fres : w1.frozen? ⟨W.heap.size + 1 + 1 + 1, 0, none⟩ = false ∧ w1.frozen? ⟨W.heap.size + 1 + 1 + 1, 1, none⟩ = false := by constructor <;> (rw [Below.frozen hb1 (by simp)]; simp [go_sem])
  go_wp2_with fail
  refine (may_yes HA.out _).mono ?_; rintro e w2 ⟨rfl, hb2⟩
  replace kc := kc.keep hb2
  replace lc := kc.lt
  replace oc := kc
  unfold At at oc
  replace ka := ka.keep hb2
  replace la := ka.lt
  replace oa := ka
  unfold At at oa
  replace kb := kb.keep hb2
  replace lb := kb.lt
  replace ob := kb
  unfold At at ob
  replace fres : w2.frozen? ⟨W.heap.size + 1 + 1 + 1, 0, none⟩ = false ∧ w2.frozen? ⟨W.heap.size + 1 + 1 + 1, 1, none⟩ = false := ⟨(Below.frozen hb2 (p := ⟨_, 0, none⟩) lres).trans fres.1, (Below.frozen hb2 (p := ⟨_, 1, none⟩) lres).trans fres.2⟩
  replace kres := kres.keep hb2
  replace lres := kres.lt
  replace ores := kres
  unfold At at ores
  go_wp2_with fail
  refine (may_no HB.out _).mono ?_; rintro e w3 ⟨rfl, hb3⟩
  replace kc := kc.keep hb3
  replace lc := kc.lt
  replace oc := kc
  unfold At at oc
  replace ka := ka.keep hb3
  replace la := ka.lt
  replace oa := ka
  unfold At at oa
  replace kb := kb.keep hb3
  replace lb := kb.lt
  replace ob := kb
  unfold At at ob
  replace fres : w3.frozen? ⟨W.heap.size + 1 + 1 + 1, 0, none⟩ = false ∧ w3.frozen? ⟨W.heap.size + 1 + 1 + 1, 1, none⟩ = false := ⟨(Below.frozen hb3 (p := ⟨_, 0, none⟩) lres).trans fres.1, (Below.frozen hb3 (p := ⟨_, 1, none⟩) lres).trans fres.2⟩
  replace kres := kres.keep hb3
  replace lres := kres.lt
  replace ores := kres
  unfold At at ores
  go_wp2_with fail
  refine bodyPost_ret (v := .tuple #[.agg #[.int .u8 0, .int .u64 0], .int .i64 2]) (by simp [results, Try.results68, go_sem, ores]) rfl ⟨rfl, ?_⟩
  exact ((bel_call (bel_call (bel_call (bel_alloc (bel_alloc (bel_alloc (bel_alloc (Below.refl _ _) _) _) _) _) hb1) hb2) hb3).setCell (by first | (simp; done) | (simp; omega) | omega) _).setCell (by first | (simp; done) | (simp; omega) | omega) _

theorem ite_b4 (cw cn w n v m : Nat) (HC : Hid (mayB cw cn = true)) (HA : Hid (mayB w n = true)) (HB : Hid (mayB v m = true)) (h1 : ((cw : Int) != 1) = true) (W : World) :
    Calls Try.prog 68 #[.agg #[.int .u8 cw, .int .u64 cn], .agg #[.int .u8 w, .int .u64 n], .agg #[.int .u8 v, .int .u64 m]] W fun e W' => e = .returned (.tuple #[.agg #[.int .u8 0, .int .u64 0], .int .i64 2]) ∧ Below W.heap.size W W' := by
  go_enter Try.func68, Try.ntmps68
  go_wp2_with fail
  refine (may_yes HC.out _).mono ?_; rintro e w1 ⟨rfl, hb1⟩
  have kc : At w1 (W.heap.size) (.int .u8 cw) (.int .u64 cn) := by have h0 := (((((At.new _ _ _ _).alloc _).alloc _).alloc _)).keep hb1; simpa using h0
  have lc := kc.lt
  have oc := kc
  unfold At at oc
  have ka : At w1 (W.heap.size + 1) (.int .u8 w) (.int .u64 n) := by have h0 := ((((At.new _ _ _ _).alloc _).alloc _)).keep hb1; simpa using h0
  have la := ka.lt
  have oa := ka
  unfold At at oa
  have kb : At w1 (W.heap.size + 1 + 1) (.int .u8 v) (.int .u64 m) := by have h0 := (((At.new _ _ _ _).alloc _)).keep hb1; simpa using h0
  have lb := kb.lt
  have ob := kb
  unfold At at ob
  have kres : At w1 (W.heap.size + 1 + 1 + 1) (.int .u8 0) (.int .u64 0) := by have h0 := ((At.new _ _ _ _)).keep hb1; simpa using h0
  have lres := kres.lt
  have ores := kres
  unfold At at ores
  have fres : w1.frozen? ⟨W.heap.size + 1 + 1 + 1, 0, none⟩ = false ∧ w1.frozen? ⟨W.heap.size + 1 + 1 + 1, 1, none⟩ = false := by constructor <;> (rw [Below.frozen hb1 (by simp)]; simp [go_sem])
  go_wp2_with fail
  refine (may_yes HA.out _).mono ?_; rintro e w2 ⟨rfl, hb2⟩
  replace kc := kc.keep hb2
  replace lc := kc.lt
  replace oc := kc
  unfold At at oc
  replace ka := ka.keep hb2
  replace la := ka.lt
  replace oa := ka
  unfold At at oa
  replace kb := kb.keep hb2
  replace lb := kb.lt
  replace ob := kb
  unfold At at ob
  replace fres : w2.frozen? ⟨W.heap.size + 1 + 1 + 1, 0, none⟩ = false ∧ w2.frozen? ⟨W.heap.size + 1 + 1 + 1, 1, none⟩ = false := ⟨(Below.frozen hb2 (p := ⟨_, 0, none⟩) lres).trans fres.1, (Below.frozen hb2 (p := ⟨_, 1, none⟩) lres).trans fres.2⟩
  replace kres := kres.keep hb2
  replace lres := kres.lt
  replace ores := kres
  unfold At at ores
  go_wp2_with fail
  refine (may_yes HB.out _).mono ?_; rintro e w3 ⟨rfl, hb3⟩
  replace kc := kc.keep hb3
  replace lc := kc.lt
  replace oc := kc
  unfold At at oc
  replace ka := ka.keep hb3
  replace la := ka.lt
  replace oa := ka
  unfold At at oa
  replace kb := kb.keep hb3
  replace lb := kb.lt
  replace ob := kb
  unfold At at ob
  replace fres : w3.frozen? ⟨W.heap.size + 1 + 1 + 1, 0, none⟩ = false ∧ w3.frozen? ⟨W.heap.size + 1 + 1 + 1, 1, none⟩ = false := ⟨(Below.frozen hb3 (p := ⟨_, 0, none⟩) lres).trans fres.1, (Below.frozen hb3 (p := ⟨_, 1, none⟩) lres).trans fres.2⟩
  replace kres := kres.keep hb3
  replace lres := kres.lt
  replace ores := kres
  unfold At at ores
  go_wp2_with fail
  refine bodyPost_ret (v := .tuple #[.agg #[.int .u8 0, .int .u64 0], .int .i64 2]) (by simp [results, Try.results68, go_sem, ores]) rfl ⟨rfl, ?_⟩
  exact ((bel_call (bel_call (bel_call (bel_alloc (bel_alloc (bel_alloc (bel_alloc (Below.refl _ _) _) _) _) _) hb1) hb2) hb3).setCell (by first | (simp; done) | (simp; omega) | omega) _).setCell (by first | (simp; done) | (simp; omega) | omega) _

theorem ite_b5 (cw cn w n v m : Nat) (HC : Hid (mayB cw cn = true)) (HA : Hid (mayB w n = true)) (HB : Hid (mayB v m = true)) (h1 : ((cw : Int) != 1) = false) (h2 : ((w : Int) != (v : Int)) = true) (W : World) :
    Calls Try.prog 68 #[.agg #[.int .u8 cw, .int .u64 cn], .agg #[.int .u8 w, .int .u64 n], .agg #[.int .u8 v, .int .u64 m]] W fun e W' => e = .returned (.tuple #[.agg #[.int .u8 0, .int .u64 0], .int .i64 2]) ∧ Below W.heap.size W W' := by
  go_enter Try.func68, Try.ntmps68
  go_wp2_with fail
  refine (may_yes HC.out _).mono ?_; rintro e w1 ⟨rfl, hb1⟩
  have kc : At w1 (W.heap.size) (.int .u8 cw) (.int .u64 cn) := by have h0 := (((((At.new _ _ _ _).alloc _).alloc _).alloc _)).keep hb1; simpa using h0
  have lc := kc.lt
  have oc := kc
  unfold At at oc
  have ka : At w1 (W.heap.size + 1) (.int .u8 w) (.int .u64 n) := by have h0 := ((((At.new _ _ _ _).alloc _).alloc _)).keep hb1; simpa using h0
  have la := ka.lt
  have oa := ka
  unfold At at oa
  have kb : At w1 (W.heap.size + 1 + 1) (.int .u8 v) (.int .u64 m) := by have h0 := (((At.new _ _ _ _).alloc _)).keep hb1; simpa using h0
  have lb := kb.lt
  have ob := kb
  unfold At at ob
  have kres : At w1 (W.heap.size + 1 + 1 + 1) (.int .u8 0) (.int .u64 0) := by have h0 := ((At.new _ _ _ _)).keep hb1; simpa using h0
  have lres := kres.lt
  have ores := kres
  unfold At at ores
  have fres : w1.frozen? ⟨W.heap.size + 1 + 1 + 1, 0, none⟩ = false ∧ w1.frozen? ⟨W.heap.size + 1 + 1 + 1, 1, none⟩ = false := by constructor <;> (rw [Below.frozen hb1 (by simp)]; simp [go_sem])
  go_wp2_with fail
  refine (may_yes HA.out _).mono ?_; rintro e w2 ⟨rfl, hb2⟩
  replace kc := kc.keep hb2
  replace lc := kc.lt
  replace oc := kc
  unfold At at oc
  replace ka := ka.keep hb2
  replace la := ka.lt
  replace oa := ka
  unfold At at oa
  replace kb := kb.keep hb2
  replace lb := kb.lt
  replace ob := kb
  unfold At at ob
  replace fres : w2.frozen? ⟨W.heap.size + 1 + 1 + 1, 0, none⟩ = false ∧ w2.frozen? ⟨W.heap.size + 1 + 1 + 1, 1, none⟩ = false := ⟨(Below.frozen hb2 (p := ⟨_, 0, none⟩) lres).trans fres.1, (Below.frozen hb2 (p := ⟨_, 1, none⟩) lres).trans fres.2⟩
  replace kres := kres.keep hb2
  replace lres := kres.lt
  replace ores := kres
  unfold At at ores
  go_wp2_with fail
  refine (may_yes HB.out _).mono ?_; rintro e w3 ⟨rfl, hb3⟩
  replace kc := kc.keep hb3
  replace lc := kc.lt
  replace oc := kc
  unfold At at oc
  replace ka := ka.keep hb3
  replace la := ka.lt
  replace oa := ka
  unfold At at oa
  replace kb := kb.keep hb3
  replace lb := kb.lt
  replace ob := kb
  unfold At at ob
  replace fres : w3.frozen? ⟨W.heap.size + 1 + 1 + 1, 0, none⟩ = false ∧ w3.frozen? ⟨W.heap.size + 1 + 1 + 1, 1, none⟩ = false := ⟨(Below.frozen hb3 (p := ⟨_, 0, none⟩) lres).trans fres.1, (Below.frozen hb3 (p := ⟨_, 1, none⟩) lres).trans fres.2⟩
  replace kres := kres.keep hb3
  replace lres := kres.lt
  replace ores := kres
  unfold At at ores
  go_wp2_with fail
  refine bodyPost_ret (v := .tuple #[.agg #[.int .u8 0, .int .u64 0], .int .i64 2]) (by simp [results, Try.results68, go_sem, ores]) rfl ⟨rfl, ?_⟩
  exact ((bel_call (bel_call (bel_call (bel_alloc (bel_alloc (bel_alloc (bel_alloc (Below.refl _ _) _) _) _) _) hb1) hb2) hb3).setCell (by first | (simp; done) | (simp; omega) | omega) _).setCell (by first | (simp; done) | (simp; omega) | omega) _

theorem ite_a (cw cn w n v m : Nat) (HC : Hid (mayB cw cn = true)) (HA : Hid (mayB w n = true)) (HB : Hid (mayB v m = true)) (h1 : ((cw : Int) != 1) = false) (h2 : ((w : Int) != (v : Int)) = false) (h3 : ((cn : Int) == 1) = true) (W : World) :
    Calls Try.prog 68 #[.agg #[.int .u8 cw, .int .u64 cn], .agg #[.int .u8 w, .int .u64 n], .agg #[.int .u8 v, .int .u64 m]] W fun e W' => e = .returned (.tuple #[.agg #[.int .u8 w, .int .u64 n], .int .i64 0]) ∧ Below W.heap.size W W' := by
  go_enter Try.func68, Try.ntmps68
  go_wp2_with fail
  refine (may_yes HC.out _).mono ?_; rintro e w1 ⟨rfl, hb1⟩
  have kc : At w1 (W.heap.size) (.int .u8 cw) (.int .u64 cn) := by have h0 := (((((At.new _ _ _ _).alloc _).alloc _).alloc _)).keep hb1; simpa using h0
  have lc := kc.lt
  have oc := kc
  unfold At at oc
  have ka : At w1 (W.heap.size + 1) (.int .u8 w) (.int .u64 n) := by have h0 := ((((At.new _ _ _ _).alloc _).alloc _)).keep hb1; simpa using h0
  have la := ka.lt
  have oa := ka
  unfold At at oa
  have kb : At w1 (W.heap.size + 1 + 1) (.int .u8 v) (.int .u64 m) := by have h0 := (((At.new _ _ _ _).alloc _)).keep hb1; simpa using h0
  have lb := kb.lt
  have ob := kb
  unfold At at ob
  have kres : At w1 (W.heap.size + 1 + 1 + 1) (.int .u8 0) (.int .u64 0) := by have h0 := ((At.new _ _ _ _)).keep hb1; simpa using h0
  have lres := kres.lt
  have ores := kres
  unfold At at ores
  have fres : w1.frozen? ⟨W.heap.size + 1 + 1 + 1, 0, none⟩ = false ∧ w1.frozen? ⟨W.heap.size + 1 + 1 + 1, 1, none⟩ = false := by constructor <;> (rw [Below.frozen hb1 (by simp)]; simp [go_sem])
  go_wp2_with fail
  refine (may_yes HA.out _).mono ?_; rintro e w2 ⟨rfl, hb2⟩
  replace kc := kc.keep hb2
  replace lc := kc.lt
  replace oc := kc
  unfold At at oc
  replace ka := ka.keep hb2
  replace la := ka.lt
  replace oa := ka
  unfold At at oa
  replace kb := kb.keep hb2
  replace lb := kb.lt
  replace ob := kb
  unfold At at ob
  replace fres : w2.frozen? ⟨W.heap.size + 1 + 1 + 1, 0, none⟩ = false ∧ w2.frozen? ⟨W.heap.size + 1 + 1 + 1, 1, none⟩ = false := ⟨(Below.frozen hb2 (p := ⟨_, 0, none⟩) lres).trans fres.1, (Below.frozen hb2 (p := ⟨_, 1, none⟩) lres).trans fres.2⟩
  replace kres := kres.keep hb2
  replace lres := kres.lt
  replace ores := kres
  unfold At at ores
  go_wp2_with fail
  refine (may_yes HB.out _).mono ?_; rintro e w3 ⟨rfl, hb3⟩
  replace kc := kc.keep hb3
  replace lc := kc.lt
  replace oc := kc
  unfold At at oc
  replace ka := ka.keep hb3
  replace la := ka.lt
  replace oa := ka
  unfold At at oa
  replace kb := kb.keep hb3
  replace lb := kb.lt
  replace ob := kb
  unfold At at ob
  replace fres : w3.frozen? ⟨W.heap.size + 1 + 1 + 1, 0, none⟩ = false ∧ w3.frozen? ⟨W.heap.size + 1 + 1 + 1, 1, none⟩ = false := ⟨(Below.frozen hb3 (p := ⟨_, 0, none⟩) lres).trans fres.1, (Below.frozen hb3 (p := ⟨_, 1, none⟩) lres).trans fres.2⟩
  replace kres := kres.keep hb3
  replace lres := kres.lt
  replace ores := kres
  unfold At at ores
  go_wp2_with fail
  refine bodyPost_ret (v := .tuple #[.agg #[.int .u8 w, .int .u64 n], .int .i64 0]) (by simp [results, Try.results68, go_sem, ores]) rfl ⟨rfl, ?_⟩
  exact ((bel_call (bel_call (bel_call (bel_alloc (bel_alloc (bel_alloc (bel_alloc (Below.refl _ _) _) _) _) _) hb1) hb2) hb3).setCell (by first | (simp; done) | (simp; omega) | omega) _).setCell (by first | (simp; done) | (simp; omega) | omega) _

theorem ite_b (cw cn w n v m : Nat) (HC : Hid (mayB cw cn = true)) (HA : Hid (mayB w n = true)) (HB : Hid (mayB v m = true)) (h1 : ((cw : Int) != 1) = false) (h2 : ((w : Int) != (v : Int)) = false) (h3 : ((cn : Int) == 1) = false) (W : World) :
    Calls Try.prog 68 #[.agg #[.int .u8 cw, .int .u64 cn], .agg #[.int .u8 w, .int .u64 n], .agg #[.int .u8 v, .int .u64 m]] W fun e W' => e = .returned (.tuple #[.agg #[.int .u8 v, .int .u64 m], .int .i64 0]) ∧ Below W.heap.size W W' := by
  go_enter Try.func68, Try.ntmps68
  go_wp2_with fail
  refine (may_yes HC.out _).mono ?_; rintro e w1 ⟨rfl, hb1⟩
  have kc : At w1 (W.heap.size) (.int .u8 cw) (.int .u64 cn) := by have h0 := (((((At.new _ _ _ _).alloc _).alloc _).alloc _)).keep hb1; simpa using h0
  have lc := kc.lt
  have oc := kc
  unfold At at oc
  have ka : At w1 (W.heap.size + 1) (.int .u8 w) (.int .u64 n) := by have h0 := ((((At.new _ _ _ _).alloc _).alloc _)).keep hb1; simpa using h0
  have la := ka.lt
  have oa := ka
  unfold At at oa
  have kb : At w1 (W.heap.size + 1 + 1) (.int .u8 v) (.int .u64 m) := by have h0 := (((At.new _ _ _ _).alloc _)).keep hb1; simpa using h0
  have lb := kb.lt
  have ob := kb
  unfold At at ob
  have kres : At w1 (W.heap.size + 1 + 1 + 1) (.int .u8 0) (.int .u64 0) := by have h0 := ((At.new _ _ _ _)).keep hb1; simpa using h0
  have lres := kres.lt
  have ores := kres
  unfold At at ores
  have fres : w1.frozen? ⟨W.heap.size + 1 + 1 + 1, 0, none⟩ = false ∧ w1.frozen? ⟨W.heap.size + 1 + 1 + 1, 1, none⟩ = false := by constructor <;> (rw [Below.frozen hb1 (by simp)]; simp [go_sem])
  go_wp2_with fail
  refine (may_yes HA.out _).mono ?_; rintro e w2 ⟨rfl, hb2⟩
  replace kc := kc.keep hb2
  replace lc := kc.lt
  replace oc := kc
  unfold At at oc
  replace ka := ka.keep hb2
  replace la := ka.lt
  replace oa := ka
  unfold At at oa
  replace kb := kb.keep hb2
  replace lb := kb.lt
  replace ob := kb
  unfold At at ob
  replace fres : w2.frozen? ⟨W.heap.size + 1 + 1 + 1, 0, none⟩ = false ∧ w2.frozen? ⟨W.heap.size + 1 + 1 + 1, 1, none⟩ = false := ⟨(Below.frozen hb2 (p := ⟨_, 0, none⟩) lres).trans fres.1, (Below.frozen hb2 (p := ⟨_, 1, none⟩) lres).trans fres.2⟩
  replace kres := kres.keep hb2
  replace lres := kres.lt
  replace ores := kres
  unfold At at ores
  go_wp2_with fail
  refine (may_yes HB.out _).mono ?_; rintro e w3 ⟨rfl, hb3⟩
  replace kc := kc.keep hb3
  replace lc := kc.lt
  replace oc := kc
  unfold At at oc
  replace ka := ka.keep hb3
  replace la := ka.lt
  replace oa := ka
  unfold At at oa
  replace kb := kb.keep hb3
  replace lb := kb.lt
  replace ob := kb
  unfold At at ob
  replace fres : w3.frozen? ⟨W.heap.size + 1 + 1 + 1, 0, none⟩ = false ∧ w3.frozen? ⟨W.heap.size + 1 + 1 + 1, 1, none⟩ = false := ⟨(Below.frozen hb3 (p := ⟨_, 0, none⟩) lres).trans fres.1, (Below.frozen hb3 (p := ⟨_, 1, none⟩) lres).trans fres.2⟩
  replace kres := kres.keep hb3
  replace lres := kres.lt
  replace ores := kres
  unfold At at ores
  go_wp2_with fail
  refine bodyPost_ret (v := .tuple #[.agg #[.int .u8 v, .int .u64 m], .int .i64 0]) (by simp [results, Try.results68, go_sem, ores]) rfl ⟨rfl, ?_⟩
  exact ((bel_call (bel_call (bel_call (bel_alloc (bel_alloc (bel_alloc (bel_alloc (Below.refl _ _) _) _) _) _) hb1) hb2) hb3).setCell (by first | (simp; done) | (simp; omega) | omega) _).setCell (by first | (simp; done) | (simp; omega) | omega) _

end Bv
end Go.Proofs.Ytigjbngedbbdbaa

namespace Go.Proofs.Ytigjbngedbbdbaa
open Go.RowKit Bv
namespace Tm
set_option maxHeartbeats 400000
set_option maxRecDepth 100000

theorem kids_is {o k : Nat} (h : kc o = k) (W : World) : Calls Try.prog 49 #[.int .u8 o] W fun e W' => e = .returned (.int .i64 ((k : Nat) : Int)) ∧ W = W' := by
  have := kids_any o W
  rw [h] at this
  exact this

theorem own_any (x : Nd) (W : World) : Calls Try.prog 48 #[x.val] W fun e W' => e = .returned (own x).val ∧ Below W.heap.size W W' := by
  obtain ⟨o, w, k0, k1, k2, n, l⟩ := x
  by_cases h1 : o = 1
  · subst h1
    have h := own_v1 w n l k0 k1 k2 (fun W => kids_is (by decide) W) W
    exact h
  by_cases h2 : o = 2
  · subst h2
    have h := own_v2 w n l k0 k1 k2 (fun W => kids_is (by decide) W) W
    exact h
  by_cases h22 : o = 22
  · subst h22
    have h := own_x22 w n l k0 k1 k2 (fun W => kids_is (by decide) W) W
    exact h
  have d1 : ((o : Int) == 1) = false := by simp; omega
  have d2 : ((o : Int) == 2) = false := by simp; omega
  have d22 : ((o : Int) == 22) = false := by simp; omega
  have hk := kc_le o
  have e : (own ⟨o, w, k0, k1, k2, n, l⟩) = ⟨o, w, if 1 ≤ kc o then k0 else 0, if 2 ≤ kc o then k1 else 0, if 3 ≤ kc o then k2 else 0, 0, 0⟩ := by
    simp [own, h1, h2, h22]
  rw [e]
  rcases (by omega : kc o = 0 ∨ kc o = 1 ∨ kc o = 2 ∨ kc o = 3) with h | h | h | h
  · have r := own_k0 o w n l k0 k1 k2 d1 d2 d22 (fun W => kids_is h W) W
    simpa [h, Nd.val] using r
  · have r := own_k1 o w n l k0 k1 k2 d1 d2 d22 (fun W => kids_is h W) W
    simpa [h, Nd.val] using r
  · have r := own_k2 o w n l k0 k1 k2 d1 d2 d22 (fun W => kids_is h W) W
    simpa [h, Nd.val] using r
  · have r := own_k3 o w n l k0 k1 k2 d1 d2 d22 (fun W => kids_is h W) W
    simpa [h, Nd.val] using r

theorem own_ok {x : Nd} (hx : x.Ok) : (own x).Ok := by
  have z : I64 0 := by unfold I64; omega
  refine ⟨hx.o, hx.w, ?_, ?_, ?_, ?_, ?_⟩
  · show I64 (if _ then _ else _); split; exact hx.k0; exact z
  · show I64 (if _ then _ else _); split; exact hx.k1; exact z
  · show I64 (if _ then _ else _); split; exact hx.k2; exact z
  · show (if _ then _ else _) < _; split; exact hx.n; omega
  · show (if _ then _ else _) ≤ _; split; exact hx.l; omega

/-! ### what bv makes of vectors that are 0 -/
theorem mayB0 (w : Nat) : mayB w 0 = decide (1 ≤ w ∧ w ≤ 64) := by
  unfold mayB
  simp [pow_pos']
theorem mayB0_t {w : Nat} (h1 : 1 ≤ w) (h2 : w ≤ 64) : mayB w 0 = true := by rw [mayB0]; simp [h1, h2]
theorem mayB0_f {w : Nat} (h : ¬ (1 ≤ w ∧ w ≤ 64)) : mayB w 0 = false := by rw [mayB0]; simp only [h, decide_false]

/-- What one of bv's functions answers: a vector of r bits, or ErrArg where r is 0. -/
def Tells (f : FuncId) (args : Array Value) (r : Nat) : Prop :=
  ∃ num : Nat, ∀ W : World, Calls Try.prog f args W fun e W' => e = .returned (.tuple #[.agg #[.int .u8 ((r : Nat) : Int), .int .u64 ((num : Nat) : Int)], .int .i64 (if r = 0 then 2 else 0)]) ∧ Below W.heap.size W W'

theorem tells_ok {f : FuncId} {args : Array Value} {r num : Nat} (h : ∀ W : World, Calls Try.prog f args W fun e W' => e = .returned (.tuple #[.agg #[.int .u8 ((r : Nat) : Int), .int .u64 ((num : Nat) : Int)], .int .i64 0]) ∧ Below W.heap.size W W') (hr : ¬ r = 0) : Tells f args r := by
  refine ⟨num, fun W => ?_⟩
  rw [if_neg hr]
  exact h W
theorem tells_bad {f : FuncId} {args : Array Value} {r : Nat} (h : ∀ W : World, Calls Try.prog f args W fun e W' => e = .returned (.tuple #[.agg #[.int .u8 0, .int .u64 0], .int .i64 2]) ∧ Below W.heap.size W W') (hr : r = 0) : Tells f args r := by
  subst hr
  exact ⟨0, fun W => h W⟩

theorem tells_unary (o w l a b c : Nat) (ho : o = 3 ∨ o = 4) : Tells 65 #[.int .u8 o, .agg #[.int .u8 ((a : Nat) : Int), .int .u64 0]] (vecW o w l a b c) := by
  unfold vecW
  rw [if_pos ho]
  by_cases h : 1 ≤ a ∧ a ≤ 64
  · rw [if_pos h]
    exact tells_ok (fun W => unary_ok o a 0 ho (mayB0_t h.1 h.2) W) (by omega)
  · rw [if_neg h]
    exact tells_bad (fun W => unary_bad o a 0 (.inl (mayB0_f h)) W) rfl

theorem tells_extract (w l a b c : Nat) (hw : w ≤ 255) : Tells 66 #[.agg #[.int .u8 ((a : Nat) : Int), .int .u64 0], .int .i64 ((l : Nat) : Int), .int .i64 ((w : Nat) : Int)] (vecW 22 w l a b c) := by
  unfold vecW
  rw [if_neg (by omega), if_pos rfl]
  by_cases h : 1 ≤ a ∧ a ≤ 64
  · by_cases hr : 1 ≤ w ∧ l + w ≤ a
    · rw [if_pos ⟨h.1, h.2, hr.1, hr.2⟩]
      exact tells_ok (fun W => extract_ok a 0 l w (mayB0_t h.1 h.2) hr.1 hr.2 W) (by omega)
    · rw [if_neg (by omega)]
      refine tells_bad (fun W => ?_) rfl
      by_cases h1 : 1 ≤ w
      · exact extract_b4 a 0 l w (mayB0_t h.1 h.2) h.2 (by omega) (by omega) (by omega) (by omega) W
      · exact extract_b3 a 0 l w (mayB0_t h.1 h.2) (by omega) (by omega) W
  · rw [if_neg (by omega)]
    exact tells_bad (fun W => extract_b1 a 0 l w (mayB0_f h) W) rfl

theorem tells_extend (o w l a b c : Nat) (ho : o = 23 ∨ o = 24) : Tells 67 #[.int .u8 o, .agg #[.int .u8 ((a : Nat) : Int), .int .u64 0], .int .i64 ((w : Nat) : Int)] (vecW o w l a b c) := by
  unfold vecW
  rw [if_neg (by omega), if_neg (by omega), if_pos ho]
  by_cases h : 1 ≤ a ∧ a ≤ 64
  · by_cases hr : a ≤ w
    · by_cases hq : w ≤ 64
      · rw [if_pos ⟨h.1, hr, hq⟩]
        exact tells_ok (fun W => extend_ok o a 0 w ho (mayB0_t h.1 h.2) hr hq W) (by omega)
      · rw [if_neg (by omega)]
        exact tells_bad (fun W => extend_b3 o a 0 w (mayB0_t h.1 h.2) h.2 (by omega) (by omega) W) rfl
    · rw [if_neg (by omega)]
      exact tells_bad (fun W => extend_b2 o a 0 w (mayB0_t h.1 h.2) h.2 (by omega) W) rfl
  · rw [if_neg (by omega)]
    exact tells_bad (fun W => extend_b1 o a 0 w (mayB0_f h) W) rfl

theorem tells_ite (w l a b c : Nat) : Tells 68 #[.agg #[.int .u8 ((a : Nat) : Int), .int .u64 0], .agg #[.int .u8 ((b : Nat) : Int), .int .u64 0], .agg #[.int .u8 ((c : Nat) : Int), .int .u64 0]] (vecW 25 w l a b c) := by
  unfold vecW
  rw [if_neg (by omega), if_neg (by omega), if_neg (by omega), if_pos rfl]
  by_cases ha : 1 ≤ a ∧ a ≤ 64
  · by_cases hb : 1 ≤ b ∧ b ≤ 64
    · by_cases hc : 1 ≤ c ∧ c ≤ 64
      · by_cases h1 : a = 1
        · subst h1
          by_cases h2 : b = c
          · subst h2
            rw [if_pos ⟨rfl, rfl, hb.1, hb.2⟩]
            exact tells_ok (fun W => ite_b 1 0 b 0 b 0 (mayB0_t ha.1 ha.2) (mayB0_t hb.1 hb.2) (mayB0_t hb.1 hb.2) (by simp) (by simp) (by simp) W) (by omega)
          · rw [if_neg (by omega)]
            exact tells_bad (fun W => ite_b5 1 0 b 0 c 0 (mayB0_t ha.1 ha.2) (mayB0_t hb.1 hb.2) (mayB0_t hc.1 hc.2) (by simp) (by simp; omega) W) rfl
        · rw [if_neg (by omega)]
          exact tells_bad (fun W => ite_b4 a 0 b 0 c 0 (mayB0_t ha.1 ha.2) (mayB0_t hb.1 hb.2) (mayB0_t hc.1 hc.2) (by simp; omega) W) rfl
      · rw [if_neg (by omega)]
        exact tells_bad (fun W => ite_b3 a 0 b 0 c 0 (mayB0_t ha.1 ha.2) (mayB0_t hb.1 hb.2) (mayB0_f hc) W) rfl
    · rw [if_neg (by omega)]
      exact tells_bad (fun W => ite_b2 a 0 b 0 c 0 (mayB0_t ha.1 ha.2) (mayB0_f hb) W) rfl
  · rw [if_neg (by omega)]
    exact tells_bad (fun W => ite_b1 a 0 b 0 c 0 (mayB0_f ha) W) rfl

theorem tells_binary (o w l a b c : Nat) (h3 : ¬ (o = 3 ∨ o = 4)) (h22 : ¬ o = 22) (h23 : ¬ (o = 23 ∨ o = 24)) (h25 : ¬ o = 25) : Tells 69 #[.int .u8 o, .agg #[.int .u8 ((a : Nat) : Int), .int .u64 0], .agg #[.int .u8 ((b : Nat) : Int), .int .u64 0]] (vecW o w l a b c) := by
  unfold vecW
  rw [if_neg h3, if_neg h22, if_neg h23, if_neg h25]
  by_cases ha : 1 ≤ a ∧ a ≤ 64
  · by_cases hb : 1 ≤ b ∧ b ≤ 64
    · rw [if_pos ⟨ha.1, ha.2, hb.1, hb.2⟩]
      by_cases hr : widthB o a b = 0
      · exact tells_bad (fun W => binary_bad o a b 0 0 (.inr (.inr hr)) W) hr
      · exact tells_ok (fun W => binary_ok o a b 0 0 (mayB0_t ha.1 ha.2) (mayB0_t hb.1 hb.2) hr W) hr
    · rw [if_neg (by omega)]
      exact tells_bad (fun W => binary_bad o a b 0 0 (.inr (.inl (mayB0_f hb))) W) rfl
  · rw [if_neg (by omega)]
    exact tells_bad (fun W => binary_bad o a b 0 0 (.inl (mayB0_f ha)) W) rfl

end Tm
end Go.Proofs.Ytigjbngedbbdbaa
