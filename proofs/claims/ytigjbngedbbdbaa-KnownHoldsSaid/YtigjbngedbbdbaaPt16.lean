/-
What Binary of the reference returns, operator by operator.
Structs of two cells that the call itself made: written, and kept beside others.
-/
import Derived.Test.YtigjbngedbbdbaaPt15
import Derived.Test.YtigjbngedbbdbaaPt05
import Derived.Deep.DeepCutAuto
namespace Go.Proofs.Ytigjbngedbbdbaa
open Go.RowKit
namespace Bv
set_option maxHeartbeats 400000
set_option maxRecDepth 100000

theorem num9r (w v n m : Nat) (hm : m < 18446744073709551616) : IntKind.u64.wrap ((n : Int) - (m : Int)) = (numB 9 w v n m : Int) := by
  show _ = (((n + (18446744073709551616 - m)) % 18446744073709551616 : Nat) : Int)
  rw [IntKind.wrap_u64]; omega

theorem rbin_5 (w n v m : Nat) (hn6 : n < 18446744073709551616) (hm6 : m < 18446744073709551616) (HA : Hid (mayB w n = true)) (HB : Hid (mayB v m = true)) (hwv : ((w : Int) != (v : Int)) = false) (hw : w ≤ 64) (W : World) :
    Calls Try.prog 46 #[.int .u8 5, .agg #[.int .u8 w, .int .u64 n], .agg #[.int .u8 v, .int .u64 m]] W fun e W' => e = .returned (.tuple #[.agg #[.int .u8 w, .int .u64 (low w (numB 5 w v n m) : Nat)], .int .i64 0]) ∧ Below W.heap.size W W' := by
  have HQ := Lib.hid (show bits BinOp.and IntKind.u64 (n : Int) (m : Int) = ((numB 5 w v n m : Nat) : Int) from bits_and_u64_nat n m hn6 hm6)
  have hb := numB_lt (o := 5) (w := w) (v := v) hn6 hm6
  go_enter Try.func46, Try.ntmps46
  go_wp2_with fail
  refine (rmay_yes hn6 HA.out _).mono ?_; rintro e w1 ⟨rfl, hb1⟩
  have ka : At w1 (W.heap.size) (.int .u8 w) (.int .u64 n) := by have h0 := ((((At.new _ _ _ _).alloc _).alloc _)).keep hb1; simpa using h0
  have la := ka.lt
  have oa := ka
  unfold At at oa
  have kb : At w1 (W.heap.size + 1) (.int .u8 v) (.int .u64 m) := by have h0 := (((At.new _ _ _ _).alloc _)).keep hb1; simpa using h0
  have lb := kb.lt
  have ob := kb
  unfold At at ob
  have kres : At w1 (W.heap.size + 1 + 1) (.int .u8 0) (.int .u64 0) := by have h0 := ((At.new _ _ _ _)).keep hb1; simpa using h0
  have lres := kres.lt
  have ores := kres
  unfold At at ores
  have fres : w1.frozen? ⟨W.heap.size + 1 + 1, 0, none⟩ = false ∧ w1.frozen? ⟨W.heap.size + 1 + 1, 1, none⟩ = false := by constructor <;> (rw [Below.frozen hb1 (by simp)]; simp [go_sem])
  go_wp2_with fail
  refine (rmay_yes hm6 HB.out _).mono ?_; rintro e w2 ⟨rfl, hb2⟩
  replace ka := ka.keep hb2
  replace la := ka.lt
  replace oa := ka
  unfold At at oa
  replace kb := kb.keep hb2
  replace lb := kb.lt
  replace ob := kb
  unfold At at ob
  replace fres : w2.frozen? ⟨W.heap.size + 1 + 1, 0, none⟩ = false ∧ w2.frozen? ⟨W.heap.size + 1 + 1, 1, none⟩ = false := ⟨(Below.frozen hb2 (p := ⟨_, 0, none⟩) lres).trans fres.1, (Below.frozen hb2 (p := ⟨_, 1, none⟩) lres).trans fres.2⟩
  replace kres := kres.keep hb2
  replace lres := kres.lt
  replace ores := kres
  unfold At at ores
  repeat' (first | ((with_reducible refine wp_exit ?_); (repeat (first | (with_reducible refine ex_then ?_) | (with_reducible refine ex_near ?_) | (refine ex_far (by decide) ?_))); (with_reducible refine ex_go ?_)) | go_values | go_skip | go_guarded | go_step | go_upon)
  go_wp2_with fail
  rw [HQ.out]
  refine (rcut_any w hw _ (by omega) (by omega) _).mono ?_; rintro e w3 ⟨rfl, hb3⟩
  replace ka := ka.keep hb3
  replace la := ka.lt
  replace oa := ka
  unfold At at oa
  replace kb := kb.keep hb3
  replace lb := kb.lt
  replace ob := kb
  unfold At at ob
  replace fres : w3.frozen? ⟨W.heap.size + 1 + 1, 0, none⟩ = false ∧ w3.frozen? ⟨W.heap.size + 1 + 1, 1, none⟩ = false := ⟨(Below.frozen hb3 (p := ⟨_, 0, none⟩) lres).trans fres.1, (Below.frozen hb3 (p := ⟨_, 1, none⟩) lres).trans fres.2⟩
  replace kres := kres.keep hb3
  replace lres := kres.lt
  replace ores := kres
  unfold At at ores
  go_wp2_with fail
  refine bodyPost_ret (v := .tuple #[.agg #[.int .u8 w, .int .u64 (low w (numB 5 w v n m) : Nat)], .int .i64 0]) (by simp [results, Try.results46, go_sem, ores]) rfl ⟨rfl, ?_⟩
  exact ((bel_call (bel_call (bel_call (bel_alloc (bel_alloc (bel_alloc (Below.refl _ _) _) _) _) hb1) hb2) hb3).setCell (by first | (simp; done) | (simp; omega) | omega) _).setCell (by first | (simp; done) | (simp; omega) | omega) _

theorem rbin_6 (w n v m : Nat) (hn6 : n < 18446744073709551616) (hm6 : m < 18446744073709551616) (HA : Hid (mayB w n = true)) (HB : Hid (mayB v m = true)) (hwv : ((w : Int) != (v : Int)) = false) (hw : w ≤ 64) (W : World) :
    Calls Try.prog 46 #[.int .u8 6, .agg #[.int .u8 w, .int .u64 n], .agg #[.int .u8 v, .int .u64 m]] W fun e W' => e = .returned (.tuple #[.agg #[.int .u8 w, .int .u64 (low w (numB 6 w v n m) : Nat)], .int .i64 0]) ∧ Below W.heap.size W W' := by
  have HQ := Lib.hid (show bits BinOp.or IntKind.u64 (n : Int) (m : Int) = ((numB 6 w v n m : Nat) : Int) from bits_or_u64_nat n m hn6 hm6)
  have hb := numB_lt (o := 6) (w := w) (v := v) hn6 hm6
  go_enter Try.func46, Try.ntmps46
  go_wp2_with fail
  refine (rmay_yes hn6 HA.out _).mono ?_; rintro e w1 ⟨rfl, hb1⟩
  have ka : At w1 (W.heap.size) (.int .u8 w) (.int .u64 n) := by have h0 := ((((At.new _ _ _ _).alloc _).alloc _)).keep hb1; simpa using h0
  have la := ka.lt
  have oa := ka
  unfold At at oa
  have kb : At w1 (W.heap.size + 1) (.int .u8 v) (.int .u64 m) := by have h0 := (((At.new _ _ _ _).alloc _)).keep hb1; simpa using h0
  have lb := kb.lt
  have ob := kb
  unfold At at ob
  have kres : At w1 (W.heap.size + 1 + 1) (.int .u8 0) (.int .u64 0) := by have h0 := ((At.new _ _ _ _)).keep hb1; simpa using h0
  have lres := kres.lt
  have ores := kres
  unfold At at ores
  have fres : w1.frozen? ⟨W.heap.size + 1 + 1, 0, none⟩ = false ∧ w1.frozen? ⟨W.heap.size + 1 + 1, 1, none⟩ = false := by constructor <;> (rw [Below.frozen hb1 (by simp)]; simp [go_sem])
  go_wp2_with fail
  refine (rmay_yes hm6 HB.out _).mono ?_; rintro e w2 ⟨rfl, hb2⟩
  replace ka := ka.keep hb2
  replace la := ka.lt
  replace oa := ka
  unfold At at oa
  replace kb := kb.keep hb2
  replace lb := kb.lt
  replace ob := kb
  unfold At at ob
  replace fres : w2.frozen? ⟨W.heap.size + 1 + 1, 0, none⟩ = false ∧ w2.frozen? ⟨W.heap.size + 1 + 1, 1, none⟩ = false := ⟨(Below.frozen hb2 (p := ⟨_, 0, none⟩) lres).trans fres.1, (Below.frozen hb2 (p := ⟨_, 1, none⟩) lres).trans fres.2⟩
  replace kres := kres.keep hb2
  replace lres := kres.lt
  replace ores := kres
  unfold At at ores
  repeat' (first | ((with_reducible refine wp_exit ?_); (repeat (first | (with_reducible refine ex_then ?_) | (with_reducible refine ex_near ?_) | (refine ex_far (by decide) ?_))); (with_reducible refine ex_go ?_)) | go_values | go_skip | go_guarded | go_step | go_upon)
  go_wp2_with fail
  rw [HQ.out]
  refine (rcut_any w hw _ (by omega) (by omega) _).mono ?_; rintro e w3 ⟨rfl, hb3⟩
  replace ka := ka.keep hb3
  replace la := ka.lt
  replace oa := ka
  unfold At at oa
  replace kb := kb.keep hb3
  replace lb := kb.lt
  replace ob := kb
  unfold At at ob
  replace fres : w3.frozen? ⟨W.heap.size + 1 + 1, 0, none⟩ = false ∧ w3.frozen? ⟨W.heap.size + 1 + 1, 1, none⟩ = false := ⟨(Below.frozen hb3 (p := ⟨_, 0, none⟩) lres).trans fres.1, (Below.frozen hb3 (p := ⟨_, 1, none⟩) lres).trans fres.2⟩
  replace kres := kres.keep hb3
  replace lres := kres.lt
  replace ores := kres
  unfold At at ores
  go_wp2_with fail
  refine bodyPost_ret (v := .tuple #[.agg #[.int .u8 w, .int .u64 (low w (numB 6 w v n m) : Nat)], .int .i64 0]) (by simp [results, Try.results46, go_sem, ores]) rfl ⟨rfl, ?_⟩
  exact ((bel_call (bel_call (bel_call (bel_alloc (bel_alloc (bel_alloc (Below.refl _ _) _) _) _) hb1) hb2) hb3).setCell (by first | (simp; done) | (simp; omega) | omega) _).setCell (by first | (simp; done) | (simp; omega) | omega) _

theorem rbin_7 (w n v m : Nat) (hn6 : n < 18446744073709551616) (hm6 : m < 18446744073709551616) (HA : Hid (mayB w n = true)) (HB : Hid (mayB v m = true)) (hwv : ((w : Int) != (v : Int)) = false) (hw : w ≤ 64) (W : World) :
    Calls Try.prog 46 #[.int .u8 7, .agg #[.int .u8 w, .int .u64 n], .agg #[.int .u8 v, .int .u64 m]] W fun e W' => e = .returned (.tuple #[.agg #[.int .u8 w, .int .u64 (low w (numB 7 w v n m) : Nat)], .int .i64 0]) ∧ Below W.heap.size W W' := by
  have HQ := Lib.hid (show bits BinOp.xor IntKind.u64 (n : Int) (m : Int) = ((numB 7 w v n m : Nat) : Int) from bits_xor_u64_nat n m hn6 hm6)
  have hb := numB_lt (o := 7) (w := w) (v := v) hn6 hm6
  go_enter Try.func46, Try.ntmps46
  go_wp2_with fail
  refine (rmay_yes hn6 HA.out _).mono ?_; rintro e w1 ⟨rfl, hb1⟩
  have ka : At w1 (W.heap.size) (.int .u8 w) (.int .u64 n) := by have h0 := ((((At.new _ _ _ _).alloc _).alloc _)).keep hb1; simpa using h0
  have la := ka.lt
  have oa := ka
  unfold At at oa
  have kb : At w1 (W.heap.size + 1) (.int .u8 v) (.int .u64 m) := by have h0 := (((At.new _ _ _ _).alloc _)).keep hb1; simpa using h0
  have lb := kb.lt
  have ob := kb
  unfold At at ob
  have kres : At w1 (W.heap.size + 1 + 1) (.int .u8 0) (.int .u64 0) := by have h0 := ((At.new _ _ _ _)).keep hb1; simpa using h0
  have lres := kres.lt
  have ores := kres
  unfold At at ores
  have fres : w1.frozen? ⟨W.heap.size + 1 + 1, 0, none⟩ = false ∧ w1.frozen? ⟨W.heap.size + 1 + 1, 1, none⟩ = false := by constructor <;> (rw [Below.frozen hb1 (by simp)]; simp [go_sem])
  go_wp2_with fail
  refine (rmay_yes hm6 HB.out _).mono ?_; rintro e w2 ⟨rfl, hb2⟩
  replace ka := ka.keep hb2
  replace la := ka.lt
  replace oa := ka
  unfold At at oa
  replace kb := kb.keep hb2
  replace lb := kb.lt
  replace ob := kb
  unfold At at ob
  replace fres : w2.frozen? ⟨W.heap.size + 1 + 1, 0, none⟩ = false ∧ w2.frozen? ⟨W.heap.size + 1 + 1, 1, none⟩ = false := ⟨(Below.frozen hb2 (p := ⟨_, 0, none⟩) lres).trans fres.1, (Below.frozen hb2 (p := ⟨_, 1, none⟩) lres).trans fres.2⟩
  replace kres := kres.keep hb2
  replace lres := kres.lt
  replace ores := kres
  unfold At at ores
  repeat' (first | ((with_reducible refine wp_exit ?_); (repeat (first | (with_reducible refine ex_then ?_) | (with_reducible refine ex_near ?_) | (refine ex_far (by decide) ?_))); (with_reducible refine ex_go ?_)) | go_values | go_skip | go_guarded | go_step | go_upon)
  go_wp2_with fail
  rw [HQ.out]
  refine (rcut_any w hw _ (by omega) (by omega) _).mono ?_; rintro e w3 ⟨rfl, hb3⟩
  replace ka := ka.keep hb3
  replace la := ka.lt
  replace oa := ka
  unfold At at oa
  replace kb := kb.keep hb3
  replace lb := kb.lt
  replace ob := kb
  unfold At at ob
  replace fres : w3.frozen? ⟨W.heap.size + 1 + 1, 0, none⟩ = false ∧ w3.frozen? ⟨W.heap.size + 1 + 1, 1, none⟩ = false := ⟨(Below.frozen hb3 (p := ⟨_, 0, none⟩) lres).trans fres.1, (Below.frozen hb3 (p := ⟨_, 1, none⟩) lres).trans fres.2⟩
  replace kres := kres.keep hb3
  replace lres := kres.lt
  replace ores := kres
  unfold At at ores
  go_wp2_with fail
  refine bodyPost_ret (v := .tuple #[.agg #[.int .u8 w, .int .u64 (low w (numB 7 w v n m) : Nat)], .int .i64 0]) (by simp [results, Try.results46, go_sem, ores]) rfl ⟨rfl, ?_⟩
  exact ((bel_call (bel_call (bel_call (bel_alloc (bel_alloc (bel_alloc (Below.refl _ _) _) _) _) hb1) hb2) hb3).setCell (by first | (simp; done) | (simp; omega) | omega) _).setCell (by first | (simp; done) | (simp; omega) | omega) _

theorem rbin_8 (w n v m : Nat) (hn6 : n < 18446744073709551616) (hm6 : m < 18446744073709551616) (HA : Hid (mayB w n = true)) (HB : Hid (mayB v m = true)) (hwv : ((w : Int) != (v : Int)) = false) (hw : w ≤ 64) (W : World) :
    Calls Try.prog 46 #[.int .u8 8, .agg #[.int .u8 w, .int .u64 n], .agg #[.int .u8 v, .int .u64 m]] W fun e W' => e = .returned (.tuple #[.agg #[.int .u8 w, .int .u64 (low w (numB 8 w v n m) : Nat)], .int .i64 0]) ∧ Below W.heap.size W W' := by
  have HQ := Lib.hid (num8 w v n m)
  have hb := numB_lt (o := 8) (w := w) (v := v) hn6 hm6
  go_enter Try.func46, Try.ntmps46
  go_wp2_with fail
  refine (rmay_yes hn6 HA.out _).mono ?_; rintro e w1 ⟨rfl, hb1⟩
  have ka : At w1 (W.heap.size) (.int .u8 w) (.int .u64 n) := by have h0 := ((((At.new _ _ _ _).alloc _).alloc _)).keep hb1; simpa using h0
  have la := ka.lt
  have oa := ka
  unfold At at oa
  have kb : At w1 (W.heap.size + 1) (.int .u8 v) (.int .u64 m) := by have h0 := (((At.new _ _ _ _).alloc _)).keep hb1; simpa using h0
  have lb := kb.lt
  have ob := kb
  unfold At at ob
  have kres : At w1 (W.heap.size + 1 + 1) (.int .u8 0) (.int .u64 0) := by have h0 := ((At.new _ _ _ _)).keep hb1; simpa using h0
  have lres := kres.lt
  have ores := kres
  unfold At at ores
  have fres : w1.frozen? ⟨W.heap.size + 1 + 1, 0, none⟩ = false ∧ w1.frozen? ⟨W.heap.size + 1 + 1, 1, none⟩ = false := by constructor <;> (rw [Below.frozen hb1 (by simp)]; simp [go_sem])
  go_wp2_with fail
  refine (rmay_yes hm6 HB.out _).mono ?_; rintro e w2 ⟨rfl, hb2⟩
  replace ka := ka.keep hb2
  replace la := ka.lt
  replace oa := ka
  unfold At at oa
  replace kb := kb.keep hb2
  replace lb := kb.lt
  replace ob := kb
  unfold At at ob
  replace fres : w2.frozen? ⟨W.heap.size + 1 + 1, 0, none⟩ = false ∧ w2.frozen? ⟨W.heap.size + 1 + 1, 1, none⟩ = false := ⟨(Below.frozen hb2 (p := ⟨_, 0, none⟩) lres).trans fres.1, (Below.frozen hb2 (p := ⟨_, 1, none⟩) lres).trans fres.2⟩
  replace kres := kres.keep hb2
  replace lres := kres.lt
  replace ores := kres
  unfold At at ores
  repeat' (first | ((with_reducible refine wp_exit ?_); (repeat (first | (with_reducible refine ex_then ?_) | (with_reducible refine ex_near ?_) | (refine ex_far (by decide) ?_))); (with_reducible refine ex_go ?_)) | go_values | go_skip | go_guarded | go_step | go_upon)
  go_wp2_with fail
  rw [HQ.out]
  refine (rcut_any w hw _ (by omega) (by omega) _).mono ?_; rintro e w3 ⟨rfl, hb3⟩
  replace ka := ka.keep hb3
  replace la := ka.lt
  replace oa := ka
  unfold At at oa
  replace kb := kb.keep hb3
  replace lb := kb.lt
  replace ob := kb
  unfold At at ob
  replace fres : w3.frozen? ⟨W.heap.size + 1 + 1, 0, none⟩ = false ∧ w3.frozen? ⟨W.heap.size + 1 + 1, 1, none⟩ = false := ⟨(Below.frozen hb3 (p := ⟨_, 0, none⟩) lres).trans fres.1, (Below.frozen hb3 (p := ⟨_, 1, none⟩) lres).trans fres.2⟩
  replace kres := kres.keep hb3
  replace lres := kres.lt
  replace ores := kres
  unfold At at ores
  go_wp2_with fail
  refine bodyPost_ret (v := .tuple #[.agg #[.int .u8 w, .int .u64 (low w (numB 8 w v n m) : Nat)], .int .i64 0]) (by simp [results, Try.results46, go_sem, ores]) rfl ⟨rfl, ?_⟩
  exact ((bel_call (bel_call (bel_call (bel_alloc (bel_alloc (bel_alloc (Below.refl _ _) _) _) _) hb1) hb2) hb3).setCell (by first | (simp; done) | (simp; omega) | omega) _).setCell (by first | (simp; done) | (simp; omega) | omega) _

theorem rbin_9 (w n v m : Nat) (hn6 : n < 18446744073709551616) (hm6 : m < 18446744073709551616) (HA : Hid (mayB w n = true)) (HB : Hid (mayB v m = true)) (hwv : ((w : Int) != (v : Int)) = false) (hw : w ≤ 64) (W : World) :
    Calls Try.prog 46 #[.int .u8 9, .agg #[.int .u8 w, .int .u64 n], .agg #[.int .u8 v, .int .u64 m]] W fun e W' => e = .returned (.tuple #[.agg #[.int .u8 w, .int .u64 (low w (numB 9 w v n m) : Nat)], .int .i64 0]) ∧ Below W.heap.size W W' := by
  have HQ := Lib.hid (num9r w v n m hm6)
  have hb := numB_lt (o := 9) (w := w) (v := v) hn6 hm6
  go_enter Try.func46, Try.ntmps46
  go_wp2_with fail
  refine (rmay_yes hn6 HA.out _).mono ?_; rintro e w1 ⟨rfl, hb1⟩
  have ka : At w1 (W.heap.size) (.int .u8 w) (.int .u64 n) := by have h0 := ((((At.new _ _ _ _).alloc _).alloc _)).keep hb1; simpa using h0
  have la := ka.lt
  have oa := ka
  unfold At at oa
  have kb : At w1 (W.heap.size + 1) (.int .u8 v) (.int .u64 m) := by have h0 := (((At.new _ _ _ _).alloc _)).keep hb1; simpa using h0
  have lb := kb.lt
  have ob := kb
  unfold At at ob
  have kres : At w1 (W.heap.size + 1 + 1) (.int .u8 0) (.int .u64 0) := by have h0 := ((At.new _ _ _ _)).keep hb1; simpa using h0
  have lres := kres.lt
  have ores := kres
  unfold At at ores
  have fres : w1.frozen? ⟨W.heap.size + 1 + 1, 0, none⟩ = false ∧ w1.frozen? ⟨W.heap.size + 1 + 1, 1, none⟩ = false := by constructor <;> (rw [Below.frozen hb1 (by simp)]; simp [go_sem])
  go_wp2_with fail
  refine (rmay_yes hm6 HB.out _).mono ?_; rintro e w2 ⟨rfl, hb2⟩
  replace ka := ka.keep hb2
  replace la := ka.lt
  replace oa := ka
  unfold At at oa
  replace kb := kb.keep hb2
  replace lb := kb.lt
  replace ob := kb
  unfold At at ob
  replace fres : w2.frozen? ⟨W.heap.size + 1 + 1, 0, none⟩ = false ∧ w2.frozen? ⟨W.heap.size + 1 + 1, 1, none⟩ = false := ⟨(Below.frozen hb2 (p := ⟨_, 0, none⟩) lres).trans fres.1, (Below.frozen hb2 (p := ⟨_, 1, none⟩) lres).trans fres.2⟩
  replace kres := kres.keep hb2
  replace lres := kres.lt
  replace ores := kres
  unfold At at ores
  repeat' (first | ((with_reducible refine wp_exit ?_); (repeat (first | (with_reducible refine ex_then ?_) | (with_reducible refine ex_near ?_) | (refine ex_far (by decide) ?_))); (with_reducible refine ex_go ?_)) | go_values | go_skip | go_guarded | go_step | go_upon)
  go_wp2_with fail
  rw [HQ.out]
  refine (rcut_any w hw _ (by omega) (by omega) _).mono ?_; rintro e w3 ⟨rfl, hb3⟩
  replace ka := ka.keep hb3
  replace la := ka.lt
  replace oa := ka
  unfold At at oa
  replace kb := kb.keep hb3
  replace lb := kb.lt
  replace ob := kb
  unfold At at ob
  replace fres : w3.frozen? ⟨W.heap.size + 1 + 1, 0, none⟩ = false ∧ w3.frozen? ⟨W.heap.size + 1 + 1, 1, none⟩ = false := ⟨(Below.frozen hb3 (p := ⟨_, 0, none⟩) lres).trans fres.1, (Below.frozen hb3 (p := ⟨_, 1, none⟩) lres).trans fres.2⟩
  replace kres := kres.keep hb3
  replace lres := kres.lt
  replace ores := kres
  unfold At at ores
  go_wp2_with fail
  refine bodyPost_ret (v := .tuple #[.agg #[.int .u8 w, .int .u64 (low w (numB 9 w v n m) : Nat)], .int .i64 0]) (by simp [results, Try.results46, go_sem, ores]) rfl ⟨rfl, ?_⟩
  exact ((bel_call (bel_call (bel_call (bel_alloc (bel_alloc (bel_alloc (Below.refl _ _) _) _) _) hb1) hb2) hb3).setCell (by first | (simp; done) | (simp; omega) | omega) _).setCell (by first | (simp; done) | (simp; omega) | omega) _

theorem rbin_18 (w n v m : Nat) (hn6 : n < 18446744073709551616) (hm6 : m < 18446744073709551616) (HA : Hid (mayB w n = true)) (HB : Hid (mayB v m = true)) (hwv : ((w : Int) != (v : Int)) = false)  (W : World) :
    Calls Try.prog 46 #[.int .u8 18, .agg #[.int .u8 w, .int .u64 n], .agg #[.int .u8 v, .int .u64 m]] W fun e W' => e = .returned (.tuple #[.agg #[.int .u8 1, .int .u64 ((((n : Int) == (m : Int)) : Bool).toNat : Nat)], .int .i64 0]) ∧ Below W.heap.size W W' := by
  go_enter Try.func46, Try.ntmps46
  go_wp2_with fail
  refine (rmay_yes hn6 HA.out _).mono ?_; rintro e w1 ⟨rfl, hb1⟩
  have ka : At w1 (W.heap.size) (.int .u8 w) (.int .u64 n) := by have h0 := ((((At.new _ _ _ _).alloc _).alloc _)).keep hb1; simpa using h0
  have la := ka.lt
  have oa := ka
  unfold At at oa
  have kb : At w1 (W.heap.size + 1) (.int .u8 v) (.int .u64 m) := by have h0 := (((At.new _ _ _ _).alloc _)).keep hb1; simpa using h0
  have lb := kb.lt
  have ob := kb
  unfold At at ob
  have kres : At w1 (W.heap.size + 1 + 1) (.int .u8 0) (.int .u64 0) := by have h0 := ((At.new _ _ _ _)).keep hb1; simpa using h0
  have lres := kres.lt
  have ores := kres
  unfold At at ores
  have fres : w1.frozen? ⟨W.heap.size + 1 + 1, 0, none⟩ = false ∧ w1.frozen? ⟨W.heap.size + 1 + 1, 1, none⟩ = false := by constructor <;> (rw [Below.frozen hb1 (by simp)]; simp [go_sem])
  go_wp2_with fail
  refine (rmay_yes hm6 HB.out _).mono ?_; rintro e w2 ⟨rfl, hb2⟩
  replace ka := ka.keep hb2
  replace la := ka.lt
  replace oa := ka
  unfold At at oa
  replace kb := kb.keep hb2
  replace lb := kb.lt
  replace ob := kb
  unfold At at ob
  replace fres : w2.frozen? ⟨W.heap.size + 1 + 1, 0, none⟩ = false ∧ w2.frozen? ⟨W.heap.size + 1 + 1, 1, none⟩ = false := ⟨(Below.frozen hb2 (p := ⟨_, 0, none⟩) lres).trans fres.1, (Below.frozen hb2 (p := ⟨_, 1, none⟩) lres).trans fres.2⟩
  replace kres := kres.keep hb2
  replace lres := kres.lt
  replace ores := kres
  unfold At at ores
  repeat' (first | ((with_reducible refine wp_exit ?_); (repeat (first | (with_reducible refine ex_then ?_) | (with_reducible refine ex_near ?_) | (refine ex_far (by decide) ?_))); (with_reducible refine ex_go ?_)) | go_values | go_skip | go_guarded | go_step | go_upon)
  go_wp2_with fail
  refine (flag_any _ _).mono ?_; rintro e w3 ⟨rfl, hb3⟩
  replace ka := ka.keep hb3
  replace la := ka.lt
  replace oa := ka
  unfold At at oa
  replace kb := kb.keep hb3
  replace lb := kb.lt
  replace ob := kb
  unfold At at ob
  replace fres : w3.frozen? ⟨W.heap.size + 1 + 1, 0, none⟩ = false ∧ w3.frozen? ⟨W.heap.size + 1 + 1, 1, none⟩ = false := ⟨(Below.frozen hb3 (p := ⟨_, 0, none⟩) lres).trans fres.1, (Below.frozen hb3 (p := ⟨_, 1, none⟩) lres).trans fres.2⟩
  replace kres := kres.keep hb3
  replace lres := kres.lt
  replace ores := kres
  unfold At at ores
  go_wp2_with fail
  refine bodyPost_ret (v := .tuple #[.agg #[.int .u8 1, .int .u64 ((((n : Int) == (m : Int)) : Bool).toNat : Nat)], .int .i64 0]) (by simp [results, Try.results46, go_sem, ores]) rfl ⟨rfl, ?_⟩
  exact ((bel_call (bel_call (bel_call (bel_alloc (bel_alloc (bel_alloc (Below.refl _ _) _) _) _) hb1) hb2) hb3).setCell (by first | (simp; done) | (simp; omega) | omega) _).setCell (by first | (simp; done) | (simp; omega) | omega) _

theorem rbin_19 (w n v m : Nat) (hn6 : n < 18446744073709551616) (hm6 : m < 18446744073709551616) (HA : Hid (mayB w n = true)) (HB : Hid (mayB v m = true)) (hwv : ((w : Int) != (v : Int)) = false)  (W : World) :
    Calls Try.prog 46 #[.int .u8 19, .agg #[.int .u8 w, .int .u64 n], .agg #[.int .u8 v, .int .u64 m]] W fun e W' => e = .returned (.tuple #[.agg #[.int .u8 1, .int .u64 ((decide ((n : Int) < (m : Int)) : Bool).toNat : Nat)], .int .i64 0]) ∧ Below W.heap.size W W' := by
  go_enter Try.func46, Try.ntmps46
  go_wp2_with fail
  refine (rmay_yes hn6 HA.out _).mono ?_; rintro e w1 ⟨rfl, hb1⟩
  have ka : At w1 (W.heap.size) (.int .u8 w) (.int .u64 n) := by have h0 := ((((At.new _ _ _ _).alloc _).alloc _)).keep hb1; simpa using h0
  have la := ka.lt
  have oa := ka
  unfold At at oa
  have kb : At w1 (W.heap.size + 1) (.int .u8 v) (.int .u64 m) := by have h0 := (((At.new _ _ _ _).alloc _)).keep hb1; simpa using h0
  have lb := kb.lt
  have ob := kb
  unfold At at ob
  have kres : At w1 (W.heap.size + 1 + 1) (.int .u8 0) (.int .u64 0) := by have h0 := ((At.new _ _ _ _)).keep hb1; simpa using h0
  have lres := kres.lt
  have ores := kres
  unfold At at ores
  have fres : w1.frozen? ⟨W.heap.size + 1 + 1, 0, none⟩ = false ∧ w1.frozen? ⟨W.heap.size + 1 + 1, 1, none⟩ = false := by constructor <;> (rw [Below.frozen hb1 (by simp)]; simp [go_sem])
  go_wp2_with fail
  refine (rmay_yes hm6 HB.out _).mono ?_; rintro e w2 ⟨rfl, hb2⟩
  replace ka := ka.keep hb2
  replace la := ka.lt
  replace oa := ka
  unfold At at oa
  replace kb := kb.keep hb2
  replace lb := kb.lt
  replace ob := kb
  unfold At at ob
  replace fres : w2.frozen? ⟨W.heap.size + 1 + 1, 0, none⟩ = false ∧ w2.frozen? ⟨W.heap.size + 1 + 1, 1, none⟩ = false := ⟨(Below.frozen hb2 (p := ⟨_, 0, none⟩) lres).trans fres.1, (Below.frozen hb2 (p := ⟨_, 1, none⟩) lres).trans fres.2⟩
  replace kres := kres.keep hb2
  replace lres := kres.lt
  replace ores := kres
  unfold At at ores
  repeat' (first | ((with_reducible refine wp_exit ?_); (repeat (first | (with_reducible refine ex_then ?_) | (with_reducible refine ex_near ?_) | (refine ex_far (by decide) ?_))); (with_reducible refine ex_go ?_)) | go_values | go_skip | go_guarded | go_step | go_upon)
  go_wp2_with fail
  refine (flag_any _ _).mono ?_; rintro e w3 ⟨rfl, hb3⟩
  replace ka := ka.keep hb3
  replace la := ka.lt
  replace oa := ka
  unfold At at oa
  replace kb := kb.keep hb3
  replace lb := kb.lt
  replace ob := kb
  unfold At at ob
  replace fres : w3.frozen? ⟨W.heap.size + 1 + 1, 0, none⟩ = false ∧ w3.frozen? ⟨W.heap.size + 1 + 1, 1, none⟩ = false := ⟨(Below.frozen hb3 (p := ⟨_, 0, none⟩) lres).trans fres.1, (Below.frozen hb3 (p := ⟨_, 1, none⟩) lres).trans fres.2⟩
  replace kres := kres.keep hb3
  replace lres := kres.lt
  replace ores := kres
  unfold At at ores
  go_wp2_with fail
  refine bodyPost_ret (v := .tuple #[.agg #[.int .u8 1, .int .u64 ((decide ((n : Int) < (m : Int)) : Bool).toNat : Nat)], .int .i64 0]) (by simp [results, Try.results46, go_sem, ores]) rfl ⟨rfl, ?_⟩
  exact ((bel_call (bel_call (bel_call (bel_alloc (bel_alloc (bel_alloc (Below.refl _ _) _) _) _) hb1) hb2) hb3).setCell (by first | (simp; done) | (simp; omega) | omega) _).setCell (by first | (simp; done) | (simp; omega) | omega) _

theorem rbin_20 (w n v m : Nat) (hn6 : n < 18446744073709551616) (hm6 : m < 18446744073709551616) (HA : Hid (mayB w n = true)) (HB : Hid (mayB v m = true)) (hwv : ((w : Int) != (v : Int)) = false) (b : Bool) (HL : Hid (∀ W : World, Calls Try.prog 63 #[.agg #[.int .u8 w, .int .u64 n], .agg #[.int .u8 v, .int .u64 m]] W fun e W' => e = .returned (.bool b) ∧ Below W.heap.size W W')) (W : World) :
    Calls Try.prog 46 #[.int .u8 20, .agg #[.int .u8 w, .int .u64 n], .agg #[.int .u8 v, .int .u64 m]] W fun e W' => e = .returned (.tuple #[.agg #[.int .u8 1, .int .u64 ((b : Bool).toNat : Nat)], .int .i64 0]) ∧ Below W.heap.size W W' := by
  go_enter Try.func46, Try.ntmps46
  go_wp2_with fail
  refine (rmay_yes hn6 HA.out _).mono ?_; rintro e w1 ⟨rfl, hb1⟩
  have ka : At w1 (W.heap.size) (.int .u8 w) (.int .u64 n) := by have h0 := ((((At.new _ _ _ _).alloc _).alloc _)).keep hb1; simpa using h0
  have la := ka.lt
  have oa := ka
  unfold At at oa
  have kb : At w1 (W.heap.size + 1) (.int .u8 v) (.int .u64 m) := by have h0 := (((At.new _ _ _ _).alloc _)).keep hb1; simpa using h0
  have lb := kb.lt
  have ob := kb
  unfold At at ob
  have kres : At w1 (W.heap.size + 1 + 1) (.int .u8 0) (.int .u64 0) := by have h0 := ((At.new _ _ _ _)).keep hb1; simpa using h0
  have lres := kres.lt
  have ores := kres
  unfold At at ores
  have fres : w1.frozen? ⟨W.heap.size + 1 + 1, 0, none⟩ = false ∧ w1.frozen? ⟨W.heap.size + 1 + 1, 1, none⟩ = false := by constructor <;> (rw [Below.frozen hb1 (by simp)]; simp [go_sem])
  go_wp2_with fail
  refine (rmay_yes hm6 HB.out _).mono ?_; rintro e w2 ⟨rfl, hb2⟩
  replace ka := ka.keep hb2
  replace la := ka.lt
  replace oa := ka
  unfold At at oa
  replace kb := kb.keep hb2
  replace lb := kb.lt
  replace ob := kb
  unfold At at ob
  replace fres : w2.frozen? ⟨W.heap.size + 1 + 1, 0, none⟩ = false ∧ w2.frozen? ⟨W.heap.size + 1 + 1, 1, none⟩ = false := ⟨(Below.frozen hb2 (p := ⟨_, 0, none⟩) lres).trans fres.1, (Below.frozen hb2 (p := ⟨_, 1, none⟩) lres).trans fres.2⟩
  replace kres := kres.keep hb2
  replace lres := kres.lt
  replace ores := kres
  unfold At at ores
  repeat' (first | ((with_reducible refine wp_exit ?_); (repeat (first | (with_reducible refine ex_then ?_) | (with_reducible refine ex_near ?_) | (refine ex_far (by decide) ?_))); (with_reducible refine ex_go ?_)) | go_values | go_skip | go_guarded | go_step | go_upon)
  go_wp2_with fail
  refine (HL.out _).mono ?_; rintro e w3 ⟨rfl, hb3⟩
  replace ka := ka.keep hb3
  replace la := ka.lt
  replace oa := ka
  unfold At at oa
  replace kb := kb.keep hb3
  replace lb := kb.lt
  replace ob := kb
  unfold At at ob
  replace fres : w3.frozen? ⟨W.heap.size + 1 + 1, 0, none⟩ = false ∧ w3.frozen? ⟨W.heap.size + 1 + 1, 1, none⟩ = false := ⟨(Below.frozen hb3 (p := ⟨_, 0, none⟩) lres).trans fres.1, (Below.frozen hb3 (p := ⟨_, 1, none⟩) lres).trans fres.2⟩
  replace kres := kres.keep hb3
  replace lres := kres.lt
  replace ores := kres
  unfold At at ores
  go_wp2_with fail
  refine (flag_any b _).mono ?_; rintro e w4 ⟨rfl, hb4⟩
  replace ka := ka.keep hb4
  replace la := ka.lt
  replace oa := ka
  unfold At at oa
  replace kb := kb.keep hb4
  replace lb := kb.lt
  replace ob := kb
  unfold At at ob
  replace fres : w4.frozen? ⟨W.heap.size + 1 + 1, 0, none⟩ = false ∧ w4.frozen? ⟨W.heap.size + 1 + 1, 1, none⟩ = false := ⟨(Below.frozen hb4 (p := ⟨_, 0, none⟩) lres).trans fres.1, (Below.frozen hb4 (p := ⟨_, 1, none⟩) lres).trans fres.2⟩
  replace kres := kres.keep hb4
  replace lres := kres.lt
  replace ores := kres
  unfold At at ores
  go_wp2_with fail
  refine bodyPost_ret (v := .tuple #[.agg #[.int .u8 1, .int .u64 ((b : Bool).toNat : Nat)], .int .i64 0]) (by simp [results, Try.results46, go_sem, ores]) rfl ⟨rfl, ?_⟩
  exact ((bel_call (bel_call (bel_call (bel_call (bel_alloc (bel_alloc (bel_alloc (Below.refl _ _) _) _) _) hb1) hb2) hb3) hb4).setCell (by first | (simp; done) | (simp; omega) | omega) _).setCell (by first | (simp; done) | (simp; omega) | omega) _

end Bv
end Go.Proofs.Ytigjbngedbbdbaa

namespace Go.Proofs.Ytigjbngedbbdbaa
open Go.RowKit
namespace Bv

/-- Block p, of the call's own from B on, holds x and y, and may be written. -/
structure Own (B : Nat) (w : World) (p : Nat) (x y : Value) : Prop where
  at_ : At w p x y
  fz : Fz w p
  le : B ≤ p
section
variable {B : Nat} {w w' : World} {p q : Nat} {x y x' y' : Value}
theorem Own.lt (h : Own B w p x y) : p < w.heap.size := h.at_.lt
theorem Own.keep (h : Own B w p x y) (hb : Below w.heap.size w w') : Own B w' p x y := ⟨h.at_.keep hb, h.fz.keep h.lt hb, h.le⟩
theorem Own.drew (h : Own B w p x y) : Own B w.drew p x y := ⟨h.at_.drew, h.fz, h.le⟩
theorem Fz.alloc (h : Fz w p) (hl : p < w.heap.size) (o : Obj) : Fz (w.alloc o) p :=
  ⟨(World.frozen?_of_block (w := w) (Below.heap_alloc w o p hl)).trans h.1, (World.frozen?_of_block (w := w) (Below.heap_alloc w o p hl)).trans h.2⟩
theorem Own.alloc (h : Own B w p x y) (o : Obj) : Own B (w.alloc o) p x y := ⟨h.at_.alloc o, h.fz.alloc h.lt o, h.le⟩
theorem Own.new (w : World) (x y : Value) (t : TypeId) (hB : B ≤ w.heap.size) : Own B (w.alloc (.cells #[x, y] t)) w.heap.size x y :=
  ⟨At.new w x y t, by constructor <;> simp [go_sem], hB⟩
theorem Own.set (h : Own B w p x y) : Own B ((w.setCell ⟨p, 0, none⟩ x').setCell ⟨p, 1, none⟩ y') p x' y' := by
  obtain ⟨⟨h0, h1⟩, ⟨f0, f1⟩, hl⟩ := h
  refine ⟨⟨?_, ?_⟩, ⟨?_, ?_⟩, hl⟩ <;> simp [go_sem, h0, h1, f0, f1]
theorem At.far (h : At w q x y) (hne : q ≠ p) : At ((w.setCell ⟨p, 0, none⟩ x').setCell ⟨p, 1, none⟩ y') q x y := by
  obtain ⟨h0, h1⟩ := h
  constructor
  · rw [World.cell?_setCell_far _ _ _ _ (fun e => hne e.symm), World.cell?_setCell_far _ _ _ _ (fun e => hne e.symm), h0]
  · rw [World.cell?_setCell_far _ _ _ _ (fun e => hne e.symm), World.cell?_setCell_far _ _ _ _ (fun e => hne e.symm), h1]
theorem Fz.set (h : Fz w q) : Fz ((w.setCell ⟨p, 0, none⟩ x').setCell ⟨p, 1, none⟩ y') q := by
  obtain ⟨f0, f1⟩ := h
  constructor <;> simp [go_sem, f0, f1]
theorem Own.far (h : Own B w q x y) (hne : q ≠ p) : Own B ((w.setCell ⟨p, 0, none⟩ x').setCell ⟨p, 1, none⟩ y') q x y := ⟨h.at_.far hne, h.fz.set, h.le⟩
theorem bel_set {W : World} (h : Below W.heap.size W w) (hp : W.heap.size ≤ p) : Below W.heap.size W ((w.setCell ⟨p, 0, none⟩ x').setCell ⟨p, 1, none⟩ y') := (h.setCell hp _).setCell hp _
end
end Bv
end Go.Proofs.Ytigjbngedbbdbaa
