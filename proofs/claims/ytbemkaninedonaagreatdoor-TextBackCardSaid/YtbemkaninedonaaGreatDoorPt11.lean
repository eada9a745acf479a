/-
What Binary of the reference returns, operator by operator.
What Binary of the reference returns, operator by operator.
-/
import Derived.Test.YtbemkaninedonaaGreatDoorBvRefB
import Derived.Test.YtbemkaninedonaaGreatDoorPt08
import Derived.Test.YtbemkaninedonaaGreatDoorPt10
namespace Go.Proofs.YtbemkaninedonaaGreatDoor
open Go.RowKit
namespace Bv
set_option maxHeartbeats 400000
set_option maxRecDepth 100000

theorem rbin_b1 (o w n v m : Nat) (hn6 : n < 18446744073709551616) (HA : Hid (mayB w n = false)) (W : World) :
    Calls Tryz.prog 40 #[.int .u8 o, .agg #[.int .u8 w, .int .u64 n], .agg #[.int .u8 v, .int .u64 m]] W fun e W' => e = .returned (.tuple #[.agg #[.int .u8 0, .int .u64 0], .int .i64 2]) ∧ Below W.heap.size W W' := by
  go_enter Tryz.func40, Tryz.ntmps40
  go_wp2_with fail
  refine (rmay_no hn6 HA.out _).mono ?_; rintro e w1 ⟨rfl, hb1⟩
  have ka : At w1 (W.heap.size) (.int .u8 w) (.int .u64 n) := by have h0 := ((((At.new _ _ _ _).alloc _).alloc _)).keep hb1; simpa using h0
  have la := ka.lt
  have oa := ka
  unfold At at oa
  have kb : At w1 (W.heap.size + 1) (.int .u8 v) (.int .u64 m) := by have h0 := (((At.new _ _ _ _).alloc _)).keep hb1; simpa using h0
  have lb := kb.lt
  have ob := kb
  unfold At at ob
  have kres : At w1 (W.heap.size + 1 + 1) (.int .u8 0) (.int .u64 0) := by have h0 := ((At.new _ _ _ _)).keep hb1; simpa using h0
  have lres := kres.lt
  have ores := kres
  unfold At at ores
  have fres : w1.frozen? ⟨W.heap.size + 1 + 1, 0, none⟩ = false ∧ w1.frozen? ⟨W.heap.size + 1 + 1, 1, none⟩ = false := by constructor <;> (rw [Below.frozen hb1 (by simp)]; simp [go_sem])
  go_wp2_with fail
  refine bodyPost_ret (v := .tuple #[.agg #[.int .u8 0, .int .u64 0], .int .i64 2]) (by simp [results, Tryz.results40, go_sem, ores]) rfl ⟨rfl, ?_⟩
  exact ((bel_call (bel_alloc (bel_alloc (bel_alloc (Below.refl _ _) _) _) _) hb1).setCell (by first | (simp; done) | (simp; omega) | omega) _).setCell (by first | (simp; done) | (simp; omega) | omega) _

theorem rbin_b2 (o w n v m : Nat) (hn6 : n < 18446744073709551616) (hm6 : m < 18446744073709551616) (HA : Hid (mayB w n = true)) (HB : Hid (mayB v m = false)) (W : World) :
    Calls Tryz.prog 40 #[.int .u8 o, .agg #[.int .u8 w, .int .u64 n], .agg #[.int .u8 v, .int .u64 m]] W fun e W' => e = .returned (.tuple #[.agg #[.int .u8 0, .int .u64 0], .int .i64 2]) ∧ Below W.heap.size W W' := by
  go_enter Tryz.func40, Tryz.ntmps40
  go_wp2_with fail
  refine (rmay_yes hn6 HA.out _).mono ?_; rintro e w1 ⟨rfl, hb1⟩
  have ka : At w1 (W.heap.size) (.int .u8 w) (.int .u64 n) := by have h0 := ((((At.new _ _ _ _).alloc _).alloc _)).keep hb1; simpa using h0
  have la := ka.lt
  have oa := ka
  unfold At at oa
  have kb : At w1 (W.heap.size + 1) (.int .u8 v) (.int .u64 m) := by have h0 := (((At.new _ _ _ _).alloc _)).keep hb1; simpa using h0
  have lb := kb.lt
  have ob := kb
  unfold At at ob
  have kres : At w1 (W.heap.size + 1 + 1) (.int .u8 0) (.int .u64 0) := by have h0 := ((At.new _ _ _ _)).keep hb1; simpa using h0
  have lres := kres.lt
  have ores := kres
  unfold At at ores
  have fres : w1.frozen? ⟨W.heap.size + 1 + 1, 0, none⟩ = false ∧ w1.frozen? ⟨W.heap.size + 1 + 1, 1, none⟩ = false := by constructor <;> (rw [Below.frozen hb1 (by simp)]; simp [go_sem])
  go_wp2_with fail
  refine (rmay_no hm6 HB.out _).mono ?_; rintro e w2 ⟨rfl, hb2⟩
  replace ka := ka.keep hb2
  replace la := ka.lt
  replace oa := ka
  unfold At at oa
  replace kb := kb.keep hb2
  replace lb := kb.lt
  replace ob := kb
  unfold At at ob
  replace fres : w2.frozen? ⟨W.heap.size + 1 + 1, 0, none⟩ = false ∧ w2.frozen? ⟨W.heap.size + 1 + 1, 1, none⟩ = false := ⟨(Below.frozen hb2 (p := ⟨_, 0, none⟩) lres).trans fres.1, (Below.frozen hb2 (p := ⟨_, 1, none⟩) lres).trans fres.2⟩
  replace kres := kres.keep hb2
  replace lres := kres.lt
  replace ores := kres
  unfold At at ores
  go_wp2_with fail
  refine bodyPost_ret (v := .tuple #[.agg #[.int .u8 0, .int .u64 0], .int .i64 2]) (by simp [results, Tryz.results40, go_sem, ores]) rfl ⟨rfl, ?_⟩
  exact ((bel_call (bel_call (bel_alloc (bel_alloc (bel_alloc (Below.refl _ _) _) _) _) hb1) hb2).setCell (by first | (simp; done) | (simp; omega) | omega) _).setCell (by first | (simp; done) | (simp; omega) | omega) _

theorem rbin_b3 (w n v m : Nat) (hn6 : n < 18446744073709551616) (hm6 : m < 18446744073709551616) (HA : Hid (mayB w n = true)) (HB : Hid (mayB v m = true)) (hw : w ≤ 64) (hv : v ≤ 64) (h : 64 < w + v) (W : World) :
    Calls Tryz.prog 40 #[.int .u8 21, .agg #[.int .u8 w, .int .u64 n], .agg #[.int .u8 v, .int .u64 m]] W fun e W' => e = .returned (.tuple #[.agg #[.int .u8 0, .int .u64 0], .int .i64 2]) ∧ Below W.heap.size W W' := by
  go_enter Tryz.func40, Tryz.ntmps40
  go_wp2_with fail
  refine (rmay_yes hn6 HA.out _).mono ?_; rintro e w1 ⟨rfl, hb1⟩
  have ka : At w1 (W.heap.size) (.int .u8 w) (.int .u64 n) := by have h0 := ((((At.new _ _ _ _).alloc _).alloc _)).keep hb1; simpa using h0
  have la := ka.lt
  have oa := ka
  unfold At at oa
  have kb : At w1 (W.heap.size + 1) (.int .u8 v) (.int .u64 m) := by have h0 := (((At.new _ _ _ _).alloc _)).keep hb1; simpa using h0
  have lb := kb.lt
  have ob := kb
  unfold At at ob
  have kres : At w1 (W.heap.size + 1 + 1) (.int .u8 0) (.int .u64 0) := by have h0 := ((At.new _ _ _ _)).keep hb1; simpa using h0
  have lres := kres.lt
  have ores := kres
  unfold At at ores
  have fres : w1.frozen? ⟨W.heap.size + 1 + 1, 0, none⟩ = false ∧ w1.frozen? ⟨W.heap.size + 1 + 1, 1, none⟩ = false := by constructor <;> (rw [Below.frozen hb1 (by simp)]; simp [go_sem])
  go_wp2_with fail
  refine (rmay_yes hm6 HB.out _).mono ?_; rintro e w2 ⟨rfl, hb2⟩
  replace ka := ka.keep hb2
  replace la := ka.lt
  replace oa := ka
  unfold At at oa
  replace kb := kb.keep hb2
  replace lb := kb.lt
  replace ob := kb
  unfold At at ob
  replace fres : w2.frozen? ⟨W.heap.size + 1 + 1, 0, none⟩ = false ∧ w2.frozen? ⟨W.heap.size + 1 + 1, 1, none⟩ = false := ⟨(Below.frozen hb2 (p := ⟨_, 0, none⟩) lres).trans fres.1, (Below.frozen hb2 (p := ⟨_, 1, none⟩) lres).trans fres.2⟩
  replace kres := kres.keep hb2
  replace lres := kres.lt
  replace ores := kres
  unfold At at ores
  go_wp2_with fail
  refine bodyPost_ret (v := .tuple #[.agg #[.int .u8 0, .int .u64 0], .int .i64 2]) (by simp [results, Tryz.results40, go_sem, ores]) rfl ⟨rfl, ?_⟩
  exact ((bel_call (bel_call (bel_alloc (bel_alloc (bel_alloc (Below.refl _ _) _) _) _) hb1) hb2).setCell (by first | (simp; done) | (simp; omega) | omega) _).setCell (by first | (simp; done) | (simp; omega) | omega) _

theorem rbin_b4 (o w n v m : Nat) (hn6 : n < 18446744073709551616) (hm6 : m < 18446744073709551616) (HA : Hid (mayB w n = true)) (HB : Hid (mayB v m = true)) (d : ((o : Int) == 21) = false) (h : ((w : Int) != (v : Int)) = true) (W : World) :
    Calls Tryz.prog 40 #[.int .u8 o, .agg #[.int .u8 w, .int .u64 n], .agg #[.int .u8 v, .int .u64 m]] W fun e W' => e = .returned (.tuple #[.agg #[.int .u8 0, .int .u64 0], .int .i64 2]) ∧ Below W.heap.size W W' := by
  go_enter Tryz.func40, Tryz.ntmps40
  go_wp2_with fail
  refine (rmay_yes hn6 HA.out _).mono ?_; rintro e w1 ⟨rfl, hb1⟩
  have ka : At w1 (W.heap.size) (.int .u8 w) (.int .u64 n) := by have h0 := ((((At.new _ _ _ _).alloc _).alloc _)).keep hb1; simpa using h0
  have la := ka.lt
  have oa := ka
  unfold At at oa
  have kb : At w1 (W.heap.size + 1) (.int .u8 v) (.int .u64 m) := by have h0 := (((At.new _ _ _ _).alloc _)).keep hb1; simpa using h0
  have lb := kb.lt
  have ob := kb
  unfold At at ob
  have kres : At w1 (W.heap.size + 1 + 1) (.int .u8 0) (.int .u64 0) := by have h0 := ((At.new _ _ _ _)).keep hb1; simpa using h0
  have lres := kres.lt
  have ores := kres
  unfold At at ores
  have fres : w1.frozen? ⟨W.heap.size + 1 + 1, 0, none⟩ = false ∧ w1.frozen? ⟨W.heap.size + 1 + 1, 1, none⟩ = false := by constructor <;> (rw [Below.frozen hb1 (by simp)]; simp [go_sem])
  go_wp2_with fail
  refine (rmay_yes hm6 HB.out _).mono ?_; rintro e w2 ⟨rfl, hb2⟩
  replace ka := ka.keep hb2
  replace la := ka.lt
  replace oa := ka
  unfold At at oa
  replace kb := kb.keep hb2
  replace lb := kb.lt
  replace ob := kb
  unfold At at ob
  replace fres : w2.frozen? ⟨W.heap.size + 1 + 1, 0, none⟩ = false ∧ w2.frozen? ⟨W.heap.size + 1 + 1, 1, none⟩ = false := ⟨(Below.frozen hb2 (p := ⟨_, 0, none⟩) lres).trans fres.1, (Below.frozen hb2 (p := ⟨_, 1, none⟩) lres).trans fres.2⟩
  replace kres := kres.keep hb2
  replace lres := kres.lt
  replace ores := kres
  unfold At at ores
  go_wp2_with fail
  refine bodyPost_ret (v := .tuple #[.agg #[.int .u8 0, .int .u64 0], .int .i64 2]) (by simp [results, Tryz.results40, go_sem, ores]) rfl ⟨rfl, ?_⟩
  exact ((bel_call (bel_call (bel_alloc (bel_alloc (bel_alloc (Below.refl _ _) _) _) _) hb1) hb2).setCell (by first | (simp; done) | (simp; omega) | omega) _).setCell (by first | (simp; done) | (simp; omega) | omega) _

end Bv
end Go.Proofs.YtbemkaninedonaaGreatDoor

namespace Go.Proofs.YtbemkaninedonaaGreatDoor
open Go.RowKit
namespace Bv
set_option maxHeartbeats 400000
set_option maxRecDepth 100000

theorem num9r (w v n m : Nat) (hm : m < 18446744073709551616) : IntKind.u64.wrap ((n : Int) - (m : Int)) = (numB 9 w v n m : Int) := by
  show _ = (((n + (18446744073709551616 - m)) % 18446744073709551616 : Nat) : Int)
  rw [IntKind.wrap_u64]; omega

theorem rbin_5 (w n v m : Nat) (hn6 : n < 18446744073709551616) (hm6 : m < 18446744073709551616) (HA : Hid (mayB w n = true)) (HB : Hid (mayB v m = true)) (hwv : ((w : Int) != (v : Int)) = false) (hw : w ≤ 64) (W : World) :
    Calls Tryz.prog 40 #[.int .u8 5, .agg #[.int .u8 w, .int .u64 n], .agg #[.int .u8 v, .int .u64 m]] W fun e W' => e = .returned (.tuple #[.agg #[.int .u8 w, .int .u64 (low w (numB 5 w v n m) : Nat)], .int .i64 0]) ∧ Below W.heap.size W W' := by
  have HQ := Lib.hid (show bits BinOp.and IntKind.u64 (n : Int) (m : Int) = ((numB 5 w v n m : Nat) : Int) from bits_and_u64_nat n m hn6 hm6)
  have hb := numB_lt (o := 5) (w := w) (v := v) hn6 hm6
  go_enter Tryz.func40, Tryz.ntmps40
  go_wp2_with fail
  refine (rmay_yes hn6 HA.out _).mono ?_; rintro e w1 ⟨rfl, hb1⟩
  have ka : At w1 (W.heap.size) (.int .u8 w) (.int .u64 n) := by have h0 := ((((At.new _ _ _ _).alloc _).alloc _)).keep hb1; simpa using h0
  have la := ka.lt
  have oa := ka
  unfold At at oa
  have kb : At w1 (W.heap.size + 1) (.int .u8 v) (.int .u64 m) := by have h0 := (((At.new _ _ _ _).alloc _)).keep hb1; simpa using h0
  have lb := kb.lt
  have ob := kb
  unfold At at ob
  have kres : At w1 (W.heap.size + 1 + 1) (.int .u8 0) (.int .u64 0) := by have h0 := ((At.new _ _ _ _)).keep hb1; simpa using h0
  have lres := kres.lt
  have ores := kres
  unfold At at ores
  have fres : w1.frozen? ⟨W.heap.size + 1 + 1, 0, none⟩ = false ∧ w1.frozen? ⟨W.heap.size + 1 + 1, 1, none⟩ = false := by constructor <;> (rw [Below.frozen hb1 (by simp)]; simp [go_sem])
  go_wp2_with fail
  refine (rmay_yes hm6 HB.out _).mono ?_; rintro e w2 ⟨rfl, hb2⟩
  replace ka := ka.keep hb2
  replace la := ka.lt
  replace oa := ka
  unfold At at oa
  replace kb := kb.keep hb2
  replace lb := kb.lt
  replace ob := kb
  unfold At at ob
  replace fres : w2.frozen? ⟨W.heap.size + 1 + 1, 0, none⟩ = false ∧ w2.frozen? ⟨W.heap.size + 1 + 1, 1, none⟩ = false := ⟨(Below.frozen hb2 (p := ⟨_, 0, none⟩) lres).trans fres.1, (Below.frozen hb2 (p := ⟨_, 1, none⟩) lres).trans fres.2⟩
  replace kres := kres.keep hb2
  replace lres := kres.lt
  replace ores := kres
  unfold At at ores
  repeat' (first | ((with_reducible refine wp_exit ?_); (repeat (first | (with_reducible refine ex_then ?_) | (with_reducible refine ex_near ?_) | (refine ex_far (by decide) ?_))); (with_reducible refine ex_go ?_)) | go_values | go_skip | go_guarded | go_step | go_upon)
  go_wp2_with fail
  rw [HQ.out]
  refine (rcut_any w hw _ (by omega) (by omega) _).mono ?_; rintro e w3 ⟨rfl, hb3⟩
  replace ka := ka.keep hb3
  replace la := ka.lt
  replace oa := ka
  unfold At at oa
  replace kb := kb.keep hb3
  replace lb := kb.lt
  replace ob := kb
  unfold At at ob
  replace fres : w3.frozen? ⟨W.heap.size + 1 + 1, 0, none⟩ = false ∧ w3.frozen? ⟨W.heap.size + 1 + 1, 1, none⟩ = false := ⟨(Below.frozen hb3 (p := ⟨_, 0, none⟩) lres).trans fres.1, (Below.frozen hb3 (p := ⟨_, 1, none⟩) lres).trans fres.2⟩
  replace kres := kres.keep hb3
  replace lres := kres.lt
  replace ores := kres
  unfold At at ores
  go_wp2_with fail
  refine bodyPost_ret (v := .tuple #[.agg #[.int .u8 w, .int .u64 (low w (numB 5 w v n m) : Nat)], .int .i64 0]) (by simp [results, Tryz.results40, go_sem, ores]) rfl ⟨rfl, ?_⟩
  exact ((bel_call (bel_call (bel_call (bel_alloc (bel_alloc (bel_alloc (Below.refl _ _) _) _) _) hb1) hb2) hb3).setCell (by first | (simp; done) | (simp; omega) | omega) _).setCell (by first | (simp; done) | (simp; omega) | omega) _

theorem rbin_6 (w n v m : Nat) (hn6 : n < 18446744073709551616) (hm6 : m < 18446744073709551616) (HA : Hid (mayB w n = true)) (HB : Hid (mayB v m = true)) (hwv : ((w : Int) != (v : Int)) = false) (hw : w ≤ 64) (W : World) :
    Calls Tryz.prog 40 #[.int .u8 6, .agg #[.int .u8 w, .int .u64 n], .agg #[.int .u8 v, .int .u64 m]] W fun e W' => e = .returned (.tuple #[.agg #[.int .u8 w, .int .u64 (low w (numB 6 w v n m) : Nat)], .int .i64 0]) ∧ Below W.heap.size W W' := by
  have HQ := Lib.hid (show bits BinOp.or IntKind.u64 (n : Int) (m : Int) = ((numB 6 w v n m : Nat) : Int) from bits_or_u64_nat n m hn6 hm6)
  have hb := numB_lt (o := 6) (w := w) (v := v) hn6 hm6
  go_enter Tryz.func40, Tryz.ntmps40
  go_wp2_with fail
  refine (rmay_yes hn6 HA.out _).mono ?_; rintro e w1 ⟨rfl, hb1⟩
  have ka : At w1 (W.heap.size) (.int .u8 w) (.int .u64 n) := by have h0 := ((((At.new _ _ _ _).alloc _).alloc _)).keep hb1; simpa using h0
  have la := ka.lt
  have oa := ka
  unfold At at oa
  have kb : At w1 (W.heap.size + 1) (.int .u8 v) (.int .u64 m) := by have h0 := (((At.new _ _ _ _).alloc _)).keep hb1; simpa using h0
  have lb := kb.lt
  have ob := kb
  unfold At at ob
  have kres : At w1 (W.heap.size + 1 + 1) (.int .u8 0) (.int .u64 0) := by have h0 := ((At.new _ _ _ _)).keep hb1; simpa using h0
  have lres := kres.lt
  have ores := kres
  unfold At at ores
  have fres : w1.frozen? ⟨W.heap.size + 1 + 1, 0, none⟩ = false ∧ w1.frozen? ⟨W.heap.size + 1 + 1, 1, none⟩ = false := by constructor <;> (rw [Below.frozen hb1 (by simp)]; simp [go_sem])
  go_wp2_with fail
  refine (rmay_yes hm6 HB.out _).mono ?_; rintro e w2 ⟨rfl, hb2⟩
  replace ka := ka.keep hb2
  replace la := ka.lt
  replace oa := ka
  unfold At at oa
  replace kb := kb.keep hb2
  replace lb := kb.lt
  replace ob := kb
  unfold At at ob
  replace fres : w2.frozen? ⟨W.heap.size + 1 + 1, 0, none⟩ = false ∧ w2.frozen? ⟨W.heap.size + 1 + 1, 1, none⟩ = false := ⟨(Below.frozen hb2 (p := ⟨_, 0, none⟩) lres).trans fres.1, (Below.frozen hb2 (p := ⟨_, 1, none⟩) lres).trans fres.2⟩
  replace kres := kres.keep hb2
  replace lres := kres.lt
  replace ores := kres
  unfold At at ores
  repeat' (first | ((with_reducible refine wp_exit ?_); (repeat (first | (with_reducible refine ex_then ?_) | (with_reducible refine ex_near ?_) | (refine ex_far (by decide) ?_))); (with_reducible refine ex_go ?_)) | go_values | go_skip | go_guarded | go_step | go_upon)
  go_wp2_with fail
  rw [HQ.out]
  refine (rcut_any w hw _ (by omega) (by omega) _).mono ?_; rintro e w3 ⟨rfl, hb3⟩
  replace ka := ka.keep hb3
  replace la := ka.lt
  replace oa := ka
  unfold At at oa
  replace kb := kb.keep hb3
  replace lb := kb.lt
  replace ob := kb
  unfold At at ob
  replace fres : w3.frozen? ⟨W.heap.size + 1 + 1, 0, none⟩ = false ∧ w3.frozen? ⟨W.heap.size + 1 + 1, 1, none⟩ = false := ⟨(Below.frozen hb3 (p := ⟨_, 0, none⟩) lres).trans fres.1, (Below.frozen hb3 (p := ⟨_, 1, none⟩) lres).trans fres.2⟩
  replace kres := kres.keep hb3
  replace lres := kres.lt
  replace ores := kres
  unfold At at ores
  go_wp2_with fail
  refine bodyPost_ret (v := .tuple #[.agg #[.int .u8 w, .int .u64 (low w (numB 6 w v n m) : Nat)], .int .i64 0]) (by simp [results, Tryz.results40, go_sem, ores]) rfl ⟨rfl, ?_⟩
  exact ((bel_call (bel_call (bel_call (bel_alloc (bel_alloc (bel_alloc (Below.refl _ _) _) _) _) hb1) hb2) hb3).setCell (by first | (simp; done) | (simp; omega) | omega) _).setCell (by first | (simp; done) | (simp; omega) | omega) _

theorem rbin_7 (w n v m : Nat) (hn6 : n < 18446744073709551616) (hm6 : m < 18446744073709551616) (HA : Hid (mayB w n = true)) (HB : Hid (mayB v m = true)) (hwv : ((w : Int) != (v : Int)) = false) (hw : w ≤ 64) (W : World) :
    Calls Tryz.prog 40 #[.int .u8 7, .agg #[.int .u8 w, .int .u64 n], .agg #[.int .u8 v, .int .u64 m]] W fun e W' => e = .returned (.tuple #[.agg #[.int .u8 w, .int .u64 (low w (numB 7 w v n m) : Nat)], .int .i64 0]) ∧ Below W.heap.size W W' := by
  have HQ := Lib.hid (show bits BinOp.xor IntKind.u64 (n : Int) (m : Int) = ((numB 7 w v n m : Nat) : Int) from bits_xor_u64_nat n m hn6 hm6)
  have hb := numB_lt (o := 7) (w := w) (v := v) hn6 hm6
  go_enter Tryz.func40, Tryz.ntmps40
  go_wp2_with fail
  refine (rmay_yes hn6 HA.out _).mono ?_; rintro e w1 ⟨rfl, hb1⟩
  have ka : At w1 (W.heap.size) (.int .u8 w) (.int .u64 n) := by have h0 := ((((At.new _ _ _ _).alloc _).alloc _)).keep hb1; simpa using h0
  have la := ka.lt
  have oa := ka
  unfold At at oa
  have kb : At w1 (W.heap.size + 1) (.int .u8 v) (.int .u64 m) := by have h0 := (((At.new _ _ _ _).alloc _)).keep hb1; simpa using h0
  have lb := kb.lt
  have ob := kb
  unfold At at ob
  have kres : At w1 (W.heap.size + 1 + 1) (.int .u8 0) (.int .u64 0) := by have h0 := ((At.new _ _ _ _)).keep hb1; simpa using h0
  have lres := kres.lt
  have ores := kres
  unfold At at ores
  have fres : w1.frozen? ⟨W.heap.size + 1 + 1, 0, none⟩ = false ∧ w1.frozen? ⟨W.heap.size + 1 + 1, 1, none⟩ = false := by constructor <;> (rw [Below.frozen hb1 (by simp)]; simp [go_sem])
  go_wp2_with fail
  refine (rmay_yes hm6 HB.out _).mono ?_; rintro e w2 ⟨rfl, hb2⟩
  replace ka := ka.keep hb2
  replace la := ka.lt
  replace oa := ka
  unfold At at oa
  replace kb := kb.keep hb2
  replace lb := kb.lt
  replace ob := kb
  unfold At at ob
  replace fres : w2.frozen? ⟨W.heap.size + 1 + 1, 0, none⟩ = false ∧ w2.frozen? ⟨W.heap.size + 1 + 1, 1, none⟩ = false := ⟨(Below.frozen hb2 (p := ⟨_, 0, none⟩) lres).trans fres.1, (Below.frozen hb2 (p := ⟨_, 1, none⟩) lres).trans fres.2⟩
  replace kres := kres.keep hb2
  replace lres := kres.lt
  replace ores := kres
  unfold At at ores
  repeat' (first | ((with_reducible refine wp_exit ?_); (repeat (first | (with_reducible refine ex_then ?_) | (with_reducible refine ex_near ?_) | (refine ex_far (by decide) ?_))); (with_reducible refine ex_go ?_)) | go_values | go_skip | go_guarded | go_step | go_upon)
  go_wp2_with fail
  rw [HQ.out]
  refine (rcut_any w hw _ (by omega) (by omega) _).mono ?_; rintro e w3 ⟨rfl, hb3⟩
  replace ka := ka.keep hb3
  replace la := ka.lt
  replace oa := ka
  unfold At at oa
  replace kb := kb.keep hb3
  replace lb := kb.lt
  replace ob := kb
  unfold At at ob
  replace fres : w3.frozen? ⟨W.heap.size + 1 + 1, 0, none⟩ = false ∧ w3.frozen? ⟨W.heap.size + 1 + 1, 1, none⟩ = false := ⟨(Below.frozen hb3 (p := ⟨_, 0, none⟩) lres).trans fres.1, (Below.frozen hb3 (p := ⟨_, 1, none⟩) lres).trans fres.2⟩
  replace kres := kres.keep hb3
  replace lres := kres.lt
  replace ores := kres
  unfold At at ores
  go_wp2_with fail
  refine bodyPost_ret (v := .tuple #[.agg #[.int .u8 w, .int .u64 (low w (numB 7 w v n m) : Nat)], .int .i64 0]) (by simp [results, Tryz.results40, go_sem, ores]) rfl ⟨rfl, ?_⟩
  exact ((bel_call (bel_call (bel_call (bel_alloc (bel_alloc (bel_alloc (Below.refl _ _) _) _) _) hb1) hb2) hb3).setCell (by first | (simp; done) | (simp; omega) | omega) _).setCell (by first | (simp; done) | (simp; omega) | omega) _

theorem rbin_8 (w n v m : Nat) (hn6 : n < 18446744073709551616) (hm6 : m < 18446744073709551616) (HA : Hid (mayB w n = true)) (HB : Hid (mayB v m = true)) (hwv : ((w : Int) != (v : Int)) = false) (hw : w ≤ 64) (W : World) :
    Calls Tryz.prog 40 #[.int .u8 8, .agg #[.int .u8 w, .int .u64 n], .agg #[.int .u8 v, .int .u64 m]] W fun e W' => e = .returned (.tuple #[.agg #[.int .u8 w, .int .u64 (low w (numB 8 w v n m) : Nat)], .int .i64 0]) ∧ Below W.heap.size W W' := by
  have HQ := Lib.hid (num8 w v n m)
  have hb := numB_lt (o := 8) (w := w) (v := v) hn6 hm6
  go_enter Tryz.func40, Tryz.ntmps40
  go_wp2_with fail
  refine (rmay_yes hn6 HA.out _).mono ?_; rintro e w1 ⟨rfl, hb1⟩
  have ka : At w1 (W.heap.size) (.int .u8 w) (.int .u64 n) := by have h0 := ((((At.new _ _ _ _).alloc _).alloc _)).keep hb1; simpa using h0
  have la := ka.lt
  have oa := ka
  unfold At at oa
  have kb : At w1 (W.heap.size + 1) (.int .u8 v) (.int .u64 m) := by have h0 := (((At.new _ _ _ _).alloc _)).keep hb1; simpa using h0
  have lb := kb.lt
  have ob := kb
  unfold At at ob
  have kres : At w1 (W.heap.size + 1 + 1) (.int .u8 0) (.int .u64 0) := by have h0 := ((At.new _ _ _ _)).keep hb1; simpa using h0
  have lres := kres.lt
  have ores := kres
  unfold At at ores
  have fres : w1.frozen? ⟨W.heap.size + 1 + 1, 0, none⟩ = false ∧ w1.frozen? ⟨W.heap.size + 1 + 1, 1, none⟩ = false := by constructor <;> (rw [Below.frozen hb1 (by simp)]; simp [go_sem])
  go_wp2_with fail
  refine (rmay_yes hm6 HB.out _).mono ?_; rintro e w2 ⟨rfl, hb2⟩
  replace ka := ka.keep hb2
  replace la := ka.lt
  replace oa := ka
  unfold At at oa
  replace kb := kb.keep hb2
  replace lb := kb.lt
  replace ob := kb
  unfold At at ob
  replace fres : w2.frozen? ⟨W.heap.size + 1 + 1, 0, none⟩ = false ∧ w2.frozen? ⟨W.heap.size + 1 + 1, 1, none⟩ = false := ⟨(Below.frozen hb2 (p := ⟨_, 0, none⟩) lres).trans fres.1, (Below.frozen hb2 (p := ⟨_, 1, none⟩) lres).trans fres.2⟩
  replace kres := kres.keep hb2
  replace lres := kres.lt
  replace ores := kres
  unfold At at ores
  repeat' (first | ((with_reducible refine wp_exit ?_); (repeat (first | (with_reducible refine ex_then ?_) | (with_reducible refine ex_near ?_) | (refine ex_far (by decide) ?_))); (with_reducible refine ex_go ?_)) | go_values | go_skip | go_guarded | go_step | go_upon)
  go_wp2_with fail
  rw [HQ.out]
  refine (rcut_any w hw _ (by omega) (by omega) _).mono ?_; rintro e w3 ⟨rfl, hb3⟩
  replace ka := ka.keep hb3
  replace la := ka.lt
  replace oa := ka
  unfold At at oa
  replace kb := kb.keep hb3
  replace lb := kb.lt
  replace ob := kb
  unfold At at ob
  replace fres : w3.frozen? ⟨W.heap.size + 1 + 1, 0, none⟩ = false ∧ w3.frozen? ⟨W.heap.size + 1 + 1, 1, none⟩ = false := ⟨(Below.frozen hb3 (p := ⟨_, 0, none⟩) lres).trans fres.1, (Below.frozen hb3 (p := ⟨_, 1, none⟩) lres).trans fres.2⟩
  replace kres := kres.keep hb3
  replace lres := kres.lt
  replace ores := kres
  unfold At at ores
  go_wp2_with fail
  refine bodyPost_ret (v := .tuple #[.agg #[.int .u8 w, .int .u64 (low w (numB 8 w v n m) : Nat)], .int .i64 0]) (by simp [results, Tryz.results40, go_sem, ores]) rfl ⟨rfl, ?_⟩
  exact ((bel_call (bel_call (bel_call (bel_alloc (bel_alloc (bel_alloc (Below.refl _ _) _) _) _) hb1) hb2) hb3).setCell (by first | (simp; done) | (simp; omega) | omega) _).setCell (by first | (simp; done) | (simp; omega) | omega) _

theorem rbin_9 (w n v m : Nat) (hn6 : n < 18446744073709551616) (hm6 : m < 18446744073709551616) (HA : Hid (mayB w n = true)) (HB : Hid (mayB v m = true)) (hwv : ((w : Int) != (v : Int)) = false) (hw : w ≤ 64) (W : World) :
    Calls Tryz.prog 40 #[.int .u8 9, .agg #[.int .u8 w, .int .u64 n], .agg #[.int .u8 v, .int .u64 m]] W fun e W' => e = .returned (.tuple #[.agg #[.int .u8 w, .int .u64 (low w (numB 9 w v n m) : Nat)], .int .i64 0]) ∧ Below W.heap.size W W' := by
  have HQ := Lib.hid (num9r w v n m hm6)
  have hb := numB_lt (o := 9) (w := w) (v := v) hn6 hm6
  go_enter Tryz.func40, Tryz.ntmps40
  go_wp2_with fail
  refine (rmay_yes hn6 HA.out _).mono ?_; rintro e w1 ⟨rfl, hb1⟩
  have ka : At w1 (W.heap.size) (.int .u8 w) (.int .u64 n) := by have h0 := ((((At.new _ _ _ _).alloc _).alloc _)).keep hb1; simpa using h0
  have la := ka.lt
  have oa := ka
  unfold At at oa
  have kb : At w1 (W.heap.size + 1) (.int .u8 v) (.int .u64 m) := by have h0 := (((At.new _ _ _ _).alloc _)).keep hb1; simpa using h0
  have lb := kb.lt
  have ob := kb
  unfold At at ob
  have kres : At w1 (W.heap.size + 1 + 1) (.int .u8 0) (.int .u64 0) := by have h0 := ((At.new _ _ _ _)).keep hb1; simpa using h0
  have lres := kres.lt
  have ores := kres
  unfold At at ores
  have fres : w1.frozen? ⟨W.heap.size + 1 + 1, 0, none⟩ = false ∧ w1.frozen? ⟨W.heap.size + 1 + 1, 1, none⟩ = false := by constructor <;> (rw [Below.frozen hb1 (by simp)]; simp [go_sem])
  go_wp2_with fail
  refine (rmay_yes hm6 HB.out _).mono ?_; rintro e w2 ⟨rfl, hb2⟩
  replace ka := ka.keep hb2
  replace la := ka.lt
  replace oa := ka
  unfold At at oa
  replace kb := kb.keep hb2
  replace lb := kb.lt
  replace ob := kb
  unfold At at ob
  replace fres : w2.frozen? ⟨W.heap.size + 1 + 1, 0, none⟩ = false ∧ w2.frozen? ⟨W.heap.size + 1 + 1, 1, none⟩ = false := ⟨(Below.frozen hb2 (p := ⟨_, 0, none⟩) lres).trans fres.1, (Below.frozen hb2 (p := ⟨_, 1, none⟩) lres).trans fres.2⟩
  replace kres := kres.keep hb2
  replace lres := kres.lt
  replace ores := kres
  unfold At at ores
  repeat' (first | ((with_reducible refine wp_exit ?_); (repeat (first | (with_reducible refine ex_then ?_) | (with_reducible refine ex_near ?_) | (refine ex_far (by decide) ?_))); (with_reducible refine ex_go ?_)) | go_values | go_skip | go_guarded | go_step | go_upon)
  go_wp2_with fail
  rw [HQ.out]
  refine (rcut_any w hw _ (by omega) (by omega) _).mono ?_; rintro e w3 ⟨rfl, hb3⟩
  replace ka := ka.keep hb3
  replace la := ka.lt
  replace oa := ka
  unfold At at oa
  replace kb := kb.keep hb3
  replace lb := kb.lt
  replace ob := kb
  unfold At at ob
  replace fres : w3.frozen? ⟨W.heap.size + 1 + 1, 0, none⟩ = false ∧ w3.frozen? ⟨W.heap.size + 1 + 1, 1, none⟩ = false := ⟨(Below.frozen hb3 (p := ⟨_, 0, none⟩) lres).trans fres.1, (Below.frozen hb3 (p := ⟨_, 1, none⟩) lres).trans fres.2⟩
  replace kres := kres.keep hb3
  replace lres := kres.lt
  replace ores := kres
  unfold At at ores
  go_wp2_with fail
  refine bodyPost_ret (v := .tuple #[.agg #[.int .u8 w, .int .u64 (low w (numB 9 w v n m) : Nat)], .int .i64 0]) (by simp [results, Tryz.results40, go_sem, ores]) rfl ⟨rfl, ?_⟩
  exact ((bel_call (bel_call (bel_call (bel_alloc (bel_alloc (bel_alloc (Below.refl _ _) _) _) _) hb1) hb2) hb3).setCell (by first | (simp; done) | (simp; omega) | omega) _).setCell (by first | (simp; done) | (simp; omega) | omega) _

theorem rbin_18 (w n v m : Nat) (hn6 : n < 18446744073709551616) (hm6 : m < 18446744073709551616) (HA : Hid (mayB w n = true)) (HB : Hid (mayB v m = true)) (hwv : ((w : Int) != (v : Int)) = false)  (W : World) :
    Calls Tryz.prog 40 #[.int .u8 18, .agg #[.int .u8 w, .int .u64 n], .agg #[.int .u8 v, .int .u64 m]] W fun e W' => e = .returned (.tuple #[.agg #[.int .u8 1, .int .u64 ((((n : Int) == (m : Int)) : Bool).toNat : Nat)], .int .i64 0]) ∧ Below W.heap.size W W' := by
  go_enter Tryz.func40, Tryz.ntmps40
  go_wp2_with fail
  refine (rmay_yes hn6 HA.out _).mono ?_; rintro e w1 ⟨rfl, hb1⟩
  have ka : At w1 (W.heap.size) (.int .u8 w) (.int .u64 n) := by have h0 := ((((At.new _ _ _ _).alloc _).alloc _)).keep hb1; simpa using h0
  have la := ka.lt
  have oa := ka
  unfold At at oa
  have kb : At w1 (W.heap.size + 1) (.int .u8 v) (.int .u64 m) := by have h0 := (((At.new _ _ _ _).alloc _)).keep hb1; simpa using h0
  have lb := kb.lt
  have ob := kb
  unfold At at ob
  have kres : At w1 (W.heap.size + 1 + 1) (.int .u8 0) (.int .u64 0) := by have h0 := ((At.new _ _ _ _)).keep hb1; simpa using h0
  have lres := kres.lt
  have ores := kres
  unfold At at ores
  have fres : w1.frozen? ⟨W.heap.size + 1 + 1, 0, none⟩ = false ∧ w1.frozen? ⟨W.heap.size + 1 + 1, 1, none⟩ = false := by constructor <;> (rw [Below.frozen hb1 (by simp)]; simp [go_sem])
  go_wp2_with fail
  refine (rmay_yes hm6 HB.out _).mono ?_; rintro e w2 ⟨rfl, hb2⟩
  replace ka := ka.keep hb2
  replace la := ka.lt
  replace oa := ka
  unfold At at oa
  replace kb := kb.keep hb2
  replace lb := kb.lt
  replace ob := kb
  unfold At at ob
  replace fres : w2.frozen? ⟨W.heap.size + 1 + 1, 0, none⟩ = false ∧ w2.frozen? ⟨W.heap.size + 1 + 1, 1, none⟩ = false := ⟨(Below.frozen hb2 (p := ⟨_, 0, none⟩) lres).trans fres.1, (Below.frozen hb2 (p := ⟨_, 1, none⟩) lres).trans fres.2⟩
  replace kres := kres.keep hb2
  replace lres := kres.lt
  replace ores := kres
  unfold At at ores
  repeat' (first | ((with_reducible refine wp_exit ?_); (repeat (first | (with_reducible refine ex_then ?_) | (with_reducible refine ex_near ?_) | (refine ex_far (by decide) ?_))); (with_reducible refine ex_go ?_)) | go_values | go_skip | go_guarded | go_step | go_upon)
  go_wp2_with fail
  refine (flag_any _ _).mono ?_; rintro e w3 ⟨rfl, hb3⟩
  replace ka := ka.keep hb3
  replace la := ka.lt
  replace oa := ka
  unfold At at oa
  replace kb := kb.keep hb3
  replace lb := kb.lt
  replace ob := kb
  unfold At at ob
  replace fres : w3.frozen? ⟨W.heap.size + 1 + 1, 0, none⟩ = false ∧ w3.frozen? ⟨W.heap.size + 1 + 1, 1, none⟩ = false := ⟨(Below.frozen hb3 (p := ⟨_, 0, none⟩) lres).trans fres.1, (Below.frozen hb3 (p := ⟨_, 1, none⟩) lres).trans fres.2⟩
  replace kres := kres.keep hb3
  replace lres := kres.lt
  replace ores := kres
  unfold At at ores
  go_wp2_with fail
  refine bodyPost_ret (v := .tuple #[.agg #[.int .u8 1, .int .u64 ((((n : Int) == (m : Int)) : Bool).toNat : Nat)], .int .i64 0]) (by simp [results, Tryz.results40, go_sem, ores]) rfl ⟨rfl, ?_⟩
  exact ((bel_call (bel_call (bel_call (bel_alloc (bel_alloc (bel_alloc (Below.refl _ _) _) _) _) hb1) hb2) hb3).setCell (by first | (simp; done) | (simp; omega) | omega) _).setCell (by first | (simp; done) | (simp; omega) | omega) _

theorem rbin_19 (w n v m : Nat) (hn6 : n < 18446744073709551616) (hm6 : m < 18446744073709551616) (HA : Hid (mayB w n = true)) (HB : Hid (mayB v m = true)) (hwv : ((w : Int) != (v : Int)) = false)  (W : World) :
    Calls Tryz.prog 40 #[.int .u8 19, .agg #[.int .u8 w, .int .u64 n], .agg #[.int .u8 v, .int .u64 m]] W fun e W' => e = .returned (.tuple #[.agg #[.int .u8 1, .int .u64 ((decide ((n : Int) < (m : Int)) : Bool).toNat : Nat)], .int .i64 0]) ∧ Below W.heap.size W W' := by
  go_enter Tryz.func40, Tryz.ntmps40
  go_wp2_with fail
  refine (rmay_yes hn6 HA.out _).mono ?_; rintro e w1 ⟨rfl, hb1⟩
  have ka : At w1 (W.heap.size) (.int .u8 w) (.int .u64 n) := by have h0 := ((((At.new _ _ _ _).alloc _).alloc _)).keep hb1; simpa using h0
  have la := ka.lt
  have oa := ka
  unfold At at oa
  have kb : At w1 (W.heap.size + 1) (.int .u8 v) (.int .u64 m) := by have h0 := (((At.new _ _ _ _).alloc _)).keep hb1; simpa using h0
  have lb := kb.lt
  have ob := kb
  unfold At at ob
  have kres : At w1 (W.heap.size + 1 + 1) (.int .u8 0) (.int .u64 0) := by have h0 := ((At.new _ _ _ _)).keep hb1; simpa using h0
  have lres := kres.lt
  have ores := kres
  unfold At at ores
  have fres : w1.frozen? ⟨W.heap.size + 1 + 1, 0, none⟩ = false ∧ w1.frozen? ⟨W.heap.size + 1 + 1, 1, none⟩ = false := by constructor <;> (rw [Below.frozen hb1 (by simp)]; simp [go_sem])
  go_wp2_with fail
  refine (rmay_yes hm6 HB.out _).mono ?_; rintro e w2 ⟨rfl, hb2⟩
  replace ka := ka.keep hb2
  replace la := ka.lt
  replace oa := ka
  unfold At at oa
  replace kb := kb.keep hb2
  replace lb := kb.lt
  replace ob := kb
  unfold At at ob
  replace fres : w2.frozen? ⟨W.heap.size + 1 + 1, 0, none⟩ = false ∧ w2.frozen? ⟨W.heap.size + 1 + 1, 1, none⟩ = false := ⟨(Below.frozen hb2 (p := ⟨_, 0, none⟩) lres).trans fres.1, (Below.frozen hb2 (p := ⟨_, 1, none⟩) lres).trans fres.2⟩
  replace kres := kres.keep hb2
  replace lres := kres.lt
  replace ores := kres
  unfold At at ores
  repeat' (first | ((with_reducible refine wp_exit ?_); (repeat (first | (with_reducible refine ex_then ?_) | (with_reducible refine ex_near ?_) | (refine ex_far (by decide) ?_))); (with_reducible refine ex_go ?_)) | go_values | go_skip | go_guarded | go_step | go_upon)
  go_wp2_with fail
  refine (flag_any _ _).mono ?_; rintro e w3 ⟨rfl, hb3⟩
  replace ka := ka.keep hb3
  replace la := ka.lt
  replace oa := ka
  unfold At at oa
  replace kb := kb.keep hb3
  replace lb := kb.lt
  replace ob := kb
  unfold At at ob
  replace fres : w3.frozen? ⟨W.heap.size + 1 + 1, 0, none⟩ = false ∧ w3.frozen? ⟨W.heap.size + 1 + 1, 1, none⟩ = false := ⟨(Below.frozen hb3 (p := ⟨_, 0, none⟩) lres).trans fres.1, (Below.frozen hb3 (p := ⟨_, 1, none⟩) lres).trans fres.2⟩
  replace kres := kres.keep hb3
  replace lres := kres.lt
  replace ores := kres
  unfold At at ores
  go_wp2_with fail
  refine bodyPost_ret (v := .tuple #[.agg #[.int .u8 1, .int .u64 ((decide ((n : Int) < (m : Int)) : Bool).toNat : Nat)], .int .i64 0]) (by simp [results, Tryz.results40, go_sem, ores]) rfl ⟨rfl, ?_⟩
  exact ((bel_call (bel_call (bel_call (bel_alloc (bel_alloc (bel_alloc (Below.refl _ _) _) _) _) hb1) hb2) hb3).setCell (by first | (simp; done) | (simp; omega) | omega) _).setCell (by first | (simp; done) | (simp; omega) | omega) _

theorem rbin_20 (w n v m : Nat) (hn6 : n < 18446744073709551616) (hm6 : m < 18446744073709551616) (HA : Hid (mayB w n = true)) (HB : Hid (mayB v m = true)) (hwv : ((w : Int) != (v : Int)) = false) (b : Bool) (HL : Hid (∀ W : World, Calls Tryz.prog 63 #[.agg #[.int .u8 w, .int .u64 n], .agg #[.int .u8 v, .int .u64 m]] W fun e W' => e = .returned (.bool b) ∧ Below W.heap.size W W')) (W : World) :
    Calls Tryz.prog 40 #[.int .u8 20, .agg #[.int .u8 w, .int .u64 n], .agg #[.int .u8 v, .int .u64 m]] W fun e W' => e = .returned (.tuple #[.agg #[.int .u8 1, .int .u64 ((b : Bool).toNat : Nat)], .int .i64 0]) ∧ Below W.heap.size W W' := by
  go_enter Tryz.func40, Tryz.ntmps40
  go_wp2_with fail
  refine (rmay_yes hn6 HA.out _).mono ?_; rintro e w1 ⟨rfl, hb1⟩
  have ka : At w1 (W.heap.size) (.int .u8 w) (.int .u64 n) := by have h0 := ((((At.new _ _ _ _).alloc _).alloc _)).keep hb1; simpa using h0
  have la := ka.lt
  have oa := ka
  unfold At at oa
  have kb : At w1 (W.heap.size + 1) (.int .u8 v) (.int .u64 m) := by have h0 := (((At.new _ _ _ _).alloc _)).keep hb1; simpa using h0
  have lb := kb.lt
  have ob := kb
  unfold At at ob
  have kres : At w1 (W.heap.size + 1 + 1) (.int .u8 0) (.int .u64 0) := by have h0 := ((At.new _ _ _ _)).keep hb1; simpa using h0
  have lres := kres.lt
  have ores := kres
  unfold At at ores
  have fres : w1.frozen? ⟨W.heap.size + 1 + 1, 0, none⟩ = false ∧ w1.frozen? ⟨W.heap.size + 1 + 1, 1, none⟩ = false := by constructor <;> (rw [Below.frozen hb1 (by simp)]; simp [go_sem])
  go_wp2_with fail
  refine (rmay_yes hm6 HB.out _).mono ?_; rintro e w2 ⟨rfl, hb2⟩
  replace ka := ka.keep hb2
  replace la := ka.lt
  replace oa := ka
  unfold At at oa
  replace kb := kb.keep hb2
  replace lb := kb.lt
  replace ob := kb
  unfold At at ob
  replace fres : w2.frozen? ⟨W.heap.size + 1 + 1, 0, none⟩ = false ∧ w2.frozen? ⟨W.heap.size + 1 + 1, 1, none⟩ = false := ⟨(Below.frozen hb2 (p := ⟨_, 0, none⟩) lres).trans fres.1, (Below.frozen hb2 (p := ⟨_, 1, none⟩) lres).trans fres.2⟩
  replace kres := kres.keep hb2
  replace lres := kres.lt
  replace ores := kres
  unfold At at ores
  repeat' (first | ((with_reducible refine wp_exit ?_); (repeat (first | (with_reducible refine ex_then ?_) | (with_reducible refine ex_near ?_) | (refine ex_far (by decide) ?_))); (with_reducible refine ex_go ?_)) | go_values | go_skip | go_guarded | go_step | go_upon)
  go_wp2_with fail
  refine (HL.out _).mono ?_; rintro e w3 ⟨rfl, hb3⟩
  replace ka := ka.keep hb3
  replace la := ka.lt
  replace oa := ka
  unfold At at oa
  replace kb := kb.keep hb3
  replace lb := kb.lt
  replace ob := kb
  unfold At at ob
  replace fres : w3.frozen? ⟨W.heap.size + 1 + 1, 0, none⟩ = false ∧ w3.frozen? ⟨W.heap.size + 1 + 1, 1, none⟩ = false := ⟨(Below.frozen hb3 (p := ⟨_, 0, none⟩) lres).trans fres.1, (Below.frozen hb3 (p := ⟨_, 1, none⟩) lres).trans fres.2⟩
  replace kres := kres.keep hb3
  replace lres := kres.lt
  replace ores := kres
  unfold At at ores
  go_wp2_with fail
  refine (flag_any b _).mono ?_; rintro e w4 ⟨rfl, hb4⟩
  replace ka := ka.keep hb4
  replace la := ka.lt
  replace oa := ka
  unfold At at oa
  replace kb := kb.keep hb4
  replace lb := kb.lt
  replace ob := kb
  unfold At at ob
  replace fres : w4.frozen? ⟨W.heap.size + 1 + 1, 0, none⟩ = false ∧ w4.frozen? ⟨W.heap.size + 1 + 1, 1, none⟩ = false := ⟨(Below.frozen hb4 (p := ⟨_, 0, none⟩) lres).trans fres.1, (Below.frozen hb4 (p := ⟨_, 1, none⟩) lres).trans fres.2⟩
  replace kres := kres.keep hb4
  replace lres := kres.lt
  replace ores := kres
  unfold At at ores
  go_wp2_with fail
  refine bodyPost_ret (v := .tuple #[.agg #[.int .u8 1, .int .u64 ((b : Bool).toNat : Nat)], .int .i64 0]) (by simp [results, Tryz.results40, go_sem, ores]) rfl ⟨rfl, ?_⟩
  exact ((bel_call (bel_call (bel_call (bel_call (bel_alloc (bel_alloc (bel_alloc (Below.refl _ _) _) _) _) hb1) hb2) hb3) hb4).setCell (by first | (simp; done) | (simp; omega) | omega) _).setCell (by first | (simp; done) | (simp; omega) | omega) _

end Bv
end Go.Proofs.YtbemkaninedonaaGreatDoor
