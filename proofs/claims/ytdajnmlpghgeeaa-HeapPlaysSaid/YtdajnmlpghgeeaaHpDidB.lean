/-
  One act is done to both heaps: Bump, Pop, Put.
-/
import Derived.Test.YtdajnmlpghgeeaaHpDid
namespace Go.Proofs.Ytdajnmlpghgeeaa
open Go.RowKit
namespace Hp
set_option maxHeartbeats 3200000
set_option maxRecDepth 100000

theorem did_pop {B : Nat} {W : World} {p sb tb qb rp rsb rib n m : Nat} {S T P : Nat → Nat} {R : List Nat} {I : List Bool} (h : Two B W p sb tb qb rp rsb rib n m S T P R I) (hB : B ≤ W.heap.size) (v : Int) (y : Nat) : Calls Try.prog 10 #[.pointer (some ⟨p, 0, none⟩), .pointer (some ⟨rp, 0, none⟩), .agg #[.int .i64 2, .int .i64 v, .float .f64 y]] W (DidE B W p rp n) := by
  have h1 := h.same ((Only.refl [] W).alloc (.cells #[.int .i64 2, .int .i64 v, .float .f64 y] 34))
  have HH := Lib.hid h1
  have HW : Hid (B ≤ (W.alloc (.cells #[.int .i64 2, .int .i64 v, .float .f64 y] 34)).heap.size ∧ Below B W (W.alloc (.cells #[.int .i64 2, .int .i64 v, .float .f64 y] 34))) := Lib.hid ⟨by simp; omega, (Below.refl _ _).alloc hB _⟩
  have hf := h1.a.first h1.h.ord h1.h.fit
  have HRP := Lib.hid (fun (w' : World) (k : RHp w' rp rsb rib R I) => rpop_any k)
  cases m with
  | zero =>
    rw [if_pos rfl] at hf
    have HP := Lib.hid (pop_none h1.h)
    have HF := Lib.hid hf
    clear h h1 hB hf
    go_enter Try.func10, Try.ntmps10
    go_wp2_with fail
    generalize W.alloc (.cells #[.int .i64 2, .int .i64 v, .float .f64 y] 34) = U at *
    refine HP.out.mono ?_
    rintro e U ⟨rfl, rfl⟩
    go_wp2_with fail
    refine (HRP.out _ HH.out.r).mono ?_
    rintro e w2 hp2
    unfold PopE at hp2
    rw [if_pos HF.out] at hp2
    obtain ⟨rfl, hr2, ho2⟩ := hp2
    have H2 : Hid (DidE B W p rp n (.returned (.bool true)) w2) := Lib.hid (by
      obtain ⟨q1, q2, q3, q4, q5, q6, q7⟩ := HH.out.b
      exact ⟨rfl, ⟨sb, tb, qb, rsb, rib, 0, S, T, P, R, I, HH.out.rOnly ho2, hr2, HH.out.a, HH.out.b, HH.out.d⟩, HW.out.2.trans (ho2.below (by simp; omega) HW.out.1)⟩)
    clear hr2 ho2
    go_wp2_with fail
    go_ret
    exact H2.out
  | succ m =>
    rw [if_neg (by omega)] at hf
    have HP := Lib.hid (pop_yes h1.h)
    have HF := Lib.hid hf
    have ht := (h1.h.fit.t 1 (by omega) (by omega)).2.1
    have HTN := Lib.hid ht
    clear h h1 hB hf ht
    go_enter Try.func10, Try.ntmps10
    go_wp2_with fail
    generalize W.alloc (.cells #[.int .i64 2, .int .i64 v, .float .f64 y] 34) = U at *
    refine HP.out.mono ?_
    rintro e w1 ⟨rfl, T1, Q1, g, gz, gq, go⟩
    have H1 : Hid (HAt w1 p sb tb qb n m S T1 Q1 ∧ Q1 (T 1) = 0 ∧ (∀ u, 1 ≤ u → u ≤ n → u ≠ T 1 → (P u = 0 ↔ Q1 u = 0)) ∧ Only [p, sb, tb, qb] U w1) := Lib.hid ⟨g, gz, gq, go⟩
    have HR1 := Lib.hid (HH.out.hOnly go)
    clear g gz gq go
    go_wp2_with fail
    refine (HRP.out _ HR1.out).mono ?_
    rintro e w2 hp2
    unfold PopE at hp2
    rw [HF.out.1, if_neg HF.out.2] at hp2
    obtain ⟨rfl, hr2, ho2⟩ := hp2
    have H2 : Hid (DidE B W p rp n (.returned (.bool true)) w2) := Lib.hid (by
      obtain ⟨⟨a1, a2, a3, a4⟩, ⟨b1, b2, b3, b4⟩, ⟨c1, c2, c3, c4⟩⟩ := HH.out.d
      obtain ⟨q1, q2, q3, q4, q5, q6, q7⟩ := HH.out.b
      exact ⟨rfl, ⟨sb, tb, qb, rsb, rib, m, S, T1, Q1, R, I.set (T 1) false, H1.out.1.only ho2 (by simp; omega) (by simp; omega) (by simp; omega) (by simp; omega), hr2, HH.out.a.pop HTN.out H1.out.2.1 H1.out.2.2.1, HH.out.b, HH.out.d⟩,
        (HW.out.2.trans (H1.out.2.2.2.below (by simp; omega) HW.out.1)).trans (ho2.below (by simp; omega) (Nat.le_trans HW.out.1 H1.out.2.2.2.size))⟩)
    clear hr2 ho2
    go_wp2_with fail
    go_ret
    exact H2.out
theorem did_bump_no {B : Nat} {W : World} {p sb tb qb rp rsb rib n m : Nat} {S T P : Nat → Nat} {R : List Nat} {I : List Bool} (h : Two B W p sb tb qb rp rsb rib n m S T P R I) (hB : B ≤ W.heap.size) (v : Int) (hv : isV n v = false) (y : Nat) : Calls Try.prog 10 #[.pointer (some ⟨p, 0, none⟩), .pointer (some ⟨rp, 0, none⟩), .agg #[.int .i64 0, .int .i64 v, .float .f64 y]] W (DidE B W p rp n) := by
  have h1 := h.same ((Only.refl [] W).alloc (.cells #[.int .i64 0, .int .i64 v, .float .f64 y] 34))
  have hsz := h.h.h.lt
  have hsr := h.r.lt
  have hU : B ≤ (W.alloc (.cells #[.int .i64 0, .int .i64 v, .float .f64 y] 34)).heap.size ∧ Below B W (W.alloc (.cells #[.int .i64 0, .int .i64 v, .float .f64 y] 34)) := ⟨by simp; omega, (Below.refl _ _).alloc hB _⟩
  have hu1 : (W.alloc (.cells #[.int .i64 0, .int .i64 v, .float .f64 y] 34)).cell? ⟨W.heap.size, 1, none⟩ = some (.int .i64 v) := by simp
  have hu2 : (W.alloc (.cells #[.int .i64 0, .int .i64 v, .float .f64 y] 34)).cell? ⟨W.heap.size, 2, none⟩ = some (.float .f64 y) := by simp
  have huz : W.heap.size < (W.alloc (.cells #[.int .i64 0, .int .i64 v, .float .f64 y] 34)).heap.size := by simp
  have hth : thereP R v = false := by rw [there_is h.a.rl]; exact hv
  have HC1 : Hid (∀ w0, Only [] (W.alloc (.cells #[.int .i64 0, .int .i64 v, .float .f64 y] 34)) w0 → Calls Try.prog 18 #[.pointer (some ⟨p, 0, none⟩), .int .i64 v, .float .f64 y] w0 fun e w1 => e = .returned (.int .i64 2) ∧ (w1.cell? ⟨W.heap.size, 1, none⟩ = some (.int .i64 v) ∧ w1.cell? ⟨W.heap.size, 2, none⟩ = some (.float .f64 y)) ∧ Hid (Two B w1 p sb tb qb rp rsb rib n m S T P R I ∧ Only [p, sb, tb, qb] (W.alloc (.cells #[.int .i64 0, .int .i64 v, .float .f64 y] 34)) w1)) := Lib.hid (fun w0 o0 => by
    have h0 := h1.same o0
    refine (bump_no h0.h hv y).mono ?_
    rintro e w1 ⟨rfl, rfl⟩
    exact ⟨rfl, ⟨(o0.box huz (by simp) 1).trans hu1, (o0.box huz (by simp) 2).trans hu2⟩, Lib.hid ⟨h0, ⟨o0.os, o0.tape, o0.output, o0.size, fun k a _ => o0.blk k a (by simp)⟩⟩⟩)
  have HC2 : Hid (∀ w1 w0, Hid (Two B w1 p sb tb qb rp rsb rib n m S T P R I ∧ Only [p, sb, tb, qb] (W.alloc (.cells #[.int .i64 0, .int .i64 v, .float .f64 y] 34)) w1) → Only [] w1 w0 → Calls Try.prog 25 #[.pointer (some ⟨rp, 0, none⟩), .int .i64 v, .float .f64 y] w0 fun e w2 => e = .returned (.int .i64 2) ∧ (w2.cell? ⟨W.heap.size, 1, none⟩ = some (.int .i64 v) ∧ w2.cell? ⟨W.heap.size, 2, none⟩ = some (.float .f64 y)) ∧ Hid (DidE B W p rp n (.returned (.bool true)) w2)) := Lib.hid (fun w1 w0 HM o0 => by
    obtain ⟨⟨a1, a2, a3, a4⟩, ⟨b1, b2, b3, b4⟩, ⟨k1, k2, k3, k4⟩⟩ := h1.d
    obtain ⟨q1, q2, q3, q4, q5, q6, q7⟩ := h1.b
    have hr0 : RHp w0 rp rsb rib R I := (HM.out.1.r).only o0 (by simp) (by simp) (by simp)
    refine (rbump_any hr0 v y).mono ?_
    rintro e w2 ⟨r, rfl, _, hr2, o2⟩
    rw [hth] at hr2 ⊢
    simp only [Bool.false_eq_true, if_false] at hr2
    have hb1 : W.heap.size < w1.heap.size := Nat.lt_of_lt_of_le huz HM.out.2.size
    have o3 : Only [rsb, rib] w1 w2 := (show Only [rsb, rib] w1 w0 from ⟨o0.os, o0.tape, o0.output, o0.size, fun k a _ => o0.blk k a (by simp)⟩).trans o2
    have m1 := (HM.out.2.box huz (by simp; omega) 1).trans hu1
    have m2 := (HM.out.2.box huz (by simp; omega) 2).trans hu2
    refine ⟨by simp, ⟨(o3.box hb1 (by simp; omega) 1).trans m1, (o3.box hb1 (by simp; omega) 2).trans m2⟩, Lib.hid ⟨rfl, ?_, (hU.2.trans (HM.out.2.below (by simp; omega) hU.1)).trans (o3.below (by simp; omega) (Nat.le_trans hU.1 HM.out.2.size))⟩⟩
    exact ⟨sb, tb, qb, rsb, rib, m, S, T, P, R, I, HM.out.1.rOnly o3, hr2, HM.out.1.a, HM.out.1.b, HM.out.1.d⟩)
  clear h h1 hsz hsr hU hu1 hu2 huz hB hth hv
  go_enter Try.func10, Try.ntmps10
  go_wp2_with fail
  go_region_held3 (fun w' => w'.cell? ⟨W.heap.size, 1, none⟩ = some (.int .i64 v) ∧ w'.cell? ⟨W.heap.size, 2, none⟩ = some (.float .f64 y))
    (first | (refine ⟨?_, ?_⟩ <;> assumption) | (go_keep; done))
    (first | (go_at_call 18; refine (HC1.out _ ?_).mono ?_; exact ⟨rfl, rfl, rfl, Nat.le_refl _, fun _ _ _ => rfl⟩; rintro e w1 ⟨rfl, ⟨g1, g2⟩, HX1⟩) | (go_at_call 25; refine (HC2.out _ _ HX1 ?_).mono ?_; exact ⟨rfl, rfl, rfl, Nat.le_refl _, fun _ _ _ => rfl⟩; rintro e w2 ⟨rfl, ⟨g3, g4⟩, HX2⟩))
  all_goals go_wp2_with fail
  all_goals go_ret
  all_goals exact HX2.out
theorem did_put_no {B : Nat} {W : World} {p sb tb qb rp rsb rib n m : Nat} {S T P : Nat → Nat} {R : List Nat} {I : List Bool} (h : Two B W p sb tb qb rp rsb rib n m S T P R I) (hB : B ≤ W.heap.size) (v : Int) (hv : isV n v = false) (y : Nat) : Calls Try.prog 10 #[.pointer (some ⟨p, 0, none⟩), .pointer (some ⟨rp, 0, none⟩), .agg #[.int .i64 3, .int .i64 v, .float .f64 y]] W (DidE B W p rp n) := by
  have h1 := h.same ((Only.refl [] W).alloc (.cells #[.int .i64 3, .int .i64 v, .float .f64 y] 34))
  have hsz := h.h.h.lt
  have hsr := h.r.lt
  have hU : B ≤ (W.alloc (.cells #[.int .i64 3, .int .i64 v, .float .f64 y] 34)).heap.size ∧ Below B W (W.alloc (.cells #[.int .i64 3, .int .i64 v, .float .f64 y] 34)) := ⟨by simp; omega, (Below.refl _ _).alloc hB _⟩
  have hu1 : (W.alloc (.cells #[.int .i64 3, .int .i64 v, .float .f64 y] 34)).cell? ⟨W.heap.size, 1, none⟩ = some (.int .i64 v) := by simp
  have hu2 : (W.alloc (.cells #[.int .i64 3, .int .i64 v, .float .f64 y] 34)).cell? ⟨W.heap.size, 2, none⟩ = some (.float .f64 y) := by simp
  have huz : W.heap.size < (W.alloc (.cells #[.int .i64 3, .int .i64 v, .float .f64 y] 34)).heap.size := by simp
  have hth : thereP R v = false := by rw [there_is h.a.rl]; exact hv
  have HC1 : Hid (∀ w0, Only [] (W.alloc (.cells #[.int .i64 3, .int .i64 v, .float .f64 y] 34)) w0 → Calls Try.prog 21 #[.pointer (some ⟨p, 0, none⟩), .int .i64 v] w0 fun e w1 => e = .returned (.int .i64 2) ∧ (w1.cell? ⟨W.heap.size, 1, none⟩ = some (.int .i64 v) ∧ w1.cell? ⟨W.heap.size, 2, none⟩ = some (.float .f64 y)) ∧ Hid (Two B w1 p sb tb qb rp rsb rib n m S T P R I ∧ Only [p, sb, tb, qb] (W.alloc (.cells #[.int .i64 3, .int .i64 v, .float .f64 y] 34)) w1)) := Lib.hid (fun w0 o0 => by
    have h0 := h1.same o0
    refine (put_no h0.h hv).mono ?_
    rintro e w1 ⟨rfl, rfl⟩
    exact ⟨rfl, ⟨(o0.box huz (by simp) 1).trans hu1, (o0.box huz (by simp) 2).trans hu2⟩, Lib.hid ⟨h0, ⟨o0.os, o0.tape, o0.output, o0.size, fun k a _ => o0.blk k a (by simp)⟩⟩⟩)
  have HC2 : Hid (∀ w1 w0, Hid (Two B w1 p sb tb qb rp rsb rib n m S T P R I ∧ Only [p, sb, tb, qb] (W.alloc (.cells #[.int .i64 3, .int .i64 v, .float .f64 y] 34)) w1) → Only [] w1 w0 → Calls Try.prog 28 #[.pointer (some ⟨rp, 0, none⟩), .int .i64 v] w0 fun e w2 => e = .returned (.int .i64 2) ∧ (w2.cell? ⟨W.heap.size, 1, none⟩ = some (.int .i64 v) ∧ w2.cell? ⟨W.heap.size, 2, none⟩ = some (.float .f64 y)) ∧ Hid (DidE B W p rp n (.returned (.bool true)) w2)) := Lib.hid (fun w1 w0 HM o0 => by
    obtain ⟨⟨a1, a2, a3, a4⟩, ⟨b1, b2, b3, b4⟩, ⟨k1, k2, k3, k4⟩⟩ := h1.d
    obtain ⟨q1, q2, q3, q4, q5, q6, q7⟩ := h1.b
    have hr0 : RHp w0 rp rsb rib R I := (HM.out.1.r).only o0 (by simp) (by simp) (by simp)
    refine (rput_any hr0 v).mono ?_
    rintro e w2 ⟨rfl, hr2, o2⟩
    rw [hth] at hr2 ⊢
    simp only [Bool.false_eq_true, if_false] at hr2
    have hb1 : W.heap.size < w1.heap.size := Nat.lt_of_lt_of_le huz HM.out.2.size
    have o3 : Only [rsb, rib] w1 w2 := (show Only [rsb, rib] w1 w0 from ⟨o0.os, o0.tape, o0.output, o0.size, fun k a _ => o0.blk k a (by simp)⟩).trans o2
    have m1 := (HM.out.2.box huz (by simp; omega) 1).trans hu1
    have m2 := (HM.out.2.box huz (by simp; omega) 2).trans hu2
    refine ⟨by simp, ⟨(o3.box hb1 (by simp; omega) 1).trans m1, (o3.box hb1 (by simp; omega) 2).trans m2⟩, Lib.hid ⟨rfl, ?_, (hU.2.trans (HM.out.2.below (by simp; omega) hU.1)).trans (o3.below (by simp; omega) (Nat.le_trans hU.1 HM.out.2.size))⟩⟩
    exact ⟨sb, tb, qb, rsb, rib, m, S, T, P, R, I, HM.out.1.rOnly o3, hr2, HM.out.1.a, HM.out.1.b, HM.out.1.d⟩)
  clear h h1 hsz hsr hU hu1 hu2 huz hB hth hv
  go_enter Try.func10, Try.ntmps10
  go_wp2_with fail
  go_region_held3 (fun w' => w'.cell? ⟨W.heap.size, 1, none⟩ = some (.int .i64 v) ∧ w'.cell? ⟨W.heap.size, 2, none⟩ = some (.float .f64 y))
    (first | (refine ⟨?_, ?_⟩ <;> assumption) | (go_keep; done))
    (first | (go_at_call 21; refine (HC1.out _ ?_).mono ?_; exact ⟨rfl, rfl, rfl, Nat.le_refl _, fun _ _ _ => rfl⟩; rintro e w1 ⟨rfl, ⟨g1, g2⟩, HX1⟩) | (go_at_call 28; refine (HC2.out _ _ HX1 ?_).mono ?_; exact ⟨rfl, rfl, rfl, Nat.le_refl _, fun _ _ _ => rfl⟩; rintro e w2 ⟨rfl, ⟨g3, g4⟩, HX2⟩))
  all_goals go_wp2_with fail
  all_goals go_ret
  all_goals exact HX2.out
theorem did_bump_yes {B : Nat} {W : World} {p sb tb qb rp rsb rib n m : Nat} {S T P : Nat → Nat} {R : List Nat} {I : List Bool} (h : Two B W p sb tb qb rp rsb rib n m S T P R I) (hB : B ≤ W.heap.size) (v : Nat) (h1v : 1 ≤ v) (h2v : v ≤ n) (y : Nat) : Calls Try.prog 10 #[.pointer (some ⟨p, 0, none⟩), .pointer (some ⟨rp, 0, none⟩), .agg #[.int .i64 0, .int .i64 ((v : Nat) : Int), .float .f64 y]] W (DidE B W p rp n) := by
  have h1 := h.same ((Only.refl [] W).alloc (.cells #[.int .i64 0, .int .i64 ((v : Nat) : Int), .float .f64 y] 34))
  have hsz := h.h.h.lt
  have hsr := h.r.lt
  have hU : B ≤ (W.alloc (.cells #[.int .i64 0, .int .i64 ((v : Nat) : Int), .float .f64 y] 34)).heap.size ∧ Below B W (W.alloc (.cells #[.int .i64 0, .int .i64 ((v : Nat) : Int), .float .f64 y] 34)) := ⟨by simp; omega, (Below.refl _ _).alloc hB _⟩
  have hu1 : (W.alloc (.cells #[.int .i64 0, .int .i64 ((v : Nat) : Int), .float .f64 y] 34)).cell? ⟨W.heap.size, 1, none⟩ = some (.int .i64 ((v : Nat) : Int)) := by simp
  have hu2 : (W.alloc (.cells #[.int .i64 0, .int .i64 ((v : Nat) : Int), .float .f64 y] 34)).cell? ⟨W.heap.size, 2, none⟩ = some (.float .f64 y) := by simp
  have huz : W.heap.size < (W.alloc (.cells #[.int .i64 0, .int .i64 ((v : Nat) : Int), .float .f64 y] 34)).heap.size := by simp
  have hth : thereP R ((v : Nat) : Int) = true := by rw [there_is h.a.rl]; exact isV_of h1v h2v
  have HC1 : Hid (∀ w0, Only [] (W.alloc (.cells #[.int .i64 0, .int .i64 ((v : Nat) : Int), .float .f64 y] 34)) w0 → Calls Try.prog 18 #[.pointer (some ⟨p, 0, none⟩), .int .i64 ((v : Nat) : Int), .float .f64 y] w0 fun e w1 => e = .returned (.int .i64 0) ∧ (w1.cell? ⟨W.heap.size, 1, none⟩ = some (.int .i64 ((v : Nat) : Int)) ∧ w1.cell? ⟨W.heap.size, 2, none⟩ = some (.float .f64 y)) ∧ Hid (((∃ (T1 Q1 : Nat → Nat) (r : Nat), mayBe (FloatKind.f64.format.add (S v) y) r ∧ HAt w1 p sb tb qb n m (upd S v r) T1 Q1 ∧ SameIn P Q1) ∧ RHp w1 rp rsb rib R I ∧ True) ∧ Only [p, sb, tb, qb] (W.alloc (.cells #[.int .i64 0, .int .i64 ((v : Nat) : Int), .float .f64 y] 34)) w1)) := Lib.hid (fun w0 o0 => by
    have h0 := h1.same o0
    refine (bump_yes h0.h h1v h2v y).mono ?_
    rintro e w1 ⟨rfl, r, T1, Q1, hr, g, gs, go⟩
    have o3 : Only [p, sb, tb, qb] (W.alloc (.cells #[.int .i64 0, .int .i64 ((v : Nat) : Int), .float .f64 y] 34)) w1 := (show Only [p, sb, tb, qb] (W.alloc (.cells #[.int .i64 0, .int .i64 ((v : Nat) : Int), .float .f64 y] 34)) w0 from ⟨o0.os, o0.tape, o0.output, o0.size, fun k a _ => o0.blk k a (by simp)⟩).trans go
    exact ⟨rfl, ⟨(o3.box huz (by simp; omega) 1).trans hu1, (o3.box huz (by simp; omega) 2).trans hu2⟩, Lib.hid ⟨⟨⟨T1, Q1, r, hr, g, gs⟩, h0.hOnly go, trivial⟩, o3⟩⟩)
  have HC2 : Hid (∀ w1 w0, Hid (((∃ (T1 Q1 : Nat → Nat) (r : Nat), mayBe (FloatKind.f64.format.add (S v) y) r ∧ HAt w1 p sb tb qb n m (upd S v r) T1 Q1 ∧ SameIn P Q1) ∧ RHp w1 rp rsb rib R I ∧ True) ∧ Only [p, sb, tb, qb] (W.alloc (.cells #[.int .i64 0, .int .i64 ((v : Nat) : Int), .float .f64 y] 34)) w1) → Only [] w1 w0 → Calls Try.prog 25 #[.pointer (some ⟨rp, 0, none⟩), .int .i64 ((v : Nat) : Int), .float .f64 y] w0 fun e w2 => e = .returned (.int .i64 0) ∧ (w2.cell? ⟨W.heap.size, 1, none⟩ = some (.int .i64 ((v : Nat) : Int)) ∧ w2.cell? ⟨W.heap.size, 2, none⟩ = some (.float .f64 y)) ∧ Hid (DidE B W p rp n (.returned (.bool true)) w2)) := Lib.hid (fun w1 w0 HM o0 => by
    obtain ⟨⟨a1, a2, a3, a4⟩, ⟨b1, b2, b3, b4⟩, ⟨k1, k2, k3, k4⟩⟩ := h1.d
    obtain ⟨q1, q2, q3, q4, q5, q6, q7⟩ := h1.b
    have hr0 : RHp w0 rp rsb rib R I := (HM.out.1.2.1).only o0 (by simp) (by simp) (by simp)
    refine (rbump_any hr0 ((v : Nat) : Int) y).mono ?_
    rintro e w2 ⟨s, rfl, hs, hr2, o2⟩
    rw [hth] at hr2 ⊢
    simp only [if_true, Int.toNat_natCast] at hr2 hs
    have hb1 : W.heap.size < w1.heap.size := Nat.lt_of_lt_of_le huz HM.out.2.size
    have o3 : Only [rsb, rib] w1 w2 := (show Only [rsb, rib] w1 w0 from ⟨o0.os, o0.tape, o0.output, o0.size, fun k a _ => o0.blk k a (by simp)⟩).trans o2
    have m1 := (HM.out.2.box huz (by simp; omega) 1).trans hu1
    have m2 := (HM.out.2.box huz (by simp; omega) 2).trans hu2
    refine ⟨by simp, ⟨(o3.box hb1 (by simp; omega) 1).trans m1, (o3.box hb1 (by simp; omega) 2).trans m2⟩, Lib.hid ⟨rfl, ?_, (hU.2.trans (HM.out.2.below (by simp; omega) hU.1)).trans (o3.below (by simp; omega) (Nat.le_trans hU.1 HM.out.2.size))⟩⟩
    obtain ⟨T1, Q1, r, hr, g1, gs⟩ := HM.out.1.1
    exact ⟨sb, tb, qb, rsb, rib, m, upd S v r, T1, Q1, R.set v s, I, g1.only o3 (by simp; omega) (by simp; omega) (by simp; omega) (by simp; omega), hr2, h1.a.bump h1v h2v hr hs gs, h1.b, h1.d⟩)
  clear h h1 hsz hsr hU hu1 hu2 huz hB hth h1v h2v
  go_enter Try.func10, Try.ntmps10
  go_wp2_with fail
  go_region_held3 (fun w' => w'.cell? ⟨W.heap.size, 1, none⟩ = some (.int .i64 ((v : Nat) : Int)) ∧ w'.cell? ⟨W.heap.size, 2, none⟩ = some (.float .f64 y))
    (first | (refine ⟨?_, ?_⟩ <;> assumption) | (go_keep; done))
    (first | (go_at_call 18; refine (HC1.out _ ?_).mono ?_; exact ⟨rfl, rfl, rfl, Nat.le_refl _, fun _ _ _ => rfl⟩; rintro e w1 ⟨rfl, ⟨g1, g2⟩, HX1⟩) | (go_at_call 25; refine (HC2.out _ _ HX1 ?_).mono ?_; exact ⟨rfl, rfl, rfl, Nat.le_refl _, fun _ _ _ => rfl⟩; rintro e w2 ⟨rfl, ⟨g3, g4⟩, HX2⟩))
  all_goals go_wp2_with fail
  all_goals go_ret
  all_goals exact HX2.out
theorem did_put_in {B : Nat} {W : World} {p sb tb qb rp rsb rib n m : Nat} {S T P : Nat → Nat} {R : List Nat} {I : List Bool} (h : Two B W p sb tb qb rp rsb rib n m S T P R I) (hB : B ≤ W.heap.size) (v : Nat) (h1v : 1 ≤ v) (h2v : v ≤ n) (hpv : P v ≠ 0) (y : Nat) : Calls Try.prog 10 #[.pointer (some ⟨p, 0, none⟩), .pointer (some ⟨rp, 0, none⟩), .agg #[.int .i64 3, .int .i64 ((v : Nat) : Int), .float .f64 y]] W (DidE B W p rp n) := by
  have h1 := h.same ((Only.refl [] W).alloc (.cells #[.int .i64 3, .int .i64 ((v : Nat) : Int), .float .f64 y] 34))
  have hsz := h.h.h.lt
  have hsr := h.r.lt
  have hU : B ≤ (W.alloc (.cells #[.int .i64 3, .int .i64 ((v : Nat) : Int), .float .f64 y] 34)).heap.size ∧ Below B W (W.alloc (.cells #[.int .i64 3, .int .i64 ((v : Nat) : Int), .float .f64 y] 34)) := ⟨by simp; omega, (Below.refl _ _).alloc hB _⟩
  have hu1 : (W.alloc (.cells #[.int .i64 3, .int .i64 ((v : Nat) : Int), .float .f64 y] 34)).cell? ⟨W.heap.size, 1, none⟩ = some (.int .i64 ((v : Nat) : Int)) := by simp
  have hu2 : (W.alloc (.cells #[.int .i64 3, .int .i64 ((v : Nat) : Int), .float .f64 y] 34)).cell? ⟨W.heap.size, 2, none⟩ = some (.float .f64 y) := by simp
  have huz : W.heap.size < (W.alloc (.cells #[.int .i64 3, .int .i64 ((v : Nat) : Int), .float .f64 y] 34)).heap.size := by simp
  have hth : thereP R ((v : Nat) : Int) = true := by rw [there_is h.a.rl]; exact isV_of h1v h2v
  have HC1 : Hid (∀ w0, Only [] (W.alloc (.cells #[.int .i64 3, .int .i64 ((v : Nat) : Int), .float .f64 y] 34)) w0 → Calls Try.prog 21 #[.pointer (some ⟨p, 0, none⟩), .int .i64 ((v : Nat) : Int)] w0 fun e w1 => e = .returned (.int .i64 0) ∧ (w1.cell? ⟨W.heap.size, 1, none⟩ = some (.int .i64 ((v : Nat) : Int)) ∧ w1.cell? ⟨W.heap.size, 2, none⟩ = some (.float .f64 y)) ∧ Hid (Two B w1 p sb tb qb rp rsb rib n m S T P R I ∧ Only [p, sb, tb, qb] (W.alloc (.cells #[.int .i64 3, .int .i64 ((v : Nat) : Int), .float .f64 y] 34)) w1)) := Lib.hid (fun w0 o0 => by
    have h0 := h1.same o0
    refine (put_in h0.h h1v h2v hpv).mono ?_
    rintro e w1 ⟨rfl, rfl⟩
    exact ⟨rfl, ⟨(o0.box huz (by simp) 1).trans hu1, (o0.box huz (by simp) 2).trans hu2⟩, Lib.hid ⟨h0, ⟨o0.os, o0.tape, o0.output, o0.size, fun k a _ => o0.blk k a (by simp)⟩⟩⟩)
  have HC2 : Hid (∀ w1 w0, Hid (Two B w1 p sb tb qb rp rsb rib n m S T P R I ∧ Only [p, sb, tb, qb] (W.alloc (.cells #[.int .i64 3, .int .i64 ((v : Nat) : Int), .float .f64 y] 34)) w1) → Only [] w1 w0 → Calls Try.prog 28 #[.pointer (some ⟨rp, 0, none⟩), .int .i64 ((v : Nat) : Int)] w0 fun e w2 => e = .returned (.int .i64 0) ∧ (w2.cell? ⟨W.heap.size, 1, none⟩ = some (.int .i64 ((v : Nat) : Int)) ∧ w2.cell? ⟨W.heap.size, 2, none⟩ = some (.float .f64 y)) ∧ Hid (DidE B W p rp n (.returned (.bool true)) w2)) := Lib.hid (fun w1 w0 HM o0 => by
    obtain ⟨⟨a1, a2, a3, a4⟩, ⟨b1, b2, b3, b4⟩, ⟨k1, k2, k3, k4⟩⟩ := h1.d
    obtain ⟨q1, q2, q3, q4, q5, q6, q7⟩ := h1.b
    have hr0 : RHp w0 rp rsb rib R I := (HM.out.1.r).only o0 (by simp) (by simp) (by simp)
    refine (rput_any hr0 ((v : Nat) : Int)).mono ?_
    rintro e w2 ⟨rfl, hr2, o2⟩
    rw [hth] at hr2 ⊢
    simp only [if_true, Int.toNat_natCast] at hr2
    have hb1 : W.heap.size < w1.heap.size := Nat.lt_of_lt_of_le huz HM.out.2.size
    have o3 : Only [rsb, rib] w1 w2 := (show Only [rsb, rib] w1 w0 from ⟨o0.os, o0.tape, o0.output, o0.size, fun k a _ => o0.blk k a (by simp)⟩).trans o2
    have m1 := (HM.out.2.box huz (by simp; omega) 1).trans hu1
    have m2 := (HM.out.2.box huz (by simp; omega) 2).trans hu2
    refine ⟨by simp, ⟨(o3.box hb1 (by simp; omega) 1).trans m1, (o3.box hb1 (by simp; omega) 2).trans m2⟩, Lib.hid ⟨rfl, ?_, (hU.2.trans (HM.out.2.below (by simp; omega) hU.1)).trans (o3.below (by simp; omega) (Nat.le_trans hU.1 HM.out.2.size))⟩⟩
    exact ⟨sb, tb, qb, rsb, rib, m, S, T, P, R, I.set v true, HM.out.1.rOnly o3, hr2, HM.out.1.a.put h2v hpv (fun u _ => Iff.rfl), HM.out.1.b, HM.out.1.d⟩)
  clear h h1 hsz hsr hU hu1 hu2 huz hB hth h1v h2v hpv
  go_enter Try.func10, Try.ntmps10
  go_wp2_with fail
  go_region_held3 (fun w' => w'.cell? ⟨W.heap.size, 1, none⟩ = some (.int .i64 ((v : Nat) : Int)) ∧ w'.cell? ⟨W.heap.size, 2, none⟩ = some (.float .f64 y))
    (first | (refine ⟨?_, ?_⟩ <;> assumption) | (go_keep; done))
    (first | (go_at_call 21; refine (HC1.out _ ?_).mono ?_; exact ⟨rfl, rfl, rfl, Nat.le_refl _, fun _ _ _ => rfl⟩; rintro e w1 ⟨rfl, ⟨g1, g2⟩, HX1⟩) | (go_at_call 28; refine (HC2.out _ _ HX1 ?_).mono ?_; exact ⟨rfl, rfl, rfl, Nat.le_refl _, fun _ _ _ => rfl⟩; rintro e w2 ⟨rfl, ⟨g3, g4⟩, HX2⟩))
  all_goals go_wp2_with fail
  all_goals go_ret
  all_goals exact HX2.out
theorem did_put_yes {B : Nat} {W : World} {p sb tb qb rp rsb rib n m : Nat} {S T P : Nat → Nat} {R : List Nat} {I : List Bool} (h : Two B W p sb tb qb rp rsb rib n m S T P R I) (hB : B ≤ W.heap.size) (v : Nat) (h1v : 1 ≤ v) (h2v : v ≤ n) (hpv : P v = 0) (y : Nat) : Calls Try.prog 10 #[.pointer (some ⟨p, 0, none⟩), .pointer (some ⟨rp, 0, none⟩), .agg #[.int .i64 3, .int .i64 ((v : Nat) : Int), .float .f64 y]] W (DidE B W p rp n) := by
  have h1 := h.same ((Only.refl [] W).alloc (.cells #[.int .i64 3, .int .i64 ((v : Nat) : Int), .float .f64 y] 34))
  have hsz := h.h.h.lt
  have hsr := h.r.lt
  have hU : B ≤ (W.alloc (.cells #[.int .i64 3, .int .i64 ((v : Nat) : Int), .float .f64 y] 34)).heap.size ∧ Below B W (W.alloc (.cells #[.int .i64 3, .int .i64 ((v : Nat) : Int), .float .f64 y] 34)) := ⟨by simp; omega, (Below.refl _ _).alloc hB _⟩
  have hu1 : (W.alloc (.cells #[.int .i64 3, .int .i64 ((v : Nat) : Int), .float .f64 y] 34)).cell? ⟨W.heap.size, 1, none⟩ = some (.int .i64 ((v : Nat) : Int)) := by simp
  have hu2 : (W.alloc (.cells #[.int .i64 3, .int .i64 ((v : Nat) : Int), .float .f64 y] 34)).cell? ⟨W.heap.size, 2, none⟩ = some (.float .f64 y) := by simp
  have huz : W.heap.size < (W.alloc (.cells #[.int .i64 3, .int .i64 ((v : Nat) : Int), .float .f64 y] 34)).heap.size := by simp
  have hth : thereP R ((v : Nat) : Int) = true := by rw [there_is h.a.rl]; exact isV_of h1v h2v
  have HC1 : Hid (∀ w0, Only [] (W.alloc (.cells #[.int .i64 3, .int .i64 ((v : Nat) : Int), .float .f64 y] 34)) w0 → Calls Try.prog 21 #[.pointer (some ⟨p, 0, none⟩), .int .i64 ((v : Nat) : Int)] w0 fun e w1 => e = .returned (.int .i64 0) ∧ (w1.cell? ⟨W.heap.size, 1, none⟩ = some (.int .i64 ((v : Nat) : Int)) ∧ w1.cell? ⟨W.heap.size, 2, none⟩ = some (.float .f64 y)) ∧ Hid (((∃ (T1 Q1 : Nat → Nat), HAt w1 p sb tb qb n (m + 1) S T1 Q1 ∧ Q1 v ≠ 0 ∧ (∀ u, u ≠ v → (P u = 0 ↔ Q1 u = 0))) ∧ RHp w1 rp rsb rib R I ∧ True) ∧ Only [p, sb, tb, qb] (W.alloc (.cells #[.int .i64 3, .int .i64 ((v : Nat) : Int), .float .f64 y] 34)) w1)) := Lib.hid (fun w0 o0 => by
    have h0 := h1.same o0
    refine (put_yes h0.h h1v h2v hpv).mono ?_
    rintro e w1 ⟨rfl, T1, Q1, g, gz, gq, go⟩
    have o3 : Only [p, sb, tb, qb] (W.alloc (.cells #[.int .i64 3, .int .i64 ((v : Nat) : Int), .float .f64 y] 34)) w1 := (show Only [p, sb, tb, qb] (W.alloc (.cells #[.int .i64 3, .int .i64 ((v : Nat) : Int), .float .f64 y] 34)) w0 from ⟨o0.os, o0.tape, o0.output, o0.size, fun k a _ => o0.blk k a (by simp)⟩).trans go
    exact ⟨rfl, ⟨(o3.box huz (by simp; omega) 1).trans hu1, (o3.box huz (by simp; omega) 2).trans hu2⟩, Lib.hid ⟨⟨⟨T1, Q1, g, gz, gq⟩, h0.hOnly go, trivial⟩, o3⟩⟩)
  have HC2 : Hid (∀ w1 w0, Hid (((∃ (T1 Q1 : Nat → Nat), HAt w1 p sb tb qb n (m + 1) S T1 Q1 ∧ Q1 v ≠ 0 ∧ (∀ u, u ≠ v → (P u = 0 ↔ Q1 u = 0))) ∧ RHp w1 rp rsb rib R I ∧ True) ∧ Only [p, sb, tb, qb] (W.alloc (.cells #[.int .i64 3, .int .i64 ((v : Nat) : Int), .float .f64 y] 34)) w1) → Only [] w1 w0 → Calls Try.prog 28 #[.pointer (some ⟨rp, 0, none⟩), .int .i64 ((v : Nat) : Int)] w0 fun e w2 => e = .returned (.int .i64 0) ∧ (w2.cell? ⟨W.heap.size, 1, none⟩ = some (.int .i64 ((v : Nat) : Int)) ∧ w2.cell? ⟨W.heap.size, 2, none⟩ = some (.float .f64 y)) ∧ Hid (DidE B W p rp n (.returned (.bool true)) w2)) := Lib.hid (fun w1 w0 HM o0 => by
    obtain ⟨⟨a1, a2, a3, a4⟩, ⟨b1, b2, b3, b4⟩, ⟨k1, k2, k3, k4⟩⟩ := h1.d
    obtain ⟨q1, q2, q3, q4, q5, q6, q7⟩ := h1.b
    have hr0 : RHp w0 rp rsb rib R I := (HM.out.1.2.1).only o0 (by simp) (by simp) (by simp)
    refine (rput_any hr0 ((v : Nat) : Int)).mono ?_
    rintro e w2 ⟨rfl, hr2, o2⟩
    rw [hth] at hr2 ⊢
    simp only [if_true, Int.toNat_natCast] at hr2
    have hb1 : W.heap.size < w1.heap.size := Nat.lt_of_lt_of_le huz HM.out.2.size
    have o3 : Only [rsb, rib] w1 w2 := (show Only [rsb, rib] w1 w0 from ⟨o0.os, o0.tape, o0.output, o0.size, fun k a _ => o0.blk k a (by simp)⟩).trans o2
    have m1 := (HM.out.2.box huz (by simp; omega) 1).trans hu1
    have m2 := (HM.out.2.box huz (by simp; omega) 2).trans hu2
    refine ⟨by simp, ⟨(o3.box hb1 (by simp; omega) 1).trans m1, (o3.box hb1 (by simp; omega) 2).trans m2⟩, Lib.hid ⟨rfl, ?_, (hU.2.trans (HM.out.2.below (by simp; omega) hU.1)).trans (o3.below (by simp; omega) (Nat.le_trans hU.1 HM.out.2.size))⟩⟩
    obtain ⟨T1, Q1, g1, gz, gq⟩ := HM.out.1.1
    exact ⟨sb, tb, qb, rsb, rib, m + 1, S, T1, Q1, R, I.set v true, g1.only o3 (by simp; omega) (by simp; omega) (by simp; omega) (by simp; omega), hr2, h1.a.put h2v gz gq, h1.b, h1.d⟩)
  clear h h1 hsz hsr hU hu1 hu2 huz hB hth h1v h2v hpv
  go_enter Try.func10, Try.ntmps10
  go_wp2_with fail
  go_region_held3 (fun w' => w'.cell? ⟨W.heap.size, 1, none⟩ = some (.int .i64 ((v : Nat) : Int)) ∧ w'.cell? ⟨W.heap.size, 2, none⟩ = some (.float .f64 y))
    (first | (refine ⟨?_, ?_⟩ <;> assumption) | (go_keep; done))
    (first | (go_at_call 21; refine (HC1.out _ ?_).mono ?_; exact ⟨rfl, rfl, rfl, Nat.le_refl _, fun _ _ _ => rfl⟩; rintro e w1 ⟨rfl, ⟨g1, g2⟩, HX1⟩) | (go_at_call 28; refine (HC2.out _ _ HX1 ?_).mono ?_; exact ⟨rfl, rfl, rfl, Nat.le_refl _, fun _ _ _ => rfl⟩; rintro e w2 ⟨rfl, ⟨g3, g4⟩, HX2⟩))
  all_goals go_wp2_with fail
  all_goals go_ret
  all_goals exact HX2.out
theorem did_any {B : Nat} {W : World} {p rp n : Nat} (h : Both B W p rp n) (hB : B ≤ W.heap.size) (d v : Int) (y : Nat) : Calls Try.prog 10 #[.pointer (some ⟨p, 0, none⟩), .pointer (some ⟨rp, 0, none⟩), .agg #[.int .i64 d, .int .i64 v, .float .f64 y]] W (DidE B W p rp n) := by
  obtain ⟨sb, tb, qb, rsb, rib, m, S, T, P, R, I, h⟩ := h
  by_cases h0 : d = 0
  · subst h0
    cases hv : isV n v with
    | false => exact did_bump_no h hB v hv y
    | true =>
      obtain ⟨k, rfl, k1, k2⟩ := isV_at hv
      exact did_bump_yes h hB k k1 k2 y
  · by_cases h1 : d = 1
    · subst h1; exact did_scale h hB v y
    · by_cases h2 : d = 2
      · subst h2; exact did_pop h hB v y
      · by_cases h3 : d = 3
        · subst h3
          cases hv : isV n v with
          | false => exact did_put_no h hB v hv y
          | true =>
            obtain ⟨k, rfl, k1, k2⟩ := isV_at hv
            by_cases hp : P k = 0
            · exact did_put_yes h hB k k1 k2 hp y
            · exact did_put_in h hB k k1 k2 hp y
        · exact did_none h hB h0 h1 h2 h3 v y
end Hp
end Go.Proofs.Ytdajnmlpghgeeaa
