/-
  One act is done to both heaps.
-/
import Derived.Test.YtdajnmlpghgeeaaHpPair
import Derived.Deep.RegionHeld3
namespace Go.Proofs.Ytdajnmlpghgeeaa
open Go.RowKit
namespace Hp
set_option maxHeartbeats 1600000
set_option maxRecDepth 100000

/-- Both heaps in memory, from block B on. -/
structure Two (B : Nat) (w : World) (p sb tb qb rp rsb rib n m : Nat) (S T P : Nat → Nat) (R : List Nat) (I : List Bool) : Prop where
  h : HAt w p sb tb qb n m S T P
  r : RHp w rp rsb rib R I
  a : Alike n S P R I
  b : B ≤ p ∧ B ≤ sb ∧ B ≤ tb ∧ B ≤ qb ∧ B ≤ rp ∧ B ≤ rsb ∧ B ≤ rib
  d : (p ≠ rp ∧ sb ≠ rp ∧ tb ≠ rp ∧ qb ≠ rp) ∧ (p ≠ rsb ∧ sb ≠ rsb ∧ tb ≠ rsb ∧ qb ≠ rsb) ∧ (p ≠ rib ∧ sb ≠ rib ∧ tb ≠ rib ∧ qb ≠ rib)
def Both (B : Nat) (w : World) (p rp n : Nat) : Prop := ∃ (sb tb qb rsb rib m : Nat) (S T P : Nat → Nat) (R : List Nat) (I : List Bool), Two B w p sb tb qb rp rsb rib n m S T P R I
theorem there_is {n : Nat} {R : List Nat} (h : R.length = n + 1) (v : Int) : thereP R v = isV n v := by
  unfold thereP isV
  rw [h]
  have : decide (v < ((n + 1 : Nat) : Int)) = decide (v ≤ (n : Int)) := by rw [decide_eq_decide]; omega
  rw [this]
theorem Only.heap {bs : List Nat} {w v : World} (h : v.heap = w.heap) (h1 : v.os = w.os) (h2 : v.tape = w.tape) (h3 : v.output = w.output) : Only bs w v :=
  ⟨h1, h2, h3, by rw [h]; exact Nat.le_refl _, fun k _ _ => by rw [h]⟩
theorem Two.hOnly {B : Nat} {w w' : World} {p sb tb qb rp rsb rib n m : Nat} {S T P : Nat → Nat} {R : List Nat} {I : List Bool} (h : Two B w p sb tb qb rp rsb rib n m S T P R I) (o : Only [p, sb, tb, qb] w w') : RHp w' rp rsb rib R I := by
  obtain ⟨⟨a1, a2, a3, a4⟩, ⟨b1, b2, b3, b4⟩, ⟨c1, c2, c3, c4⟩⟩ := h.d
  exact h.r.only o (by simp; omega) (by simp; omega) (by simp; omega)
theorem Two.rOnly {B : Nat} {w w' : World} {p sb tb qb rp rsb rib n m : Nat} {S T P : Nat → Nat} {R : List Nat} {I : List Bool} (h : Two B w p sb tb qb rp rsb rib n m S T P R I) (o : Only [rsb, rib] w w') : HAt w' p sb tb qb n m S T P := by
  obtain ⟨⟨a1, a2, a3, a4⟩, ⟨b1, b2, b3, b4⟩, ⟨c1, c2, c3, c4⟩⟩ := h.d
  exact h.h.only o (by simp; omega) (by simp; omega) (by simp; omega) (by simp; omega)
theorem Two.same {B : Nat} {w w' : World} {p sb tb qb rp rsb rib n m : Nat} {S T P : Nat → Nat} {R : List Nat} {I : List Bool} (h : Two B w p sb tb qb rp rsb rib n m S T P R I) (o : Only [] w w') : Two B w' p sb tb qb rp rsb rib n m S T P R I :=
  ⟨h.h.only o (by simp) (by simp) (by simp) (by simp), h.r.only o (by simp) (by simp) (by simp), h.a, h.b, h.d⟩
theorem Only.box {bs : List Nat} {w w' : World} {c : Nat} (h : Only bs w w') (hc : c < w.heap.size) (hn : c ∉ bs) (o : Nat) : w'.cell? ⟨c, o, none⟩ = w.cell? ⟨c, o, none⟩ := cell_blk (h.blk c hc hn) o
/-- What one act leaves. -/
def DidE (B : Nat) (W : World) (p rp n : Nat) (e : Ending) (w : World) : Prop := e = .returned (.bool true) ∧ Both B w p rp n ∧ Below B W w
theorem did_none {B : Nat} {W : World} {p sb tb qb rp rsb rib n m : Nat} {S T P : Nat → Nat} {R : List Nat} {I : List Bool} (h : Two B W p sb tb qb rp rsb rib n m S T P R I) (hB : B ≤ W.heap.size) {d : Int} (h0 : d ≠ 0) (h1 : d ≠ 1) (h2 : d ≠ 2) (h3 : d ≠ 3) (v : Int) (y : Nat) : Calls Try.prog 10 #[.pointer (some ⟨p, 0, none⟩), .pointer (some ⟨rp, 0, none⟩), .agg #[.int .i64 d, .int .i64 v, .float .f64 y]] W (DidE B W p rp n) := by
  have e0 : (d == 0) = false := by simpa using h0
  have e1 : (d == 1) = false := by simpa using h1
  have e2 : (d == 2) = false := by simpa using h2
  have e3 : (d == 3) = false := by simpa using h3
  have HH := Lib.hid h
  clear h h0 h1 h2 h3
  go_enter Try.func10, Try.ntmps10
  go_wp2_with fail
  go_ret
  exact ⟨rfl, ⟨_, _, _, _, _, _, _, _, _, _, _, HH.out.same ((Only.refl _ _).alloc _)⟩, (Below.refl _ _).alloc hB _⟩
theorem did_scale {B : Nat} {W : World} {p sb tb qb rp rsb rib n m : Nat} {S T P : Nat → Nat} {R : List Nat} {I : List Bool} (h : Two B W p sb tb qb rp rsb rib n m S T P R I) (hB : B ≤ W.heap.size) (v : Int) (y : Nat) : Calls Try.prog 10 #[.pointer (some ⟨p, 0, none⟩), .pointer (some ⟨rp, 0, none⟩), .agg #[.int .i64 1, .int .i64 v, .float .f64 y]] W (DidE B W p rp n) := by
  have h1 := h.same ((Only.refl [] W).alloc (.cells #[.int .i64 1, .int .i64 v, .float .f64 y] 34))
  have HH := Lib.hid h1
  have HR := Lib.hid (rscale_any h1.r y)
  have HB := Lib.hid hB
  have HW : Hid (B ≤ (W.alloc (.cells #[.int .i64 1, .int .i64 v, .float .f64 y] 34)).heap.size ∧ Below B W (W.alloc (.cells #[.int .i64 1, .int .i64 v, .float .f64 y] 34))) := Lib.hid ⟨by simp; omega, (Below.refl _ _).alloc hB _⟩
  have hbx : rsb ≠ W.heap.size ∧ rib ≠ W.heap.size := ⟨by have := h.r.lt; omega, by have := h.r.lt; omega⟩
  have HBX := Lib.hid hbx
  clear h h1 hB hbx
  go_enter Try.func10, Try.ntmps10
  go_wp2_with fail
  refine HR.out.mono ?_
  rintro e w1 ⟨rfl, V, hv, hr1, ho1⟩
  have hc : w1.cell? ⟨W.heap.size, 2, none⟩ = some (.float .f64 y) := (ho1.box (by simp) (by simp; have := HBX.out; omega) 2).trans (by simp)
  have HS := Lib.hid (scale_any (HH.out.rOnly ho1) y)
  have H1 : Hid (Scaled R y R.length V ∧ RHp w1 rp rsb rib V I ∧ Only [rsb, rib] (W.alloc (.cells #[.int .i64 1, .int .i64 v, .float .f64 y] 34)) w1) := Lib.hid ⟨hv, hr1, ho1⟩
  clear hv hr1 ho1
  go_wp2_with fail
  refine HS.out.mono ?_
  rintro e w2 ⟨rfl, U, T2, Q2, hu, hh2, hs2, ho2⟩
  have H2 : Hid (DidE B W p rp n (.returned (.bool true)) w2) := Lib.hid (by
    obtain ⟨⟨a1, a2, a3, a4⟩, ⟨b1, b2, b3, b4⟩, ⟨c1, c2, c3, c4⟩⟩ := HH.out.d
    obtain ⟨q1, q2, q3, q4, q5, q6, q7⟩ := HH.out.b
    exact ⟨rfl, ⟨sb, tb, qb, rsb, rib, m, U, T2, Q2, V, I, hh2, H1.out.2.1.only ho2 (by simp; omega) (by simp; omega) (by simp; omega), HH.out.a.scale hu H1.out.1 hs2, HH.out.b, HH.out.d⟩,
      (HW.out.2.trans (H1.out.2.2.below (by simp; omega) HW.out.1)).trans (ho2.below (by simp; omega) (Nat.le_trans HW.out.1 H1.out.2.2.size))⟩)
  clear hu hh2 hs2 ho2
  go_wp2_with fail
  go_ret
  exact H2.out
end Hp
end Go.Proofs.Ytdajnmlpghgeeaa
