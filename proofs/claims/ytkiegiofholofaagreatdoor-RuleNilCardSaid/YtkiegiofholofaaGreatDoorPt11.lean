/-
Not of the first kid, a node's width, what bv says of Consts, as facts on one call.
An operator with a node, and two nodes, compared: what the model makes of them.
Rule 1 (of Ite) of layer rule, as a fact on one call.
A row of numbers.
Plain facts for Vars of layer term: what is below a node; what a search that goes by marks and a list of what is still to do keeps.
The map of layer known, as data: the masks of those nodes that are worked out.
-/
import Derived.Test.YtkiegiofholofaaGreatDoorPt10
import Derived.BigRegion
import Derived.BigQuiet
import Derived.Lib.Hide
import Derived.Deep.RegionHeld3
import Derived.Test.YtkiegiofholofaaGreatDoorPt06
import Derived.Test.YtkiegiofholofaaGreatDoorPt02
import Derived.Test.YtkiegiofholofaaGreatDoorPt01
import Derived.Maps.AppendAt
import Derived.Maps.Views
namespace Go.Proofs.YtkiegiofholofaaGreatDoor
open Go.RowKit Go.Maps Bv Tm Kn
namespace Ru
set_option maxHeartbeats 8000000
set_option maxRecDepth 100000

theorem not_any {B p m q k : Nat} {sv : Value} {L : List Nd} {x y0 y1 y2 : Nd} {W : World} (S : StoreAt B W p m sv L) (hB : B ≤ W.heap.size) (hx : x.Ok) (hy : y0.Ok) (nq : ¬ foot p m sv q) (s : SiteAt W q p k x y0 y1 y2) :
    Calls Tryz.prog 88 #[.pointer (some ⟨q, 0, none⟩)] W (fun e w' => DidL B p m sv (mk L ⟨3, y0.w, x.k0, 0, 0, 0, 0⟩).1 (((mk L ⟨3, y0.w, x.k0, 0, 0, 0, 0⟩).2.1 : Nat) : Int) (((mk L ⟨3, y0.w, x.k0, 0, 0, 0, 0⟩).2.2 : Nat) : Int) W e w' ∧ Kept (foot p m sv) W w') := by
  have NQ := Lib.hid nq
  have HM0 : Hid (∀ w, Below W.heap.size W w → Calls Tryz.prog 17 #[.pointer (some ⟨p, 0, none⟩), .agg #[.int .u8 3, .int .u8 ((y0.w : Nat) : Int), .int .i64 x.k0, .int .i64 0, .int .i64 0, .int .u64 0, .int .u8 0]] w (fun e w' => DidL B p m sv (mk L ⟨3, y0.w, x.k0, 0, 0, 0, 0⟩).1 (((mk L ⟨3, y0.w, x.k0, 0, 0, 0, 0⟩).2.1 : Nat) : Int) (((mk L ⟨3, y0.w, x.k0, 0, 0, 0, 0⟩).2.2 : Nat) : Int) W e w' ∧ Kept (foot p m sv) w w')) :=
    Lib.hid (fun w hb => make_did S hB hb (y := ⟨3, y0.w, x.k0, 0, 0, 0, 0⟩) ⟨by simp, hy.w, hx.k0, by simp [I64], by simp [I64], by simp, by simp⟩)
  have lq := s.1
  have c0 := s.2 0 _ rfl
  have c4 := s.2 4 _ rfl
  have c10 := s.2 10 _ rfl
  clear s S hB hx hy nq
  go_enter Tryz.func88, Tryz.ntmps88
  go_wp2_with fail
  go_region_held3 (fun w' => w'.cell? ⟨q, 0, none⟩ = some (.pointer (some ⟨p, 0, none⟩)) ∧ w'.cell? ⟨q, 10, none⟩ = some (.int .u8 ((y0.w : Nat) : Int)) ∧ w'.cell? ⟨q, 4, none⟩ = some (.int .i64 x.k0)) (first | (refine ⟨?_, ?_, ?_⟩ <;> go_simp)) (first | (go_at_call 17; with_reducible refine (HM0.out _ (by repeat (first | exact Below.refl _ _ | (refine bel_alloc ?_ _) | (refine Below.drew ?_) | (refine Below.setCell ?_ (by simp) _)))).mono ?_; rintro e w1 ⟨⟨rfl, hd⟩, hk⟩; have HD := Lib.hid hd; have g0 := hk.cell (x := ⟨q, 0, none⟩) (by simp <;> omega) NQ.out; have g1 := hk.cell (x := ⟨q, 10, none⟩) (by simp <;> omega) NQ.out; have g2 := hk.cell (x := ⟨q, 4, none⟩) (by simp <;> omega) NQ.out; have HW := Lib.hid ((Kept.ofBelow (a := W) (by repeat (first | exact Below.refl _ _ | (refine bel_alloc ?_ _) | (refine Below.drew ?_) | (refine Below.setCell ?_ (by simp) _))) (foot p m sv)).trans hk); clear hd hk))
  go_wp2_with fail
  exact bodyPost_ret (v := _) (by simp [results, Tryz.results88, go_sem]) rfl ⟨⟨rfl, HD.out⟩, HW.out⟩

/-- The same behind what only made new memory. -/
theorem not_behind {B p m q k : Nat} {sv : Value} {L : List Nd} {x y0 y1 y2 : Nd} {W w : World} (S : StoreAt B W p m sv L) (hB : B ≤ W.heap.size) (hx : x.Ok) (hy : y0.Ok) (nq : ¬ foot p m sv q) (s : SiteAt W q p k x y0 y1 y2) (hb : Below W.heap.size W w) :
    Calls Tryz.prog 88 #[.pointer (some ⟨q, 0, none⟩)] w (fun e w' => DidL B p m sv (mk L ⟨3, y0.w, x.k0, 0, 0, 0, 0⟩).1 (((mk L ⟨3, y0.w, x.k0, 0, 0, 0, 0⟩).2.1 : Nat) : Int) (((mk L ⟨3, y0.w, x.k0, 0, 0, 0, 0⟩).2.2 : Nat) : Int) W e w') := by
  refine (not_any (S.call hb) (Nat.le_trans hB hb.size) hx hy nq (s.keep hb)).mono ?_
  rintro e w' ⟨⟨he, v, S', _, hv⟩, K⟩
  refine ⟨he, v, S', (Kept.ofBelow hb _).trans K, ?_⟩
  rcases hv with hv | ⟨g, hg, hv⟩
  · exact .inl hv
  · exact .inr ⟨g, Nat.le_trans hb.size hg, hv⟩

theorem width_any {B p m q k j : Nat} {sv : Value} {L : List Nd} {x y0 y1 y2 y : Nd} {W : World} (S : StoreAt B W p m sv L) (hy : L[j]? = some y) (s : SiteAt W q p k x y0 y1 y2) :
    Calls Tryz.prog 124 #[.pointer (some ⟨q, 0, none⟩), .int .i64 ((j : Nat) : Int)] W (fun e w' => e = .returned (.int .u8 ((y.w : Nat) : Int)) ∧ Below W.heap.size W w') := by
  have HS := Lib.hid S
  have HY := Lib.hid hy
  have lq := s.1
  have c0 := s.2 0 _ rfl
  clear s S hy
  go_enter Tryz.func124, Tryz.ntmps124
  go_wp2_with (go_at_call 11; with_reducible refine (node_yes HS.out HY.out).mono ?_; rintro e w1 ⟨rfl, hb⟩; unfold Nd.val; have HB := Lib.hid hb; clear hb)
  exact bodyPost_ret (v := .int .u8 ((y.w : Nat) : Int)) (by simp [results, Tryz.results124, go_sem]) rfl ⟨rfl, by first | exact HB.out | exact bel_alloc HB.out _⟩
end Ru
end Go.Proofs.YtkiegiofholofaaGreatDoor

namespace Go.Proofs.YtkiegiofholofaaGreatDoor
open Go.RowKit Go.Maps Bv Tm Kn
namespace Ru
set_option maxHeartbeats 1000000
set_option maxRecDepth 100000

theorem cells_by : Tryz.prog.cellsOf 132 = 8 := by kernel_rfl
theorem cells_two : Tryz.prog.cellsOf 133 = 14 := by kernel_rfl
def byVal (o : Nat) (y : Nd) : Value := .agg #[.int .u8 o, .int .u8 y.o, .int .u8 y.w, .int .i64 y.k0, .int .i64 y.k1, .int .i64 y.k2, .int .u64 y.n, .int .u8 y.l]
def twoVal (y z : Nd) : Value := .agg #[.int .u8 y.o, .int .u8 y.w, .int .i64 y.k0, .int .i64 y.k1, .int .i64 y.k2, .int .u64 y.n, .int .u8 y.l, .int .u8 z.o, .int .u8 z.w, .int .i64 z.k0, .int .i64 z.k1, .int .i64 z.k2, .int .u64 z.n, .int .u8 z.l]

theorem lits_by (d : Nat) (o : Nat) (ho : o ≤ 255) (y : Nd) (hy : y.Ok) : Tryz.prog.keyLits (d + 4) 132 (byVal o y).cells.toList = some (Lit.int .u8 o :: y.lits) := by
  have a := wf_u8 ho
  have h := lits_at d y hy
  have h1 : y.val.cells.toList = [.int .u8 y.o, .int .u8 y.w, .int .i64 y.k0, .int .i64 y.k1, .int .i64 y.k2, .int .u64 y.n, .int .u8 y.l] := rfl
  rw [h1] at h
  have h2 : (byVal o y).cells.toList = [.int .u8 o, .int .u8 y.o, .int .u8 y.w, .int .i64 y.k0, .int .i64 y.k1, .int .i64 y.k2, .int .u64 y.n, .int .u8 y.l] := rfl
  rw [h2]
  unfold Program.keyLits
  simp [Tryz.underlying132, cells_by, cells_nd, cells_op, h]
  simp [Program.keyLits, Tryz.underlying32, a]
theorem lits_two (d : Nat) (y z : Nd) (hy : y.Ok) (hz : z.Ok) : Tryz.prog.keyLits (d + 4) 133 (twoVal y z).cells.toList = some (y.lits ++ z.lits) := by
  have h := lits_at d y hy
  have g := lits_at d z hz
  have h1 : ∀ y : Nd, y.val.cells.toList = [.int .u8 y.o, .int .u8 y.w, .int .i64 y.k0, .int .i64 y.k1, .int .i64 y.k2, .int .u64 y.n, .int .u8 y.l] := fun _ => rfl
  rw [h1] at h g
  have h2 : (twoVal y z).cells.toList = [.int .u8 y.o, .int .u8 y.w, .int .i64 y.k0, .int .i64 y.k1, .int .i64 y.k2, .int .u64 y.n, .int .u8 y.l, .int .u8 z.o, .int .u8 z.w, .int .i64 z.k0, .int .i64 z.k1, .int .i64 z.k2, .int .u64 z.n, .int .u8 z.l] := rfl
  rw [h2]
  unfold Program.keyLits
  simp [Tryz.underlying133, cells_two, cells_nd, h, g, List.range, List.range.loop]
theorem deep_by : Tryz.prog.keyTypeAt 4 132 = true := by kernel_rfl
theorem deep_two : Tryz.prog.keyTypeAt 4 133 = true := by kernel_rfl
theorem formed_by (o : Nat) (y : Nd) : (byVal o y).formed Tryz.prog 132 = true := by simp [byVal, Value.formed, Tryz.underlying132, cells_by]
theorem formed_two (y z : Nd) : (twoVal y z).formed Tryz.prog 133 = true := by simp [twoVal, Value.formed, Tryz.underlying133, cells_two]
theorem lits_len (y : Nd) : y.lits.length = 7 := rfl
theorem equal_by (o o' : Nat) (y y' : Nd) (ho : o ≤ 255) (ho' : o' ≤ 255) (hy : y.Ok) (hy' : y'.Ok) (W : World) : (Op.equalIn 10000 132 (byVal o y) (byVal o' y')).run Tryz.prog W = .ok (decide (o = o' ∧ y = y')) W := by
  obtain ⟨r, hr, hi⟩ := run_equalIn_deep 9996 4 132 deep_by W 4 4 (byVal o y) (byVal o' y') _ _ (formed_by o y) (formed_by o' y') (lits_by 0 o ho y hy) (lits_by 0 o' ho' y' hy')
  have : r = decide (o = o' ∧ y = y') := by
    by_cases e : o = o' ∧ y = y'
    · obtain ⟨rfl, rfl⟩ := e; simp [hi.2 rfl]
    · have : ¬ r = true := fun h => by
        have h1 := hi.1 h
        simp only [List.cons.injEq, Lit.int.injEq, Int.natCast_inj, true_and] at h1
        exact e ⟨h1.1, Nd.lits_inj h1.2⟩
      simp [e, this]
  rw [this] at hr
  exact hr
theorem equal_two (y z y' z' : Nd) (hy : y.Ok) (hz : z.Ok) (hy' : y'.Ok) (hz' : z'.Ok) (W : World) : (Op.equalIn 10000 133 (twoVal y z) (twoVal y' z')).run Tryz.prog W = .ok (decide (y = y' ∧ z = z')) W := by
  obtain ⟨r, hr, hi⟩ := run_equalIn_deep 9996 4 133 deep_two W 4 4 (twoVal y z) (twoVal y' z') _ _ (formed_two y z) (formed_two y' z') (lits_two 0 y z hy hz) (lits_two 0 y' z' hy' hz')
  have : r = decide (y = y' ∧ z = z') := by
    by_cases e : y = y' ∧ z = z'
    · obtain ⟨rfl, rfl⟩ := e; simp [hi.2 rfl]
    · have : ¬ r = true := fun h => by
        have h1 := List.append_inj (hi.1 h) (by rw [lits_len, lits_len])
        exact e ⟨Nd.lits_inj h1.1, Nd.lits_inj h1.2⟩
      simp [e, this]
  rw [this] at hr
  exact hr
/-- The same of a Const whose fields are spelled out. -/
theorem equal_byC (o o' : Nat) (y : Nd) (w n : Nat) (ho : o ≤ 255) (ho' : o' ≤ 255) (hy : y.Ok) (hw : w ≤ 255) (hn : n < 18446744073709551616) (W : World) :
    (Op.equalIn 10000 132 (.agg #[.int .u8 ((o : Nat) : Int), .int .u8 ((y.o : Nat) : Int), .int .u8 ((y.w : Nat) : Int), .int .i64 y.k0, .int .i64 y.k1, .int .i64 y.k2, .int .u64 ((y.n : Nat) : Int), .int .u8 ((y.l : Nat) : Int)]) (.agg #[.int .u8 ((o' : Nat) : Int), .int .u8 1, .int .u8 ((w : Nat) : Int), .int .i64 0, .int .i64 0, .int .i64 0, .int .u64 ((n : Nat) : Int), .int .u8 0])).run Tryz.prog W = .ok (decide (o = o' ∧ y = cn w n)) W :=
  equal_by o o' y (cn w n) ho ho' hy (cn_ok hw hn) W
theorem equal_twoC (y z : Nd) (w n v m : Nat) (hy : y.Ok) (hz : z.Ok) (hw : w ≤ 255) (hn : n < 18446744073709551616) (hv : v ≤ 255) (hm : m < 18446744073709551616) (W : World) :
    (Op.equalIn 10000 133 (.agg #[.int .u8 ((y.o : Nat) : Int), .int .u8 ((y.w : Nat) : Int), .int .i64 y.k0, .int .i64 y.k1, .int .i64 y.k2, .int .u64 ((y.n : Nat) : Int), .int .u8 ((y.l : Nat) : Int), .int .u8 ((z.o : Nat) : Int), .int .u8 ((z.w : Nat) : Int), .int .i64 z.k0, .int .i64 z.k1, .int .i64 z.k2, .int .u64 ((z.n : Nat) : Int), .int .u8 ((z.l : Nat) : Int)])
      (.agg #[.int .u8 1, .int .u8 ((w : Nat) : Int), .int .i64 0, .int .i64 0, .int .i64 0, .int .u64 ((n : Nat) : Int), .int .u8 0, .int .u8 1, .int .u8 ((v : Nat) : Int), .int .i64 0, .int .i64 0, .int .i64 0, .int .u64 ((m : Nat) : Int), .int .u8 0])).run Tryz.prog W = .ok (decide (y = cn w n ∧ z = cn v m)) W :=
  equal_two y z (cn w n) (cn v m) hy hz (cn_ok hw hn) (cn_ok hv hm) W
theorem equal_ndC (y : Nd) (w n : Nat) (hy : y.Ok) (hw : w ≤ 255) (hn : n < 18446744073709551616) (W : World) :
    (Op.equalIn 10000 36 (.agg #[.int .u8 ((y.o : Nat) : Int), .int .u8 ((y.w : Nat) : Int), .int .i64 y.k0, .int .i64 y.k1, .int .i64 y.k2, .int .u64 ((y.n : Nat) : Int), .int .u8 ((y.l : Nat) : Int)]) (.agg #[.int .u8 1, .int .u8 ((w : Nat) : Int), .int .i64 0, .int .i64 0, .int .i64 0, .int .u64 ((n : Nat) : Int), .int .u8 0])).run Tryz.prog W = .ok (decide (y = cn w n)) W :=
  equal_nd y (cn w n) hy (cn_ok hw hn) W
end Ru
end Go.Proofs.YtkiegiofholofaaGreatDoor

namespace Go.Proofs.YtkiegiofholofaaGreatDoor
open Go.RowKit Go.Maps Bv Tm Kn
namespace Ru
set_option maxHeartbeats 8000000
set_option maxRecDepth 100000

theorem ru1_ite {B p m b q k : Nat} {sv : Value} {L : List Nd} {x y0 y1 y2 : Nd} {W : World} (C : ClosAt W b q p k x y0 y1 y2) (hy : y0.Ok) (ho : x.o = 25) :
    Calls Tryz.prog 78 #[.pointer (some ⟨b, 0, none⟩)] W (Did B p m sv L (ou1 x y0 y1) W) := by
  have HO := Lib.hid ho
  have HQ1 := fun W' => equal_ndC y0 1 1 hy (by decide) (by decide) W'
  have HQ2 := fun W' => equal_ndC y0 1 0 hy (by decide) (by decide) W'
  simp only [Int.cast_ofNat_Int] at HQ1 HQ2
  have HK1 : Hid (∀ w, Below W.heap.size W w → Calls Tryz.prog 80 #[.pointer (some ⟨q, 0, none⟩), .int .i64 1] w fun e w' => e = .returned (.tuple #[.int .i64 x.k1, .int .i64 0]) ∧ w = w') :=
    Lib.hid (fun w hb => skid_1 (C.s.keep hb))
  have HK2 : Hid (∀ w, Below W.heap.size W w → Calls Tryz.prog 80 #[.pointer (some ⟨q, 0, none⟩), .int .i64 2] w fun e w' => e = .returned (.tuple #[.int .i64 x.k2, .int .i64 0]) ∧ w = w') :=
    Lib.hid (fun w hb => skid_2 (C.s.keep hb))
  have lb := C.lb
  have lq := C.s.1
  have fb := C.fb
  have c0 := C.s.2 0 _ rfl
  have c2 := C.s.2 2 _ rfl
  have c9 := C.s.2 9 _ rfl
  have c10 := C.s.2 10 _ rfl
  have c11 := C.s.2 11 _ rfl
  have c12 := C.s.2 12 _ rfl
  have c13 := C.s.2 13 _ rfl
  have c14 := C.s.2 14 _ rfl
  have c15 := C.s.2 15 _ rfl
  clear C hy
  rw [ho] at c2
  simp only [Int.cast_ofNat_Int] at c2
  clear ho
  have lb1 : b < W.heap.size + 1 := by omega
  have lb2 : b < W.heap.size + 1 + 1 := by omega
  have lb3 : b < W.heap.size + 1 + 1 + 1 := by omega
  have lq1 : q < W.heap.size + 1 := by omega
  have lq2 : q < W.heap.size + 1 + 1 := by omega
  have lq3 : q < W.heap.size + 1 + 1 + 1 := by omega
  go_enter Tryz.func78, Tryz.ntmps78
  go_wp2_with (first | (go_at_call 80; with_reducible refine (HK1.out _ (by repeat (first | exact Below.refl _ _ | (refine bel_alloc ?_ _) | (refine Below.drew ?_) | (refine Below.setCell ?_ (by simp) _)))).mono ?_; rintro e w1 ⟨rfl, rfl⟩) | (go_at_call 80; with_reducible refine (HK2.out _ (by repeat (first | exact Below.refl _ _ | (refine bel_alloc ?_ _) | (refine Below.drew ?_) | (refine Below.setCell ?_ (by simp) _)))).mono ?_; rintro e w1 ⟨rfl, rfl⟩) | (go_at_call 79; with_reducible refine (rconst_any _ _ _).mono ?_; rintro e w1 ⟨rfl, rfl⟩))
  all_goals (try simp only [bne_eq_false_iff_eq, beq_eq_false_iff_ne, ← Classical.not_and_iff_not_or_not, bne_iff_ne, Bool.and_eq_true, Bool.or_eq_true, beq_iff_eq, decide_eq_true_eq, decide_eq_false_iff_not, Bool.and_eq_false_iff, Bool.not_eq_true, ne_eq] at *)
  all_goals (try (exfalso; contradiction))
  all_goals (clear HK1 HK2 HQ1 HQ2 c0 c2 c9 c10 c11 c12 c13 c14 c15 lb lq fb lb1 lb2 lb3 lq1 lq2 lq3)
  all_goals (try simp only [bne_eq_false_iff_eq, beq_eq_false_iff_ne, ← Classical.not_and_iff_not_or_not, bne_iff_ne, Bool.and_eq_true, Bool.or_eq_true, beq_iff_eq, decide_eq_true_eq, decide_eq_false_iff_not, Bool.and_eq_false_iff, Bool.not_eq_true, ne_eq] at *)
  all_goals first
    | (refine bodyPost_ret (v := .tuple #[.int .i64 (-1), .int .i64 0]) ?_ rfl (did_no ?_ rfl ?_)
       · simp [results, Tryz.results78, go_sem]
       · unfold ou1; rw [if_pos HO.out]; repeat (first | rfl | rw [if_pos (by assumption)] | rw [if_neg (by assumption)])
       · (repeat (first | exact Below.refl _ _ | (refine bel_alloc ?_ _) | (refine Below.drew ?_))))
    | (refine bodyPost_ret (v := .tuple #[.int .i64 (x.k1), .int .i64 0]) ?_ rfl (did_num ?_ rfl ?_)
       · simp [results, Tryz.results78, go_sem]
       · unfold ou1; rw [if_pos HO.out]; repeat (first | rfl | rw [if_pos (by assumption)] | rw [if_neg (by assumption)])
       · (repeat (first | exact Below.refl _ _ | (refine bel_alloc ?_ _) | (refine Below.drew ?_))))
    | (refine bodyPost_ret (v := .tuple #[.int .i64 (x.k2), .int .i64 0]) ?_ rfl (did_num ?_ rfl ?_)
       · simp [results, Tryz.results78, go_sem]
       · unfold ou1; rw [if_pos HO.out]; repeat (first | rfl | rw [if_pos (by assumption)] | rw [if_neg (by assumption)])
       · (repeat (first | exact Below.refl _ _ | (refine bel_alloc ?_ _) | (refine Below.drew ?_))))
end Ru
end Go.Proofs.YtkiegiofholofaaGreatDoor

namespace Go.Proofs.YtkiegiofholofaaGreatDoor
open Go.RowKit Go.Maps Bv
namespace Tm
set_option maxHeartbeats 1000000
set_option maxRecDepth 100000

def todoRow (T : List Nat) : List Value := T.map (fun i => .int .i64 ((i : Nat) : Int))

end Tm
end Go.Proofs.YtkiegiofholofaaGreatDoor

namespace Go.Proofs.YtkiegiofholofaaGreatDoor
open Bv
namespace Tm
set_option maxHeartbeats 400000

/-- The numbers of the nodes that are below the node id, itself among them. -/
inductive Reach (L : List Nd) (id : Nat) : Nat → Prop
  | top : Reach L id id
  | kid {i j : Nat} {x : Nd} (h : Reach L id i) (hx : L[i]? = some x) (hj : j < kc x.o) : Reach L id (x.kid j).toNat

theorem Reach.le {L : List Nd} {id : Nat} (g : Gd L) {i : Nat} (h : Reach L id i) : i ≤ id := by
  induction h with
  | top => exact Nat.le_refl _
  | kid h hx hj ih => have := g.kid _ _ hx _ hj; omega

def mark (seen : Nat → Bool) (i : Nat) : Nat → Bool := fun j => if j = i then true else seen j
theorem mark_same (seen : Nat → Bool) (i : Nat) : mark seen i i = true := by simp [mark]
theorem mark_mono {seen : Nat → Bool} {i j : Nat} (h : seen j = true) : mark seen i j = true := by unfold mark; split <;> simp [h]
theorem mark_inv {seen : Nat → Bool} {i j : Nat} (h : mark seen i j = true) : j = i ∨ seen j = true := by
  unfold mark at h
  split at h
  · left; assumption
  · right; exact h

/-- v is a variable's number below id. -/
def Below2 (L : List Nd) (id v : Nat) : Prop := ∃ i x, Reach L id i ∧ L[i]? = some x ∧ x.o = 2 ∧ x.n = v

structure Inv (L : List Nd) (id : Nat) (seen : Nat → Bool) (T vs : List Nat) (k m : Nat) : Prop where
  i0 : seen id = true
  re : ∀ i, seen i = true → Reach L id i
  nd : T.Nodup
  ts : ∀ i ∈ T, seen i = true
  cl : ∀ i x j, seen i = true → ¬ i ∈ T → L[i]? = some x → j < kc x.o → seen (x.kid j).toNat = true ∨ (i = k ∧ m ≤ j)
  vn : vs.Nodup
  vm : ∀ v, v ∈ vs ↔ ∃ i x, seen i = true ∧ ¬ i ∈ T ∧ L[i]? = some x ∧ x.o = 2 ∧ x.n = v

theorem inv_start (L : List Nd) (id : Nat) : Inv L id (mark (fun _ => false) id) [id] [] 0 4 := by
  have h1 : ∀ i, mark (fun _ => false) id i = true → i = id := fun i h => by
    rcases mark_inv h with e | e
    · exact e
    · simp at e
  refine ⟨mark_same _ _, fun i h => by rw [h1 i h]; exact .top, by simp, fun i hi => by simp at hi; subst hi; exact mark_same _ _, ?_, by simp, ?_⟩
  · intro i x j hs hn
    rw [h1 i hs] at hn
    simp at hn
  · intro v
    simp only [List.not_mem_nil, false_iff]
    rintro ⟨i, x, hs, hn, _⟩
    rw [h1 i hs] at hn
    simp at hn

theorem var_eq {L : List Nd} (g : Gd L) {i j : Nat} {x y : Nd} (hx : L[i]? = some x) (hy : L[j]? = some y) (ox : x.o = 2) (oy : y.o = 2) (h : x.n = y.n) : i = j := by
  have mx := List.mem_of_getElem? hx
  have my := List.mem_of_getElem? hy
  have wx := g.wd x mx ox
  have wy := g.wd y my oy
  have e : x = y := by
    rw [g.own x mx, g.own y my]
    have kx : kc x.o = 0 := by rw [ox]; decide
    have ky : kc y.o = 0 := by rw [oy]; decide
    refine Nd.same ?_ ?_ ?_ ?_ ?_ ?_ ?_
    · show x.o = y.o; rw [ox, oy]
    · show x.w = y.w; rw [← wx, ← wy, h]
    · show (if 1 ≤ kc x.o then x.k0 else 0) = (if 1 ≤ kc y.o then y.k0 else 0); rw [kx, ky]; rfl
    · show (if 2 ≤ kc x.o then x.k1 else 0) = (if 2 ≤ kc y.o then y.k1 else 0); rw [kx, ky]; rfl
    · show (if 3 ≤ kc x.o then x.k2 else 0) = (if 3 ≤ kc y.o then y.k2 else 0); rw [kx, ky]; rfl
    · show (if x.o = 1 ∨ x.o = 2 then x.n else 0) = (if y.o = 1 ∨ y.o = 2 then y.n else 0); rw [if_pos (.inr ox), if_pos (.inr oy), h]
    · show (if x.o = 22 then x.l else 0) = (if y.o = 22 then y.l else 0); rw [if_neg (by omega), if_neg (by omega)]
  subst e
  obtain ⟨hi, ei⟩ := List.getElem?_eq_some_iff.1 hx
  obtain ⟨hj, ej⟩ := List.getElem?_eq_some_iff.1 hy
  have nd := List.pairwise_iff_getElem.1 g.nodup
  rcases Nat.lt_trichotomy i j with c | c | c
  · exact absurd (ei.trans ej.symm) (nd i j hi hj c)
  · exact c
  · exact absurd (ej.trans ei.symm) (nd j i hj hi c)

/-- What was last to do is taken off. -/
theorem Inv.pop {L : List Nd} {id : Nat} {seen : Nat → Bool} {T vs : List Nat} {k k' : Nat} (h : Inv L id seen (T ++ [k]) vs k' 4) {x : Nd} (hx : L[k]? = some x) (ho : ¬ x.o = 2) : Inv L id seen T vs k 0 := by
  have nd := h.nd
  rw [List.nodup_append] at nd
  have hkT : ¬ k ∈ T := fun e => nd.2.2 k e k (by simp) rfl
  refine ⟨h.i0, h.re, nd.1, fun i hi => h.ts i (by simp [hi]), ?_, h.vn, ?_⟩
  · intro i y j hs hn hy hj
    by_cases e : i = k
    · right; exact ⟨e, by omega⟩
    · rcases h.cl i y j hs (by simp [hn, e]) hy hj with c | c
      · left; exact c
      · have := kc_le y.o; omega
  · intro v
    rw [h.vm v]
    constructor
    · rintro ⟨i, y, a, b, c, d, e⟩
      exact ⟨i, y, a, fun hc => b (by simp [hc]), c, d, e⟩
    · rintro ⟨i, y, a, b, c, d, e⟩
      refine ⟨i, y, a, fun hc => ?_, c, d, e⟩
      rcases List.mem_append.1 hc with hc | hc
      · exact b hc
      · simp at hc
        subst hc
        rw [hx] at c
        simp at c
        subst c
        exact ho d

theorem Inv.popVar {L : List Nd} {id : Nat} {seen : Nat → Bool} {T vs : List Nat} {k k' : Nat} (g : Gd L) (h : Inv L id seen (T ++ [k]) vs k' 4) {x : Nd} (hx : L[k]? = some x) (ho : x.o = 2) : Inv L id seen T (vs ++ [x.n]) k 0 := by
  have nd := h.nd
  rw [List.nodup_append] at nd
  have hkT : ¬ k ∈ T := fun e => nd.2.2 k e k (by simp) rfl
  have hk := h.ts k (by simp)
  refine ⟨h.i0, h.re, nd.1, fun i hi => h.ts i (by simp [hi]), ?_, ?_, ?_⟩
  · intro i y j hs hn hy hj
    by_cases e : i = k
    · right; exact ⟨e, by omega⟩
    · rcases h.cl i y j hs (by simp [hn, e]) hy hj with c | c
      · left; exact c
      · have := kc_le y.o; omega
  · rw [List.nodup_append]
    refine ⟨h.vn, by simp, ?_⟩
    intro a ha b hb e
    simp at hb
    subst hb; subst e
    obtain ⟨i, y, s, n, hy, oy, ny⟩ := (h.vm _).1 ha
    have := var_eq g hy hx oy ho ny
    subst this
    exact n (by simp)
  · intro v
    rw [List.mem_append, h.vm v]
    constructor
    · rintro (⟨i, y, a, b, c, d, e⟩ | hv)
      · exact ⟨i, y, a, fun hc => b (by simp [hc]), c, d, e⟩
      · simp at hv
        subst hv
        exact ⟨k, x, hk, hkT, hx, ho, rfl⟩
    · rintro ⟨i, y, a, b, c, d, e⟩
      by_cases ek : i = k
      · right
        subst ek
        rw [hx] at c
        simp at c
        subst c
        simp [e]
      · left
        exact ⟨i, y, a, by simp [b, ek], c, d, e⟩

def seen' (seen : Nat → Bool) (i : Nat) : Nat → Bool := if seen i = true then seen else mark seen i
def todo' (seen : Nat → Bool) (T : List Nat) (i : Nat) : List Nat := if seen i = true then T else T ++ [i]

/-- A kid is reached. -/
theorem Inv.reach {L : List Nd} {id : Nat} {seen : Nat → Bool} {T vs : List Nat} {k m : Nat} (h : Inv L id seen T vs k m) {x : Nd} (hx : L[k]? = some x) (hs : seen k = true) (hm : m < kc x.o) :
    Inv L id (seen' seen (x.kid m).toNat) (todo' seen T (x.kid m).toNat) vs k (m + 1) := by
  unfold seen' todo'
  by_cases hi : seen (x.kid m).toNat = true
  · rw [if_pos hi, if_pos hi]
    refine ⟨h.i0, h.re, h.nd, h.ts, ?_, h.vn, h.vm⟩
    intro i y j si ni hy hj
    rcases h.cl i y j si ni hy hj with c | ⟨c, d⟩
    · left; exact c
    · by_cases e : j = m
      · subst c; subst e
        rw [hx] at hy
        simp at hy
        subst hy
        left; exact hi
      · right; exact ⟨c, by omega⟩
  · rw [if_neg hi, if_neg hi]
    have hne : ∀ j, seen j = true → j ≠ (x.kid m).toNat := fun j hj e => hi (e ▸ hj)
    have hnT : ¬ (x.kid m).toNat ∈ T := fun e => hi (h.ts _ e)
    have done : ∀ j, mark seen (x.kid m).toNat j = true → ¬ j ∈ T ++ [(x.kid m).toNat] → seen j = true ∧ ¬ j ∈ T := by
      intro j a b
      rw [List.mem_append] at b
      rcases mark_inv a with c | c
      · subst c; exact absurd (.inr (by simp)) b
      · exact ⟨c, fun e => b (.inl e)⟩
    refine ⟨mark_mono h.i0, ?_, ?_, ?_, ?_, h.vn, ?_⟩
    · intro i hs'
      rcases mark_inv hs' with c | c
      · rw [c]; exact .kid (h.re k hs) hx hm
      · exact h.re i c
    · rw [List.nodup_append]
      exact ⟨h.nd, by simp, fun a ha b hb e => by simp at hb; subst hb; subst e; exact hnT ha⟩
    · intro i hi'
      rcases List.mem_append.1 hi' with c | c
      · exact mark_mono (h.ts i c)
      · simp at c; subst c; exact mark_same _ _
    · intro i y j si ni hy hj
      obtain ⟨a, b⟩ := done i si ni
      rcases h.cl i y j a b hy hj with c | ⟨c, d⟩
      · left; exact mark_mono c
      · by_cases e : j = m
        · subst c; subst e
          rw [hx] at hy
          simp at hy
          subst hy
          left; exact mark_same _ _
        · right; exact ⟨c, by omega⟩
    · intro v
      rw [h.vm v]
      constructor
      · rintro ⟨i, y, a, b, c⟩
        refine ⟨i, y, mark_mono a, ?_, c⟩
        rw [List.mem_append]
        rintro (d | d)
        · exact b d
        · simp at d; exact hne i a d
      · rintro ⟨i, y, a, b, c⟩
        obtain ⟨d, e⟩ := done i a b
        exact ⟨i, y, d, e, c⟩

theorem Inv.closed {L : List Nd} {id : Nat} {seen : Nat → Bool} {T vs : List Nat} {k m : Nat} (h : Inv L id seen T vs k m) {x : Nd} (hx : L[k]? = some x) (hm : kc x.o ≤ m) : Inv L id seen T vs k 4 := by
  refine ⟨h.i0, h.re, h.nd, h.ts, ?_, h.vn, h.vm⟩
  intro i y j si ni hy hj
  rcases h.cl i y j si ni hy hj with c | ⟨c, d⟩
  · left; exact c
  · subst c
    rw [hx] at hy
    simp at hy
    subst hy
    omega

theorem Inv.done {L : List Nd} {id : Nat} {seen : Nat → Bool} {vs : List Nat} {k : Nat} (h : Inv L id seen [] vs k 4) : vs.Nodup ∧ ∀ v, v ∈ vs ↔ Below2 L id v := by
  have hr : ∀ i, Reach L id i → seen i = true := by
    intro i hi
    induction hi with
    | top => exact h.i0
    | @kid i j x hi hx hj ih =>
      rcases h.cl i x j ih (by simp) hx hj with c | c
      · exact c
      · have := kc_le x.o; omega
  refine ⟨h.vn, fun v => ?_⟩
  rw [h.vm v]
  constructor
  · rintro ⟨i, x, a, _, c⟩; exact ⟨i, x, h.re i a, c⟩
  · rintro ⟨i, x, a, c⟩; exact ⟨i, x, hr i a, by simp, c⟩

/-! ### how many rounds -/
def unseen (id : Nat) (seen : Nat → Bool) : Nat := ((List.range (id + 1)).filter (fun i => !seen i)).length
theorem filter_mark (seen : Nat → Bool) (i : Nat) (hn : seen i = false) : ∀ l : List Nat, l.Nodup → i ∈ l → (l.filter (fun j => !mark seen i j)).length + 1 = (l.filter (fun j => !seen j)).length
  | [], _, h => by simp at h
  | a :: l, hd, h => by
    rw [List.nodup_cons] at hd
    by_cases e : a = i
    · subst e
      have : l.filter (fun j => !mark seen a j) = l.filter (fun j => !seen j) := by
        apply List.filter_congr
        intro j hj
        have : ¬ j = a := fun e => hd.1 (e ▸ hj)
        simp [mark, this]
      rw [List.filter_cons, List.filter_cons, this]
      simp [mark_same, hn]
    · have hm : i ∈ l := by simpa [Ne.symm e] using h
      have ih := filter_mark seen i hn l hd.2 hm
      have ea : mark seen i a = seen a := by simp [mark, e]
      rw [List.filter_cons, List.filter_cons, ea]
      cases seen a <;> simp <;> omega
theorem unseen_mark {id i : Nat} {seen : Nat → Bool} (hn : seen i = false) (hi : i < id + 1) : unseen id (mark seen i) + 1 = unseen id seen :=
  filter_mark seen i hn _ List.nodup_range (by simp; omega)
def meas (id : Nat) (seen : Nat → Bool) (T : List Nat) : Nat := 2 * unseen id seen + T.length
theorem meas_reach {id i : Nat} {seen : Nat → Bool} {T : List Nat} (hi : i < id + 1) : meas id (seen' seen i) (todo' seen T i) ≤ meas id seen T := by
  unfold seen' todo' meas
  cases h : seen i
  · rw [if_neg (by simp), if_neg (by simp)]
    have := unseen_mark h hi
    simp only [List.length_append, List.length_cons, List.length_nil]
    omega
  · rw [if_pos rfl, if_pos rfl]
    exact Nat.le_refl _
theorem meas_pop {id k : Nat} {seen : Nat → Bool} {T : List Nat} : meas id seen T < meas id seen (T ++ [k]) := by
  unfold meas
  simp

theorem nodup_le : ∀ (n : Nat) (T : List Nat), T.Nodup → (∀ i ∈ T, i < n) → T.length ≤ n
  | 0, T, _, h => by
    cases T with
    | nil => simp
    | cons a t => have := h a (by simp); omega
  | n + 1, T, nd, h => by
    by_cases hn : n ∈ T
    · have ih := nodup_le n (T.erase n) (nd.erase n) (fun i hi => by
        have hm := (List.Nodup.mem_erase_iff nd).1 hi
        have := h i hm.2
        omega)
      rw [List.length_erase_of_mem hn] at ih
      omega
    · have ih := nodup_le n T nd (fun i hi => by
        have := h i hi
        have : i ≠ n := fun e => hn (e ▸ hi)
        omega)
      omega

theorem Inv.len {L : List Nd} {id : Nat} {seen : Nat → Bool} {T vs : List Nat} {k m : Nat} (g : Gd L) (h : Inv L id seen T vs k m) : T.length ≤ id + 1 := by
  exact nodup_le _ _ h.nd (fun i hi => by have := (h.re i (h.ts i hi)).le g; omega)

/-! ### rising lists -/
theorem rising_ext : ∀ (l l' : List Nat), l.Pairwise (· < ·) → l'.Pairwise (· < ·) → (∀ x, x ∈ l ↔ x ∈ l') → l = l'
  | [], [], _, _, _ => rfl
  | [], b :: l', _, _, h => by have := (h b).2 (by simp); simp at this
  | a :: l, [], _, _, h => by have := (h a).1 (by simp); simp at this
  | a :: l, b :: l', h1, h2, h => by
    rw [List.pairwise_cons] at h1 h2
    have e : a = b := by
      have ha := (h a).1 (by simp)
      have hb := (h b).2 (by simp)
      rw [List.mem_cons] at ha hb
      rcases ha with ha | ha
      · exact ha
      · rcases hb with hb | hb
        · exact hb.symm
        · have := h1.1 b hb; have := h2.1 a ha; omega
    subst e
    congr 1
    refine rising_ext l l' h1.2 h2.2 (fun x => ?_)
    have hx := h x
    rw [List.mem_cons, List.mem_cons] at hx
    constructor
    · intro hm
      rcases hx.1 (.inr hm) with c | c
      · have := h1.1 x hm; omega
      · exact c
    · intro hm
      rcases hx.2 (.inr hm) with c | c
      · have := h2.1 x hm; omega
      · exact c

open Classical in
/-- The variables below the node id, rising. -/
noncomputable def varsOf (L : List Nd) (id : Nat) : List Nat := (List.range 256).filter (fun v => decide (Below2 L id v))
theorem varsOf_rising (L : List Nd) (id : Nat) : (varsOf L id).Pairwise (· < ·) := List.Pairwise.filter _ List.pairwise_lt_range
theorem mem_varsOf {L : List Nd} (g : Gd L) {id v : Nat} : v ∈ varsOf L id ↔ Below2 L id v := by
  unfold varsOf
  rw [List.mem_filter]
  simp only [List.mem_range, decide_eq_true_eq]
  constructor
  · exact fun h => h.2
  · intro h
    refine ⟨?_, h⟩
    obtain ⟨i, x, _, hx, ho, hn⟩ := h
    rw [← hn]
    exact g.var x (List.mem_of_getElem? hx) ho

end Tm
end Go.Proofs.YtkiegiofholofaaGreatDoor

namespace Go.Proofs.YtkiegiofholofaaGreatDoor
open Go.RowKit Go.Maps Bv Tm
namespace Kn
set_option maxHeartbeats 1000000
set_option maxRecDepth 100000

theorem info_int : (Tryz.prog.info? 3).map (fun i => (i.zero, i.size, i.bytes)) = some (some (.int .i64 0), 1, 8) := by kernel_rfl
theorem law_int : Keyed Tryz.prog 3 := int_keyed Tryz.underlying3
theorem key_int {k : Int} (h : I64 k) : keyOf Tryz.prog 3 (.int .i64 k) = some (.int .i64 k) := keyOf_int_mk Tryz.underlying3 (wf_i64 h)

/-- How masks read in a map. -/
def kbElemL (l : List Value) : Option (DataW Unit × List MemPlace) :=
  match l with
  | [.int .u8 w, .int .u64 z, .int .u64 o] => some (.agg [.lit (.int .u8 w), .lit (.int .u64 z), .lit (.int .u64 o)], [])
  | _ => none
def kbElem (v : Value) : Option (DataW Unit × List MemPlace) :=
  match v with
  | .agg cs => kbElemL cs.toList
  | _ => none
theorem kbElem_mk (w z o : Int) : kbElem (.agg #[.int .u8 w, .int .u64 z, .int .u64 o]) = some (.agg [.lit (.int .u8 w), .lit (.int .u64 z), .lit (.int .u64 o)], []) := rfl
theorem kbElem_inv {v : Value} {d : DataW Unit} {ps : List MemPlace} {w z o : Int} (h : kbElem v = some (d, ps)) (hd : d = .agg [.lit (.int .u8 w), .lit (.int .u64 z), .lit (.int .u64 o)]) : v = .agg #[.int .u8 w, .int .u64 z, .int .u64 o] := by
  unfold kbElem at h
  split at h
  · rename_i cs
    unfold kbElemL at h
    split at h
    · rename_i w1 z1 o1 hl
      simp only [Option.some.injEq, Prod.mk.injEq] at h
      rw [← h.1] at hd
      simp at hd
      cases cs
      simp only at hl
      rw [hl, hd.1, hd.2.1, hd.2.2]
    · simp at h
  · simp at h

/-- How the masks of a node are written. -/
def kbLit (L : List Nd) (k : Nat) : DataW Unit := .agg [.lit (.int .u8 ((widAt L ((k : Nat) : Int) : Nat) : Int)), .lit (.int .u64 (((kn L k).1 : Nat) : Int)), .lit (.int .u64 (((kn L k).2 : Nat) : Int))]
def addK (N : List Nat) (k : Nat) : List Nat := if k ∈ N then N else N ++ [k]
/-- The masks of the nodes N stand in the map. -/
structure KbTab (L : List Nd) (N : List Nat) (D : DataW Unit) : Prop where
  tidy : Tidy D
  nd : N.Nodup
  size : Maps.size D = N.length
  has : ∀ k : Int, I64 k → Maps.has D (.int .i64 k) = decide (0 ≤ k ∧ k.toNat ∈ N)
  get : ∀ k : Nat, k ∈ N → I64 ((k : Nat) : Int) → ∀ z, D.atKey (.int .i64 ((k : Nat) : Int)) z = kbLit L k
  no : ∀ k : Int, I64 k → ¬ (0 ≤ k ∧ k.toNat ∈ N) → ∀ z, D.atKey (.int .i64 k) z = z
theorem kbTab_nil (L : List Nd) : KbTab L [] (.map []) := ⟨tidy_empty, List.nodup_nil, rfl, fun k _ => by simp [has_eq], fun k h => by simp at h, fun k _ _ z => rfl⟩
theorem mem_addK {N : List Nat} {k j : Nat} : j ∈ addK N k ↔ j ∈ N ∨ j = k := by
  unfold addK
  split
  · rename_i h
    constructor
    · exact .inl
    · rintro (h1 | rfl)
      · exact h1
      · exact h
  · simp
theorem KbTab.add {L : List Nd} {N : List Nat} {D : DataW Unit} {k : Nat} (h : KbTab L N D) (hk : I64 ((k : Nat) : Int)) : KbTab L (addK N k) (D.put (.int .i64 ((k : Nat) : Int)) (kbLit L k)) := by
  have hkk := law_int.key (key_int hk)
  have hM := h.tidy.isMap
  refine ⟨h.tidy.put hkk _, ?_, ?_, fun j hj => ?_, fun j hj hj6 z => ?_, fun j hj6 hn z => ?_⟩
  · unfold addK
    split
    · exact h.nd
    · rename_i hn
      exact List.nodup_append.2 ⟨h.nd, by simp, fun a ha b hb e => by simp at hb; subst hb; subst e; exact hn ha⟩
  · rw [size_put h.tidy, h.has _ hk, h.size]
    unfold addK
    by_cases hc : k ∈ N
    · simp [hc]
    · simp [hc]
  · by_cases e : j = ((k : Nat) : Int)
    · subst e
      rw [has_put_same hM hkk]
      symm
      rw [decide_eq_true_eq]
      exact ⟨by omega, mem_addK.2 (.inr (by omega))⟩
    · rw [has_put_other (fun c => e (by simpa using c)), h.has j hj]
      apply decide_eq_decide.2
      constructor
      · rintro ⟨a, b⟩
        exact ⟨a, mem_addK.2 (.inl b)⟩
      · rintro ⟨a, b⟩
        rcases mem_addK.1 b with c | c
        · exact ⟨a, c⟩
        · omega
  · by_cases e : j = k
    · subst e; rw [atKey_put_same hM hkk]
    · rw [atKey_put_other (fun c => e (by simp at c; omega))]
      rcases mem_addK.1 hj with c | c
      · exact h.get j c hj6 z
      · exact absurd c e
  · have e : ¬ j = ((k : Nat) : Int) := fun e => hn ⟨by omega, mem_addK.2 (.inr (by omega))⟩
    rw [atKey_put_other (fun c => e (by simpa using c))]
    exact h.no j hj6 (fun c => hn ⟨c.1, mem_addK.2 (.inl c.2)⟩) z

open Classical in
/-- What the map answers of the number q. -/
noncomputable def lkW (L : List Nd) (N : List Nat) (q : Int) : Nat := if 0 ≤ q ∧ q.toNat ∈ N then widAt L q else 0
open Classical in
noncomputable def lkB (L : List Nd) (N : List Nat) (q : Int) : Kb := if 0 ≤ q ∧ q.toNat ∈ N then kn L q.toNat else (0, 0)
theorem lkW_in {L : List Nd} {N : List Nat} {q : Int} (h0 : 0 ≤ q) (h : q.toNat ∈ N) : lkW L N q = widAt L q := by unfold lkW; rw [if_pos ⟨h0, h⟩]
theorem lkB_in {L : List Nd} {N : List Nat} {q : Int} (h0 : 0 ≤ q) (h : q.toNat ∈ N) : lkB L N q = kn L q.toNat := by unfold lkB; rw [if_pos ⟨h0, h⟩]
noncomputable def lkV (L : List Nd) (N : List Nat) (q : Int) : Value := .agg #[.int .u8 ((lkW L N q : Nat) : Int), .int .u64 (((lkB L N q).1 : Nat) : Int), .int .u64 (((lkB L N q).2 : Nat) : Int)]

theorem zero_kb (W : World) : (zeroValue 161).run Tryz.prog W = .ok (.agg #[.int .u8 0, .int .u64 0, .int .u64 0]) W := by kernel_rfl
theorem lk_of {L : List Nd} {N : List Nat} {D : DataW Unit} {v : Value} {ps : List MemPlace} (hv : KbTab L N D) {q : Int} (hq : I64 q) (hR : kbElem v = some (D.atKey (.int .i64 q) (.agg [.lit (.int .u8 0), .lit (.int .u64 0), .lit (.int .u64 0)]), ps)) : v = lkV L N q := by
  by_cases hc : 0 ≤ q ∧ q.toNat ∈ N
  · have e : q = ((q.toNat : Nat) : Int) := by omega
    have hg := hv.get q.toNat hc.2 (by rw [← e]; exact hq) (.agg [.lit (.int .u8 0), .lit (.int .u64 0), .lit (.int .u64 0)])
    rw [← e] at hg
    unfold kbLit at hg
    rw [← e] at hg
    unfold lkV
    rw [lkW_in hc.1 hc.2, lkB_in hc.1 hc.2]
    exact kbElem_inv hR hg
  · have hg := hv.no q hq hc (.agg [.lit (.int .u8 0), .lit (.int .u64 0), .lit (.int .u64 0)])
    unfold lkV lkW lkB
    rw [if_neg hc, if_neg hc]
    exact kbElem_inv hR hg
theorem look_kb {L : List Nd} {N : List Nat} {w : World} {b n : Nat} {D : DataW Unit} (h : w.ownsMap Tryz.prog 3 kbElem b n D) (hv : KbTab L N D) {q : Int} (hq : I64 q) :
    (Instr.lookup 158 (.map (some b)) (.int .i64 q) false).run Tryz.prog w = .ok (lkV L N q) w := by
  obtain ⟨v, ps, hrun, hR⟩ := h.lookup law_int Tryz.underlying158 (zero_kb w) (R := kbElem) (z := .agg #[.int .u8 0, .int .u64 0, .int .u64 0]) (kbElem_mk 0 0 0) (key_int hq)
  rw [hrun, lk_of hv hq hR]
theorem look_ok {L : List Nd} {N : List Nat} {w : World} {b n : Nat} {D : DataW Unit} (h : w.ownsMap Tryz.prog 3 kbElem b n D) (hv : KbTab L N D) {q : Int} (hq : I64 q) :
    (Instr.lookup 158 (.map (some b)) (.int .i64 q) true).run Tryz.prog w = .ok (.tuple #[lkV L N q, .bool (decide (0 ≤ q ∧ q.toNat ∈ N))]) w := by
  obtain ⟨v, ps, hrun, hR⟩ := h.look_ok law_int Tryz.underlying158 (zero_kb w) (R := kbElem) (z := .agg #[.int .u8 0, .int .u64 0, .int .u64 0]) (kbElem_mk 0 0 0) (key_int hq)
  rw [hrun, lk_of hv hq hR, hv.has q hq]
/-- A map has no more entries than its data. -/
theorem owns_fit {w : World} {b n m : Nat} {D : DataW Unit} (h : w.ownsMap Tryz.prog 3 kbElem b n D) (hm : Maps.size D ≤ m) : w.ownsMap Tryz.prog 3 kbElem b m D := by
  obtain ⟨es, clock, hb, F, hs, rfl⟩ := h
  exact ⟨es, clock, hb, F, by simpa [Maps.size, length_sorted] using hm, rfl⟩

/-- The map of those nodes N that are done stands in the block b. -/
def MapAt (w : World) (L : List Nd) (b : Nat) (N : List Nat) : Prop := ∃ D : DataW Unit, w.ownsMap Tryz.prog 3 kbElem b N.length D ∧ KbTab L N D
theorem MapAt.lt {w : World} {L : List Nd} {b : Nat} {N : List Nat} (h : MapAt w L b N) : b < w.heap.size := by obtain ⟨D, h1, _⟩ := h; exact h1.lt
theorem MapAt.same {w w' : World} {L : List Nd} {b : Nat} {N : List Nat} (h : MapAt w L b N) (e : w'.heap[b]? = w.heap[b]?) : MapAt w' L b N := by
  obtain ⟨D, ⟨es, clock, hb, r⟩, ht⟩ := h
  exact ⟨D, ⟨es, clock, e.trans hb, r⟩, ht⟩
theorem MapAt.look {w : World} {L : List Nd} {b : Nat} {N : List Nat} (h : MapAt w L b N) {q : Int} (hq : I64 q) :
    (Instr.lookup 158 (.map (some b)) (.int .i64 q) false).run Tryz.prog w = .ok (lkV L N q) w := by obtain ⟨D, h1, h2⟩ := h; exact look_kb h1 h2 hq
theorem MapAt.look2 {w : World} {L : List Nd} {b : Nat} {N : List Nat} (h : MapAt w L b N) {q : Int} (hq : I64 q) :
    (Instr.lookup 158 (.map (some b)) (.int .i64 q) true).run Tryz.prog w = .ok (.tuple #[lkV L N q, .bool (decide (0 ≤ q ∧ q.toNat ∈ N))]) w := by obtain ⟨D, h1, h2⟩ := h; exact look_ok h1 h2 hq
end Kn
end Go.Proofs.YtkiegiofholofaaGreatDoor
