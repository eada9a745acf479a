/-
How many kids an operator has, as the document's answer tells it: a fact on one call.
The document's own store in memory; what holds while its width goes through a node's kids.
A node with those fields alone that its operator has: what own of layer term returns, as a fact on one call.
-/
import Derived.Test.YtbemkaninedonaaGreatDoorPt01
import Derived.Test.YtbemkaninedonaaGreatDoorPt04
import Derived.Test.YtbemkaninedonaaGreatDoorPt05
import Derived.Deep.RegionWith
import Derived.Laws.IdiomCopy
namespace Go.Proofs.YtbemkaninedonaaGreatDoor
open Go.RowKit Bv
namespace Tm
set_option maxHeartbeats 400000
set_option maxRecDepth 100000

theorem rkids_1 (W : World) : Calls Tryz.prog 23 #[.int .u8 1] W fun e W' => e = .returned (.int .i64 0) ∧ W = W' := by
  go_enter Tryz.func23, Tryz.ntmps23
  go_wp2_with fail
  go_ret
  exact ⟨rfl, rfl⟩

theorem rkids_2 (W : World) : Calls Tryz.prog 23 #[.int .u8 2] W fun e W' => e = .returned (.int .i64 0) ∧ W = W' := by
  go_enter Tryz.func23, Tryz.ntmps23
  go_wp2_with fail
  go_ret
  exact ⟨rfl, rfl⟩

theorem rkids_3 (W : World) : Calls Tryz.prog 23 #[.int .u8 3] W fun e W' => e = .returned (.int .i64 1) ∧ W = W' := by
  go_enter Tryz.func23, Tryz.ntmps23
  go_wp2_with fail
  go_ret
  exact ⟨rfl, rfl⟩

theorem rkids_4 (W : World) : Calls Tryz.prog 23 #[.int .u8 4] W fun e W' => e = .returned (.int .i64 1) ∧ W = W' := by
  go_enter Tryz.func23, Tryz.ntmps23
  go_wp2_with fail
  go_ret
  exact ⟨rfl, rfl⟩

theorem rkids_5 (W : World) : Calls Tryz.prog 23 #[.int .u8 5] W fun e W' => e = .returned (.int .i64 2) ∧ W = W' := by
  go_enter Tryz.func23, Tryz.ntmps23
  go_wp2_with fail
  go_ret
  exact ⟨rfl, rfl⟩

theorem rkids_6 (W : World) : Calls Tryz.prog 23 #[.int .u8 6] W fun e W' => e = .returned (.int .i64 2) ∧ W = W' := by
  go_enter Tryz.func23, Tryz.ntmps23
  go_wp2_with fail
  go_ret
  exact ⟨rfl, rfl⟩

theorem rkids_7 (W : World) : Calls Tryz.prog 23 #[.int .u8 7] W fun e W' => e = .returned (.int .i64 2) ∧ W = W' := by
  go_enter Tryz.func23, Tryz.ntmps23
  go_wp2_with fail
  go_ret
  exact ⟨rfl, rfl⟩

theorem rkids_8 (W : World) : Calls Tryz.prog 23 #[.int .u8 8] W fun e W' => e = .returned (.int .i64 2) ∧ W = W' := by
  go_enter Tryz.func23, Tryz.ntmps23
  go_wp2_with fail
  go_ret
  exact ⟨rfl, rfl⟩

theorem rkids_9 (W : World) : Calls Tryz.prog 23 #[.int .u8 9] W fun e W' => e = .returned (.int .i64 2) ∧ W = W' := by
  go_enter Tryz.func23, Tryz.ntmps23
  go_wp2_with fail
  go_ret
  exact ⟨rfl, rfl⟩

theorem rkids_10 (W : World) : Calls Tryz.prog 23 #[.int .u8 10] W fun e W' => e = .returned (.int .i64 2) ∧ W = W' := by
  go_enter Tryz.func23, Tryz.ntmps23
  go_wp2_with fail
  go_ret
  exact ⟨rfl, rfl⟩

theorem rkids_11 (W : World) : Calls Tryz.prog 23 #[.int .u8 11] W fun e W' => e = .returned (.int .i64 2) ∧ W = W' := by
  go_enter Tryz.func23, Tryz.ntmps23
  go_wp2_with fail
  go_ret
  exact ⟨rfl, rfl⟩

theorem rkids_12 (W : World) : Calls Tryz.prog 23 #[.int .u8 12] W fun e W' => e = .returned (.int .i64 2) ∧ W = W' := by
  go_enter Tryz.func23, Tryz.ntmps23
  go_wp2_with fail
  go_ret
  exact ⟨rfl, rfl⟩

theorem rkids_13 (W : World) : Calls Tryz.prog 23 #[.int .u8 13] W fun e W' => e = .returned (.int .i64 2) ∧ W = W' := by
  go_enter Tryz.func23, Tryz.ntmps23
  go_wp2_with fail
  go_ret
  exact ⟨rfl, rfl⟩

theorem rkids_14 (W : World) : Calls Tryz.prog 23 #[.int .u8 14] W fun e W' => e = .returned (.int .i64 2) ∧ W = W' := by
  go_enter Tryz.func23, Tryz.ntmps23
  go_wp2_with fail
  go_ret
  exact ⟨rfl, rfl⟩

theorem rkids_15 (W : World) : Calls Tryz.prog 23 #[.int .u8 15] W fun e W' => e = .returned (.int .i64 2) ∧ W = W' := by
  go_enter Tryz.func23, Tryz.ntmps23
  go_wp2_with fail
  go_ret
  exact ⟨rfl, rfl⟩

theorem rkids_16 (W : World) : Calls Tryz.prog 23 #[.int .u8 16] W fun e W' => e = .returned (.int .i64 2) ∧ W = W' := by
  go_enter Tryz.func23, Tryz.ntmps23
  go_wp2_with fail
  go_ret
  exact ⟨rfl, rfl⟩

theorem rkids_17 (W : World) : Calls Tryz.prog 23 #[.int .u8 17] W fun e W' => e = .returned (.int .i64 2) ∧ W = W' := by
  go_enter Tryz.func23, Tryz.ntmps23
  go_wp2_with fail
  go_ret
  exact ⟨rfl, rfl⟩

theorem rkids_18 (W : World) : Calls Tryz.prog 23 #[.int .u8 18] W fun e W' => e = .returned (.int .i64 2) ∧ W = W' := by
  go_enter Tryz.func23, Tryz.ntmps23
  go_wp2_with fail
  go_ret
  exact ⟨rfl, rfl⟩

theorem rkids_19 (W : World) : Calls Tryz.prog 23 #[.int .u8 19] W fun e W' => e = .returned (.int .i64 2) ∧ W = W' := by
  go_enter Tryz.func23, Tryz.ntmps23
  go_wp2_with fail
  go_ret
  exact ⟨rfl, rfl⟩

theorem rkids_20 (W : World) : Calls Tryz.prog 23 #[.int .u8 20] W fun e W' => e = .returned (.int .i64 2) ∧ W = W' := by
  go_enter Tryz.func23, Tryz.ntmps23
  go_wp2_with fail
  go_ret
  exact ⟨rfl, rfl⟩

theorem rkids_21 (W : World) : Calls Tryz.prog 23 #[.int .u8 21] W fun e W' => e = .returned (.int .i64 2) ∧ W = W' := by
  go_enter Tryz.func23, Tryz.ntmps23
  go_wp2_with fail
  go_ret
  exact ⟨rfl, rfl⟩

theorem rkids_22 (W : World) : Calls Tryz.prog 23 #[.int .u8 22] W fun e W' => e = .returned (.int .i64 1) ∧ W = W' := by
  go_enter Tryz.func23, Tryz.ntmps23
  go_wp2_with fail
  go_ret
  exact ⟨rfl, rfl⟩

theorem rkids_23 (W : World) : Calls Tryz.prog 23 #[.int .u8 23] W fun e W' => e = .returned (.int .i64 1) ∧ W = W' := by
  go_enter Tryz.func23, Tryz.ntmps23
  go_wp2_with fail
  go_ret
  exact ⟨rfl, rfl⟩

theorem rkids_24 (W : World) : Calls Tryz.prog 23 #[.int .u8 24] W fun e W' => e = .returned (.int .i64 1) ∧ W = W' := by
  go_enter Tryz.func23, Tryz.ntmps23
  go_wp2_with fail
  go_ret
  exact ⟨rfl, rfl⟩

theorem rkids_25 (W : World) : Calls Tryz.prog 23 #[.int .u8 25] W fun e W' => e = .returned (.int .i64 3) ∧ W = W' := by
  go_enter Tryz.func23, Tryz.ntmps23
  go_wp2_with fail
  go_ret
  exact ⟨rfl, rfl⟩

theorem rkids_no0 (o : Nat) (h : o = 0) (W : World) : Calls Tryz.prog 23 #[.int .u8 o] W fun e W' => e = .returned (.int .i64 (-1)) ∧ W = W' := by
  have d1 : ((o : Int) == 1) = false := by simp; omega
  have d2 : ((o : Int) == 2) = false := by simp; omega
  have d3 : ((o : Int) == 3) = false := by simp; omega
  have d4 : ((o : Int) == 4) = false := by simp; omega
  have d22 : ((o : Int) == 22) = false := by simp; omega
  have d23 : ((o : Int) == 23) = false := by simp; omega
  have d24 : ((o : Int) == 24) = false := by simp; omega
  have d25 : ((o : Int) == 25) = false := by simp; omega
  have g5 : decide ((5 : Int) ≤ (o : Int)) = false := decide_eq_false (by omega)
  go_enter Tryz.func23, Tryz.ntmps23
  go_wp2_with fail
  go_ret
  exact ⟨rfl, rfl⟩

theorem rkids_no26 (o : Nat) (h : 25 < o) (W : World) : Calls Tryz.prog 23 #[.int .u8 o] W fun e W' => e = .returned (.int .i64 (-1)) ∧ W = W' := by
  have d1 : ((o : Int) == 1) = false := by simp; omega
  have d2 : ((o : Int) == 2) = false := by simp; omega
  have d3 : ((o : Int) == 3) = false := by simp; omega
  have d4 : ((o : Int) == 4) = false := by simp; omega
  have d22 : ((o : Int) == 22) = false := by simp; omega
  have d23 : ((o : Int) == 23) = false := by simp; omega
  have d24 : ((o : Int) == 24) = false := by simp; omega
  have d25 : ((o : Int) == 25) = false := by simp; omega
  have g5 : decide ((5 : Int) ≤ (o : Int)) = true := decide_eq_true (by omega)
  have g21 : decide ((o : Int) ≤ 21) = false := decide_eq_false (by omega)
  go_enter Tryz.func23, Tryz.ntmps23
  go_wp2_with fail
  go_ret
  exact ⟨rfl, rfl⟩

theorem rkids_any (o : Nat) (W : World) : Calls Tryz.prog 23 #[.int .u8 o] W fun e W' => e = .returned (.int .i64 (rk o)) ∧ W = W' := by
  by_cases h0 : o = 0
  · rw [show rk o = -1 by subst h0; rfl]; exact rkids_no0 o h0 W
  by_cases h26 : 25 < o
  · rw [show rk o = -1 by unfold rk; rw [if_neg (by omega), if_neg (by omega), if_neg (by omega), if_neg (by omega)]]; exact rkids_no26 o h26 W
  by_cases h101 : o = 1
  · subst h101; exact rkids_1 W
  by_cases h102 : o = 2
  · subst h102; exact rkids_2 W
  by_cases h103 : o = 3
  · subst h103; exact rkids_3 W
  by_cases h104 : o = 4
  · subst h104; exact rkids_4 W
  by_cases h105 : o = 5
  · subst h105; exact rkids_5 W
  by_cases h106 : o = 6
  · subst h106; exact rkids_6 W
  by_cases h107 : o = 7
  · subst h107; exact rkids_7 W
  by_cases h108 : o = 8
  · subst h108; exact rkids_8 W
  by_cases h109 : o = 9
  · subst h109; exact rkids_9 W
  by_cases h110 : o = 10
  · subst h110; exact rkids_10 W
  by_cases h111 : o = 11
  · subst h111; exact rkids_11 W
  by_cases h112 : o = 12
  · subst h112; exact rkids_12 W
  by_cases h113 : o = 13
  · subst h113; exact rkids_13 W
  by_cases h114 : o = 14
  · subst h114; exact rkids_14 W
  by_cases h115 : o = 15
  · subst h115; exact rkids_15 W
  by_cases h116 : o = 16
  · subst h116; exact rkids_16 W
  by_cases h117 : o = 17
  · subst h117; exact rkids_17 W
  by_cases h118 : o = 18
  · subst h118; exact rkids_18 W
  by_cases h119 : o = 19
  · subst h119; exact rkids_19 W
  by_cases h120 : o = 20
  · subst h120; exact rkids_20 W
  by_cases h121 : o = 21
  · subst h121; exact rkids_21 W
  by_cases h122 : o = 22
  · subst h122; exact rkids_22 W
  by_cases h123 : o = 23
  · subst h123; exact rkids_23 W
  by_cases h124 : o = 24
  · subst h124; exact rkids_24 W
  obtain rfl : o = 25 := by omega
  exact rkids_25 W
end Tm
end Go.Proofs.YtbemkaninedonaaGreatDoor

namespace Go.Proofs.YtbemkaninedonaaGreatDoor
open Go.RowKit Go.Maps Bv
namespace Tm
set_option maxHeartbeats 400000
set_option maxRecDepth 100000

/-- The block p of w is the document's store that has the nodes L; its list is the value rv; all of it lies from block B on. -/
structure RefAt (B : Nat) (w : World) (p : Nat) (rv : Value) (L : List Nd) : Prop where
  bp : B ≤ p
  lt : p < w.heap.size
  c0 : w.cell? ⟨p, 0, none⟩ = some rv
  cw : ∀ v, v < 256 → w.cell? ⟨p, 1 + v, none⟩ = some (.int .u8 ((wdOf L v : Nat) : Int))
  fr : ∀ o, w.frozen? ⟨p, o, none⟩ = false
  row : w.ownsRow B 45 7 rv L.length (rowOf L)
  gp : rv.ownBlock ≠ some p
  good : Gd L
def rfoot (p : Nat) (rv : Value) (k : Nat) : Prop := k = p ∨ rv.ownBlock = some k

theorem RefAt.kept {B : Nat} {w w' : World} {p : Nat} {rv : Value} {L : List Nd} {F : Nat → Prop} (h : RefAt B w p rv L) (k : Kept F w w') (hF : ∀ i, rfoot p rv i → ¬ F i) : RefAt B w' p rv L := by
  have fp := hF p (.inl rfl)
  exact ⟨h.bp, Nat.lt_of_lt_of_le h.lt k.size, (k.cell (x := ⟨p, 0, none⟩) h.lt fp).trans h.c0, fun v hv => (k.cell (x := ⟨p, 1 + v, none⟩) h.lt fp).trans (h.cw v hv), fun o => (k.frozen (x := ⟨p, o, none⟩) h.lt fp).trans (h.fr o),
    row_kept h.row k (fun g e => hF g (.inr e)), h.gp, h.good⟩
theorem RefAt.call {B : Nat} {w w' : World} {p : Nat} {rv : Value} {L : List Nd} (h : RefAt B w p rv L) (k : Below w.heap.size w w') : RefAt B w' p rv L := h.kept (Kept.ofBelow k (fun _ => False)) (fun _ _ c => c)
theorem RefAt.shape {B : Nat} {w : World} {p : Nat} {rv : Value} {L : List Nd} (h : RefAt B w p rv L) : ∃ a c, rv = .slice a L.length c := by
  rcases h.row with ⟨_, ⟨h1, h2⟩ | ⟨g, cap, cur, hv, _⟩⟩
  · exact ⟨none, 0, by rw [h1, h2]⟩
  · exact ⟨_, _, hv⟩

theorem rzero_exact (w : Nat) (W : World) :
    Calls Tryz.prog 35 #[.int .u8 ((w : Nat) : Int)] W fun e W' => e = .returned (.agg #[.int .u8 ((w : Nat) : Int), .int .u64 0]) ∧ W' = W.alloc (.cells #[.int .u8 ((w : Nat) : Int), .int .u64 0] 77) := by
  go_enter Tryz.func35, Tryz.ntmps35
  go_wp2_with fail
  exact bodyPost_ret (v := .agg #[.int .u8 ((w : Nat) : Int), .int .u64 0]) (by simp [results, Tryz.results35, go_sem]) rfl ⟨rfl, rfl⟩

/-- What stands in the place j of the vectors when i kids have been looked at. -/
def wa (L : List Nd) (x : Nd) (i j : Nat) : Nat := if j < i then wid L x j else 0

/-- Ahead of the kid i. -/
structure RW (L : List Nd) (x : Nd) (W : World) (bx ar i : Nat) (w : World) : Prop where
  box : At7 w bx (.int .u8 ((x.o : Nat) : Int)) (.int .u8 ((x.w : Nat) : Int)) (.int .i64 x.k0) (.int .i64 x.k1) (.int .i64 x.k2) (.int .u64 ((x.n : Nat) : Int)) (.int .u8 ((x.l : Nat) : Int))
  ne : bx ≠ ar
  la : ar < w.heap.size
  bb : W.heap.size ≤ bx
  ba : W.heap.size ≤ ar
  c0 : ∀ j, j < 3 → w.cell? ⟨ar, j * 2, none⟩ = some (.int .u8 ((wa L x i j : Nat) : Int))
  c1 : ∀ j, j < 3 → w.cell? ⟨ar, j * 2 + 1, none⟩ = some (.int .u64 0)
  fr : ∀ o, w.frozen? ⟨ar, o, none⟩ = false
  b : Below W.heap.size W w
  k0 : ∀ j, j < i → j < kc x.o → inB L (x.kid j) = true
  k1 : ∀ j, j < i → kc x.o ≤ j → x.kid j = 0

theorem RW.skip {L : List Nd} {x : Nd} {W w : World} {bx ar i : Nat} (h : RW L x W bx ar i w) (hk : kc x.o ≤ i) (hz : x.kid i = 0) : RW L x W bx ar (i + 1) w := by
  refine ⟨h.box, h.ne, h.la, h.bb, h.ba, fun j hj => ?_, h.c1, h.fr, h.b, fun j hj hjk => ?_, fun j hj hjk => ?_⟩
  · rw [h.c0 j hj]
    have : wa L x (i + 1) j = wa L x i j := by
      unfold wa
      by_cases e : j = i
      · subst e
        rw [if_pos (by omega : j < j + 1), if_neg (by omega : ¬ j < j)]
        unfold wid
        rw [if_neg (by omega)]
      · by_cases hlt : j < i
        · rw [if_pos (by omega), if_pos hlt]
        · rw [if_neg (by omega), if_neg hlt]
    rw [this]
  · exact h.k0 j (by omega) hjk
  · by_cases e : j = i
    · subst e; exact hz
    · exact h.k1 j (by omega) hjk

theorem RW.store {L : List Nd} {x : Nd} {W w : World} {bx ar i : Nat} (h : RW L x W bx ar i w) (hi : i < 3) (hk : i < kc x.o) (hin : inB L (x.kid i) = true) :
    RW L x W bx ar (i + 1) ((w.setCell ⟨ar, i * 2, none⟩ (.int .u8 ((widAt L (x.kid i) : Nat) : Int))).setCell ⟨ar, i * 2 + 1, none⟩ (.int .u64 0)) := by
  have hs : ((w.setCell ⟨ar, i * 2, none⟩ (.int .u8 ((widAt L (x.kid i) : Nat) : Int))).setCell ⟨ar, i * 2 + 1, none⟩ (.int .u64 0)).heap.size = w.heap.size := by simp [World.setCell]
  have la := h.la
  refine ⟨h.box.move (fun off => ?_), h.ne, by rw [hs]; exact la, h.bb, h.ba, fun j hj => ?_, fun j hj => ?_, fun off => ?_, (h.b.setCell h.ba _).setCell h.ba _, fun j hj hjk => ?_, fun j hj hjk => h.k1 j (by omega) hjk⟩
  · rw [World.cell?_setCell_far _ _ _ _ (by simpa using h.ne.symm), World.cell?_setCell_far _ _ _ _ (by simpa using h.ne.symm)]
  · rw [World.cell?_setCell_other _ _ _ _ (by simp; try omega)]
    by_cases e : j = i
    · subst e
      rw [World.cell?_setCell_same' _ _ _ (by rw [h.c0 j hj]; rfl)]
      unfold wa wid
      rw [if_pos (by omega), if_pos hk]
    · rw [World.cell?_setCell_other _ _ _ _ (by simp; try omega), h.c0 j hj]
      have : wa L x (i + 1) j = wa L x i j := by
        unfold wa
        by_cases hlt : j < i
        · rw [if_pos (by omega), if_pos hlt]
        · rw [if_neg (by omega), if_neg hlt]
      rw [this]
  · by_cases e : j = i
    · subst e
      exact World.cell?_setCell_same' _ _ _ (by rw [World.cell?_setCell_other _ _ _ _ (by simp), h.c1 j hj]; rfl)
    · rw [World.cell?_setCell_other _ _ _ _ (by simp; try omega), World.cell?_setCell_other _ _ _ _ (by simp; try omega)]
      exact h.c1 j hj
  · rw [World.frozen?_setCell, World.frozen?_setCell]
    exact h.fr off
  · by_cases e : j = i
    · subst e; exact hin
    · exact h.k0 j (by omega) hjk

theorem RW.alloc {L : List Nd} {x : Nd} {W w : World} {bx ar i : Nat} (h : RW L x W bx ar i w) (o : Obj) : RW L x W bx ar i (w.alloc o) :=
  ⟨h.box.alloc o, h.ne, by rw [size_alloc]; have := h.la; omega, h.bb, h.ba, fun j hj => (World.cell?_alloc_lt _ _ _ h.la).trans (h.c0 j hj), fun j hj => (World.cell?_alloc_lt _ _ _ h.la).trans (h.c1 j hj),
    fun off => (World.frozen?_alloc_old _ _ _ (Nat.ne_of_lt h.la)).trans (h.fr off), bel_alloc h.b o, h.k0, h.k1⟩

theorem RW.drew {L : List Nd} {x : Nd} {W w : World} {bx ar i : Nat} (h : RW L x W bx ar i w) : RW L x W bx ar i w.drew :=
  ⟨h.box.drew, h.ne, h.la, h.bb, h.ba, h.c0, h.c1, h.fr, h.b.drew, h.k0, h.k1⟩
theorem RW.drewN {L : List Nd} {x : Nd} {W w : World} {bx ar i : Nat} (h : RW L x W bx ar i w) (n : Nat) : RW L x W bx ar i (w.drewN n) :=
  ⟨h.box, h.ne, h.la, h.bb, h.ba, h.c0, h.c1, h.fr, bel_drewN h.b n, h.k0, h.k1⟩

theorem rw_start (L : List Nd) (x : Nd) (W : World) : RW L x W W.heap.size (W.heap.size + 1) 0 ((W.alloc (.cells #[.int .u8 ((x.o : Nat) : Int), .int .u8 ((x.w : Nat) : Int), .int .i64 x.k0, .int .i64 x.k1, .int .i64 x.k2, .int .u64 ((x.n : Nat) : Int), .int .u8 ((x.l : Nat) : Int)] 45)).alloc (.cells #[.int .u8 0, .int .u64 0, .int .u8 0, .int .u64 0, .int .u8 0, .int .u64 0] 80)) := by
  have A := (At7.new W (.int .u8 ((x.o : Nat) : Int)) (.int .u8 ((x.w : Nat) : Int)) (.int .i64 x.k0) (.int .i64 x.k1) (.int .i64 x.k2) (.int .u64 ((x.n : Nat) : Int)) (.int .u8 ((x.l : Nat) : Int)) 45).alloc (.cells #[.int .u8 0, .int .u64 0, .int .u8 0, .int .u64 0, .int .u8 0, .int .u64 0] 80)
  have hh := (MapKept.heap_alloc (W.alloc (.cells #[.int .u8 ((x.o : Nat) : Int), .int .u8 ((x.w : Nat) : Int), .int .i64 x.k0, .int .i64 x.k1, .int .i64 x.k2, .int .u64 ((x.n : Nat) : Int), .int .u8 ((x.l : Nat) : Int)] 45)) (.cells #[.int .u8 0, .int .u64 0, .int .u8 0, .int .u64 0, .int .u8 0, .int .u64 0] 80)).1
  rw [size_alloc] at hh
  have hb : Below W.heap.size W ((W.alloc (.cells #[.int .u8 ((x.o : Nat) : Int), .int .u8 ((x.w : Nat) : Int), .int .i64 x.k0, .int .i64 x.k1, .int .i64 x.k2, .int .u64 ((x.n : Nat) : Int), .int .u8 ((x.l : Nat) : Int)] 45)).alloc (.cells #[.int .u8 0, .int .u64 0, .int .u8 0, .int .u64 0, .int .u8 0, .int .u64 0] 80)) := bel_alloc (bel_alloc (Below.refl _ _) _) _
  have hs : ((W.alloc (.cells #[.int .u8 ((x.o : Nat) : Int), .int .u8 ((x.w : Nat) : Int), .int .i64 x.k0, .int .i64 x.k1, .int .i64 x.k2, .int .u64 ((x.n : Nat) : Int), .int .u8 ((x.l : Nat) : Int)] 45)).alloc (.cells #[.int .u8 0, .int .u64 0, .int .u8 0, .int .u64 0, .int .u8 0, .int .u64 0] 80)).heap.size = W.heap.size + 1 + 1 := by rw [size_alloc, size_alloc]
  generalize ((W.alloc (.cells #[.int .u8 ((x.o : Nat) : Int), .int .u8 ((x.w : Nat) : Int), .int .i64 x.k0, .int .i64 x.k1, .int .i64 x.k2, .int .u64 ((x.n : Nat) : Int), .int .u8 ((x.l : Nat) : Int)] 45)).alloc (.cells #[.int .u8 0, .int .u64 0, .int .u8 0, .int .u64 0, .int .u8 0, .int .u64 0] 80)) = w at A hh hb hs ⊢
  refine ⟨A, by omega, by omega, Nat.le_refl _, by omega, fun j hj => ?_, fun j hj => ?_, fun o => ?_, hb, fun j hj => by omega, fun j hj => by omega⟩
  · unfold World.cell?
    rw [hh]
    match j, hj with
    | 0, _ => rfl
    | 1, _ => rfl
    | 2, _ => rfl
  · unfold World.cell?
    rw [hh]
    match j, hj with
    | 0, _ => rfl
    | 1, _ => rfl
    | 2, _ => rfl
  · unfold World.frozen?
    rw [hh]
    simp

end Tm
end Go.Proofs.YtbemkaninedonaaGreatDoor

namespace Go.Proofs.YtbemkaninedonaaGreatDoor
open Go.RowKit Bv
namespace Tm
set_option maxHeartbeats 1000000
set_option maxRecDepth 100000

theorem elem_int : (Tryz.prog.info? 3).map (·.size) = some 1 := by kernel_rfl
theorem copy_0 (w : World) (b a : Addr) : (Builtin.copy_ #[69, 69] 3 #[.slice (some b) 3 3, .slice (some a) 0 3]).run Tryz.prog w = .ok (.int .i64 0) w :=
  run_copy_none w _ _ _ 3 _ _ 3 3 0 3 Tryz.underlying69 elem_int rfl

theorem three0 (W : World) (A B C : Obj) : (((W.alloc A).alloc B).alloc C).drew.heap[W.heap.size]? = some A := by
  show (((W.alloc A).alloc B).alloc C).heap[W.heap.size]? = some A
  rw [Below.heap_alloc _ _ _ (by simp; omega), Below.heap_alloc _ _ _ (by simp)]
  exact (MapKept.heap_alloc W A).1
theorem three2 (W : World) (A B C : Obj) : (((W.alloc A).alloc B).alloc C).drew.heap[W.heap.size + 1 + 1]? = some C := by
  have h := (MapKept.heap_alloc ((W.alloc A).alloc B) C).1
  have e : ((W.alloc A).alloc B).heap.size = W.heap.size + 1 + 1 := by simp
  rw [e] at h
  exact h

theorem copyg_1 (x0 x1 x5 x6 y0 y1 y2 y3 y4 y5 y6 : Value) (k0 k1 k2 : Int) (w : World) (a b : Nat) (ha : w.heap[a]? = some (.cells #[x0, x1, .int .i64 k0, .int .i64 k1, .int .i64 k2, x5, x6] 45)) (hb : w.heap[b]? = some (.cells #[y0, y1, y2, y3, y4, y5, y6] 45)) :
    (Builtin.copy_ #[69, 69] 3 #[.slice (some ⟨b, 2, none⟩) 3 3, .slice (some ⟨a, 2, none⟩) 1 3]).run Tryz.prog w = .ok (.int .i64 1) (w.setCell ⟨b, 2, none⟩ (.int .i64 k0)) := by
  have h := run_copy_cells (P := Tryz.prog) w 69 69 3 3 b 2 3 3 ⟨a, 2, none⟩ 1 3 [.int .i64 k0] Tryz.underlying69 elem_int rfl
    (by intro j v hj; match j, hj with | 0, hj => simp at hj; subst hj; simp [Addr.add, World.cell?, ha])
    (by intro j hj; match j, hj with | 0, _ => simp [World.cell?, hb])
    (by intro j hj; match j, hj with | 0, _ => simp [World.frozen?, hb])
    (by intro v hv; simp at hv; subst hv; rfl)
  exact h
theorem copy_1 (c : Int) (w n l : Nat) (k0 k1 k2 : Int) (W : World) :
    (Builtin.copy_ #[69, 69] 3 #[.slice (some ⟨W.heap.size + 1 + 1, 2, none⟩) 3 3, .slice (some ⟨W.heap.size, 2, none⟩) 1 3]).run Tryz.prog ((((W.alloc (.cells #[.int .u8 c, .int .u8 ((w : Nat) : Int), .int .i64 k0, .int .i64 k1, .int .i64 k2, .int .u64 ((n : Nat) : Int), .int .u8 ((l : Nat) : Int)] 45)).alloc (.cells #[.int .u8 0, .int .u8 0, .int .i64 0, .int .i64 0, .int .i64 0, .int .u64 0, .int .u8 0] 45)).alloc (.cells #[.int .u8 c, .int .u8 ((w : Nat) : Int), .int .i64 0, .int .i64 0, .int .i64 0, .int .u64 0, .int .u8 0] 45)).drew) = .ok (.int .i64 1) (((((W.alloc (.cells #[.int .u8 c, .int .u8 ((w : Nat) : Int), .int .i64 k0, .int .i64 k1, .int .i64 k2, .int .u64 ((n : Nat) : Int), .int .u8 ((l : Nat) : Int)] 45)).alloc (.cells #[.int .u8 0, .int .u8 0, .int .i64 0, .int .i64 0, .int .i64 0, .int .u64 0, .int .u8 0] 45)).alloc (.cells #[.int .u8 c, .int .u8 ((w : Nat) : Int), .int .i64 0, .int .i64 0, .int .i64 0, .int .u64 0, .int .u8 0] 45)).drew).setCell ⟨W.heap.size + 1 + 1, 2, none⟩ (.int .i64 k0)) :=
  copyg_1 _ _ _ _ _ _ _ _ _ _ _ k0 k1 k2 _ _ _ (three0 _ _ _ _) (three2 _ _ _ _)

theorem copyg_2 (x0 x1 x5 x6 y0 y1 y2 y3 y4 y5 y6 : Value) (k0 k1 k2 : Int) (w : World) (a b : Nat) (ha : w.heap[a]? = some (.cells #[x0, x1, .int .i64 k0, .int .i64 k1, .int .i64 k2, x5, x6] 45)) (hb : w.heap[b]? = some (.cells #[y0, y1, y2, y3, y4, y5, y6] 45)) :
    (Builtin.copy_ #[69, 69] 3 #[.slice (some ⟨b, 2, none⟩) 3 3, .slice (some ⟨a, 2, none⟩) 2 3]).run Tryz.prog w = .ok (.int .i64 2) ((w.setCell ⟨b, 2, none⟩ (.int .i64 k0)).setCell ⟨b, 3, none⟩ (.int .i64 k1)) := by
  have h := run_copy_cells (P := Tryz.prog) w 69 69 3 3 b 2 3 3 ⟨a, 2, none⟩ 2 3 [.int .i64 k0, .int .i64 k1] Tryz.underlying69 elem_int rfl
    (by intro j v hj; match j, hj with | 0, hj => simp at hj; subst hj; simp [Addr.add, World.cell?, ha] | 1, hj => simp at hj; subst hj; simp [Addr.add, World.cell?, ha])
    (by intro j hj; match j, hj with | 0, _ => simp [World.cell?, hb] | 1, _ => simp [World.cell?, hb])
    (by intro j hj; match j, hj with | 0, _ => simp [World.frozen?, hb] | 1, _ => simp [World.frozen?, hb])
    (by intro v hv; simp at hv; rcases hv with rfl | rfl <;> rfl)
  exact h
theorem copy_2 (c : Int) (w n l : Nat) (k0 k1 k2 : Int) (W : World) :
    (Builtin.copy_ #[69, 69] 3 #[.slice (some ⟨W.heap.size + 1 + 1, 2, none⟩) 3 3, .slice (some ⟨W.heap.size, 2, none⟩) 2 3]).run Tryz.prog ((((W.alloc (.cells #[.int .u8 c, .int .u8 ((w : Nat) : Int), .int .i64 k0, .int .i64 k1, .int .i64 k2, .int .u64 ((n : Nat) : Int), .int .u8 ((l : Nat) : Int)] 45)).alloc (.cells #[.int .u8 0, .int .u8 0, .int .i64 0, .int .i64 0, .int .i64 0, .int .u64 0, .int .u8 0] 45)).alloc (.cells #[.int .u8 c, .int .u8 ((w : Nat) : Int), .int .i64 0, .int .i64 0, .int .i64 0, .int .u64 0, .int .u8 0] 45)).drew) = .ok (.int .i64 2) ((((((W.alloc (.cells #[.int .u8 c, .int .u8 ((w : Nat) : Int), .int .i64 k0, .int .i64 k1, .int .i64 k2, .int .u64 ((n : Nat) : Int), .int .u8 ((l : Nat) : Int)] 45)).alloc (.cells #[.int .u8 0, .int .u8 0, .int .i64 0, .int .i64 0, .int .i64 0, .int .u64 0, .int .u8 0] 45)).alloc (.cells #[.int .u8 c, .int .u8 ((w : Nat) : Int), .int .i64 0, .int .i64 0, .int .i64 0, .int .u64 0, .int .u8 0] 45)).drew).setCell ⟨W.heap.size + 1 + 1, 2, none⟩ (.int .i64 k0)).setCell ⟨W.heap.size + 1 + 1, 3, none⟩ (.int .i64 k1)) :=
  copyg_2 _ _ _ _ _ _ _ _ _ _ _ k0 k1 k2 _ _ _ (three0 _ _ _ _) (three2 _ _ _ _)

theorem copyg_3 (x0 x1 x5 x6 y0 y1 y2 y3 y4 y5 y6 : Value) (k0 k1 k2 : Int) (w : World) (a b : Nat) (ha : w.heap[a]? = some (.cells #[x0, x1, .int .i64 k0, .int .i64 k1, .int .i64 k2, x5, x6] 45)) (hb : w.heap[b]? = some (.cells #[y0, y1, y2, y3, y4, y5, y6] 45)) :
    (Builtin.copy_ #[69, 69] 3 #[.slice (some ⟨b, 2, none⟩) 3 3, .slice (some ⟨a, 2, none⟩) 3 3]).run Tryz.prog w = .ok (.int .i64 3) (((w.setCell ⟨b, 2, none⟩ (.int .i64 k0)).setCell ⟨b, 3, none⟩ (.int .i64 k1)).setCell ⟨b, 4, none⟩ (.int .i64 k2)) := by
  have h := run_copy_cells (P := Tryz.prog) w 69 69 3 3 b 2 3 3 ⟨a, 2, none⟩ 3 3 [.int .i64 k0, .int .i64 k1, .int .i64 k2] Tryz.underlying69 elem_int rfl
    (by intro j v hj; match j, hj with | 0, hj => simp at hj; subst hj; simp [Addr.add, World.cell?, ha] | 1, hj => simp at hj; subst hj; simp [Addr.add, World.cell?, ha] | 2, hj => simp at hj; subst hj; simp [Addr.add, World.cell?, ha])
    (by intro j hj; match j, hj with | 0, _ => simp [World.cell?, hb] | 1, _ => simp [World.cell?, hb] | 2, _ => simp [World.cell?, hb])
    (by intro j hj; match j, hj with | 0, _ => simp [World.frozen?, hb] | 1, _ => simp [World.frozen?, hb] | 2, _ => simp [World.frozen?, hb])
    (by intro v hv; simp at hv; rcases hv with rfl | rfl | rfl <;> rfl)
  exact h
theorem copy_3 (c : Int) (w n l : Nat) (k0 k1 k2 : Int) (W : World) :
    (Builtin.copy_ #[69, 69] 3 #[.slice (some ⟨W.heap.size + 1 + 1, 2, none⟩) 3 3, .slice (some ⟨W.heap.size, 2, none⟩) 3 3]).run Tryz.prog ((((W.alloc (.cells #[.int .u8 c, .int .u8 ((w : Nat) : Int), .int .i64 k0, .int .i64 k1, .int .i64 k2, .int .u64 ((n : Nat) : Int), .int .u8 ((l : Nat) : Int)] 45)).alloc (.cells #[.int .u8 0, .int .u8 0, .int .i64 0, .int .i64 0, .int .i64 0, .int .u64 0, .int .u8 0] 45)).alloc (.cells #[.int .u8 c, .int .u8 ((w : Nat) : Int), .int .i64 0, .int .i64 0, .int .i64 0, .int .u64 0, .int .u8 0] 45)).drew) = .ok (.int .i64 3) (((((((W.alloc (.cells #[.int .u8 c, .int .u8 ((w : Nat) : Int), .int .i64 k0, .int .i64 k1, .int .i64 k2, .int .u64 ((n : Nat) : Int), .int .u8 ((l : Nat) : Int)] 45)).alloc (.cells #[.int .u8 0, .int .u8 0, .int .i64 0, .int .i64 0, .int .i64 0, .int .u64 0, .int .u8 0] 45)).alloc (.cells #[.int .u8 c, .int .u8 ((w : Nat) : Int), .int .i64 0, .int .i64 0, .int .i64 0, .int .u64 0, .int .u8 0] 45)).drew).setCell ⟨W.heap.size + 1 + 1, 2, none⟩ (.int .i64 k0)).setCell ⟨W.heap.size + 1 + 1, 3, none⟩ (.int .i64 k1)).setCell ⟨W.heap.size + 1 + 1, 4, none⟩ (.int .i64 k2)) :=
  copyg_3 _ _ _ _ _ _ _ _ _ _ _ k0 k1 k2 _ _ _ (three0 _ _ _ _) (three2 _ _ _ _)

theorem own_v1 (w n l : Nat) (k0 k1 k2 : Int) (HK : Hid (∀ W : World, Calls Tryz.prog 32 #[.int .u8 1] W fun e W' => e = .returned (.int .i64 0) ∧ W = W')) (W : World) :
    Calls Tryz.prog 31 #[.agg #[.int .u8 1, .int .u8 w, .int .i64 k0, .int .i64 k1, .int .i64 k2, .int .u64 n, .int .u8 l]] W fun e W' => e = .returned (.agg #[.int .u8 1, .int .u8 w, .int .i64 0, .int .i64 0, .int .i64 0, .int .u64 n, .int .u8 0]) ∧ Below W.heap.size W W' := by
  have hcp := copy_0
  go_enter Tryz.func31, Tryz.ntmps31
  go_wp2_with (go_at_call 32; refine (HK.out _).mono ?_; rintro e w' ⟨rfl, rfl⟩)
  go_region_with (first | (go_at_call 32; refine (HK.out _).mono ?_; rintro e w' ⟨rfl, rfl⟩) | go_in)
  all_goals go_wp2
  all_goals exact bodyPost_ret (v := .agg #[.int .u8 1, .int .u8 w, .int .i64 0, .int .i64 0, .int .i64 0, .int .u64 n, .int .u8 0]) (by simp [results, Tryz.results31, go_sem]) rfl ⟨rfl, by repeat (first | exact Below.refl _ _ | (refine Below.setCell ?_ (by simp; try omega) _) | (refine bel_alloc ?_ _) | (refine Below.drew ?_))⟩

theorem own_v2 (w n l : Nat) (k0 k1 k2 : Int) (HK : Hid (∀ W : World, Calls Tryz.prog 32 #[.int .u8 2] W fun e W' => e = .returned (.int .i64 0) ∧ W = W')) (W : World) :
    Calls Tryz.prog 31 #[.agg #[.int .u8 2, .int .u8 w, .int .i64 k0, .int .i64 k1, .int .i64 k2, .int .u64 n, .int .u8 l]] W fun e W' => e = .returned (.agg #[.int .u8 2, .int .u8 w, .int .i64 0, .int .i64 0, .int .i64 0, .int .u64 n, .int .u8 0]) ∧ Below W.heap.size W W' := by
  have hcp := copy_0
  go_enter Tryz.func31, Tryz.ntmps31
  go_wp2_with (go_at_call 32; refine (HK.out _).mono ?_; rintro e w' ⟨rfl, rfl⟩)
  go_region_with (first | (go_at_call 32; refine (HK.out _).mono ?_; rintro e w' ⟨rfl, rfl⟩) | go_in)
  all_goals go_wp2
  all_goals exact bodyPost_ret (v := .agg #[.int .u8 2, .int .u8 w, .int .i64 0, .int .i64 0, .int .i64 0, .int .u64 n, .int .u8 0]) (by simp [results, Tryz.results31, go_sem]) rfl ⟨rfl, by repeat (first | exact Below.refl _ _ | (refine Below.setCell ?_ (by simp; try omega) _) | (refine bel_alloc ?_ _) | (refine Below.drew ?_))⟩

theorem own_x22 (w n l : Nat) (k0 k1 k2 : Int) (HK : Hid (∀ W : World, Calls Tryz.prog 32 #[.int .u8 22] W fun e W' => e = .returned (.int .i64 1) ∧ W = W')) (W : World) :
    Calls Tryz.prog 31 #[.agg #[.int .u8 22, .int .u8 w, .int .i64 k0, .int .i64 k1, .int .i64 k2, .int .u64 n, .int .u8 l]] W fun e W' => e = .returned (.agg #[.int .u8 22, .int .u8 w, .int .i64 k0, .int .i64 0, .int .i64 0, .int .u64 0, .int .u8 l]) ∧ Below W.heap.size W W' := by
  have hcp := copy_1 22 w n l k0 k1 k2 W
  go_enter Tryz.func31, Tryz.ntmps31
  go_wp2_with (go_at_call 32; refine (HK.out _).mono ?_; rintro e w' ⟨rfl, rfl⟩)
  go_region_with (first | (go_at_call 32; refine (HK.out _).mono ?_; rintro e w' ⟨rfl, rfl⟩) | go_in)
  all_goals go_wp2
  all_goals exact bodyPost_ret (v := .agg #[.int .u8 22, .int .u8 w, .int .i64 k0, .int .i64 0, .int .i64 0, .int .u64 0, .int .u8 l]) (by simp [results, Tryz.results31, go_sem]) rfl ⟨rfl, by repeat (first | exact Below.refl _ _ | (refine Below.setCell ?_ (by simp; try omega) _) | (refine bel_alloc ?_ _) | (refine Below.drew ?_))⟩

theorem own_k0 (o w n l : Nat) (k0 k1 k2 : Int) (d1 : ((o : Int) == 1) = false) (d2 : ((o : Int) == 2) = false) (d22 : ((o : Int) == 22) = false) (HK : Hid (∀ W : World, Calls Tryz.prog 32 #[.int .u8 o] W fun e W' => e = .returned (.int .i64 0) ∧ W = W')) (W : World) :
    Calls Tryz.prog 31 #[.agg #[.int .u8 o, .int .u8 w, .int .i64 k0, .int .i64 k1, .int .i64 k2, .int .u64 n, .int .u8 l]] W fun e W' => e = .returned (.agg #[.int .u8 o, .int .u8 w, .int .i64 0, .int .i64 0, .int .i64 0, .int .u64 0, .int .u8 0]) ∧ Below W.heap.size W W' := by
  have hcp := copy_0
  go_enter Tryz.func31, Tryz.ntmps31
  go_wp2_with (go_at_call 32; refine (HK.out _).mono ?_; rintro e w' ⟨rfl, rfl⟩)
  go_region_with (first | (go_at_call 32; refine (HK.out _).mono ?_; rintro e w' ⟨rfl, rfl⟩) | go_in)
  all_goals go_wp2
  all_goals exact bodyPost_ret (v := .agg #[.int .u8 o, .int .u8 w, .int .i64 0, .int .i64 0, .int .i64 0, .int .u64 0, .int .u8 0]) (by simp [results, Tryz.results31, go_sem]) rfl ⟨rfl, by repeat (first | exact Below.refl _ _ | (refine Below.setCell ?_ (by simp; try omega) _) | (refine bel_alloc ?_ _) | (refine Below.drew ?_))⟩

theorem own_k1 (o w n l : Nat) (k0 k1 k2 : Int) (d1 : ((o : Int) == 1) = false) (d2 : ((o : Int) == 2) = false) (d22 : ((o : Int) == 22) = false) (HK : Hid (∀ W : World, Calls Tryz.prog 32 #[.int .u8 o] W fun e W' => e = .returned (.int .i64 1) ∧ W = W')) (W : World) :
    Calls Tryz.prog 31 #[.agg #[.int .u8 o, .int .u8 w, .int .i64 k0, .int .i64 k1, .int .i64 k2, .int .u64 n, .int .u8 l]] W fun e W' => e = .returned (.agg #[.int .u8 o, .int .u8 w, .int .i64 k0, .int .i64 0, .int .i64 0, .int .u64 0, .int .u8 0]) ∧ Below W.heap.size W W' := by
  have hcp := copy_1 (o : Int) w n l k0 k1 k2 W
  go_enter Tryz.func31, Tryz.ntmps31
  go_wp2_with (go_at_call 32; refine (HK.out _).mono ?_; rintro e w' ⟨rfl, rfl⟩)
  go_region_with (first | (go_at_call 32; refine (HK.out _).mono ?_; rintro e w' ⟨rfl, rfl⟩) | go_in)
  all_goals go_wp2
  all_goals exact bodyPost_ret (v := .agg #[.int .u8 o, .int .u8 w, .int .i64 k0, .int .i64 0, .int .i64 0, .int .u64 0, .int .u8 0]) (by simp [results, Tryz.results31, go_sem]) rfl ⟨rfl, by repeat (first | exact Below.refl _ _ | (refine Below.setCell ?_ (by simp; try omega) _) | (refine bel_alloc ?_ _) | (refine Below.drew ?_))⟩

theorem own_k2 (o w n l : Nat) (k0 k1 k2 : Int) (d1 : ((o : Int) == 1) = false) (d2 : ((o : Int) == 2) = false) (d22 : ((o : Int) == 22) = false) (HK : Hid (∀ W : World, Calls Tryz.prog 32 #[.int .u8 o] W fun e W' => e = .returned (.int .i64 2) ∧ W = W')) (W : World) :
    Calls Tryz.prog 31 #[.agg #[.int .u8 o, .int .u8 w, .int .i64 k0, .int .i64 k1, .int .i64 k2, .int .u64 n, .int .u8 l]] W fun e W' => e = .returned (.agg #[.int .u8 o, .int .u8 w, .int .i64 k0, .int .i64 k1, .int .i64 0, .int .u64 0, .int .u8 0]) ∧ Below W.heap.size W W' := by
  have hcp := copy_2 (o : Int) w n l k0 k1 k2 W
  go_enter Tryz.func31, Tryz.ntmps31
  go_wp2_with (go_at_call 32; refine (HK.out _).mono ?_; rintro e w' ⟨rfl, rfl⟩)
  go_region_with (first | (go_at_call 32; refine (HK.out _).mono ?_; rintro e w' ⟨rfl, rfl⟩) | go_in)
  all_goals go_wp2
  all_goals exact bodyPost_ret (v := .agg #[.int .u8 o, .int .u8 w, .int .i64 k0, .int .i64 k1, .int .i64 0, .int .u64 0, .int .u8 0]) (by simp [results, Tryz.results31, go_sem]) rfl ⟨rfl, by repeat (first | exact Below.refl _ _ | (refine Below.setCell ?_ (by simp; try omega) _) | (refine bel_alloc ?_ _) | (refine Below.drew ?_))⟩

theorem own_k3 (o w n l : Nat) (k0 k1 k2 : Int) (d1 : ((o : Int) == 1) = false) (d2 : ((o : Int) == 2) = false) (d22 : ((o : Int) == 22) = false) (HK : Hid (∀ W : World, Calls Tryz.prog 32 #[.int .u8 o] W fun e W' => e = .returned (.int .i64 3) ∧ W = W')) (W : World) :
    Calls Tryz.prog 31 #[.agg #[.int .u8 o, .int .u8 w, .int .i64 k0, .int .i64 k1, .int .i64 k2, .int .u64 n, .int .u8 l]] W fun e W' => e = .returned (.agg #[.int .u8 o, .int .u8 w, .int .i64 k0, .int .i64 k1, .int .i64 k2, .int .u64 0, .int .u8 0]) ∧ Below W.heap.size W W' := by
  have hcp := copy_3 (o : Int) w n l k0 k1 k2 W
  go_enter Tryz.func31, Tryz.ntmps31
  go_wp2_with (go_at_call 32; refine (HK.out _).mono ?_; rintro e w' ⟨rfl, rfl⟩)
  go_region_with (first | (go_at_call 32; refine (HK.out _).mono ?_; rintro e w' ⟨rfl, rfl⟩) | go_in)
  all_goals go_wp2
  all_goals exact bodyPost_ret (v := .agg #[.int .u8 o, .int .u8 w, .int .i64 k0, .int .i64 k1, .int .i64 k2, .int .u64 0, .int .u8 0]) (by simp [results, Tryz.results31, go_sem]) rfl ⟨rfl, by repeat (first | exact Below.refl _ _ | (refine Below.setCell ?_ (by simp; try omega) _) | (refine bel_alloc ?_ _) | (refine Below.drew ?_))⟩
end Tm
end Go.Proofs.YtbemkaninedonaaGreatDoor
