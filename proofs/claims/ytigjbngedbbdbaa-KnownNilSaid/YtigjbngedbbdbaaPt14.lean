/-
How many kids an operator has, as the document's answer tells it: a fact on one call.
The document's own store in memory; what holds while its width goes through a node's kids.
What Extract, Extend, Ite, Unary and Worth of the reference return.
-/
import Derived.Test.YtigjbngedbbdbaaPt01
import Derived.Test.YtigjbngedbbdbaaPt02
import Derived.Test.YtigjbngedbbdbaaPt03
import Derived.Test.YtigjbngedbbdbaaPt05
import Derived.Deep.QuietTactic
namespace Go.Proofs.Ytigjbngedbbdbaa
open Go.RowKit Bv
namespace Tm
set_option maxHeartbeats 400000
set_option maxRecDepth 100000

theorem rkids_1 (W : World) : Calls Try.prog 27 #[.int .u8 1] W fun e W' => e = .returned (.int .i64 0) ∧ W = W' := by
  go_enter Try.func27, Try.ntmps27
  go_wp2_with fail
  go_ret
  exact ⟨rfl, rfl⟩

theorem rkids_2 (W : World) : Calls Try.prog 27 #[.int .u8 2] W fun e W' => e = .returned (.int .i64 0) ∧ W = W' := by
  go_enter Try.func27, Try.ntmps27
  go_wp2_with fail
  go_ret
  exact ⟨rfl, rfl⟩

theorem rkids_3 (W : World) : Calls Try.prog 27 #[.int .u8 3] W fun e W' => e = .returned (.int .i64 1) ∧ W = W' := by
  go_enter Try.func27, Try.ntmps27
  go_wp2_with fail
  go_ret
  exact ⟨rfl, rfl⟩

theorem rkids_4 (W : World) : Calls Try.prog 27 #[.int .u8 4] W fun e W' => e = .returned (.int .i64 1) ∧ W = W' := by
  go_enter Try.func27, Try.ntmps27
  go_wp2_with fail
  go_ret
  exact ⟨rfl, rfl⟩

theorem rkids_5 (W : World) : Calls Try.prog 27 #[.int .u8 5] W fun e W' => e = .returned (.int .i64 2) ∧ W = W' := by
  go_enter Try.func27, Try.ntmps27
  go_wp2_with fail
  go_ret
  exact ⟨rfl, rfl⟩

theorem rkids_6 (W : World) : Calls Try.prog 27 #[.int .u8 6] W fun e W' => e = .returned (.int .i64 2) ∧ W = W' := by
  go_enter Try.func27, Try.ntmps27
  go_wp2_with fail
  go_ret
  exact ⟨rfl, rfl⟩

theorem rkids_7 (W : World) : Calls Try.prog 27 #[.int .u8 7] W fun e W' => e = .returned (.int .i64 2) ∧ W = W' := by
  go_enter Try.func27, Try.ntmps27
  go_wp2_with fail
  go_ret
  exact ⟨rfl, rfl⟩

theorem rkids_8 (W : World) : Calls Try.prog 27 #[.int .u8 8] W fun e W' => e = .returned (.int .i64 2) ∧ W = W' := by
  go_enter Try.func27, Try.ntmps27
  go_wp2_with fail
  go_ret
  exact ⟨rfl, rfl⟩

theorem rkids_9 (W : World) : Calls Try.prog 27 #[.int .u8 9] W fun e W' => e = .returned (.int .i64 2) ∧ W = W' := by
  go_enter Try.func27, Try.ntmps27
  go_wp2_with fail
  go_ret
  exact ⟨rfl, rfl⟩

theorem rkids_10 (W : World) : Calls Try.prog 27 #[.int .u8 10] W fun e W' => e = .returned (.int .i64 2) ∧ W = W' := by
  go_enter Try.func27, Try.ntmps27
  go_wp2_with fail
  go_ret
  exact ⟨rfl, rfl⟩

theorem rkids_11 (W : World) : Calls Try.prog 27 #[.int .u8 11] W fun e W' => e = .returned (.int .i64 2) ∧ W = W' := by
  go_enter Try.func27, Try.ntmps27
  go_wp2_with fail
  go_ret
  exact ⟨rfl, rfl⟩

theorem rkids_12 (W : World) : Calls Try.prog 27 #[.int .u8 12] W fun e W' => e = .returned (.int .i64 2) ∧ W = W' := by
  go_enter Try.func27, Try.ntmps27
  go_wp2_with fail
  go_ret
  exact ⟨rfl, rfl⟩

theorem rkids_13 (W : World) : Calls Try.prog 27 #[.int .u8 13] W fun e W' => e = .returned (.int .i64 2) ∧ W = W' := by
  go_enter Try.func27, Try.ntmps27
  go_wp2_with fail
  go_ret
  exact ⟨rfl, rfl⟩

theorem rkids_14 (W : World) : Calls Try.prog 27 #[.int .u8 14] W fun e W' => e = .returned (.int .i64 2) ∧ W = W' := by
  go_enter Try.func27, Try.ntmps27
  go_wp2_with fail
  go_ret
  exact ⟨rfl, rfl⟩

theorem rkids_15 (W : World) : Calls Try.prog 27 #[.int .u8 15] W fun e W' => e = .returned (.int .i64 2) ∧ W = W' := by
  go_enter Try.func27, Try.ntmps27
  go_wp2_with fail
  go_ret
  exact ⟨rfl, rfl⟩

theorem rkids_16 (W : World) : Calls Try.prog 27 #[.int .u8 16] W fun e W' => e = .returned (.int .i64 2) ∧ W = W' := by
  go_enter Try.func27, Try.ntmps27
  go_wp2_with fail
  go_ret
  exact ⟨rfl, rfl⟩

theorem rkids_17 (W : World) : Calls Try.prog 27 #[.int .u8 17] W fun e W' => e = .returned (.int .i64 2) ∧ W = W' := by
  go_enter Try.func27, Try.ntmps27
  go_wp2_with fail
  go_ret
  exact ⟨rfl, rfl⟩

theorem rkids_18 (W : World) : Calls Try.prog 27 #[.int .u8 18] W fun e W' => e = .returned (.int .i64 2) ∧ W = W' := by
  go_enter Try.func27, Try.ntmps27
  go_wp2_with fail
  go_ret
  exact ⟨rfl, rfl⟩

theorem rkids_19 (W : World) : Calls Try.prog 27 #[.int .u8 19] W fun e W' => e = .returned (.int .i64 2) ∧ W = W' := by
  go_enter Try.func27, Try.ntmps27
  go_wp2_with fail
  go_ret
  exact ⟨rfl, rfl⟩

theorem rkids_20 (W : World) : Calls Try.prog 27 #[.int .u8 20] W fun e W' => e = .returned (.int .i64 2) ∧ W = W' := by
  go_enter Try.func27, Try.ntmps27
  go_wp2_with fail
  go_ret
  exact ⟨rfl, rfl⟩

theorem rkids_21 (W : World) : Calls Try.prog 27 #[.int .u8 21] W fun e W' => e = .returned (.int .i64 2) ∧ W = W' := by
  go_enter Try.func27, Try.ntmps27
  go_wp2_with fail
  go_ret
  exact ⟨rfl, rfl⟩

theorem rkids_22 (W : World) : Calls Try.prog 27 #[.int .u8 22] W fun e W' => e = .returned (.int .i64 1) ∧ W = W' := by
  go_enter Try.func27, Try.ntmps27
  go_wp2_with fail
  go_ret
  exact ⟨rfl, rfl⟩

theorem rkids_23 (W : World) : Calls Try.prog 27 #[.int .u8 23] W fun e W' => e = .returned (.int .i64 1) ∧ W = W' := by
  go_enter Try.func27, Try.ntmps27
  go_wp2_with fail
  go_ret
  exact ⟨rfl, rfl⟩

theorem rkids_24 (W : World) : Calls Try.prog 27 #[.int .u8 24] W fun e W' => e = .returned (.int .i64 1) ∧ W = W' := by
  go_enter Try.func27, Try.ntmps27
  go_wp2_with fail
  go_ret
  exact ⟨rfl, rfl⟩

theorem rkids_25 (W : World) : Calls Try.prog 27 #[.int .u8 25] W fun e W' => e = .returned (.int .i64 3) ∧ W = W' := by
  go_enter Try.func27, Try.ntmps27
  go_wp2_with fail
  go_ret
  exact ⟨rfl, rfl⟩

theorem rkids_no0 (o : Nat) (h : o = 0) (W : World) : Calls Try.prog 27 #[.int .u8 o] W fun e W' => e = .returned (.int .i64 (-1)) ∧ W = W' := by
  have d1 : ((o : Int) == 1) = false := by simp; omega
  have d2 : ((o : Int) == 2) = false := by simp; omega
  have d3 : ((o : Int) == 3) = false := by simp; omega
  have d4 : ((o : Int) == 4) = false := by simp; omega
  have d22 : ((o : Int) == 22) = false := by simp; omega
  have d23 : ((o : Int) == 23) = false := by simp; omega
  have d24 : ((o : Int) == 24) = false := by simp; omega
  have d25 : ((o : Int) == 25) = false := by simp; omega
  have g5 : decide ((5 : Int) ≤ (o : Int)) = false := decide_eq_false (by omega)
  go_enter Try.func27, Try.ntmps27
  go_wp2_with fail
  go_ret
  exact ⟨rfl, rfl⟩

theorem rkids_no26 (o : Nat) (h : 25 < o) (W : World) : Calls Try.prog 27 #[.int .u8 o] W fun e W' => e = .returned (.int .i64 (-1)) ∧ W = W' := by
  have d1 : ((o : Int) == 1) = false := by simp; omega
  have d2 : ((o : Int) == 2) = false := by simp; omega
  have d3 : ((o : Int) == 3) = false := by simp; omega
  have d4 : ((o : Int) == 4) = false := by simp; omega
  have d22 : ((o : Int) == 22) = false := by simp; omega
  have d23 : ((o : Int) == 23) = false := by simp; omega
  have d24 : ((o : Int) == 24) = false := by simp; omega
  have d25 : ((o : Int) == 25) = false := by simp; omega
  have g5 : decide ((5 : Int) ≤ (o : Int)) = true := decide_eq_true (by omega)
  have g21 : decide ((o : Int) ≤ 21) = false := decide_eq_false (by omega)
  go_enter Try.func27, Try.ntmps27
  go_wp2_with fail
  go_ret
  exact ⟨rfl, rfl⟩

theorem rkids_any (o : Nat) (W : World) : Calls Try.prog 27 #[.int .u8 o] W fun e W' => e = .returned (.int .i64 (rk o)) ∧ W = W' := by
  by_cases h0 : o = 0
  · rw [show rk o = -1 by subst h0; rfl]; exact rkids_no0 o h0 W
  by_cases h26 : 25 < o
  · rw [show rk o = -1 by unfold rk; rw [if_neg (by omega), if_neg (by omega), if_neg (by omega), if_neg (by omega)]]; exact rkids_no26 o h26 W
  by_cases h101 : o = 1
  · subst h101; exact rkids_1 W
  by_cases h102 : o = 2
  · subst h102; exact rkids_2 W
  by_cases h103 : o = 3
  · subst h103; exact rkids_3 W
  by_cases h104 : o = 4
  · subst h104; exact rkids_4 W
  by_cases h105 : o = 5
  · subst h105; exact rkids_5 W
  by_cases h106 : o = 6
  · subst h106; exact rkids_6 W
  by_cases h107 : o = 7
  · subst h107; exact rkids_7 W
  by_cases h108 : o = 8
  · subst h108; exact rkids_8 W
  by_cases h109 : o = 9
  · subst h109; exact rkids_9 W
  by_cases h110 : o = 10
  · subst h110; exact rkids_10 W
  by_cases h111 : o = 11
  · subst h111; exact rkids_11 W
  by_cases h112 : o = 12
  · subst h112; exact rkids_12 W
  by_cases h113 : o = 13
  · subst h113; exact rkids_13 W
  by_cases h114 : o = 14
  · subst h114; exact rkids_14 W
  by_cases h115 : o = 15
  · subst h115; exact rkids_15 W
  by_cases h116 : o = 16
  · subst h116; exact rkids_16 W
  by_cases h117 : o = 17
  · subst h117; exact rkids_17 W
  by_cases h118 : o = 18
  · subst h118; exact rkids_18 W
  by_cases h119 : o = 19
  · subst h119; exact rkids_19 W
  by_cases h120 : o = 20
  · subst h120; exact rkids_20 W
  by_cases h121 : o = 21
  · subst h121; exact rkids_21 W
  by_cases h122 : o = 22
  · subst h122; exact rkids_22 W
  by_cases h123 : o = 23
  · subst h123; exact rkids_23 W
  by_cases h124 : o = 24
  · subst h124; exact rkids_24 W
  obtain rfl : o = 25 := by omega
  exact rkids_25 W
end Tm
end Go.Proofs.Ytigjbngedbbdbaa

namespace Go.Proofs.Ytigjbngedbbdbaa
open Go.RowKit Go.Maps Bv
namespace Tm
set_option maxHeartbeats 400000
set_option maxRecDepth 100000

/-- The block p of w is the document's store that has the nodes L; its list is the value rv; all of it lies from block B on. -/
structure RefAt (B : Nat) (w : World) (p : Nat) (rv : Value) (L : List Nd) : Prop where
  bp : B ≤ p
  lt : p < w.heap.size
  c0 : w.cell? ⟨p, 0, none⟩ = some rv
  cw : ∀ v, v < 256 → w.cell? ⟨p, 1 + v, none⟩ = some (.int .u8 ((wdOf L v : Nat) : Int))
  fr : ∀ o, w.frozen? ⟨p, o, none⟩ = false
  row : w.ownsRow B 57 7 rv L.length (rowOf L)
  gp : rv.ownBlock ≠ some p
  good : Gd L
def rfoot (p : Nat) (rv : Value) (k : Nat) : Prop := k = p ∨ rv.ownBlock = some k

theorem RefAt.kept {B : Nat} {w w' : World} {p : Nat} {rv : Value} {L : List Nd} {F : Nat → Prop} (h : RefAt B w p rv L) (k : Kept F w w') (hF : ∀ i, rfoot p rv i → ¬ F i) : RefAt B w' p rv L := by
  have fp := hF p (.inl rfl)
  exact ⟨h.bp, Nat.lt_of_lt_of_le h.lt k.size, (k.cell (x := ⟨p, 0, none⟩) h.lt fp).trans h.c0, fun v hv => (k.cell (x := ⟨p, 1 + v, none⟩) h.lt fp).trans (h.cw v hv), fun o => (k.frozen (x := ⟨p, o, none⟩) h.lt fp).trans (h.fr o),
    row_kept h.row k (fun g e => hF g (.inr e)), h.gp, h.good⟩
theorem RefAt.call {B : Nat} {w w' : World} {p : Nat} {rv : Value} {L : List Nd} (h : RefAt B w p rv L) (k : Below w.heap.size w w') : RefAt B w' p rv L := h.kept (Kept.ofBelow k (fun _ => False)) (fun _ _ c => c)
theorem RefAt.shape {B : Nat} {w : World} {p : Nat} {rv : Value} {L : List Nd} (h : RefAt B w p rv L) : ∃ a c, rv = .slice a L.length c := by
  rcases h.row with ⟨_, ⟨h1, h2⟩ | ⟨g, cap, cur, hv, _⟩⟩
  · exact ⟨none, 0, by rw [h1, h2]⟩
  · exact ⟨_, _, hv⟩

theorem rzero_exact (w : Nat) (W : World) :
    Calls Try.prog 52 #[.int .u8 ((w : Nat) : Int)] W fun e W' => e = .returned (.agg #[.int .u8 ((w : Nat) : Int), .int .u64 0]) ∧ W' = W.alloc (.cells #[.int .u8 ((w : Nat) : Int), .int .u64 0] 43) := by
  go_enter Try.func52, Try.ntmps52
  go_wp2_with fail
  exact bodyPost_ret (v := .agg #[.int .u8 ((w : Nat) : Int), .int .u64 0]) (by simp [results, Try.results52, go_sem]) rfl ⟨rfl, rfl⟩

/-- What stands in the place j of the vectors when i kids have been looked at. -/
def wa (L : List Nd) (x : Nd) (i j : Nat) : Nat := if j < i then wid L x j else 0

/-- Ahead of the kid i. -/
structure RW (L : List Nd) (x : Nd) (W : World) (bx ar i : Nat) (w : World) : Prop where
  box : At7 w bx (.int .u8 ((x.o : Nat) : Int)) (.int .u8 ((x.w : Nat) : Int)) (.int .i64 x.k0) (.int .i64 x.k1) (.int .i64 x.k2) (.int .u64 ((x.n : Nat) : Int)) (.int .u8 ((x.l : Nat) : Int))
  ne : bx ≠ ar
  la : ar < w.heap.size
  bb : W.heap.size ≤ bx
  ba : W.heap.size ≤ ar
  c0 : ∀ j, j < 3 → w.cell? ⟨ar, j * 2, none⟩ = some (.int .u8 ((wa L x i j : Nat) : Int))
  c1 : ∀ j, j < 3 → w.cell? ⟨ar, j * 2 + 1, none⟩ = some (.int .u64 0)
  fr : ∀ o, w.frozen? ⟨ar, o, none⟩ = false
  b : Below W.heap.size W w
  k0 : ∀ j, j < i → j < kc x.o → inB L (x.kid j) = true
  k1 : ∀ j, j < i → kc x.o ≤ j → x.kid j = 0

theorem RW.skip {L : List Nd} {x : Nd} {W w : World} {bx ar i : Nat} (h : RW L x W bx ar i w) (hk : kc x.o ≤ i) (hz : x.kid i = 0) : RW L x W bx ar (i + 1) w := by
  refine ⟨h.box, h.ne, h.la, h.bb, h.ba, fun j hj => ?_, h.c1, h.fr, h.b, fun j hj hjk => ?_, fun j hj hjk => ?_⟩
  · rw [h.c0 j hj]
    have : wa L x (i + 1) j = wa L x i j := by
      unfold wa
      by_cases e : j = i
      · subst e
        rw [if_pos (by omega : j < j + 1), if_neg (by omega : ¬ j < j)]
        unfold wid
        rw [if_neg (by omega)]
      · by_cases hlt : j < i
        · rw [if_pos (by omega), if_pos hlt]
        · rw [if_neg (by omega), if_neg hlt]
    rw [this]
  · exact h.k0 j (by omega) hjk
  · by_cases e : j = i
    · subst e; exact hz
    · exact h.k1 j (by omega) hjk

theorem RW.store {L : List Nd} {x : Nd} {W w : World} {bx ar i : Nat} (h : RW L x W bx ar i w) (hi : i < 3) (hk : i < kc x.o) (hin : inB L (x.kid i) = true) :
    RW L x W bx ar (i + 1) ((w.setCell ⟨ar, i * 2, none⟩ (.int .u8 ((widAt L (x.kid i) : Nat) : Int))).setCell ⟨ar, i * 2 + 1, none⟩ (.int .u64 0)) := by
  have hs : ((w.setCell ⟨ar, i * 2, none⟩ (.int .u8 ((widAt L (x.kid i) : Nat) : Int))).setCell ⟨ar, i * 2 + 1, none⟩ (.int .u64 0)).heap.size = w.heap.size := by simp [World.setCell]
  have la := h.la
  refine ⟨h.box.move (fun off => ?_), h.ne, by rw [hs]; exact la, h.bb, h.ba, fun j hj => ?_, fun j hj => ?_, fun off => ?_, (h.b.setCell h.ba _).setCell h.ba _, fun j hj hjk => ?_, fun j hj hjk => h.k1 j (by omega) hjk⟩
  · rw [World.cell?_setCell_far _ _ _ _ (by simpa using h.ne.symm), World.cell?_setCell_far _ _ _ _ (by simpa using h.ne.symm)]
  · rw [World.cell?_setCell_other _ _ _ _ (by simp; try omega)]
    by_cases e : j = i
    · subst e
      rw [World.cell?_setCell_same' _ _ _ (by rw [h.c0 j hj]; rfl)]
      unfold wa wid
      rw [if_pos (by omega), if_pos hk]
    · rw [World.cell?_setCell_other _ _ _ _ (by simp; try omega), h.c0 j hj]
      have : wa L x (i + 1) j = wa L x i j := by
        unfold wa
        by_cases hlt : j < i
        · rw [if_pos (by omega), if_pos hlt]
        · rw [if_neg (by omega), if_neg hlt]
      rw [this]
  · by_cases e : j = i
    · subst e
      exact World.cell?_setCell_same' _ _ _ (by rw [World.cell?_setCell_other _ _ _ _ (by simp), h.c1 j hj]; rfl)
    · rw [World.cell?_setCell_other _ _ _ _ (by simp; try omega), World.cell?_setCell_other _ _ _ _ (by simp; try omega)]
      exact h.c1 j hj
  · rw [World.frozen?_setCell, World.frozen?_setCell]
    exact h.fr off
  · by_cases e : j = i
    · subst e; exact hin
    · exact h.k0 j (by omega) hjk

theorem RW.alloc {L : List Nd} {x : Nd} {W w : World} {bx ar i : Nat} (h : RW L x W bx ar i w) (o : Obj) : RW L x W bx ar i (w.alloc o) :=
  ⟨h.box.alloc o, h.ne, by rw [size_alloc]; have := h.la; omega, h.bb, h.ba, fun j hj => (World.cell?_alloc_lt _ _ _ h.la).trans (h.c0 j hj), fun j hj => (World.cell?_alloc_lt _ _ _ h.la).trans (h.c1 j hj),
    fun off => (World.frozen?_alloc_old _ _ _ (Nat.ne_of_lt h.la)).trans (h.fr off), bel_alloc h.b o, h.k0, h.k1⟩

theorem RW.drew {L : List Nd} {x : Nd} {W w : World} {bx ar i : Nat} (h : RW L x W bx ar i w) : RW L x W bx ar i w.drew :=
  ⟨h.box.drew, h.ne, h.la, h.bb, h.ba, h.c0, h.c1, h.fr, h.b.drew, h.k0, h.k1⟩
theorem RW.drewN {L : List Nd} {x : Nd} {W w : World} {bx ar i : Nat} (h : RW L x W bx ar i w) (n : Nat) : RW L x W bx ar i (w.drewN n) :=
  ⟨h.box, h.ne, h.la, h.bb, h.ba, h.c0, h.c1, h.fr, bel_drewN h.b n, h.k0, h.k1⟩

theorem rw_start (L : List Nd) (x : Nd) (W : World) : RW L x W W.heap.size (W.heap.size + 1) 0 ((W.alloc (.cells #[.int .u8 ((x.o : Nat) : Int), .int .u8 ((x.w : Nat) : Int), .int .i64 x.k0, .int .i64 x.k1, .int .i64 x.k2, .int .u64 ((x.n : Nat) : Int), .int .u8 ((x.l : Nat) : Int)] 57)).alloc (.cells #[.int .u8 0, .int .u64 0, .int .u8 0, .int .u64 0, .int .u8 0, .int .u64 0] 103)) := by
  have A := (At7.new W (.int .u8 ((x.o : Nat) : Int)) (.int .u8 ((x.w : Nat) : Int)) (.int .i64 x.k0) (.int .i64 x.k1) (.int .i64 x.k2) (.int .u64 ((x.n : Nat) : Int)) (.int .u8 ((x.l : Nat) : Int)) 57).alloc (.cells #[.int .u8 0, .int .u64 0, .int .u8 0, .int .u64 0, .int .u8 0, .int .u64 0] 103)
  have hh := (MapKept.heap_alloc (W.alloc (.cells #[.int .u8 ((x.o : Nat) : Int), .int .u8 ((x.w : Nat) : Int), .int .i64 x.k0, .int .i64 x.k1, .int .i64 x.k2, .int .u64 ((x.n : Nat) : Int), .int .u8 ((x.l : Nat) : Int)] 57)) (.cells #[.int .u8 0, .int .u64 0, .int .u8 0, .int .u64 0, .int .u8 0, .int .u64 0] 103)).1
  rw [size_alloc] at hh
  have hb : Below W.heap.size W ((W.alloc (.cells #[.int .u8 ((x.o : Nat) : Int), .int .u8 ((x.w : Nat) : Int), .int .i64 x.k0, .int .i64 x.k1, .int .i64 x.k2, .int .u64 ((x.n : Nat) : Int), .int .u8 ((x.l : Nat) : Int)] 57)).alloc (.cells #[.int .u8 0, .int .u64 0, .int .u8 0, .int .u64 0, .int .u8 0, .int .u64 0] 103)) := bel_alloc (bel_alloc (Below.refl _ _) _) _
  have hs : ((W.alloc (.cells #[.int .u8 ((x.o : Nat) : Int), .int .u8 ((x.w : Nat) : Int), .int .i64 x.k0, .int .i64 x.k1, .int .i64 x.k2, .int .u64 ((x.n : Nat) : Int), .int .u8 ((x.l : Nat) : Int)] 57)).alloc (.cells #[.int .u8 0, .int .u64 0, .int .u8 0, .int .u64 0, .int .u8 0, .int .u64 0] 103)).heap.size = W.heap.size + 1 + 1 := by rw [size_alloc, size_alloc]
  generalize ((W.alloc (.cells #[.int .u8 ((x.o : Nat) : Int), .int .u8 ((x.w : Nat) : Int), .int .i64 x.k0, .int .i64 x.k1, .int .i64 x.k2, .int .u64 ((x.n : Nat) : Int), .int .u8 ((x.l : Nat) : Int)] 57)).alloc (.cells #[.int .u8 0, .int .u64 0, .int .u8 0, .int .u64 0, .int .u8 0, .int .u64 0] 103)) = w at A hh hb hs ⊢
  refine ⟨A, by omega, by omega, Nat.le_refl _, by omega, fun j hj => ?_, fun j hj => ?_, fun o => ?_, hb, fun j hj => by omega, fun j hj => by omega⟩
  · unfold World.cell?
    rw [hh]
    match j, hj with
    | 0, _ => rfl
    | 1, _ => rfl
    | 2, _ => rfl
  · unfold World.cell?
    rw [hh]
    match j, hj with
    | 0, _ => rfl
    | 1, _ => rfl
    | 2, _ => rfl
  · unfold World.frozen?
    rw [hh]
    simp

end Tm
end Go.Proofs.Ytigjbngedbbdbaa

namespace Go.Proofs.Ytigjbngedbbdbaa
open Go.RowKit
namespace Bv
set_option maxHeartbeats 400000
set_option maxRecDepth 100000

theorem rmay_yes {w n : Nat} (hn : n < 18446744073709551616) (h : mayB w n = true) (W : World) :
    Calls Try.prog 53 #[.agg #[.int .u8 w, .int .u64 n]] W fun e W' => e = .returned (.bool true) ∧ Below W.heap.size W W' := by
  have := rmay_any w n hn W; rw [h] at this; exact this
theorem rmay_no {w n : Nat} (hn : n < 18446744073709551616) (h : mayB w n = false) (W : World) :
    Calls Try.prog 53 #[.agg #[.int .u8 w, .int .u64 n]] W fun e W' => e = .returned (.bool false) ∧ Below W.heap.size W W' := by
  have := rmay_any w n hn W; rw [h] at this; exact this
theorem rsign_is {w n : Nat} (h1 : 1 ≤ w) (h2 : w ≤ 64) (hn : n < 2 ^ w) {b : Bool} (hb : decide (2 ^ (w - 1) ≤ n) = b) (W : World) :
    Calls Try.prog 81 #[.agg #[.int .u8 w, .int .u64 n]] W fun e W' => e = .returned (.bool b) ∧ Below W.heap.size W W' := by
  have := rsign_any w n h1 h2 hn W; rw [hb] at this; exact this

theorem rextract_b1 (w n : Nat) (l r : Int) (hn6 : n < 18446744073709551616) (HA : Hid (mayB w n = false)) (W : World) :
    Calls Try.prog 43 #[.agg #[.int .u8 w, .int .u64 n], .int .i64 l, .int .i64 r] W fun e W' => e = .returned (.tuple #[.agg #[.int .u8 0, .int .u64 0], .int .i64 2]) ∧ Below W.heap.size W W' := by
  go_enter Try.func43, Try.ntmps43
  go_wp2_with fail
  refine (rmay_no hn6 HA.out _).mono ?_; rintro e w1 ⟨rfl, hb1⟩
  have ka : At w1 (W.heap.size) (.int .u8 w) (.int .u64 n) := by have h0 := (((At.new _ _ _ _).alloc _)).keep hb1; simpa using h0
  have la := ka.lt
  have oa := ka
  unfold At at oa
  have kres : At w1 (W.heap.size + 1) (.int .u8 0) (.int .u64 0) := by have h0 := ((At.new _ _ _ _)).keep hb1; simpa using h0
  have lres := kres.lt
  have ores := kres
  unfold At at ores
  have fres : w1.frozen? ⟨W.heap.size + 1, 0, none⟩ = false ∧ w1.frozen? ⟨W.heap.size + 1, 1, none⟩ = false := by constructor <;> (rw [Below.frozen hb1 (by simp)]; simp [go_sem])
  go_wp2_with fail
  refine bodyPost_ret (v := .tuple #[.agg #[.int .u8 0, .int .u64 0], .int .i64 2]) (by simp [results, Try.results43, go_sem, ores]) rfl ⟨rfl, ?_⟩
  exact ((bel_call (bel_alloc (bel_alloc (Below.refl _ _) _) _) hb1).setCell (by first | (simp; done) | (simp; omega) | omega) _).setCell (by first | (simp; done) | (simp; omega) | omega) _

theorem rextract_b2 (w n : Nat) (l r : Int) (hn6 : n < 18446744073709551616) (HA : Hid (mayB w n = true)) (h : l < 0) (W : World) :
    Calls Try.prog 43 #[.agg #[.int .u8 w, .int .u64 n], .int .i64 l, .int .i64 r] W fun e W' => e = .returned (.tuple #[.agg #[.int .u8 0, .int .u64 0], .int .i64 2]) ∧ Below W.heap.size W W' := by
  go_enter Try.func43, Try.ntmps43
  go_wp2_with fail
  refine (rmay_yes hn6 HA.out _).mono ?_; rintro e w1 ⟨rfl, hb1⟩
  have ka : At w1 (W.heap.size) (.int .u8 w) (.int .u64 n) := by have h0 := (((At.new _ _ _ _).alloc _)).keep hb1; simpa using h0
  have la := ka.lt
  have oa := ka
  unfold At at oa
  have kres : At w1 (W.heap.size + 1) (.int .u8 0) (.int .u64 0) := by have h0 := ((At.new _ _ _ _)).keep hb1; simpa using h0
  have lres := kres.lt
  have ores := kres
  unfold At at ores
  have fres : w1.frozen? ⟨W.heap.size + 1, 0, none⟩ = false ∧ w1.frozen? ⟨W.heap.size + 1, 1, none⟩ = false := by constructor <;> (rw [Below.frozen hb1 (by simp)]; simp [go_sem])
  go_wp2_with fail
  refine bodyPost_ret (v := .tuple #[.agg #[.int .u8 0, .int .u64 0], .int .i64 2]) (by simp [results, Try.results43, go_sem, ores]) rfl ⟨rfl, ?_⟩
  exact ((bel_call (bel_alloc (bel_alloc (Below.refl _ _) _) _) hb1).setCell (by first | (simp; done) | (simp; omega) | omega) _).setCell (by first | (simp; done) | (simp; omega) | omega) _

theorem rextract_b3 (w n : Nat) (l r : Int) (hn6 : n < 18446744073709551616) (HA : Hid (mayB w n = true)) (h0 : 0 ≤ l) (h : r < 1) (W : World) :
    Calls Try.prog 43 #[.agg #[.int .u8 w, .int .u64 n], .int .i64 l, .int .i64 r] W fun e W' => e = .returned (.tuple #[.agg #[.int .u8 0, .int .u64 0], .int .i64 2]) ∧ Below W.heap.size W W' := by
  go_enter Try.func43, Try.ntmps43
  go_wp2_with fail
  refine (rmay_yes hn6 HA.out _).mono ?_; rintro e w1 ⟨rfl, hb1⟩
  have ka : At w1 (W.heap.size) (.int .u8 w) (.int .u64 n) := by have h0 := (((At.new _ _ _ _).alloc _)).keep hb1; simpa using h0
  have la := ka.lt
  have oa := ka
  unfold At at oa
  have kres : At w1 (W.heap.size + 1) (.int .u8 0) (.int .u64 0) := by have h0 := ((At.new _ _ _ _)).keep hb1; simpa using h0
  have lres := kres.lt
  have ores := kres
  unfold At at ores
  have fres : w1.frozen? ⟨W.heap.size + 1, 0, none⟩ = false ∧ w1.frozen? ⟨W.heap.size + 1, 1, none⟩ = false := by constructor <;> (rw [Below.frozen hb1 (by simp)]; simp [go_sem])
  go_wp2_with fail
  refine bodyPost_ret (v := .tuple #[.agg #[.int .u8 0, .int .u64 0], .int .i64 2]) (by simp [results, Try.results43, go_sem, ores]) rfl ⟨rfl, ?_⟩
  exact ((bel_call (bel_alloc (bel_alloc (Below.refl _ _) _) _) hb1).setCell (by first | (simp; done) | (simp; omega) | omega) _).setCell (by first | (simp; done) | (simp; omega) | omega) _

theorem rextract_b4 (w n : Nat) (l r : Int) (hn6 : n < 18446744073709551616) (HA : Hid (mayB w n = true)) (h0 : 0 ≤ l) (h1 : 1 ≤ r) (h : 64 < r) (W : World) :
    Calls Try.prog 43 #[.agg #[.int .u8 w, .int .u64 n], .int .i64 l, .int .i64 r] W fun e W' => e = .returned (.tuple #[.agg #[.int .u8 0, .int .u64 0], .int .i64 2]) ∧ Below W.heap.size W W' := by
  go_enter Try.func43, Try.ntmps43
  go_wp2_with fail
  refine (rmay_yes hn6 HA.out _).mono ?_; rintro e w1 ⟨rfl, hb1⟩
  have ka : At w1 (W.heap.size) (.int .u8 w) (.int .u64 n) := by have h0 := (((At.new _ _ _ _).alloc _)).keep hb1; simpa using h0
  have la := ka.lt
  have oa := ka
  unfold At at oa
  have kres : At w1 (W.heap.size + 1) (.int .u8 0) (.int .u64 0) := by have h0 := ((At.new _ _ _ _)).keep hb1; simpa using h0
  have lres := kres.lt
  have ores := kres
  unfold At at ores
  have fres : w1.frozen? ⟨W.heap.size + 1, 0, none⟩ = false ∧ w1.frozen? ⟨W.heap.size + 1, 1, none⟩ = false := by constructor <;> (rw [Below.frozen hb1 (by simp)]; simp [go_sem])
  go_wp2_with fail
  refine bodyPost_ret (v := .tuple #[.agg #[.int .u8 0, .int .u64 0], .int .i64 2]) (by simp [results, Try.results43, go_sem, ores]) rfl ⟨rfl, ?_⟩
  exact ((bel_call (bel_alloc (bel_alloc (Below.refl _ _) _) _) hb1).setCell (by first | (simp; done) | (simp; omega) | omega) _).setCell (by first | (simp; done) | (simp; omega) | omega) _

theorem rextract_b5 (w n : Nat) (l r : Int) (hn6 : n < 18446744073709551616) (HA : Hid (mayB w n = true)) (h0 : 0 ≤ l) (h1 : 1 ≤ r) (h2 : r ≤ 64) (h : 64 < l) (W : World) :
    Calls Try.prog 43 #[.agg #[.int .u8 w, .int .u64 n], .int .i64 l, .int .i64 r] W fun e W' => e = .returned (.tuple #[.agg #[.int .u8 0, .int .u64 0], .int .i64 2]) ∧ Below W.heap.size W W' := by
  go_enter Try.func43, Try.ntmps43
  go_wp2_with fail
  refine (rmay_yes hn6 HA.out _).mono ?_; rintro e w1 ⟨rfl, hb1⟩
  have ka : At w1 (W.heap.size) (.int .u8 w) (.int .u64 n) := by have h0 := (((At.new _ _ _ _).alloc _)).keep hb1; simpa using h0
  have la := ka.lt
  have oa := ka
  unfold At at oa
  have kres : At w1 (W.heap.size + 1) (.int .u8 0) (.int .u64 0) := by have h0 := ((At.new _ _ _ _)).keep hb1; simpa using h0
  have lres := kres.lt
  have ores := kres
  unfold At at ores
  have fres : w1.frozen? ⟨W.heap.size + 1, 0, none⟩ = false ∧ w1.frozen? ⟨W.heap.size + 1, 1, none⟩ = false := by constructor <;> (rw [Below.frozen hb1 (by simp)]; simp [go_sem])
  go_wp2_with fail
  refine bodyPost_ret (v := .tuple #[.agg #[.int .u8 0, .int .u64 0], .int .i64 2]) (by simp [results, Try.results43, go_sem, ores]) rfl ⟨rfl, ?_⟩
  exact ((bel_call (bel_alloc (bel_alloc (Below.refl _ _) _) _) hb1).setCell (by first | (simp; done) | (simp; omega) | omega) _).setCell (by first | (simp; done) | (simp; omega) | omega) _

theorem rextract_b6 (w n : Nat) (l r : Int) (hn6 : n < 18446744073709551616) (HA : Hid (mayB w n = true)) (hw : w ≤ 64) (h0 : 0 ≤ l) (h1 : 1 ≤ r) (h2 : r ≤ 64) (h3 : l ≤ 64) (h : (w : Int) < l + r) (W : World) :
    Calls Try.prog 43 #[.agg #[.int .u8 w, .int .u64 n], .int .i64 l, .int .i64 r] W fun e W' => e = .returned (.tuple #[.agg #[.int .u8 0, .int .u64 0], .int .i64 2]) ∧ Below W.heap.size W W' := by
  go_enter Try.func43, Try.ntmps43
  go_wp2_with fail
  refine (rmay_yes hn6 HA.out _).mono ?_; rintro e w1 ⟨rfl, hb1⟩
  have ka : At w1 (W.heap.size) (.int .u8 w) (.int .u64 n) := by have h0 := (((At.new _ _ _ _).alloc _)).keep hb1; simpa using h0
  have la := ka.lt
  have oa := ka
  unfold At at oa
  have kres : At w1 (W.heap.size + 1) (.int .u8 0) (.int .u64 0) := by have h0 := ((At.new _ _ _ _)).keep hb1; simpa using h0
  have lres := kres.lt
  have ores := kres
  unfold At at ores
  have fres : w1.frozen? ⟨W.heap.size + 1, 0, none⟩ = false ∧ w1.frozen? ⟨W.heap.size + 1, 1, none⟩ = false := by constructor <;> (rw [Below.frozen hb1 (by simp)]; simp [go_sem])
  go_wp2_with fail
  refine bodyPost_ret (v := .tuple #[.agg #[.int .u8 0, .int .u64 0], .int .i64 2]) (by simp [results, Try.results43, go_sem, ores]) rfl ⟨rfl, ?_⟩
  exact ((bel_call (bel_alloc (bel_alloc (Below.refl _ _) _) _) hb1).setCell (by first | (simp; done) | (simp; omega) | omega) _).setCell (by first | (simp; done) | (simp; omega) | omega) _

theorem rextract_ok (w n l r : Nat) (hn6 : n < 18446744073709551616) (HA : Hid (mayB w n = true)) (hw : w ≤ 64) (hr : 1 ≤ r) (hl : l + r ≤ w) (W : World) :
    Calls Try.prog 43 #[.agg #[.int .u8 w, .int .u64 n], .int .i64 l, .int .i64 r] W fun e W' => e = .returned (.tuple #[.agg #[.int .u8 r, .int .u64 (low r (n / 2 ^ l) : Nat)], .int .i64 0]) ∧ Below W.heap.size W W' := by
  have hd : n / 2 ^ l < 18446744073709551616 := Nat.lt_of_le_of_lt (Nat.div_le_self _ _) hn6
  have e : (n : Int) / 2 ^ l = ((n / 2 ^ l : Nat) : Int) := by simp
  generalize n / 2 ^ l = q at *
  have HQ := Lib.hid e
  clear e
  go_enter Try.func43, Try.ntmps43
  go_wp2_with fail
  refine (rmay_yes hn6 HA.out _).mono ?_; rintro e w1 ⟨rfl, hb1⟩
  have ka : At w1 (W.heap.size) (.int .u8 w) (.int .u64 n) := by have h0 := (((At.new _ _ _ _).alloc _)).keep hb1; simpa using h0
  have la := ka.lt
  have oa := ka
  unfold At at oa
  have kres : At w1 (W.heap.size + 1) (.int .u8 0) (.int .u64 0) := by have h0 := ((At.new _ _ _ _)).keep hb1; simpa using h0
  have lres := kres.lt
  have ores := kres
  unfold At at ores
  have fres : w1.frozen? ⟨W.heap.size + 1, 0, none⟩ = false ∧ w1.frozen? ⟨W.heap.size + 1, 1, none⟩ = false := by constructor <;> (rw [Below.frozen hb1 (by simp)]; simp [go_sem])
  go_wp2_with fail
  rw [HQ.out]
  refine (rcut_any r (by omega) _ (by omega) (by omega) _).mono ?_; rintro e w2 ⟨rfl, hb2⟩
  replace ka := ka.keep hb2
  replace la := ka.lt
  replace oa := ka
  unfold At at oa
  replace fres : w2.frozen? ⟨W.heap.size + 1, 0, none⟩ = false ∧ w2.frozen? ⟨W.heap.size + 1, 1, none⟩ = false := ⟨(Below.frozen hb2 (p := ⟨_, 0, none⟩) lres).trans fres.1, (Below.frozen hb2 (p := ⟨_, 1, none⟩) lres).trans fres.2⟩
  replace kres := kres.keep hb2
  replace lres := kres.lt
  replace ores := kres
  unfold At at ores
  go_wp2_with fail
  refine bodyPost_ret (v := .tuple #[.agg #[.int .u8 r, .int .u64 (low r q : Nat)], .int .i64 0]) (by simp [results, Try.results43, go_sem, ores]) rfl ⟨rfl, ?_⟩
  exact ((bel_call (bel_call (bel_alloc (bel_alloc (Below.refl _ _) _) _) hb1) hb2).setCell (by first | (simp; done) | (simp; omega) | omega) _).setCell (by first | (simp; done) | (simp; omega) | omega) _

theorem rworth_any (w n : Nat) (hn6 : n < 18446744073709551616) (W : World) :
    Calls Try.prog 56 #[.agg #[.int .u8 w, .int .u64 n]] W fun e W' => e = .returned (.int .i64 (if mayB w n = true then wo w n else 0)) ∧ Below W.heap.size W W' := by
  cases hm : mayB w n
  · have HA := Lib.hid hm
    clear hm
    go_enter Try.func56, Try.ntmps56
    go_wp2_with fail
    refine (rmay_no hn6 HA.out _).mono ?_; rintro e w1 ⟨rfl, hb1⟩
    have ka : At w1 (W.heap.size) (.int .u8 w) (.int .u64 n) := by have h0 := ((At.new _ _ _ _)).keep hb1; simpa using h0
    have la := ka.lt
    have oa := ka
    unfold At at oa
    go_wp2_with fail
    go_ret
    exact ⟨rfl, (bel_call (bel_alloc (Below.refl _ _) _) hb1)⟩
  · obtain ⟨hw1, hw2, hn⟩ := mayB_true hm
    have HA := Lib.hid hm
    clear hm
    rw [if_pos rfl]
    by_cases hs : 2 ^ (w - 1) ≤ n
    · have HW := Lib.hid (worth_or hw1 hw2 hn hs)
      go_enter Try.func56, Try.ntmps56
      go_wp2_with fail
      refine (rmay_yes hn6 HA.out _).mono ?_; rintro e w1 ⟨rfl, hb1⟩
      have ka : At w1 (W.heap.size) (.int .u8 w) (.int .u64 n) := by have h0 := ((At.new _ _ _ _)).keep hb1; simpa using h0
      have la := ka.lt
      have oa := ka
      unfold At at oa
      go_wp2_with fail
      refine (rsign_is hw1 hw2 hn (decide_eq_true hs) _).mono ?_; rintro e w2 ⟨rfl, hb2⟩
      replace ka := ka.keep hb2
      replace la := ka.lt
      replace oa := ka
      unfold At at oa
      go_wp2_with fail
      go_quiet ((go_at_call 11; exact Calls.quiet_of_same ((rmask_any w hw2 _).mono fun _ _ h => ⟨h.1, h.2.symm⟩)))
      go_wp2
      go_ret
      exact ⟨ret_i64 (by first | exact HW.out | (unfold wrap64; rw [← IntKind.wrap_i64]; exact HW.out)), bel_drewN (bel_call (bel_call (bel_alloc (Below.refl _ _) _) hb1) hb2) _⟩
    · have HW := Lib.hid (worth_plain hw1 hw2 hs)
      go_enter Try.func56, Try.ntmps56
      go_wp2_with fail
      refine (rmay_yes hn6 HA.out _).mono ?_; rintro e w1 ⟨rfl, hb1⟩
      have ka : At w1 (W.heap.size) (.int .u8 w) (.int .u64 n) := by have h0 := ((At.new _ _ _ _)).keep hb1; simpa using h0
      have la := ka.lt
      have oa := ka
      unfold At at oa
      go_wp2_with fail
      refine (rsign_is hw1 hw2 hn (decide_eq_false hs) _).mono ?_; rintro e w2 ⟨rfl, hb2⟩
      replace ka := ka.keep hb2
      replace la := ka.lt
      replace oa := ka
      unfold At at oa
      go_wp2_with fail
      go_ret
      exact ⟨ret_i64 (by first | exact HW.out | (unfold wrap64; rw [← IntKind.wrap_i64]; exact HW.out)), (bel_call (bel_call (bel_alloc (Below.refl _ _) _) hb1) hb2)⟩

end Bv
end Go.Proofs.Ytigjbngedbbdbaa
