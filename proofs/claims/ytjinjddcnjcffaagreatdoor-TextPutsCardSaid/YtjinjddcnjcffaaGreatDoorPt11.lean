/-
The document's own store in memory; what holds while its width goes through a node's kids.
Plain facts that the statement on quotients and rests needs.
What Extract, Extend, Ite, Unary and Worth of the reference return.
-/
import Derived.Test.YtjinjddcnjcffaaGreatDoorPt04
import Derived.Test.YtjinjddcnjcffaaGreatDoorPt10
import Derived.Test.YtjinjddcnjcffaaGreatDoorPt07
import Derived.Deep.QuietTactic
namespace Go.Proofs.YtjinjddcnjcffaaGreatDoor
open Go.RowKit Go.Maps Bv
namespace Tm
set_option maxHeartbeats 400000
set_option maxRecDepth 100000

/-- The block p of w is the document's store that has the nodes L; its list is the value rv; all of it lies from block B on. -/
structure RefAt (B : Nat) (w : World) (p : Nat) (rv : Value) (L : List Nd) : Prop where
  bp : B ≤ p
  lt : p < w.heap.size
  c0 : w.cell? ⟨p, 0, none⟩ = some rv
  cw : ∀ v, v < 256 → w.cell? ⟨p, 1 + v, none⟩ = some (.int .u8 ((wdOf L v : Nat) : Int))
  fr : ∀ o, w.frozen? ⟨p, o, none⟩ = false
  row : w.ownsRow B 48 7 rv L.length (rowOf L)
  gp : rv.ownBlock ≠ some p
  good : Gd L
def rfoot (p : Nat) (rv : Value) (k : Nat) : Prop := k = p ∨ rv.ownBlock = some k

theorem RefAt.kept {B : Nat} {w w' : World} {p : Nat} {rv : Value} {L : List Nd} {F : Nat → Prop} (h : RefAt B w p rv L) (k : Kept F w w') (hF : ∀ i, rfoot p rv i → ¬ F i) : RefAt B w' p rv L := by
  have fp := hF p (.inl rfl)
  exact ⟨h.bp, Nat.lt_of_lt_of_le h.lt k.size, (k.cell (x := ⟨p, 0, none⟩) h.lt fp).trans h.c0, fun v hv => (k.cell (x := ⟨p, 1 + v, none⟩) h.lt fp).trans (h.cw v hv), fun o => (k.frozen (x := ⟨p, o, none⟩) h.lt fp).trans (h.fr o),
    row_kept h.row k (fun g e => hF g (.inr e)), h.gp, h.good⟩
theorem RefAt.call {B : Nat} {w w' : World} {p : Nat} {rv : Value} {L : List Nd} (h : RefAt B w p rv L) (k : Below w.heap.size w w') : RefAt B w' p rv L := h.kept (Kept.ofBelow k (fun _ => False)) (fun _ _ c => c)
theorem RefAt.shape {B : Nat} {w : World} {p : Nat} {rv : Value} {L : List Nd} (h : RefAt B w p rv L) : ∃ a c, rv = .slice a L.length c := by
  rcases h.row with ⟨_, ⟨h1, h2⟩ | ⟨g, cap, cur, hv, _⟩⟩
  · exact ⟨none, 0, by rw [h1, h2]⟩
  · exact ⟨_, _, hv⟩

theorem rzero_exact (w : Nat) (W : World) :
    Calls Tryz.prog 41 #[.int .u8 ((w : Nat) : Int)] W fun e W' => e = .returned (.agg #[.int .u8 ((w : Nat) : Int), .int .u64 0]) ∧ W' = W.alloc (.cells #[.int .u8 ((w : Nat) : Int), .int .u64 0] 84) := by
  go_enter Tryz.func41, Tryz.ntmps41
  go_wp2_with fail
  exact bodyPost_ret (v := .agg #[.int .u8 ((w : Nat) : Int), .int .u64 0]) (by simp [results, Tryz.results41, go_sem]) rfl ⟨rfl, rfl⟩

/-- What stands in the place j of the vectors when i kids have been looked at. -/
def wa (L : List Nd) (x : Nd) (i j : Nat) : Nat := if j < i then wid L x j else 0

/-- Ahead of the kid i. -/
structure RW (L : List Nd) (x : Nd) (W : World) (bx ar i : Nat) (w : World) : Prop where
  box : At7 w bx (.int .u8 ((x.o : Nat) : Int)) (.int .u8 ((x.w : Nat) : Int)) (.int .i64 x.k0) (.int .i64 x.k1) (.int .i64 x.k2) (.int .u64 ((x.n : Nat) : Int)) (.int .u8 ((x.l : Nat) : Int))
  ne : bx ≠ ar
  la : ar < w.heap.size
  bb : W.heap.size ≤ bx
  ba : W.heap.size ≤ ar
  c0 : ∀ j, j < 3 → w.cell? ⟨ar, j * 2, none⟩ = some (.int .u8 ((wa L x i j : Nat) : Int))
  c1 : ∀ j, j < 3 → w.cell? ⟨ar, j * 2 + 1, none⟩ = some (.int .u64 0)
  fr : ∀ o, w.frozen? ⟨ar, o, none⟩ = false
  b : Below W.heap.size W w
  k0 : ∀ j, j < i → j < kc x.o → inB L (x.kid j) = true
  k1 : ∀ j, j < i → kc x.o ≤ j → x.kid j = 0

theorem RW.skip {L : List Nd} {x : Nd} {W w : World} {bx ar i : Nat} (h : RW L x W bx ar i w) (hk : kc x.o ≤ i) (hz : x.kid i = 0) : RW L x W bx ar (i + 1) w := by
  refine ⟨h.box, h.ne, h.la, h.bb, h.ba, fun j hj => ?_, h.c1, h.fr, h.b, fun j hj hjk => ?_, fun j hj hjk => ?_⟩
  · rw [h.c0 j hj]
    have : wa L x (i + 1) j = wa L x i j := by
      unfold wa
      by_cases e : j = i
      · subst e
        rw [if_pos (by omega : j < j + 1), if_neg (by omega : ¬ j < j)]
        unfold wid
        rw [if_neg (by omega)]
      · by_cases hlt : j < i
        · rw [if_pos (by omega), if_pos hlt]
        · rw [if_neg (by omega), if_neg hlt]
    rw [this]
  · exact h.k0 j (by omega) hjk
  · by_cases e : j = i
    · subst e; exact hz
    · exact h.k1 j (by omega) hjk

theorem RW.store {L : List Nd} {x : Nd} {W w : World} {bx ar i : Nat} (h : RW L x W bx ar i w) (hi : i < 3) (hk : i < kc x.o) (hin : inB L (x.kid i) = true) :
    RW L x W bx ar (i + 1) ((w.setCell ⟨ar, i * 2, none⟩ (.int .u8 ((widAt L (x.kid i) : Nat) : Int))).setCell ⟨ar, i * 2 + 1, none⟩ (.int .u64 0)) := by
  have hs : ((w.setCell ⟨ar, i * 2, none⟩ (.int .u8 ((widAt L (x.kid i) : Nat) : Int))).setCell ⟨ar, i * 2 + 1, none⟩ (.int .u64 0)).heap.size = w.heap.size := by simp [World.setCell]
  have la := h.la
  refine ⟨h.box.move (fun off => ?_), h.ne, by rw [hs]; exact la, h.bb, h.ba, fun j hj => ?_, fun j hj => ?_, fun off => ?_, (h.b.setCell h.ba _).setCell h.ba _, fun j hj hjk => ?_, fun j hj hjk => h.k1 j (by omega) hjk⟩
  · rw [World.cell?_setCell_far _ _ _ _ (by simpa using h.ne.symm), World.cell?_setCell_far _ _ _ _ (by simpa using h.ne.symm)]
  · rw [World.cell?_setCell_other _ _ _ _ (by simp; try omega)]
    by_cases e : j = i
    · subst e
      rw [World.cell?_setCell_same' _ _ _ (by rw [h.c0 j hj]; rfl)]
      unfold wa wid
      rw [if_pos (by omega), if_pos hk]
    · rw [World.cell?_setCell_other _ _ _ _ (by simp; try omega), h.c0 j hj]
      have : wa L x (i + 1) j = wa L x i j := by
        unfold wa
        by_cases hlt : j < i
        · rw [if_pos (by omega), if_pos hlt]
        · rw [if_neg (by omega), if_neg hlt]
      rw [this]
  · by_cases e : j = i
    · subst e
      exact World.cell?_setCell_same' _ _ _ (by rw [World.cell?_setCell_other _ _ _ _ (by simp), h.c1 j hj]; rfl)
    · rw [World.cell?_setCell_other _ _ _ _ (by simp; try omega), World.cell?_setCell_other _ _ _ _ (by simp; try omega)]
      exact h.c1 j hj
  · rw [World.frozen?_setCell, World.frozen?_setCell]
    exact h.fr off
  · by_cases e : j = i
    · subst e; exact hin
    · exact h.k0 j (by omega) hjk

theorem RW.alloc {L : List Nd} {x : Nd} {W w : World} {bx ar i : Nat} (h : RW L x W bx ar i w) (o : Obj) : RW L x W bx ar i (w.alloc o) :=
  ⟨h.box.alloc o, h.ne, by rw [size_alloc]; have := h.la; omega, h.bb, h.ba, fun j hj => (World.cell?_alloc_lt _ _ _ h.la).trans (h.c0 j hj), fun j hj => (World.cell?_alloc_lt _ _ _ h.la).trans (h.c1 j hj),
    fun off => (World.frozen?_alloc_old _ _ _ (Nat.ne_of_lt h.la)).trans (h.fr off), bel_alloc h.b o, h.k0, h.k1⟩

theorem RW.drew {L : List Nd} {x : Nd} {W w : World} {bx ar i : Nat} (h : RW L x W bx ar i w) : RW L x W bx ar i w.drew :=
  ⟨h.box.drew, h.ne, h.la, h.bb, h.ba, h.c0, h.c1, h.fr, h.b.drew, h.k0, h.k1⟩
theorem RW.drewN {L : List Nd} {x : Nd} {W w : World} {bx ar i : Nat} (h : RW L x W bx ar i w) (n : Nat) : RW L x W bx ar i (w.drewN n) :=
  ⟨h.box, h.ne, h.la, h.bb, h.ba, h.c0, h.c1, h.fr, bel_drewN h.b n, h.k0, h.k1⟩

theorem rw_start (L : List Nd) (x : Nd) (W : World) : RW L x W W.heap.size (W.heap.size + 1) 0 ((W.alloc (.cells #[.int .u8 ((x.o : Nat) : Int), .int .u8 ((x.w : Nat) : Int), .int .i64 x.k0, .int .i64 x.k1, .int .i64 x.k2, .int .u64 ((x.n : Nat) : Int), .int .u8 ((x.l : Nat) : Int)] 48)).alloc (.cells #[.int .u8 0, .int .u64 0, .int .u8 0, .int .u64 0, .int .u8 0, .int .u64 0] 87)) := by
  have A := (At7.new W (.int .u8 ((x.o : Nat) : Int)) (.int .u8 ((x.w : Nat) : Int)) (.int .i64 x.k0) (.int .i64 x.k1) (.int .i64 x.k2) (.int .u64 ((x.n : Nat) : Int)) (.int .u8 ((x.l : Nat) : Int)) 48).alloc (.cells #[.int .u8 0, .int .u64 0, .int .u8 0, .int .u64 0, .int .u8 0, .int .u64 0] 87)
  have hh := (MapKept.heap_alloc (W.alloc (.cells #[.int .u8 ((x.o : Nat) : Int), .int .u8 ((x.w : Nat) : Int), .int .i64 x.k0, .int .i64 x.k1, .int .i64 x.k2, .int .u64 ((x.n : Nat) : Int), .int .u8 ((x.l : Nat) : Int)] 48)) (.cells #[.int .u8 0, .int .u64 0, .int .u8 0, .int .u64 0, .int .u8 0, .int .u64 0] 87)).1
  rw [size_alloc] at hh
  have hb : Below W.heap.size W ((W.alloc (.cells #[.int .u8 ((x.o : Nat) : Int), .int .u8 ((x.w : Nat) : Int), .int .i64 x.k0, .int .i64 x.k1, .int .i64 x.k2, .int .u64 ((x.n : Nat) : Int), .int .u8 ((x.l : Nat) : Int)] 48)).alloc (.cells #[.int .u8 0, .int .u64 0, .int .u8 0, .int .u64 0, .int .u8 0, .int .u64 0] 87)) := bel_alloc (bel_alloc (Below.refl _ _) _) _
  have hs : ((W.alloc (.cells #[.int .u8 ((x.o : Nat) : Int), .int .u8 ((x.w : Nat) : Int), .int .i64 x.k0, .int .i64 x.k1, .int .i64 x.k2, .int .u64 ((x.n : Nat) : Int), .int .u8 ((x.l : Nat) : Int)] 48)).alloc (.cells #[.int .u8 0, .int .u64 0, .int .u8 0, .int .u64 0, .int .u8 0, .int .u64 0] 87)).heap.size = W.heap.size + 1 + 1 := by rw [size_alloc, size_alloc]
  generalize ((W.alloc (.cells #[.int .u8 ((x.o : Nat) : Int), .int .u8 ((x.w : Nat) : Int), .int .i64 x.k0, .int .i64 x.k1, .int .i64 x.k2, .int .u64 ((x.n : Nat) : Int), .int .u8 ((x.l : Nat) : Int)] 48)).alloc (.cells #[.int .u8 0, .int .u64 0, .int .u8 0, .int .u64 0, .int .u8 0, .int .u64 0] 87)) = w at A hh hb hs ⊢
  refine ⟨A, by omega, by omega, Nat.le_refl _, by omega, fun j hj => ?_, fun j hj => ?_, fun o => ?_, hb, fun j hj => by omega, fun j hj => by omega⟩
  · unfold World.cell?
    rw [hh]
    match j, hj with
    | 0, _ => rfl
    | 1, _ => rfl
    | 2, _ => rfl
  · unfold World.cell?
    rw [hh]
    match j, hj with
    | 0, _ => rfl
    | 1, _ => rfl
    | 2, _ => rfl
  · unfold World.frozen?
    rw [hh]
    simp

end Tm
end Go.Proofs.YtjinjddcnjcffaaGreatDoor

namespace Go.Proofs.YtjinjddcnjcffaaGreatDoor
open Go.RowKit
namespace Bv

theorem low10 (w v a b : Nat) (h2 : w ≤ 64) : low w (numB 10 w v a b) = low w (a * b) := low_mod64 _ h2
theorem num11_eq {w v n m : Nat} (h : ¬ m = 0) : numB 11 w v n m = n / m := by show (if m = 0 then _ else n / m) = _; rw [if_neg h]
theorem num12_eq {w v n m : Nat} (h : ¬ m = 0) : numB 12 w v n m = n % m := by show (if m = 0 then _ else n % m) = _; rw [if_neg h]
theorem low_mul_left (w a b : Nat) : low w (low w a * b) = low w (a * b) := by unfold low; rw [Nat.mod_mul_mod]

/-- Of numbers: the quotient times the second, and the rest, are the first. -/
theorem udiv_is {w n m : Nat} (h2 : w ≤ 64) (hn : n < 2 ^ w) (h : ¬ m = 0) :
    low w (numB 8 w w (low w (numB 10 w w (low w (numB 11 w w n m)) m)) (low w (numB 12 w w n m))) = n := by
  rw [low8 w w _ _ h2, low10 w w _ _ h2, low_mul_left, low_add_left, low_add_right, num11_eq h, num12_eq h, Nat.mul_comm, Nat.div_add_mod]
  exact low_self hn
theorem urem_lt {w n m : Nat} (hn : n < 2 ^ w) (h : ¬ m = 0) : low 1 (numB 19 w w (low w (numB 12 w w n m)) m) = 1 := by
  have hr : low w (numB 12 w w n m) < m := by
    rw [num12_eq h, low_self (Nat.lt_of_le_of_lt (Nat.mod_le _ _) hn)]
    exact Nat.mod_lt _ (by omega)
  generalize low w (numB 12 w w n m) = r at *
  show low 1 (decide (r < m)).toNat = 1
  rw [decide_eq_true hr]; rfl

/-- What a number of 64 bits is modulo 2^w, over Int. -/
theorem low_int {w : Nat} (h2 : w ≤ 64) (x : Int) : ((low w (x % 18446744073709551616).toNat : Nat) : Int) = x % ((2 ^ w : Nat) : Int) := by
  unfold low
  have h0 : 0 ≤ x % 18446744073709551616 := Int.emod_nonneg _ (by decide)
  rw [Int.natCast_emod, Int.toNat_of_nonneg h0]
  exact Int.emod_emod_of_dvd x ⟨((2 ^ (64 - w) : Nat) : Int), by rw [← Int.natCast_mul, pow_split h2]; rfl⟩
theorem wo_mod (w n : Nat) : wo w n % ((2 ^ w : Nat) : Int) = (n : Int) % ((2 ^ w : Nat) : Int) := by
  unfold wo
  split
  · rfl
  · rw [Int.sub_emod_right]
theorem low_cast (w a : Nat) : ((low w a : Nat) : Int) = (a : Int) % ((2 ^ w : Nat) : Int) := by unfold low; rw [Int.natCast_emod]

/-- Of worths likewise. -/
theorem sdiv_is {w n m : Nat} (h2 : w ≤ 64) (hn : n < 2 ^ w) (h : ¬ m = 0) :
    low w (numB 8 w w (low w (numB 10 w w (low w (numB 13 w w n m)) m)) (low w (numB 14 w w n m))) = n := by
  have e13 : numB 13 w w n m = ((wo w n).tdiv (wo w m) % 18446744073709551616).toNat := by show (if m = 0 then _ else _) = _; rw [if_neg h]
  have e14 : numB 14 w w n m = ((wo w n).tmod (wo w m) % 18446744073709551616).toNat := by show (if m = 0 then _ else _) = _; rw [if_neg h]
  rw [low8 w w _ _ h2, low10 w w _ _ h2, e13, e14]
  have key : ((low w (low w (low w ((wo w n).tdiv (wo w m) % 18446744073709551616).toNat * m) + low w ((wo w n).tmod (wo w m) % 18446744073709551616).toNat) : Nat) : Int) = (n : Int) := by
    rw [low_cast, Int.natCast_add, low_cast w (_ * m), Int.natCast_mul, low_int h2, low_int h2]
    rw [← Int.add_emod, Int.add_emod, Int.mul_emod, Int.emod_emod_of_dvd _ (Int.dvd_refl _), ← wo_mod w m, ← Int.mul_emod, ← Int.add_emod, Int.mul_comm, Int.mul_tdiv_add_tmod, wo_mod]
    exact Int.emod_eq_of_lt (by omega) (by omega)
  exact Int.ofNat_inj.1 key

/-- The worth of a vector whose highest bit is set, with ones above it. -/
theorem worth_or {w n : Nat} (h1 : 1 ≤ w) (h2 : w ≤ 64) (hn : n < 2 ^ w) (hs : 2 ^ (w - 1) ≤ n) :
    IntKind.i64.wrap (bits BinOp.or IntKind.u64 (n : Int) (bits BinOp.xor IntKind.u64 IntKind.u64.max ((2 ^ w - 1 : Nat) : Int))) = wo w n := by
  have hl := pow_le64 h2
  have hh := pow_half h1
  have hp := pow_pos' (w - 1)
  have hsp := pow_split h2
  rw [notmax (by omega), bits_or_u64_nat n _ (by omega) (by omega), Nat.or_comm]
  have e : 18446744073709551615 - (2 ^ w - 1) = (2 ^ (64 - w) - 1) * 2 ^ w := by
    rw [Nat.sub_mul, Nat.mul_comm, hsp, Nat.one_mul]; omega
  rw [e, or_join hn, ← e, IntKind.wrap_i64, wo_neg hs]
  omega
theorem worth_plain {w n : Nat} (h1 : 1 ≤ w) (h2 : w ≤ 64) (hs : ¬ 2 ^ (w - 1) ≤ n) : IntKind.i64.wrap (n : Int) = wo w n := by
  have hl := pow_le64 h2
  have hh := pow_half h1
  rw [wo_pos (by omega), IntKind.wrap_i64]
  omega
end Bv
end Go.Proofs.YtjinjddcnjcffaaGreatDoor

namespace Go.Proofs.YtjinjddcnjcffaaGreatDoor
open Go.RowKit
namespace Bv
set_option maxHeartbeats 400000
set_option maxRecDepth 100000

theorem rmay_yes {w n : Nat} (hn : n < 18446744073709551616) (h : mayB w n = true) (W : World) :
    Calls Tryz.prog 42 #[.agg #[.int .u8 w, .int .u64 n]] W fun e W' => e = .returned (.bool true) ∧ Below W.heap.size W W' := by
  have := rmay_any w n hn W; rw [h] at this; exact this
theorem rmay_no {w n : Nat} (hn : n < 18446744073709551616) (h : mayB w n = false) (W : World) :
    Calls Tryz.prog 42 #[.agg #[.int .u8 w, .int .u64 n]] W fun e W' => e = .returned (.bool false) ∧ Below W.heap.size W W' := by
  have := rmay_any w n hn W; rw [h] at this; exact this
theorem rsign_is {w n : Nat} (h1 : 1 ≤ w) (h2 : w ≤ 64) (hn : n < 2 ^ w) {b : Bool} (hb : decide (2 ^ (w - 1) ≤ n) = b) (W : World) :
    Calls Tryz.prog 85 #[.agg #[.int .u8 w, .int .u64 n]] W fun e W' => e = .returned (.bool b) ∧ Below W.heap.size W W' := by
  have := rsign_any w n h1 h2 hn W; rw [hb] at this; exact this

theorem rextract_b1 (w n : Nat) (l r : Int) (hn6 : n < 18446744073709551616) (HA : Hid (mayB w n = false)) (W : World) :
    Calls Tryz.prog 43 #[.agg #[.int .u8 w, .int .u64 n], .int .i64 l, .int .i64 r] W fun e W' => e = .returned (.tuple #[.agg #[.int .u8 0, .int .u64 0], .int .i64 2]) ∧ Below W.heap.size W W' := by
  go_enter Tryz.func43, Tryz.ntmps43
  go_wp2_with fail
  refine (rmay_no hn6 HA.out _).mono ?_; rintro e w1 ⟨rfl, hb1⟩
  have ka : At w1 (W.heap.size) (.int .u8 w) (.int .u64 n) := by have h0 := (((At.new _ _ _ _).alloc _)).keep hb1; simpa using h0
  have la := ka.lt
  have oa := ka
  unfold At at oa
  have kres : At w1 (W.heap.size + 1) (.int .u8 0) (.int .u64 0) := by have h0 := ((At.new _ _ _ _)).keep hb1; simpa using h0
  have lres := kres.lt
  have ores := kres
  unfold At at ores
  have fres : w1.frozen? ⟨W.heap.size + 1, 0, none⟩ = false ∧ w1.frozen? ⟨W.heap.size + 1, 1, none⟩ = false := by constructor <;> (rw [Below.frozen hb1 (by simp)]; simp [go_sem])
  go_wp2_with fail
  refine bodyPost_ret (v := .tuple #[.agg #[.int .u8 0, .int .u64 0], .int .i64 2]) (by simp [results, Tryz.results43, go_sem, ores]) rfl ⟨rfl, ?_⟩
  exact ((bel_call (bel_alloc (bel_alloc (Below.refl _ _) _) _) hb1).setCell (by first | (simp; done) | (simp; omega) | omega) _).setCell (by first | (simp; done) | (simp; omega) | omega) _

theorem rextract_b2 (w n : Nat) (l r : Int) (hn6 : n < 18446744073709551616) (HA : Hid (mayB w n = true)) (h : l < 0) (W : World) :
    Calls Tryz.prog 43 #[.agg #[.int .u8 w, .int .u64 n], .int .i64 l, .int .i64 r] W fun e W' => e = .returned (.tuple #[.agg #[.int .u8 0, .int .u64 0], .int .i64 2]) ∧ Below W.heap.size W W' := by
  go_enter Tryz.func43, Tryz.ntmps43
  go_wp2_with fail
  refine (rmay_yes hn6 HA.out _).mono ?_; rintro e w1 ⟨rfl, hb1⟩
  have ka : At w1 (W.heap.size) (.int .u8 w) (.int .u64 n) := by have h0 := (((At.new _ _ _ _).alloc _)).keep hb1; simpa using h0
  have la := ka.lt
  have oa := ka
  unfold At at oa
  have kres : At w1 (W.heap.size + 1) (.int .u8 0) (.int .u64 0) := by have h0 := ((At.new _ _ _ _)).keep hb1; simpa using h0
  have lres := kres.lt
  have ores := kres
  unfold At at ores
  have fres : w1.frozen? ⟨W.heap.size + 1, 0, none⟩ = false ∧ w1.frozen? ⟨W.heap.size + 1, 1, none⟩ = false := by constructor <;> (rw [Below.frozen hb1 (by simp)]; simp [go_sem])
  go_wp2_with fail
  refine bodyPost_ret (v := .tuple #[.agg #[.int .u8 0, .int .u64 0], .int .i64 2]) (by simp [results, Tryz.results43, go_sem, ores]) rfl ⟨rfl, ?_⟩
  exact ((bel_call (bel_alloc (bel_alloc (Below.refl _ _) _) _) hb1).setCell (by first | (simp; done) | (simp; omega) | omega) _).setCell (by first | (simp; done) | (simp; omega) | omega) _

theorem rextract_b3 (w n : Nat) (l r : Int) (hn6 : n < 18446744073709551616) (HA : Hid (mayB w n = true)) (h0 : 0 ≤ l) (h : r < 1) (W : World) :
    Calls Tryz.prog 43 #[.agg #[.int .u8 w, .int .u64 n], .int .i64 l, .int .i64 r] W fun e W' => e = .returned (.tuple #[.agg #[.int .u8 0, .int .u64 0], .int .i64 2]) ∧ Below W.heap.size W W' := by
  go_enter Tryz.func43, Tryz.ntmps43
  go_wp2_with fail
  refine (rmay_yes hn6 HA.out _).mono ?_; rintro e w1 ⟨rfl, hb1⟩
  have ka : At w1 (W.heap.size) (.int .u8 w) (.int .u64 n) := by have h0 := (((At.new _ _ _ _).alloc _)).keep hb1; simpa using h0
  have la := ka.lt
  have oa := ka
  unfold At at oa
  have kres : At w1 (W.heap.size + 1) (.int .u8 0) (.int .u64 0) := by have h0 := ((At.new _ _ _ _)).keep hb1; simpa using h0
  have lres := kres.lt
  have ores := kres
  unfold At at ores
  have fres : w1.frozen? ⟨W.heap.size + 1, 0, none⟩ = false ∧ w1.frozen? ⟨W.heap.size + 1, 1, none⟩ = false := by constructor <;> (rw [Below.frozen hb1 (by simp)]; simp [go_sem])
  go_wp2_with fail
  refine bodyPost_ret (v := .tuple #[.agg #[.int .u8 0, .int .u64 0], .int .i64 2]) (by simp [results, Tryz.results43, go_sem, ores]) rfl ⟨rfl, ?_⟩
  exact ((bel_call (bel_alloc (bel_alloc (Below.refl _ _) _) _) hb1).setCell (by first | (simp; done) | (simp; omega) | omega) _).setCell (by first | (simp; done) | (simp; omega) | omega) _

theorem rextract_b4 (w n : Nat) (l r : Int) (hn6 : n < 18446744073709551616) (HA : Hid (mayB w n = true)) (h0 : 0 ≤ l) (h1 : 1 ≤ r) (h : 64 < r) (W : World) :
    Calls Tryz.prog 43 #[.agg #[.int .u8 w, .int .u64 n], .int .i64 l, .int .i64 r] W fun e W' => e = .returned (.tuple #[.agg #[.int .u8 0, .int .u64 0], .int .i64 2]) ∧ Below W.heap.size W W' := by
  go_enter Tryz.func43, Tryz.ntmps43
  go_wp2_with fail
  refine (rmay_yes hn6 HA.out _).mono ?_; rintro e w1 ⟨rfl, hb1⟩
  have ka : At w1 (W.heap.size) (.int .u8 w) (.int .u64 n) := by have h0 := (((At.new _ _ _ _).alloc _)).keep hb1; simpa using h0
  have la := ka.lt
  have oa := ka
  unfold At at oa
  have kres : At w1 (W.heap.size + 1) (.int .u8 0) (.int .u64 0) := by have h0 := ((At.new _ _ _ _)).keep hb1; simpa using h0
  have lres := kres.lt
  have ores := kres
  unfold At at ores
  have fres : w1.frozen? ⟨W.heap.size + 1, 0, none⟩ = false ∧ w1.frozen? ⟨W.heap.size + 1, 1, none⟩ = false := by constructor <;> (rw [Below.frozen hb1 (by simp)]; simp [go_sem])
  go_wp2_with fail
  refine bodyPost_ret (v := .tuple #[.agg #[.int .u8 0, .int .u64 0], .int .i64 2]) (by simp [results, Tryz.results43, go_sem, ores]) rfl ⟨rfl, ?_⟩
  exact ((bel_call (bel_alloc (bel_alloc (Below.refl _ _) _) _) hb1).setCell (by first | (simp; done) | (simp; omega) | omega) _).setCell (by first | (simp; done) | (simp; omega) | omega) _

theorem rextract_b5 (w n : Nat) (l r : Int) (hn6 : n < 18446744073709551616) (HA : Hid (mayB w n = true)) (h0 : 0 ≤ l) (h1 : 1 ≤ r) (h2 : r ≤ 64) (h : 64 < l) (W : World) :
    Calls Tryz.prog 43 #[.agg #[.int .u8 w, .int .u64 n], .int .i64 l, .int .i64 r] W fun e W' => e = .returned (.tuple #[.agg #[.int .u8 0, .int .u64 0], .int .i64 2]) ∧ Below W.heap.size W W' := by
  go_enter Tryz.func43, Tryz.ntmps43
  go_wp2_with fail
  refine (rmay_yes hn6 HA.out _).mono ?_; rintro e w1 ⟨rfl, hb1⟩
  have ka : At w1 (W.heap.size) (.int .u8 w) (.int .u64 n) := by have h0 := (((At.new _ _ _ _).alloc _)).keep hb1; simpa using h0
  have la := ka.lt
  have oa := ka
  unfold At at oa
  have kres : At w1 (W.heap.size + 1) (.int .u8 0) (.int .u64 0) := by have h0 := ((At.new _ _ _ _)).keep hb1; simpa using h0
  have lres := kres.lt
  have ores := kres
  unfold At at ores
  have fres : w1.frozen? ⟨W.heap.size + 1, 0, none⟩ = false ∧ w1.frozen? ⟨W.heap.size + 1, 1, none⟩ = false := by constructor <;> (rw [Below.frozen hb1 (by simp)]; simp [go_sem])
  go_wp2_with fail
  refine bodyPost_ret (v := .tuple #[.agg #[.int .u8 0, .int .u64 0], .int .i64 2]) (by simp [results, Tryz.results43, go_sem, ores]) rfl ⟨rfl, ?_⟩
  exact ((bel_call (bel_alloc (bel_alloc (Below.refl _ _) _) _) hb1).setCell (by first | (simp; done) | (simp; omega) | omega) _).setCell (by first | (simp; done) | (simp; omega) | omega) _

theorem rextract_b6 (w n : Nat) (l r : Int) (hn6 : n < 18446744073709551616) (HA : Hid (mayB w n = true)) (hw : w ≤ 64) (h0 : 0 ≤ l) (h1 : 1 ≤ r) (h2 : r ≤ 64) (h3 : l ≤ 64) (h : (w : Int) < l + r) (W : World) :
    Calls Tryz.prog 43 #[.agg #[.int .u8 w, .int .u64 n], .int .i64 l, .int .i64 r] W fun e W' => e = .returned (.tuple #[.agg #[.int .u8 0, .int .u64 0], .int .i64 2]) ∧ Below W.heap.size W W' := by
  go_enter Tryz.func43, Tryz.ntmps43
  go_wp2_with fail
  refine (rmay_yes hn6 HA.out _).mono ?_; rintro e w1 ⟨rfl, hb1⟩
  have ka : At w1 (W.heap.size) (.int .u8 w) (.int .u64 n) := by have h0 := (((At.new _ _ _ _).alloc _)).keep hb1; simpa using h0
  have la := ka.lt
  have oa := ka
  unfold At at oa
  have kres : At w1 (W.heap.size + 1) (.int .u8 0) (.int .u64 0) := by have h0 := ((At.new _ _ _ _)).keep hb1; simpa using h0
  have lres := kres.lt
  have ores := kres
  unfold At at ores
  have fres : w1.frozen? ⟨W.heap.size + 1, 0, none⟩ = false ∧ w1.frozen? ⟨W.heap.size + 1, 1, none⟩ = false := by constructor <;> (rw [Below.frozen hb1 (by simp)]; simp [go_sem])
  go_wp2_with fail
  refine bodyPost_ret (v := .tuple #[.agg #[.int .u8 0, .int .u64 0], .int .i64 2]) (by simp [results, Tryz.results43, go_sem, ores]) rfl ⟨rfl, ?_⟩
  exact ((bel_call (bel_alloc (bel_alloc (Below.refl _ _) _) _) hb1).setCell (by first | (simp; done) | (simp; omega) | omega) _).setCell (by first | (simp; done) | (simp; omega) | omega) _

theorem rextract_ok (w n l r : Nat) (hn6 : n < 18446744073709551616) (HA : Hid (mayB w n = true)) (hw : w ≤ 64) (hr : 1 ≤ r) (hl : l + r ≤ w) (W : World) :
    Calls Tryz.prog 43 #[.agg #[.int .u8 w, .int .u64 n], .int .i64 l, .int .i64 r] W fun e W' => e = .returned (.tuple #[.agg #[.int .u8 r, .int .u64 (low r (n / 2 ^ l) : Nat)], .int .i64 0]) ∧ Below W.heap.size W W' := by
  have hd : n / 2 ^ l < 18446744073709551616 := Nat.lt_of_le_of_lt (Nat.div_le_self _ _) hn6
  have e : (n : Int) / 2 ^ l = ((n / 2 ^ l : Nat) : Int) := by simp
  generalize n / 2 ^ l = q at *
  have HQ := Lib.hid e
  clear e
  go_enter Tryz.func43, Tryz.ntmps43
  go_wp2_with fail
  refine (rmay_yes hn6 HA.out _).mono ?_; rintro e w1 ⟨rfl, hb1⟩
  have ka : At w1 (W.heap.size) (.int .u8 w) (.int .u64 n) := by have h0 := (((At.new _ _ _ _).alloc _)).keep hb1; simpa using h0
  have la := ka.lt
  have oa := ka
  unfold At at oa
  have kres : At w1 (W.heap.size + 1) (.int .u8 0) (.int .u64 0) := by have h0 := ((At.new _ _ _ _)).keep hb1; simpa using h0
  have lres := kres.lt
  have ores := kres
  unfold At at ores
  have fres : w1.frozen? ⟨W.heap.size + 1, 0, none⟩ = false ∧ w1.frozen? ⟨W.heap.size + 1, 1, none⟩ = false := by constructor <;> (rw [Below.frozen hb1 (by simp)]; simp [go_sem])
  go_wp2_with fail
  rw [HQ.out]
  refine (rcut_any r (by omega) _ (by omega) (by omega) _).mono ?_; rintro e w2 ⟨rfl, hb2⟩
  replace ka := ka.keep hb2
  replace la := ka.lt
  replace oa := ka
  unfold At at oa
  replace fres : w2.frozen? ⟨W.heap.size + 1, 0, none⟩ = false ∧ w2.frozen? ⟨W.heap.size + 1, 1, none⟩ = false := ⟨(Below.frozen hb2 (p := ⟨_, 0, none⟩) lres).trans fres.1, (Below.frozen hb2 (p := ⟨_, 1, none⟩) lres).trans fres.2⟩
  replace kres := kres.keep hb2
  replace lres := kres.lt
  replace ores := kres
  unfold At at ores
  go_wp2_with fail
  refine bodyPost_ret (v := .tuple #[.agg #[.int .u8 r, .int .u64 (low r q : Nat)], .int .i64 0]) (by simp [results, Tryz.results43, go_sem, ores]) rfl ⟨rfl, ?_⟩
  exact ((bel_call (bel_call (bel_alloc (bel_alloc (Below.refl _ _) _) _) hb1) hb2).setCell (by first | (simp; done) | (simp; omega) | omega) _).setCell (by first | (simp; done) | (simp; omega) | omega) _

theorem rworth_any (w n : Nat) (hn6 : n < 18446744073709551616) (W : World) :
    Calls Tryz.prog 63 #[.agg #[.int .u8 w, .int .u64 n]] W fun e W' => e = .returned (.int .i64 (if mayB w n = true then wo w n else 0)) ∧ Below W.heap.size W W' := by
  cases hm : mayB w n
  · have HA := Lib.hid hm
    clear hm
    go_enter Tryz.func63, Tryz.ntmps63
    go_wp2_with fail
    refine (rmay_no hn6 HA.out _).mono ?_; rintro e w1 ⟨rfl, hb1⟩
    have ka : At w1 (W.heap.size) (.int .u8 w) (.int .u64 n) := by have h0 := ((At.new _ _ _ _)).keep hb1; simpa using h0
    have la := ka.lt
    have oa := ka
    unfold At at oa
    go_wp2_with fail
    go_ret
    exact ⟨rfl, (bel_call (bel_alloc (Below.refl _ _) _) hb1)⟩
  · obtain ⟨hw1, hw2, hn⟩ := mayB_true hm
    have HA := Lib.hid hm
    clear hm
    rw [if_pos rfl]
    by_cases hs : 2 ^ (w - 1) ≤ n
    · have HW := Lib.hid (worth_or hw1 hw2 hn hs)
      go_enter Tryz.func63, Tryz.ntmps63
      go_wp2_with fail
      refine (rmay_yes hn6 HA.out _).mono ?_; rintro e w1 ⟨rfl, hb1⟩
      have ka : At w1 (W.heap.size) (.int .u8 w) (.int .u64 n) := by have h0 := ((At.new _ _ _ _)).keep hb1; simpa using h0
      have la := ka.lt
      have oa := ka
      unfold At at oa
      go_wp2_with fail
      refine (rsign_is hw1 hw2 hn (decide_eq_true hs) _).mono ?_; rintro e w2 ⟨rfl, hb2⟩
      replace ka := ka.keep hb2
      replace la := ka.lt
      replace oa := ka
      unfold At at oa
      go_wp2_with fail
      go_quiet ((go_at_call 84; exact Calls.quiet_of_same ((rmask_any w hw2 _).mono fun _ _ h => ⟨h.1, h.2.symm⟩)))
      go_wp2
      go_ret
      exact ⟨ret_i64 (by first | exact HW.out | (unfold wrap64; rw [← IntKind.wrap_i64]; exact HW.out)), bel_drewN (bel_call (bel_call (bel_alloc (Below.refl _ _) _) hb1) hb2) _⟩
    · have HW := Lib.hid (worth_plain hw1 hw2 hs)
      go_enter Tryz.func63, Tryz.ntmps63
      go_wp2_with fail
      refine (rmay_yes hn6 HA.out _).mono ?_; rintro e w1 ⟨rfl, hb1⟩
      have ka : At w1 (W.heap.size) (.int .u8 w) (.int .u64 n) := by have h0 := ((At.new _ _ _ _)).keep hb1; simpa using h0
      have la := ka.lt
      have oa := ka
      unfold At at oa
      go_wp2_with fail
      refine (rsign_is hw1 hw2 hn (decide_eq_false hs) _).mono ?_; rintro e w2 ⟨rfl, hb2⟩
      replace ka := ka.keep hb2
      replace la := ka.lt
      replace oa := ka
      unfold At at oa
      go_wp2_with fail
      go_ret
      exact ⟨ret_i64 (by first | exact HW.out | (unfold wrap64; rw [← IntKind.wrap_i64]; exact HW.out)), (bel_call (bel_call (bel_alloc (Below.refl _ _) _) hb1) hb2)⟩

end Bv
end Go.Proofs.YtjinjddcnjcffaaGreatDoor
