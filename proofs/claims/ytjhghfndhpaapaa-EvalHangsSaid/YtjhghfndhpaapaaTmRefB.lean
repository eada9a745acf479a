/-
  The document's own store in memory; what holds while its width goes through a node's kids.
-/
import Derived.Test.YtjhghfndhpaapaaTmP2
import Derived.Test.YtjhghfndhpaapaaTmRkids
namespace Go.Proofs.Ytjhghfndhpaapaa
open Go.RowKit Go.Maps Bv
namespace Tm
set_option maxHeartbeats 400000
set_option maxRecDepth 100000

/-- The block p of w is the document's store that has the nodes L; its list is the value rv; all of it lies from block B on. -/
structure RefAt (B : Nat) (w : World) (p : Nat) (rv : Value) (L : List Nd) : Prop where
  bp : B ≤ p
  lt : p < w.heap.size
  c0 : w.cell? ⟨p, 0, none⟩ = some rv
  cw : ∀ v, v < 256 → w.cell? ⟨p, 1 + v, none⟩ = some (.int .u8 ((wdOf L v : Nat) : Int))
  fr : ∀ o, w.frozen? ⟨p, o, none⟩ = false
  row : w.ownsRow B 62 7 rv L.length (rowOf L)
  gp : rv.ownBlock ≠ some p
  good : Gd L
def rfoot (p : Nat) (rv : Value) (k : Nat) : Prop := k = p ∨ rv.ownBlock = some k

theorem RefAt.kept {B : Nat} {w w' : World} {p : Nat} {rv : Value} {L : List Nd} {F : Nat → Prop} (h : RefAt B w p rv L) (k : Kept F w w') (hF : ∀ i, rfoot p rv i → ¬ F i) : RefAt B w' p rv L := by
  have fp := hF p (.inl rfl)
  exact ⟨h.bp, Nat.lt_of_lt_of_le h.lt k.size, (k.cell (x := ⟨p, 0, none⟩) h.lt fp).trans h.c0, fun v hv => (k.cell (x := ⟨p, 1 + v, none⟩) h.lt fp).trans (h.cw v hv), fun o => (k.frozen (x := ⟨p, o, none⟩) h.lt fp).trans (h.fr o),
    row_kept h.row k (fun g e => hF g (.inr e)), h.gp, h.good⟩
theorem RefAt.call {B : Nat} {w w' : World} {p : Nat} {rv : Value} {L : List Nd} (h : RefAt B w p rv L) (k : Below w.heap.size w w') : RefAt B w' p rv L := h.kept (Kept.ofBelow k (fun _ => False)) (fun _ _ c => c)
theorem RefAt.shape {B : Nat} {w : World} {p : Nat} {rv : Value} {L : List Nd} (h : RefAt B w p rv L) : ∃ a c, rv = .slice a L.length c := by
  rcases h.row with ⟨_, ⟨h1, h2⟩ | ⟨g, cap, cur, hv, _⟩⟩
  · exact ⟨none, 0, by rw [h1, h2]⟩
  · exact ⟨_, _, hv⟩

theorem rzero_exact (w : Nat) (W : World) :
    Calls Try.prog 51 #[.int .u8 ((w : Nat) : Int)] W fun e W' => e = .returned (.agg #[.int .u8 ((w : Nat) : Int), .int .u64 0]) ∧ W' = W.alloc (.cells #[.int .u8 ((w : Nat) : Int), .int .u64 0] 31) := by
  go_enter Try.func51, Try.ntmps51
  go_wp2_with fail
  exact bodyPost_ret (v := .agg #[.int .u8 ((w : Nat) : Int), .int .u64 0]) (by simp [results, Try.results51, go_sem]) rfl ⟨rfl, rfl⟩

/-- What stands in the place j of the vectors when i kids have been looked at. -/
def wa (L : List Nd) (x : Nd) (i j : Nat) : Nat := if j < i then wid L x j else 0

/-- Ahead of the kid i. -/
structure RW (L : List Nd) (x : Nd) (W : World) (bx ar i : Nat) (w : World) : Prop where
  box : At7 w bx (.int .u8 ((x.o : Nat) : Int)) (.int .u8 ((x.w : Nat) : Int)) (.int .i64 x.k0) (.int .i64 x.k1) (.int .i64 x.k2) (.int .u64 ((x.n : Nat) : Int)) (.int .u8 ((x.l : Nat) : Int))
  ne : bx ≠ ar
  la : ar < w.heap.size
  bb : W.heap.size ≤ bx
  ba : W.heap.size ≤ ar
  c0 : ∀ j, j < 3 → w.cell? ⟨ar, j * 2, none⟩ = some (.int .u8 ((wa L x i j : Nat) : Int))
  c1 : ∀ j, j < 3 → w.cell? ⟨ar, j * 2 + 1, none⟩ = some (.int .u64 0)
  fr : ∀ o, w.frozen? ⟨ar, o, none⟩ = false
  b : Below W.heap.size W w
  k0 : ∀ j, j < i → j < kc x.o → inB L (x.kid j) = true
  k1 : ∀ j, j < i → kc x.o ≤ j → x.kid j = 0

theorem RW.skip {L : List Nd} {x : Nd} {W w : World} {bx ar i : Nat} (h : RW L x W bx ar i w) (hk : kc x.o ≤ i) (hz : x.kid i = 0) : RW L x W bx ar (i + 1) w := by
  refine ⟨h.box, h.ne, h.la, h.bb, h.ba, fun j hj => ?_, h.c1, h.fr, h.b, fun j hj hjk => ?_, fun j hj hjk => ?_⟩
  · rw [h.c0 j hj]
    have : wa L x (i + 1) j = wa L x i j := by
      unfold wa
      by_cases e : j = i
      · subst e
        rw [if_pos (by omega : j < j + 1), if_neg (by omega : ¬ j < j)]
        unfold wid
        rw [if_neg (by omega)]
      · by_cases hlt : j < i
        · rw [if_pos (by omega), if_pos hlt]
        · rw [if_neg (by omega), if_neg hlt]
    rw [this]
  · exact h.k0 j (by omega) hjk
  · by_cases e : j = i
    · subst e; exact hz
    · exact h.k1 j (by omega) hjk

theorem RW.store {L : List Nd} {x : Nd} {W w : World} {bx ar i : Nat} (h : RW L x W bx ar i w) (hi : i < 3) (hk : i < kc x.o) (hin : inB L (x.kid i) = true) :
    RW L x W bx ar (i + 1) ((w.setCell ⟨ar, i * 2, none⟩ (.int .u8 ((widAt L (x.kid i) : Nat) : Int))).setCell ⟨ar, i * 2 + 1, none⟩ (.int .u64 0)) := by
  have hs : ((w.setCell ⟨ar, i * 2, none⟩ (.int .u8 ((widAt L (x.kid i) : Nat) : Int))).setCell ⟨ar, i * 2 + 1, none⟩ (.int .u64 0)).heap.size = w.heap.size := by simp [World.setCell]
  have la := h.la
  refine ⟨h.box.move (fun off => ?_), h.ne, by rw [hs]; exact la, h.bb, h.ba, fun j hj => ?_, fun j hj => ?_, fun off => ?_, (h.b.setCell h.ba _).setCell h.ba _, fun j hj hjk => ?_, fun j hj hjk => h.k1 j (by omega) hjk⟩
  · rw [World.cell?_setCell_far _ _ _ _ (by simpa using h.ne.symm), World.cell?_setCell_far _ _ _ _ (by simpa using h.ne.symm)]
  · rw [World.cell?_setCell_other _ _ _ _ (by simp; try omega)]
    by_cases e : j = i
    · subst e
      rw [World.cell?_setCell_same' _ _ _ (by rw [h.c0 j hj]; rfl)]
      unfold wa wid
      rw [if_pos (by omega), if_pos hk]
    · rw [World.cell?_setCell_other _ _ _ _ (by simp; try omega), h.c0 j hj]
      have : wa L x (i + 1) j = wa L x i j := by
        unfold wa
        by_cases hlt : j < i
        · rw [if_pos (by omega), if_pos hlt]
        · rw [if_neg (by omega), if_neg hlt]
      rw [this]
  · by_cases e : j = i
    · subst e
      exact World.cell?_setCell_same' _ _ _ (by rw [World.cell?_setCell_other _ _ _ _ (by simp), h.c1 j hj]; rfl)
    · rw [World.cell?_setCell_other _ _ _ _ (by simp; try omega), World.cell?_setCell_other _ _ _ _ (by simp; try omega)]
      exact h.c1 j hj
  · rw [World.frozen?_setCell, World.frozen?_setCell]
    exact h.fr off
  · by_cases e : j = i
    · subst e; exact hin
    · exact h.k0 j (by omega) hjk

theorem RW.alloc {L : List Nd} {x : Nd} {W w : World} {bx ar i : Nat} (h : RW L x W bx ar i w) (o : Obj) : RW L x W bx ar i (w.alloc o) :=
  ⟨h.box.alloc o, h.ne, by rw [size_alloc]; have := h.la; omega, h.bb, h.ba, fun j hj => (World.cell?_alloc_lt _ _ _ h.la).trans (h.c0 j hj), fun j hj => (World.cell?_alloc_lt _ _ _ h.la).trans (h.c1 j hj),
    fun off => (World.frozen?_alloc_old _ _ _ (Nat.ne_of_lt h.la)).trans (h.fr off), bel_alloc h.b o, h.k0, h.k1⟩

theorem RW.drew {L : List Nd} {x : Nd} {W w : World} {bx ar i : Nat} (h : RW L x W bx ar i w) : RW L x W bx ar i w.drew :=
  ⟨h.box.drew, h.ne, h.la, h.bb, h.ba, h.c0, h.c1, h.fr, h.b.drew, h.k0, h.k1⟩
theorem RW.drewN {L : List Nd} {x : Nd} {W w : World} {bx ar i : Nat} (h : RW L x W bx ar i w) (n : Nat) : RW L x W bx ar i (w.drewN n) :=
  ⟨h.box, h.ne, h.la, h.bb, h.ba, h.c0, h.c1, h.fr, bel_drewN h.b n, h.k0, h.k1⟩

theorem rw_start (L : List Nd) (x : Nd) (W : World) : RW L x W W.heap.size (W.heap.size + 1) 0 ((W.alloc (.cells #[.int .u8 ((x.o : Nat) : Int), .int .u8 ((x.w : Nat) : Int), .int .i64 x.k0, .int .i64 x.k1, .int .i64 x.k2, .int .u64 ((x.n : Nat) : Int), .int .u8 ((x.l : Nat) : Int)] 62)).alloc (.cells #[.int .u8 0, .int .u64 0, .int .u8 0, .int .u64 0, .int .u8 0, .int .u64 0] 96)) := by
  have A := (At7.new W (.int .u8 ((x.o : Nat) : Int)) (.int .u8 ((x.w : Nat) : Int)) (.int .i64 x.k0) (.int .i64 x.k1) (.int .i64 x.k2) (.int .u64 ((x.n : Nat) : Int)) (.int .u8 ((x.l : Nat) : Int)) 62).alloc (.cells #[.int .u8 0, .int .u64 0, .int .u8 0, .int .u64 0, .int .u8 0, .int .u64 0] 96)
  have hh := (MapKept.heap_alloc (W.alloc (.cells #[.int .u8 ((x.o : Nat) : Int), .int .u8 ((x.w : Nat) : Int), .int .i64 x.k0, .int .i64 x.k1, .int .i64 x.k2, .int .u64 ((x.n : Nat) : Int), .int .u8 ((x.l : Nat) : Int)] 62)) (.cells #[.int .u8 0, .int .u64 0, .int .u8 0, .int .u64 0, .int .u8 0, .int .u64 0] 96)).1
  rw [size_alloc] at hh
  have hb : Below W.heap.size W ((W.alloc (.cells #[.int .u8 ((x.o : Nat) : Int), .int .u8 ((x.w : Nat) : Int), .int .i64 x.k0, .int .i64 x.k1, .int .i64 x.k2, .int .u64 ((x.n : Nat) : Int), .int .u8 ((x.l : Nat) : Int)] 62)).alloc (.cells #[.int .u8 0, .int .u64 0, .int .u8 0, .int .u64 0, .int .u8 0, .int .u64 0] 96)) := bel_alloc (bel_alloc (Below.refl _ _) _) _
  have hs : ((W.alloc (.cells #[.int .u8 ((x.o : Nat) : Int), .int .u8 ((x.w : Nat) : Int), .int .i64 x.k0, .int .i64 x.k1, .int .i64 x.k2, .int .u64 ((x.n : Nat) : Int), .int .u8 ((x.l : Nat) : Int)] 62)).alloc (.cells #[.int .u8 0, .int .u64 0, .int .u8 0, .int .u64 0, .int .u8 0, .int .u64 0] 96)).heap.size = W.heap.size + 1 + 1 := by rw [size_alloc, size_alloc]
  generalize ((W.alloc (.cells #[.int .u8 ((x.o : Nat) : Int), .int .u8 ((x.w : Nat) : Int), .int .i64 x.k0, .int .i64 x.k1, .int .i64 x.k2, .int .u64 ((x.n : Nat) : Int), .int .u8 ((x.l : Nat) : Int)] 62)).alloc (.cells #[.int .u8 0, .int .u64 0, .int .u8 0, .int .u64 0, .int .u8 0, .int .u64 0] 96)) = w at A hh hb hs ⊢
  refine ⟨A, by omega, by omega, Nat.le_refl _, by omega, fun j hj => ?_, fun j hj => ?_, fun o => ?_, hb, fun j hj => by omega, fun j hj => by omega⟩
  · unfold World.cell?
    rw [hh]
    match j, hj with
    | 0, _ => rfl
    | 1, _ => rfl
    | 2, _ => rfl
  · unfold World.cell?
    rw [hh]
    match j, hj with
    | 0, _ => rfl
    | 1, _ => rfl
    | 2, _ => rfl
  · unfold World.frozen?
    rw [hh]
    simp

end Tm
end Go.Proofs.Ytjhghfndhpaapaa
