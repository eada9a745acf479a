/-
Const, Var, Node, Len, Width of layer term, of a store that was made, each as a fact on one call; and what they answer of none and of a zero one.
What a rule's closure has done, as its outcome tells it.
The site of a node: what is laid of it, as a fact on one call.
The closures of a node's rules, in their list, as facts on one call.
-/
import Derived.Test.YtkiegiofholofaaGreatDoorTmMake
import Derived.Test.YtkiegiofholofaaGreatDoorPt03
import Derived.BigRegion
import Derived.BigQuiet
import Derived.Lib.Hide
import Derived.Deep.RegionHeld3
import Derived.Deep.LoopGhost
namespace Go.Proofs.YtkiegiofholofaaGreatDoor
open Go.RowKit Go.Maps Bv
namespace Tm
set_option maxHeartbeats 1000000
set_option maxRecDepth 100000

/-- A width as a node has it. -/
def nar (w : Int) : Nat := if 0 ≤ w ∧ w ≤ 255 then w.toNat else 0
theorem nar_le (w : Int) : nar w ≤ 255 := by unfold nar; split <;> omega
def cnd (w : Int) (n : Nat) : Nd := ⟨1, nar w, 0, 0, 0, n, 0⟩
def u64 (n : Int) : Nat := (IntKind.u64.wrap n).toNat
theorem u64_is (n : Int) : ((u64 n : Nat) : Int) = IntKind.u64.wrap n := by
  unfold u64
  rw [IntKind.wrap_u64]
  omega
theorem u64_lt (n : Int) : u64 n < 18446744073709551616 := by
  unfold u64
  rw [IntKind.wrap_u64]
  omega
def vnd (w : Int) (n : Int) : Nd := ⟨2, nar w, 0, 0, 0, u64 n, 0⟩
theorem i64_0 : I64 0 := by unfold I64; omega
theorem cnd_ok (w : Int) {n : Nat} (h : n < 18446744073709551616) : (cnd w n).Ok := ⟨by simp [cnd], nar_le w, i64_0, i64_0, i64_0, h, by simp [cnd]⟩
theorem vnd_ok (w n : Int) : (vnd w n).Ok := ⟨by simp [vnd], nar_le w, i64_0, i64_0, i64_0, u64_lt n, by simp [vnd]⟩

/-- What a call of Make, Const, Var has done. -/
def Made (B : Nat) (p m : Nat) (sv : Value) (L : List Nd) (x : Nd) (W : World) (e : Ending) (W' : World) : Prop :=
  e = .returned (.tuple #[.int .i64 (((mk L x).2.1 : Nat) : Int), .int .i64 (((mk L x).2.2 : Nat) : Int)]) ∧
      ∃ v, StoreAt B W' p m v (mk L x).1 ∧ Kept (foot p m sv) W W' ∧ (v.ownBlock = sv.ownBlock ∨ ∃ g, W.heap.size ≤ g ∧ v.ownBlock = some g)

theorem node_yes {B p m k : Nat} {sv : Value} {L : List Nd} {x : Nd} {W : World} (S : StoreAt B W p m sv L) (hx : L[k]? = some x) :
    Calls Tryz.prog 11 #[.pointer (some ⟨p, 0, none⟩), .int .i64 ((k : Nat) : Int)] W fun e W' => e = .returned (.tuple #[x.val, .int .i64 0]) ∧ Below W.heap.size W W' := by
  have hlt := (List.getElem?_eq_some_iff.1 hx).1
  obtain ⟨g, c, rfl, hc⟩ := S.shapeAt hx
  have S1 := S.alloc (.cells #[.int .u8 0, .int .u8 0, .int .i64 0, .int .i64 0, .int .i64 0, .int .u64 0, .int .u8 0] 36)
  have hi : inB L ((k : Nat) : Int) = true := by simp [inB]; omega
  have c1 := S1.c1
  have c0 := S1.c0
  have lg : g < W.heap.size := by
    have := hc 0 _ rfl
    exact World.block_lt_of_cell? W _ this
  have hk1 : ((k : Nat) : Int) < ((L.length : Nat) : Int) := by omega
  have f0 : W.cell? ⟨g, k * 7, none⟩ = some (.int .u8 ((x.o : Nat) : Int)) := hc 0 _ rfl
  have f1 := hc 1 _ rfl
  have f2 := hc 2 _ rfl
  have f3 := hc 3 _ rfl
  have f4 := hc 4 _ rfl
  have f5 := hc 5 _ rfl
  have f6 := hc 6 _ rfl
  have HI := Lib.hid hi
  clear S S1 hc hx hi
  go_enter Tryz.func11, Tryz.ntmps11
  go_wp2_with (first | (go_at_call 23; refine (none_made p m _ c1).mono ?_; rintro e w' ⟨rfl, rfl⟩) | (go_at_call 24; refine (has_any p _ L c _ _ c0).mono ?_; rw [HI.out]; rintro e w' ⟨rfl, rfl⟩))
  exact bodyPost_ret (v := .tuple #[x.val, .int .i64 0]) (by simp [results, Tryz.results11, go_sem, Nd.val]) rfl ⟨rfl, by repeat (first | exact Below.refl _ _ | (refine Below.setCell ?_ (by simp; try omega) _) | (refine bel_alloc ?_ _) | (refine Below.drew ?_))⟩

theorem node_no {B p m : Nat} {k : Int} {sv : Value} {L : List Nd} {W : World} (S : StoreAt B W p m sv L) (hi : inB L k = false) :
    Calls Tryz.prog 11 #[.pointer (some ⟨p, 0, none⟩), .int .i64 k] W fun e W' => e = .returned (.tuple #[.agg #[.int .u8 0, .int .u8 0, .int .i64 0, .int .i64 0, .int .i64 0, .int .u64 0, .int .u8 0], .int .i64 2]) ∧ Below W.heap.size W W' := by
  have S1 := S.alloc (.cells #[.int .u8 0, .int .u8 0, .int .i64 0, .int .i64 0, .int .i64 0, .int .u64 0, .int .u8 0] 36)
  obtain ⟨a, c, rfl⟩ := S.shape
  have c1 := S1.c1
  have c0 := S1.c0
  have HI := Lib.hid hi
  clear S S1 hi
  go_enter Tryz.func11, Tryz.ntmps11
  go_wp2_with (first | (go_at_call 23; refine (none_made p m _ c1).mono ?_; rintro e w' ⟨rfl, rfl⟩) | (go_at_call 24; refine (has_any p _ L c _ _ c0).mono ?_; rw [HI.out]; rintro e w' ⟨rfl, rfl⟩))
  exact bodyPost_ret (v := .tuple #[.agg #[.int .u8 0, .int .u8 0, .int .i64 0, .int .i64 0, .int .i64 0, .int .u64 0, .int .u8 0], .int .i64 2]) (by simp [results, Tryz.results11, go_sem]) rfl ⟨rfl, by repeat (first | exact Below.refl _ _ | (refine Below.setCell ?_ (by simp; try omega) _) | (refine bel_alloc ?_ _) | (refine Below.drew ?_))⟩

/-! ### none, and a zero one -/
/-- The value leads to no store that a call made. -/
def NoneAt (w : World) (ptr : Value) : Prop := ptr = .pointer none ∨ ∃ p, ptr = .pointer (some ⟨p, 0, none⟩) ∧ w.cell? ⟨p, 1, none⟩ = some (.map none)
theorem NoneAt.keep {w w' : World} {ptr : Value} (h : NoneAt w ptr) (k : Below w.heap.size w w') : NoneAt w' ptr := by
  rcases h with h | ⟨p, h, hc⟩
  · exact .inl h
  · exact .inr ⟨p, h, (k.cell (p := ⟨p, 1, none⟩) (World.block_lt_of_cell? w _ hc)).trans hc⟩
theorem NoneAt.alloc {w : World} {ptr : Value} (h : NoneAt w ptr) (o : Obj) : NoneAt (w.alloc o) ptr := h.keep (bel_alloc (Below.refl _ _) o)
theorem isNone_any {w : World} {ptr : Value} (h : NoneAt w ptr) : Calls Tryz.prog 23 #[ptr] w fun e W' => e = .returned (.bool true) ∧ w = W' := by
  rcases h with h | ⟨p, h, hc⟩
  · subst h; exact none_nil w
  · subst h; exact none_zero p w hc

theorem make_none (ptr : Value) (x : Nd) (W : World) (h : NoneAt W ptr) :
    Calls Tryz.prog 17 #[ptr, x.val] W fun e W' => e = .returned (.tuple #[.int .i64 0, .int .i64 1]) ∧ Below W.heap.size W W' := by
  have HN := Lib.hid (h.alloc (.cells x.cells 36))
  clear h
  obtain ⟨o, w, k0, k1, k2, n, l⟩ := x
  unfold Nd.val
  unfold Nd.cells at HN
  go_enter Tryz.func17, Tryz.ntmps17
  go_wp2_with (go_at_call 23; refine (isNone_any HN.out).mono ?_; rintro e w' ⟨rfl, rfl⟩)
  exact bodyPost_ret (v := .tuple #[.int .i64 0, .int .i64 1]) (by simp [results, Tryz.results17, go_sem]) rfl ⟨rfl, bel_alloc (Below.refl _ _) _⟩

theorem node_none (ptr : Value) (k : Int) (W : World) (h : NoneAt W ptr) :
    Calls Tryz.prog 11 #[ptr, .int .i64 k] W fun e W' => e = .returned (.tuple #[.agg #[.int .u8 0, .int .u8 0, .int .i64 0, .int .i64 0, .int .i64 0, .int .u64 0, .int .u8 0], .int .i64 1]) ∧ Below W.heap.size W W' := by
  have HN := Lib.hid (h.alloc (.cells #[.int .u8 0, .int .u8 0, .int .i64 0, .int .i64 0, .int .i64 0, .int .u64 0, .int .u8 0] 36))
  clear h
  go_enter Tryz.func11, Tryz.ntmps11
  go_wp2_with (go_at_call 23; refine (isNone_any HN.out).mono ?_; rintro e w' ⟨rfl, rfl⟩)
  exact bodyPost_ret (v := .tuple #[.agg #[.int .u8 0, .int .u8 0, .int .i64 0, .int .i64 0, .int .i64 0, .int .u64 0, .int .u8 0], .int .i64 1]) (by simp [results, Tryz.results11, go_sem]) rfl ⟨rfl, by repeat (first | exact Below.refl _ _ | (refine Below.setCell ?_ (by simp; try omega) _) | (refine bel_alloc ?_ _) | (refine Below.drew ?_))⟩

end Tm
end Go.Proofs.YtkiegiofholofaaGreatDoor

namespace Go.Proofs.YtkiegiofholofaaGreatDoor
open Go.RowKit Go.Maps Bv Tm Kn
namespace Ru
set_option maxHeartbeats 1000000
set_option maxRecDepth 100000

/-- The nodes have become L1; a number and an error are answered. -/
structure DidL (B p m : Nat) (sv : Value) (L1 : List Nd) (a er : Int) (W : World) (e : Ending) (W' : World) : Prop where
  e : e = .returned (.tuple #[.int .i64 a, .int .i64 er])
  r : ∃ v, StoreAt B W' p m v L1 ∧ Kept (foot p m sv) W W' ∧ (v.ownBlock = sv.ownBlock ∨ ∃ g, W.heap.size ≤ g ∧ v.ownBlock = some g)
def Did (B p m : Nat) (sv : Value) (L : List Nd) (o : Out) (W : World) (e : Ending) (W' : World) : Prop :=
  match o with
  | .no => e = .returned (.tuple #[.int .i64 (-1), .int .i64 0]) ∧ Below W.heap.size W W'
  | .num i => e = .returned (.tuple #[.int .i64 i, .int .i64 0]) ∧ Below W.heap.size W W'
  | .make y => DidL B p m sv (mk L y).1 (((mk L y).2.1 : Nat) : Int) (((mk L y).2.2 : Nat) : Int) W e W'
  | .two w k => if (mk L (cn w 0)).2.2 = 0 then DidL B p m sv (mk (mk L (cn w 0)).1 ⟨18, 1, k, ((mk L (cn w 0)).2.1 : Nat), 0, 0, 0⟩).1 (((mk (mk L (cn w 0)).1 ⟨18, 1, k, ((mk L (cn w 0)).2.1 : Nat), 0, 0, 0⟩).2.1 : Nat) : Int) (((mk (mk L (cn w 0)).1 ⟨18, 1, k, ((mk L (cn w 0)).2.1 : Nat), 0, 0, 0⟩).2.2 : Nat) : Int) W e W'
      else DidL B p m sv (mk L (cn w 0)).1 (-1) (((mk L (cn w 0)).2.2 : Nat) : Int) W e W'
theorem did_no {B p m : Nat} {sv : Value} {L : List Nd} {o : Out} {W : World} {e : Ending} {W' : World} (ho : o = .no) (he : e = .returned (.tuple #[.int .i64 (-1), .int .i64 0])) (hb : Below W.heap.size W W') : Did B p m sv L o W e W' := by
  subst ho; exact ⟨he, hb⟩
theorem did_num {B p m : Nat} {sv : Value} {L : List Nd} {o : Out} {i : Int} {W : World} {e : Ending} {W' : World} (ho : o = .num i) (he : e = .returned (.tuple #[.int .i64 i, .int .i64 0])) (hb : Below W.heap.size W W') : Did B p m sv L o W e W' := by
  subst ho; exact ⟨he, hb⟩
theorem did_make {B p m : Nat} {sv : Value} {L : List Nd} {o : Out} {y : Nd} {W : World} {e : Ending} {W' : World} (ho : o = .make y) (h : DidL B p m sv (mk L y).1 (((mk L y).2.1 : Nat) : Int) (((mk L y).2.2 : Nat) : Int) W e W') : Did B p m sv L o W e W' := by
  subst ho; exact h

theorem mk_num_le {L : List Nd} (g : Gd L) (x : Nd) : (mk L x).2.1 ≤ 200000 := by
  have := g.len
  unfold mk
  split
  · simp
  split
  · simp
  split
  · rename_i h; have := idx_lt h; simp; omega
  split
  · simp
  · simpa using this
theorem did_two {B p m : Nat} {sv : Value} {L : List Nd} {o : Out} {w : Nat} {k : Int} {W : World} {e : Ending} {W' : World} (ho : o = .two w k) (h0 : (mk L (cn w 0)).2.2 = 0) (h : DidL B p m sv (mk (mk L (cn w 0)).1 ⟨18, 1, k, ((mk L (cn w 0)).2.1 : Nat), 0, 0, 0⟩).1 (((mk (mk L (cn w 0)).1 ⟨18, 1, k, ((mk L (cn w 0)).2.1 : Nat), 0, 0, 0⟩).2.1 : Nat) : Int) (((mk (mk L (cn w 0)).1 ⟨18, 1, k, ((mk L (cn w 0)).2.1 : Nat), 0, 0, 0⟩).2.2 : Nat) : Int) W e W') : Did B p m sv L o W e W' := by
  subst ho; unfold Did; simp only; rw [if_pos h0]; exact h
theorem did_two_err {B p m : Nat} {sv : Value} {L : List Nd} {o : Out} {w : Nat} {k : Int} {W : World} {e : Ending} {W' : World} (ho : o = .two w k) (h0 : ¬ (mk L (cn w 0)).2.2 = 0) (h : DidL B p m sv (mk L (cn w 0)).1 (-1) (((mk L (cn w 0)).2.2 : Nat) : Int) W e W') : Did B p m sv L o W e W' := by
  subst ho; unfold Did; simp only; rw [if_neg h0]; exact h

/-- A node is made behind what only made new memory. -/
theorem make_did {B p m : Nat} {sv : Value} {L : List Nd} {W w : World} (S : StoreAt B W p m sv L) (hB : B ≤ W.heap.size) (hb : Below W.heap.size W w) {y : Nd} (hy : y.Ok) :
    Calls Tryz.prog 17 #[.pointer (some ⟨p, 0, none⟩), y.val] w (fun e w' => DidL B p m sv (mk L y).1 (((mk L y).2.1 : Nat) : Int) (((mk L y).2.2 : Nat) : Int) W e w' ∧ Kept (foot p m sv) w w') := by
  refine (make_any (S.call hb) (Nat.le_trans hB hb.size) hy).mono ?_
  rintro e w' ⟨he, v, S', K, hv⟩
  refine ⟨⟨he, v, S', (Kept.ofBelow hb _).trans K, ?_⟩, K⟩
  rcases hv with hv | ⟨g, hg, hv⟩
  · exact .inl hv
  · exact .inr ⟨g, Nat.le_trans hb.size hg, hv⟩
theorem foot_lt {B p m : Nat} {sv : Value} {L : List Nd} {W : World} (S : StoreAt B W p m sv L) {i : Nat} (h : foot p m sv i) : i < W.heap.size := by
  rcases h with c | c | c
  · subst c; exact S.lt
  · subst c; exact S.lm
  · exact (S.row.lt i c).2

/-- A second node is made behind one that was made. -/
theorem make_more {B p m : Nat} {sv : Value} {L L1 : List Nd} {W w1 w : World} (_S : StoreAt B W p m sv L) (hB : B ≤ W.heap.size) (h1 : ∃ v, StoreAt B w1 p m v L1 ∧ Kept (foot p m sv) W w1 ∧ (v.ownBlock = sv.ownBlock ∨ ∃ g, W.heap.size ≤ g ∧ v.ownBlock = some g)) (hb : Below w1.heap.size w1 w) {y : Nd} (hy : y.Ok) :
    Calls Tryz.prog 17 #[.pointer (some ⟨p, 0, none⟩), y.val] w (fun e w' => DidL B p m sv (mk L1 y).1 (((mk L1 y).2.1 : Nat) : Int) (((mk L1 y).2.2 : Nat) : Int) W e w' ∧ ∀ i o, i < W.heap.size → ¬ foot p m sv i → w'.cell? ⟨i, o, none⟩ = w.cell? ⟨i, o, none⟩) := by
  obtain ⟨v1, S1, K1, o1⟩ := h1
  have z1 := K1.size
  refine (make_any (S1.call hb) (by have := hb.size; omega) hy).mono ?_
  rintro e w' ⟨he, v, S', K, hv⟩
  have foots : ∀ i, i < W.heap.size → foot p m v1 i → foot p m sv i := by
    intro i hi c
    rcases c with c | c | c
    · exact .inl c
    · exact .inr (.inl c)
    · rcases o1 with o | ⟨g, hg, o⟩
      · exact .inr (.inr (o ▸ c))
      · rw [o] at c; simp at c; omega
  refine ⟨⟨he, v, S', (K1.call hb).thenNew K foots, ?_⟩, fun i o hi hn => K.cell (x := ⟨i, o, none⟩) (by have := hb.size; simp; omega) (fun c => hn (foots i hi c))⟩
  rcases hv with hv | ⟨g, hg, hv⟩
  · rcases o1 with o | ⟨g, hg, o⟩
    · exact .inl (hv.trans o)
    · exact .inr ⟨g, hg, hv.trans o⟩
  · exact .inr ⟨g, by have := hb.size; omega, hv⟩

/-- The captured variable, and the site. -/
structure ClosAt (w : World) (b q p k : Nat) (x y0 y1 y2 : Nd) : Prop where
  fb : w.cell? ⟨b, 0, none⟩ = some (.pointer (some ⟨q, 0, none⟩))
  s : SiteAt w q p k x y0 y1 y2
/-- The captured variable and the site are none of the store's blocks. -/
structure Apart (b q p m : Nat) (sv : Value) : Prop where
  b : ¬ foot p m sv b
  q : ¬ foot p m sv q
theorem ClosAt.lb {w : World} {b q p k : Nat} {x y0 y1 y2 : Nd} (h : ClosAt w b q p k x y0 y1 y2) : b < w.heap.size := World.block_lt_of_cell? w _ h.fb
end Ru
end Go.Proofs.YtkiegiofholofaaGreatDoor

namespace Go.Proofs.YtkiegiofholofaaGreatDoor
open Go.RowKit Go.Maps Bv Tm Kn
namespace Ru
set_option maxHeartbeats 8000000
set_option maxRecDepth 100000

def kz (L : List Nd) (x : Nd) (i j : Nat) : Nd := if j < i then kd L x j else z0
def RowAt (w : World) (q : Nat) (R : List Value) : Prop := q < w.heap.size ∧ ∀ j u, R[j]? = some u → w.cell? ⟨q, j, none⟩ = some u
theorem RowAt.set {w : World} {q : Nat} {R : List Value} (h : RowAt w q R) (o : Nat) (v : Value) (ho : o < R.length) : RowAt (w.setCell ⟨q, o, none⟩ v) q (R.set o v) := by
  refine ⟨by simp [World.setCell]; exact h.1, fun j u hj => ?_⟩
  by_cases e : o = j
  · subst e
    rw [List.getElem?_set_self ho] at hj
    rw [World.cell?_setCell_same w _ v (h.2 o _ (List.getElem?_eq_getElem ho))]
    exact hj
  · rw [List.getElem?_set_ne e] at hj
    have hne : (⟨q, o, none⟩ : Addr) ≠ ⟨q, j, none⟩ := fun c => e (by injection c)
    rw [World.cell?_setCell_other w _ _ v hne]
    exact h.2 j u hj
theorem RowAt.keep {w w' : World} {q : Nat} {R : List Value} (h : RowAt w q R) (b : Below w.heap.size w w') : RowAt w' q R :=
  ⟨Nat.lt_of_lt_of_le h.1 b.size, fun j u hj => (b.cell (p := ⟨q, j, none⟩) h.1).trans (h.2 j u hj)⟩
theorem RowAt.put {w : World} {q : Nat} {R : List Value} (h : RowAt w q R) (o : Nat) (ho : o + 6 < R.length) (a b c d e f g : Value) :
    RowAt (((((((w.setCell ⟨q, o, none⟩ a).setCell ⟨q, o + 1, none⟩ b).setCell ⟨q, o + 2, none⟩ c).setCell ⟨q, o + 3, none⟩ d).setCell ⟨q, o + 4, none⟩ e).setCell ⟨q, o + 5, none⟩ f).setCell ⟨q, o + 6, none⟩ g) q (((((((R.set o a).set (o + 1) b).set (o + 2) c).set (o + 3) d).set (o + 4) e).set (o + 5) f).set (o + 6) g) := by
  refine ((((((h.set o a ?_).set (o + 1) b ?_).set (o + 2) c ?_).set (o + 3) d ?_).set (o + 4) e ?_).set (o + 5) f ?_).set (o + 6) g ?_ <;> (try simp only [List.length_set]) <;> omega

theorem RowAt.far {w : World} {q b : Nat} {R : List Value} (h : RowAt w q R) (hne : b ≠ q) (o : Nat) (v : Value) : RowAt (w.setCell ⟨b, o, none⟩ v) q R :=
  ⟨by simp [World.setCell]; exact h.1, fun j u hj => (World.cell?_setCell_far _ _ _ _ (by simpa using hne)).trans (h.2 j u hj)⟩

/-- What holds ahead of the round i. -/
structure SiteL (W : World) (p k : Nat) (L : List Nd) (x : Nd) (i : Nat) (w : World) : Prop where
  row : RowAt w (W.heap.size + 1) (siteRow p k x (kz L x i 0) (kz L x i 1) (kz L x i 2))
  box : RowAt w W.heap.size x.cells.toList
  fr : ∀ o, w.frozen? ⟨W.heap.size + 1, o, none⟩ = false
  bel : Below W.heap.size W w

theorem row_put0 (p k : Nat) (x y0 y1 y2 Y : Nd) : (((((((siteRow p k x y0 y1 y2).set 9 (.int .u8 ((Y.o : Nat) : Int))).set 10 (.int .u8 ((Y.w : Nat) : Int))).set 11 (.int .i64 Y.k0)).set 12 (.int .i64 Y.k1)).set 13 (.int .i64 Y.k2)).set 14 (.int .u64 ((Y.n : Nat) : Int))).set 15 (.int .u8 ((Y.l : Nat) : Int)) = siteRow p k x Y y1 y2 := rfl
theorem site_step0 {W wr w1 : World} {p k : Nat} {L : List Nd} {x : Nd} (h : SiteL W p k L x 0 wr) (hb : Below wr.heap.size wr w1) : SiteL W p k L x 1 ((((((((w1).setCell ⟨W.heap.size + 1, 9, none⟩ (.int .u8 (((kd L x 0).o : Nat) : Int))).setCell ⟨W.heap.size + 1, 10, none⟩ (.int .u8 (((kd L x 0).w : Nat) : Int))).setCell ⟨W.heap.size + 1, 11, none⟩ (.int .i64 (kd L x 0).k0)).setCell ⟨W.heap.size + 1, 12, none⟩ (.int .i64 (kd L x 0).k1)).setCell ⟨W.heap.size + 1, 13, none⟩ (.int .i64 (kd L x 0).k2)).setCell ⟨W.heap.size + 1, 14, none⟩ (.int .u64 (((kd L x 0).n : Nat) : Int))).setCell ⟨W.heap.size + 1, 15, none⟩ (.int .u8 (((kd L x 0).l : Nat) : Int))) := by
  have hr := h.row.keep hb
  refine ⟨?_, ?_, fun o => ?_, ?_⟩
  · rw [show kz L x 1 0 = kd L x 0 from rfl, show kz L x 1 1 = z0 from rfl, show kz L x 1 2 = z0 from rfl]
    rw [show kz L x 0 0 = z0 from rfl, show kz L x 0 1 = z0 from rfl, show kz L x 0 2 = z0 from rfl] at hr
    have := hr.put 9 (by show _ < 30; omega) (.int .u8 (((kd L x 0).o : Nat) : Int)) (.int .u8 (((kd L x 0).w : Nat) : Int)) (.int .i64 (kd L x 0).k0) (.int .i64 (kd L x 0).k1) (.int .i64 (kd L x 0).k2) (.int .u64 (((kd L x 0).n : Nat) : Int)) (.int .u8 (((kd L x 0).l : Nat) : Int))
    simp only [Nat.reduceAdd] at this
    rw [row_put0] at this
    exact this
  · iterate 7 (refine RowAt.far ?_ (by omega) _ _)
    exact h.box.keep hb
  · rw [World.frozen?_setCell, World.frozen?_setCell, World.frozen?_setCell, World.frozen?_setCell, World.frozen?_setCell, World.frozen?_setCell, World.frozen?_setCell]
    exact (hb.frozen (p := ⟨W.heap.size + 1, o, none⟩) h.row.1).trans (h.fr o)
  · iterate 7 (refine Below.setCell ?_ (show W.heap.size ≤ W.heap.size + 1 by omega) _)
    exact bel_call h.bel hb
theorem row_put1 (p k : Nat) (x y0 y1 y2 Y : Nd) : (((((((siteRow p k x y0 y1 y2).set 16 (.int .u8 ((Y.o : Nat) : Int))).set 17 (.int .u8 ((Y.w : Nat) : Int))).set 18 (.int .i64 Y.k0)).set 19 (.int .i64 Y.k1)).set 20 (.int .i64 Y.k2)).set 21 (.int .u64 ((Y.n : Nat) : Int))).set 22 (.int .u8 ((Y.l : Nat) : Int)) = siteRow p k x y0 Y y2 := rfl
theorem site_step1 {W wr w1 : World} {p k : Nat} {L : List Nd} {x : Nd} (h : SiteL W p k L x 1 wr) (hb : Below wr.heap.size wr w1) : SiteL W p k L x 2 ((((((((w1).setCell ⟨W.heap.size + 1, 16, none⟩ (.int .u8 (((kd L x 1).o : Nat) : Int))).setCell ⟨W.heap.size + 1, 17, none⟩ (.int .u8 (((kd L x 1).w : Nat) : Int))).setCell ⟨W.heap.size + 1, 18, none⟩ (.int .i64 (kd L x 1).k0)).setCell ⟨W.heap.size + 1, 19, none⟩ (.int .i64 (kd L x 1).k1)).setCell ⟨W.heap.size + 1, 20, none⟩ (.int .i64 (kd L x 1).k2)).setCell ⟨W.heap.size + 1, 21, none⟩ (.int .u64 (((kd L x 1).n : Nat) : Int))).setCell ⟨W.heap.size + 1, 22, none⟩ (.int .u8 (((kd L x 1).l : Nat) : Int))) := by
  have hr := h.row.keep hb
  refine ⟨?_, ?_, fun o => ?_, ?_⟩
  · rw [show kz L x 2 0 = kd L x 0 from rfl, show kz L x 2 1 = kd L x 1 from rfl, show kz L x 2 2 = z0 from rfl]
    rw [show kz L x 1 0 = kd L x 0 from rfl, show kz L x 1 1 = z0 from rfl, show kz L x 1 2 = z0 from rfl] at hr
    have := hr.put 16 (by show _ < 30; omega) (.int .u8 (((kd L x 1).o : Nat) : Int)) (.int .u8 (((kd L x 1).w : Nat) : Int)) (.int .i64 (kd L x 1).k0) (.int .i64 (kd L x 1).k1) (.int .i64 (kd L x 1).k2) (.int .u64 (((kd L x 1).n : Nat) : Int)) (.int .u8 (((kd L x 1).l : Nat) : Int))
    simp only [Nat.reduceAdd] at this
    rw [row_put1] at this
    exact this
  · iterate 7 (refine RowAt.far ?_ (by omega) _ _)
    exact h.box.keep hb
  · rw [World.frozen?_setCell, World.frozen?_setCell, World.frozen?_setCell, World.frozen?_setCell, World.frozen?_setCell, World.frozen?_setCell, World.frozen?_setCell]
    exact (hb.frozen (p := ⟨W.heap.size + 1, o, none⟩) h.row.1).trans (h.fr o)
  · iterate 7 (refine Below.setCell ?_ (show W.heap.size ≤ W.heap.size + 1 by omega) _)
    exact bel_call h.bel hb
theorem row_put2 (p k : Nat) (x y0 y1 y2 Y : Nd) : (((((((siteRow p k x y0 y1 y2).set 23 (.int .u8 ((Y.o : Nat) : Int))).set 24 (.int .u8 ((Y.w : Nat) : Int))).set 25 (.int .i64 Y.k0)).set 26 (.int .i64 Y.k1)).set 27 (.int .i64 Y.k2)).set 28 (.int .u64 ((Y.n : Nat) : Int))).set 29 (.int .u8 ((Y.l : Nat) : Int)) = siteRow p k x y0 y1 Y := rfl
theorem site_step2 {W wr w1 : World} {p k : Nat} {L : List Nd} {x : Nd} (h : SiteL W p k L x 2 wr) (hb : Below wr.heap.size wr w1) : SiteL W p k L x 3 ((((((((w1).setCell ⟨W.heap.size + 1, 23, none⟩ (.int .u8 (((kd L x 2).o : Nat) : Int))).setCell ⟨W.heap.size + 1, 24, none⟩ (.int .u8 (((kd L x 2).w : Nat) : Int))).setCell ⟨W.heap.size + 1, 25, none⟩ (.int .i64 (kd L x 2).k0)).setCell ⟨W.heap.size + 1, 26, none⟩ (.int .i64 (kd L x 2).k1)).setCell ⟨W.heap.size + 1, 27, none⟩ (.int .i64 (kd L x 2).k2)).setCell ⟨W.heap.size + 1, 28, none⟩ (.int .u64 (((kd L x 2).n : Nat) : Int))).setCell ⟨W.heap.size + 1, 29, none⟩ (.int .u8 (((kd L x 2).l : Nat) : Int))) := by
  have hr := h.row.keep hb
  refine ⟨?_, ?_, fun o => ?_, ?_⟩
  · rw [show kz L x 3 0 = kd L x 0 from rfl, show kz L x 3 1 = kd L x 1 from rfl, show kz L x 3 2 = kd L x 2 from rfl]
    rw [show kz L x 2 0 = kd L x 0 from rfl, show kz L x 2 1 = kd L x 1 from rfl, show kz L x 2 2 = z0 from rfl] at hr
    have := hr.put 23 (by show _ < 30; omega) (.int .u8 (((kd L x 2).o : Nat) : Int)) (.int .u8 (((kd L x 2).w : Nat) : Int)) (.int .i64 (kd L x 2).k0) (.int .i64 (kd L x 2).k1) (.int .i64 (kd L x 2).k2) (.int .u64 (((kd L x 2).n : Nat) : Int)) (.int .u8 (((kd L x 2).l : Nat) : Int))
    simp only [Nat.reduceAdd] at this
    rw [row_put2] at this
    exact this
  · iterate 7 (refine RowAt.far ?_ (by omega) _ _)
    exact h.box.keep hb
  · rw [World.frozen?_setCell, World.frozen?_setCell, World.frozen?_setCell, World.frozen?_setCell, World.frozen?_setCell, World.frozen?_setCell, World.frozen?_setCell]
    exact (hb.frozen (p := ⟨W.heap.size + 1, o, none⟩) h.row.1).trans (h.fr o)
  · iterate 7 (refine Below.setCell ?_ (show W.heap.size ≤ W.heap.size + 1 by omega) _)
    exact bel_call h.bel hb
theorem row_new (w : World) (cs : Array Value) (t : TypeId) : RowAt (w.alloc (.cells cs t)) w.heap.size cs.toList := by
  refine ⟨by simp, fun j u hj => ?_⟩
  have h1 := (MapKept.heap_alloc w (.cells cs t)).1
  unfold World.cell?
  rw [h1]
  simpa using hj

theorem site_of {B p m k : Nat} {sv : Value} {L : List Nd} {x : Nd} {W : World} (S : StoreAt B W p m sv L) (hx : L[k]? = some x) (h1 : 1 ≤ x.o) (h2 : x.o ≤ 25) :
    Calls Tryz.prog 20 #[.pointer (some ⟨p, 0, none⟩), .int .i64 ((k : Nat) : Int), x.val] W fun e W' => ∃ q, e = .returned (.pointer (some ⟨q, 0, none⟩)) ∧ W.heap.size ≤ q ∧ SiteAt W' q p k x (kd L x 0) (kd L x 1) (kd L x 2) ∧ Below W.heap.size W W' := by
  obtain ⟨n, hn⟩ : ∃ n, kc x.o = n := ⟨_, rfl⟩
  have hn3 : n ≤ 3 := by rw [← hn]; exact kc_le _
  have HKC : Hid (∀ w : World, Calls Tryz.prog 35 #[.int .u8 ((x.o : Nat) : Int)] w fun e w' => e = .returned (.int .i64 ((n : Nat) : Int)) ∧ w = w') := Lib.hid (fun w => by have h := rkids_any h2 (by omega) w; rw [hn] at h; exact h)
  have HND : Hid (∀ i, i < n → ∀ w, Below W.heap.size W w → Calls Tryz.prog 11 #[.pointer (some ⟨p, 0, none⟩), .int .i64 (x.kid i)] w fun e w' => e = .returned (.tuple #[(kd L x i).val, .int .i64 0]) ∧ Below w.heap.size w w') := Lib.hid (fun i hi w hb => by
    obtain ⟨a, _, c⟩ := kd_at S.good hx (i := i) (by omega)
    have h := node_yes (S.call hb) c
    rw [show (((x.kid i).toNat : Nat) : Int) = x.kid i by omega] at h
    exact h)
  have HN := Lib.hid hn
  have HN3 := Lib.hid hn3
  have HST : Hid (SiteL W p k L x 0 ((W.alloc (.cells x.cells 36)).alloc (.cells (siteRow p k x z0 z0 z0).toArray 94))) := Lib.hid (by
    have hs : (W.alloc (.cells x.cells 36)).heap.size = W.heap.size + 1 := by simp
    refine ⟨?_, ?_, fun o => ?_, bel_alloc (bel_alloc (Below.refl _ _) _) _⟩
    · have := row_new (W.alloc (.cells x.cells 36)) (siteRow p k x z0 z0 z0).toArray 94
      rw [hs] at this
      exact this
    · exact (row_new W x.cells 36).keep (bel_alloc (Below.refl _ _) _)
    · simp [go_sem])
  unfold Nd.cells siteRow z0 at HST
  simp only [Int.cast_ofNat_Int] at HST
  unfold Nd.val
  clear hn S hx h1 h2 hn3
  go_enter Tryz.func20, Tryz.ntmps20
  go_wp2_with (go_at_call 35; with_reducible refine (HKC.out _).mono ?_; rintro e w1 ⟨rfl, rfl⟩)
  go_loopg [17] n (fun gk u17 wr => ∃ i : Nat, u17 = .int .i64 ((i : Nat) : Int) ∧ i + gk = n ∧ SiteL W p k L x i wr)
  case atStart => exact ⟨0, rfl, by omega, HST.out⟩
  case round =>
    obtain ⟨i, rfl, hgk, hA⟩ := hrel
    have HA := Lib.hid hA
    have HGK := Lib.hid hgk
    clear hA HST
    by_cases hi : i < n
    case pos =>
      have HI := Lib.hid hi
      have hi3 : i = 0 ∨ i = 1 ∨ i = 2 := by have := HN3.out; omega
      have lQ : W.heap.size + 1 < wr.heap.size := HA.out.row.1
      have lN : W.heap.size < wr.heap.size := HA.out.box.1
      rcases hi3 with rfl | rfl | rfl
      · have q1 : (0 : Int) < ((n : Nat) : Int) := by omega
        have cn := HA.out.box.2 2 _ rfl
        have cls : Hid (∀ w1, Below wr.heap.size wr w1 → (∃ u, w1.cell? ⟨W.heap.size + 1, 9, none⟩ = some u) ∧ (∃ u, w1.cell? ⟨W.heap.size + 1, 10, none⟩ = some u) ∧ (∃ u, w1.cell? ⟨W.heap.size + 1, 11, none⟩ = some u) ∧ (∃ u, w1.cell? ⟨W.heap.size + 1, 12, none⟩ = some u) ∧ (∃ u, w1.cell? ⟨W.heap.size + 1, 13, none⟩ = some u) ∧ (∃ u, w1.cell? ⟨W.heap.size + 1, 14, none⟩ = some u) ∧ (∃ u, w1.cell? ⟨W.heap.size + 1, 15, none⟩ = some u) ∧ (∀ o, w1.frozen? ⟨W.heap.size + 1, o, none⟩ = false) ∧ W.heap.size + 1 < w1.heap.size ∧ w1.cell? ⟨W.heap.size, 2, none⟩ = some (.int .i64 x.k0)) := Lib.hid (fun w1 hb => ⟨⟨_, (hb.cell (p := ⟨W.heap.size + 1, 9, none⟩) lQ).trans (HA.out.row.2 9 _ rfl)⟩, ⟨_, (hb.cell (p := ⟨W.heap.size + 1, 10, none⟩) lQ).trans (HA.out.row.2 10 _ rfl)⟩, ⟨_, (hb.cell (p := ⟨W.heap.size + 1, 11, none⟩) lQ).trans (HA.out.row.2 11 _ rfl)⟩, ⟨_, (hb.cell (p := ⟨W.heap.size + 1, 12, none⟩) lQ).trans (HA.out.row.2 12 _ rfl)⟩, ⟨_, (hb.cell (p := ⟨W.heap.size + 1, 13, none⟩) lQ).trans (HA.out.row.2 13 _ rfl)⟩, ⟨_, (hb.cell (p := ⟨W.heap.size + 1, 14, none⟩) lQ).trans (HA.out.row.2 14 _ rfl)⟩, ⟨_, (hb.cell (p := ⟨W.heap.size + 1, 15, none⟩) lQ).trans (HA.out.row.2 15 _ rfl)⟩, fun o => (hb.frozen (p := ⟨W.heap.size + 1, o, none⟩) lQ).trans (HA.out.fr o), Nat.lt_of_lt_of_le lQ hb.size, (hb.cell (p := ⟨W.heap.size, 2, none⟩) lN).trans cn⟩)
        have HNK := Lib.hid (HND.out 0 HI.out)
        simp only [Nd.kid, Nd.val] at HNK
        obtain ⟨Y, hY⟩ : ∃ Y, Y = kd L x 0 := ⟨_, rfl⟩
        have HY := Lib.hid hY
        rw [← hY] at HNK
        clear hi hY
        go_wp2_with fail
        go_region_held3 (fun w' => w'.cell? ⟨W.heap.size, 2, none⟩ = some (.int .i64 x.k0)) (first | go_simp) (first | (go_at_call 11; with_reducible refine (HNK.out _ HA.out.bel.drew).mono ?_; rintro e w1 ⟨rfl, hb1⟩; have hb2 := bel_call (Below.refl wr.heap.size wr).drew hb1; obtain ⟨⟨u0, e0⟩, ⟨u1, e1⟩, ⟨u2, e2⟩, ⟨u3, e3⟩, ⟨u4, e4⟩, ⟨u5, e5⟩, ⟨u6, e6⟩, f0, lq, kn⟩ := cls.out w1 hb2; have HB1 := Lib.hid hb2; clear hb1 hb2))
        go_wp2_with fail
        go_roundg (gk - 1)
        case rel =>
          have hY := HY.out
          subst hY
          exact ⟨1, rfl, by have := HGK.out; have := HI.out; omega, site_step0 HA.out HB1.out⟩
        case measure => have := HGK.out; have := HI.out; omega
      · have q1 : (1 : Int) < ((n : Nat) : Int) := by omega
        have cn := HA.out.box.2 3 _ rfl
        have cls : Hid (∀ w1, Below wr.heap.size wr w1 → (∃ u, w1.cell? ⟨W.heap.size + 1, 16, none⟩ = some u) ∧ (∃ u, w1.cell? ⟨W.heap.size + 1, 17, none⟩ = some u) ∧ (∃ u, w1.cell? ⟨W.heap.size + 1, 18, none⟩ = some u) ∧ (∃ u, w1.cell? ⟨W.heap.size + 1, 19, none⟩ = some u) ∧ (∃ u, w1.cell? ⟨W.heap.size + 1, 20, none⟩ = some u) ∧ (∃ u, w1.cell? ⟨W.heap.size + 1, 21, none⟩ = some u) ∧ (∃ u, w1.cell? ⟨W.heap.size + 1, 22, none⟩ = some u) ∧ (∀ o, w1.frozen? ⟨W.heap.size + 1, o, none⟩ = false) ∧ W.heap.size + 1 < w1.heap.size ∧ w1.cell? ⟨W.heap.size, 3, none⟩ = some (.int .i64 x.k1)) := Lib.hid (fun w1 hb => ⟨⟨_, (hb.cell (p := ⟨W.heap.size + 1, 16, none⟩) lQ).trans (HA.out.row.2 16 _ rfl)⟩, ⟨_, (hb.cell (p := ⟨W.heap.size + 1, 17, none⟩) lQ).trans (HA.out.row.2 17 _ rfl)⟩, ⟨_, (hb.cell (p := ⟨W.heap.size + 1, 18, none⟩) lQ).trans (HA.out.row.2 18 _ rfl)⟩, ⟨_, (hb.cell (p := ⟨W.heap.size + 1, 19, none⟩) lQ).trans (HA.out.row.2 19 _ rfl)⟩, ⟨_, (hb.cell (p := ⟨W.heap.size + 1, 20, none⟩) lQ).trans (HA.out.row.2 20 _ rfl)⟩, ⟨_, (hb.cell (p := ⟨W.heap.size + 1, 21, none⟩) lQ).trans (HA.out.row.2 21 _ rfl)⟩, ⟨_, (hb.cell (p := ⟨W.heap.size + 1, 22, none⟩) lQ).trans (HA.out.row.2 22 _ rfl)⟩, fun o => (hb.frozen (p := ⟨W.heap.size + 1, o, none⟩) lQ).trans (HA.out.fr o), Nat.lt_of_lt_of_le lQ hb.size, (hb.cell (p := ⟨W.heap.size, 3, none⟩) lN).trans cn⟩)
        have HNK := Lib.hid (HND.out 1 HI.out)
        simp only [Nd.kid, Nd.val] at HNK
        obtain ⟨Y, hY⟩ : ∃ Y, Y = kd L x 1 := ⟨_, rfl⟩
        have HY := Lib.hid hY
        rw [← hY] at HNK
        clear hi hY
        go_wp2_with fail
        go_region_held3 (fun w' => w'.cell? ⟨W.heap.size, 3, none⟩ = some (.int .i64 x.k1)) (first | go_simp) (first | (go_at_call 11; with_reducible refine (HNK.out _ HA.out.bel.drew).mono ?_; rintro e w1 ⟨rfl, hb1⟩; have hb2 := bel_call (Below.refl wr.heap.size wr).drew hb1; obtain ⟨⟨u0, e0⟩, ⟨u1, e1⟩, ⟨u2, e2⟩, ⟨u3, e3⟩, ⟨u4, e4⟩, ⟨u5, e5⟩, ⟨u6, e6⟩, f0, lq, kn⟩ := cls.out w1 hb2; have HB1 := Lib.hid hb2; clear hb1 hb2))
        go_wp2_with fail
        go_roundg (gk - 1)
        case rel =>
          have hY := HY.out
          subst hY
          exact ⟨2, rfl, by have := HGK.out; have := HI.out; omega, site_step1 HA.out HB1.out⟩
        case measure => have := HGK.out; have := HI.out; omega
      · have q1 : (2 : Int) < ((n : Nat) : Int) := by omega
        have cn := HA.out.box.2 4 _ rfl
        have cls : Hid (∀ w1, Below wr.heap.size wr w1 → (∃ u, w1.cell? ⟨W.heap.size + 1, 23, none⟩ = some u) ∧ (∃ u, w1.cell? ⟨W.heap.size + 1, 24, none⟩ = some u) ∧ (∃ u, w1.cell? ⟨W.heap.size + 1, 25, none⟩ = some u) ∧ (∃ u, w1.cell? ⟨W.heap.size + 1, 26, none⟩ = some u) ∧ (∃ u, w1.cell? ⟨W.heap.size + 1, 27, none⟩ = some u) ∧ (∃ u, w1.cell? ⟨W.heap.size + 1, 28, none⟩ = some u) ∧ (∃ u, w1.cell? ⟨W.heap.size + 1, 29, none⟩ = some u) ∧ (∀ o, w1.frozen? ⟨W.heap.size + 1, o, none⟩ = false) ∧ W.heap.size + 1 < w1.heap.size ∧ w1.cell? ⟨W.heap.size, 4, none⟩ = some (.int .i64 x.k2)) := Lib.hid (fun w1 hb => ⟨⟨_, (hb.cell (p := ⟨W.heap.size + 1, 23, none⟩) lQ).trans (HA.out.row.2 23 _ rfl)⟩, ⟨_, (hb.cell (p := ⟨W.heap.size + 1, 24, none⟩) lQ).trans (HA.out.row.2 24 _ rfl)⟩, ⟨_, (hb.cell (p := ⟨W.heap.size + 1, 25, none⟩) lQ).trans (HA.out.row.2 25 _ rfl)⟩, ⟨_, (hb.cell (p := ⟨W.heap.size + 1, 26, none⟩) lQ).trans (HA.out.row.2 26 _ rfl)⟩, ⟨_, (hb.cell (p := ⟨W.heap.size + 1, 27, none⟩) lQ).trans (HA.out.row.2 27 _ rfl)⟩, ⟨_, (hb.cell (p := ⟨W.heap.size + 1, 28, none⟩) lQ).trans (HA.out.row.2 28 _ rfl)⟩, ⟨_, (hb.cell (p := ⟨W.heap.size + 1, 29, none⟩) lQ).trans (HA.out.row.2 29 _ rfl)⟩, fun o => (hb.frozen (p := ⟨W.heap.size + 1, o, none⟩) lQ).trans (HA.out.fr o), Nat.lt_of_lt_of_le lQ hb.size, (hb.cell (p := ⟨W.heap.size, 4, none⟩) lN).trans cn⟩)
        have HNK := Lib.hid (HND.out 2 HI.out)
        simp only [Nd.kid, Nd.val] at HNK
        obtain ⟨Y, hY⟩ : ∃ Y, Y = kd L x 2 := ⟨_, rfl⟩
        have HY := Lib.hid hY
        rw [← hY] at HNK
        clear hi hY
        go_wp2_with fail
        go_region_held3 (fun w' => w'.cell? ⟨W.heap.size, 4, none⟩ = some (.int .i64 x.k2)) (first | go_simp) (first | (go_at_call 11; with_reducible refine (HNK.out _ HA.out.bel.drew).mono ?_; rintro e w1 ⟨rfl, hb1⟩; have hb2 := bel_call (Below.refl wr.heap.size wr).drew hb1; obtain ⟨⟨u0, e0⟩, ⟨u1, e1⟩, ⟨u2, e2⟩, ⟨u3, e3⟩, ⟨u4, e4⟩, ⟨u5, e5⟩, ⟨u6, e6⟩, f0, lq, kn⟩ := cls.out w1 hb2; have HB1 := Lib.hid hb2; clear hb1 hb2))
        go_wp2_with fail
        go_roundg (gk - 1)
        case rel =>
          have hY := HY.out
          subst hY
          exact ⟨3, rfl, by have := HGK.out; have := HI.out; omega, site_step2 HA.out HB1.out⟩
        case measure => have := HGK.out; have := HI.out; omega
    case neg =>
      have hin : i = n := by have := HGK.out; omega
      subst hin
      have q1 : ¬ ((i : Nat) : Int) < ((i : Nat) : Int) := by omega
      clear hi
      go_wp2_with fail
      go_ret
      refine ⟨_, rfl, by omega, ?_, HA.out.bel⟩
      have hr := HA.out.row
      have hz : ∀ j, kz L x i j = kd L x j := fun j => by
        unfold kz
        split
        · rfl
        · unfold kd; rw [HN.out, if_neg (by omega)]
      rw [hz, hz, hz] at hr
      exact hr
end Ru
end Go.Proofs.YtkiegiofholofaaGreatDoor

namespace Go.Proofs.YtkiegiofholofaaGreatDoor
open Go.RowKit Go.Maps Bv Tm Kn
namespace Ru
set_option maxHeartbeats 8000000
set_option maxRecDepth 100000

/-- The number of the closure of a rule. -/
def fnOf (r : Nat) : FuncId := match r with
  | 1 => 78
  | 2 => 83
  | 3 => 86
  | 4 => 87
  | 5 => 89
  | 6 => 90
  | 7 => 91
  | 8 => 92
  | _ => 94

def capW (W : World) (q : Nat) : Nat → World
  | 0 => W
  | n + 1 => (capW W q n).alloc (.cells #[.pointer (some ⟨q, 0, none⟩)] 64)
theorem capW_size (W : World) (q : Nat) : ∀ n, (capW W q n).heap.size = W.heap.size + n
  | 0 => rfl
  | n + 1 => by unfold capW; rw [size_alloc, capW_size W q n]; rfl
theorem capW_bel (W : World) (q : Nat) : ∀ n, Below W.heap.size W (capW W q n)
  | 0 => Below.refl _ _
  | n + 1 => bel_alloc (capW_bel W q n) _
theorem capW_cell (W : World) (q : Nat) : ∀ n i, i < n → (capW W q n).cell? ⟨W.heap.size + i, 0, none⟩ = some (.pointer (some ⟨q, 0, none⟩))
  | 0, _, h => by omega
  | n + 1, i, h => by
    by_cases e : i = n
    · subst e
      have := (row_new (capW W q i) #[.pointer (some ⟨q, 0, none⟩)] 64).2 0 _ rfl
      rw [capW_size] at this
      exact this
    · have h1 := capW_cell W q n i (by omega)
      exact (World.cell?_alloc_lt _ _ _ (by simp only; rw [capW_size]; omega)).trans h1

theorem rules_of {W : World} {q p k : Nat} {x y0 y1 y2 : Nd} (s : SiteAt W q p k x y0 y1 y2) (h1 : 1 ≤ x.o) (h2 : x.o ≤ 25) (hk : ¬ kc x.o = 0) :
    Calls Tryz.prog 19 #[.pointer (some ⟨q, 0, none⟩)] W fun e W' => ∃ (g : Nat) (b : Nat → Nat), e = .returned (.slice (some ⟨g, 0, none⟩) 9 9) ∧ W.heap.size ≤ g ∧ g < W'.heap.size ∧ Below W.heap.size W W' ∧
      ∀ i, i < 9 → W.heap.size ≤ b i ∧ W'.cell? ⟨b i, 0, none⟩ = some (.pointer (some ⟨q, 0, none⟩)) ∧ W'.cell? ⟨g, i, none⟩ = some (.func (.func (fnOf (i + 1))) #[] #[.pointer (some ⟨b i, 0, none⟩)]) := by
  have HKC : Hid (∀ w : World, Calls Tryz.prog 35 #[.int .u8 ((x.o : Nat) : Int)] w fun e w' => e = .returned (.int .i64 ((kc x.o : Nat) : Int)) ∧ w = w') := Lib.hid (fun w => rkids_any h2 (by omega) w)
  have n0 : ¬ ((kc x.o : Nat) : Int) = 0 := by omega
  have lq := s.1
  have c2 := s.2 2 _ rfl
  clear s h1 h2 hk
  go_enter Tryz.func19, Tryz.ntmps19
  go_wp2_with (first | (go_at_call 35; with_reducible refine (HKC.out _).mono ?_; rintro e w1 ⟨rfl, rfl⟩) | (go_at_call 36; with_reducible refine (mk_ofConsts _ _).mono ?_; rintro e w1 ⟨rfl, rfl⟩) | (go_at_call 37; with_reducible refine (mk_ofKnownBits _ _).mono ?_; rintro e w1 ⟨rfl, rfl⟩) | (go_at_call 38; with_reducible refine (mk_otherWayRound _ _).mono ?_; rintro e w1 ⟨rfl, rfl⟩) | (go_at_call 39; with_reducible refine (mk_withConst _ _).mono ?_; rintro e w1 ⟨rfl, rfl⟩) | (go_at_call 40; with_reducible refine (mk_withItself _ _).mono ?_; rintro e w1 ⟨rfl, rfl⟩) | (go_at_call 41; with_reducible refine (mk_doneTwice _ _).mono ?_; rintro e w1 ⟨rfl, rfl⟩) | (go_at_call 42; with_reducible refine (mk_choice _ _).mono ?_; rintro e w1 ⟨rfl, rfl⟩) | (go_at_call 43; with_reducible refine (mk_partOrWider _ _).mono ?_; rintro e w1 ⟨rfl, rfl⟩) | (go_at_call 44; with_reducible refine (mk_compared _ _).mono ?_; rintro e w1 ⟨rfl, rfl⟩))
  have hw := row_new (capW W q 9) #[.func (.func 78) #[] #[.pointer (some ⟨W.heap.size + 0, 0, none⟩)], .func (.func 83) #[] #[.pointer (some ⟨W.heap.size + 1, 0, none⟩)], .func (.func 86) #[] #[.pointer (some ⟨W.heap.size + 2, 0, none⟩)], .func (.func 87) #[] #[.pointer (some ⟨W.heap.size + 3, 0, none⟩)], .func (.func 89) #[] #[.pointer (some ⟨W.heap.size + 4, 0, none⟩)], .func (.func 90) #[] #[.pointer (some ⟨W.heap.size + 5, 0, none⟩)], .func (.func 91) #[] #[.pointer (some ⟨W.heap.size + 6, 0, none⟩)], .func (.func 92) #[] #[.pointer (some ⟨W.heap.size + 7, 0, none⟩)], .func (.func 94) #[] #[.pointer (some ⟨W.heap.size + 8, 0, none⟩)]] 67
  rw [capW_size] at hw
  exact bodyPost_ret (v := .slice (some ⟨W.heap.size + 9, 0, none⟩) 9 9) (by simp [results, Tryz.results19, go_sem]) rfl ⟨W.heap.size + 9, fun i => W.heap.size + i, rfl, by omega, hw.1, bel_alloc (capW_bel W q 9) _, fun i hi => ⟨by simp only; omega, (World.cell?_alloc_lt (capW W q 9) _ _ (by simp only; rw [capW_size]; omega)).trans (capW_cell W q 9 i hi), hw.2 i _ (by
    match i, hi with
    | 0, _ => rfl
    | 1, _ => rfl
    | 2, _ => rfl
    | 3, _ => rfl
    | 4, _ => rfl
    | 5, _ => rfl
    | 6, _ => rfl
    | 7, _ => rfl
    | 8, _ => rfl
    | i + 9, h => omega)⟩⟩
end Ru
end Go.Proofs.YtkiegiofholofaaGreatDoor
