/-
Const, Var, Node, Len, Width of layer term, of a store that was made, each as a fact on one call; and what they answer of none and of a zero one.
A row of numbers.
Vars of a number that no node has; New with its store; what a call that makes a node leaves; a row of numbers read in its places.
A store beside a list of numbers and a list of nodes, all of the call's own: what stays while nodes are made and the lists grow.
-/
import Derived.Test.YtbemkaninedonaaGreatDoorTmMake
import Derived.Deep.LoopGhost
import Derived.BigQuiet
namespace Go.Proofs.YtbemkaninedonaaGreatDoor
open Go.RowKit Go.Maps Bv
namespace Tm
set_option maxHeartbeats 1000000
set_option maxRecDepth 100000

/-- A width as a node has it. -/
def nar (w : Int) : Nat := if 0 ≤ w ∧ w ≤ 255 then w.toNat else 0
theorem nar_le (w : Int) : nar w ≤ 255 := by unfold nar; split <;> omega
def cnd (w : Int) (n : Nat) : Nd := ⟨1, nar w, 0, 0, 0, n, 0⟩
def u64 (n : Int) : Nat := (IntKind.u64.wrap n).toNat
theorem u64_is (n : Int) : ((u64 n : Nat) : Int) = IntKind.u64.wrap n := by
  unfold u64
  rw [IntKind.wrap_u64]
  omega
theorem u64_lt (n : Int) : u64 n < 18446744073709551616 := by
  unfold u64
  rw [IntKind.wrap_u64]
  omega
def vnd (w : Int) (n : Int) : Nd := ⟨2, nar w, 0, 0, 0, u64 n, 0⟩
theorem i64_0 : I64 0 := by unfold I64; omega
theorem cnd_ok (w : Int) {n : Nat} (h : n < 18446744073709551616) : (cnd w n).Ok := ⟨by simp [cnd], nar_le w, i64_0, i64_0, i64_0, h, by simp [cnd]⟩
theorem vnd_ok (w n : Int) : (vnd w n).Ok := ⟨by simp [vnd], nar_le w, i64_0, i64_0, i64_0, u64_lt n, by simp [vnd]⟩

/-- What a call of Make, Const, Var has done. -/
def Made (B : Nat) (p m : Nat) (sv : Value) (L : List Nd) (x : Nd) (W : World) (e : Ending) (W' : World) : Prop :=
  e = .returned (.tuple #[.int .i64 (((mk L x).2.1 : Nat) : Int), .int .i64 (((mk L x).2.2 : Nat) : Int)]) ∧
      ∃ v, StoreAt B W' p m v (mk L x).1 ∧ Kept (foot p m sv) W W' ∧ (v.ownBlock = sv.ownBlock ∨ ∃ g, W.heap.size ≤ g ∧ v.ownBlock = some g)

theorem node_yes {B p m k : Nat} {sv : Value} {L : List Nd} {x : Nd} {W : World} (S : StoreAt B W p m sv L) (hx : L[k]? = some x) :
    Calls Tryz.prog 15 #[.pointer (some ⟨p, 0, none⟩), .int .i64 ((k : Nat) : Int)] W fun e W' => e = .returned (.tuple #[x.val, .int .i64 0]) ∧ Below W.heap.size W W' := by
  have hlt := (List.getElem?_eq_some_iff.1 hx).1
  obtain ⟨g, c, rfl, hc⟩ := S.shapeAt hx
  have S1 := S.alloc (.cells #[.int .u8 0, .int .u8 0, .int .i64 0, .int .i64 0, .int .i64 0, .int .u64 0, .int .u8 0] 45)
  have hi : inB L ((k : Nat) : Int) = true := by simp [inB]; omega
  have c1 := S1.c1
  have c0 := S1.c0
  have lg : g < W.heap.size := by
    have := hc 0 _ rfl
    exact World.block_lt_of_cell? W _ this
  have hk1 : ((k : Nat) : Int) < ((L.length : Nat) : Int) := by omega
  have f0 : W.cell? ⟨g, k * 7, none⟩ = some (.int .u8 ((x.o : Nat) : Int)) := hc 0 _ rfl
  have f1 := hc 1 _ rfl
  have f2 := hc 2 _ rfl
  have f3 := hc 3 _ rfl
  have f4 := hc 4 _ rfl
  have f5 := hc 5 _ rfl
  have f6 := hc 6 _ rfl
  have HI := Lib.hid hi
  clear S S1 hc hx hi
  go_enter Tryz.func15, Tryz.ntmps15
  go_wp2_with (first | (go_at_call 18; refine (none_made p m _ c1).mono ?_; rintro e w' ⟨rfl, rfl⟩) | (go_at_call 28; refine (has_any p _ L c _ _ c0).mono ?_; rw [HI.out]; rintro e w' ⟨rfl, rfl⟩))
  exact bodyPost_ret (v := .tuple #[x.val, .int .i64 0]) (by simp [results, Tryz.results15, go_sem, Nd.val]) rfl ⟨rfl, by repeat (first | exact Below.refl _ _ | (refine Below.setCell ?_ (by simp; try omega) _) | (refine bel_alloc ?_ _) | (refine Below.drew ?_))⟩

theorem node_no {B p m : Nat} {k : Int} {sv : Value} {L : List Nd} {W : World} (S : StoreAt B W p m sv L) (hi : inB L k = false) :
    Calls Tryz.prog 15 #[.pointer (some ⟨p, 0, none⟩), .int .i64 k] W fun e W' => e = .returned (.tuple #[.agg #[.int .u8 0, .int .u8 0, .int .i64 0, .int .i64 0, .int .i64 0, .int .u64 0, .int .u8 0], .int .i64 2]) ∧ Below W.heap.size W W' := by
  have S1 := S.alloc (.cells #[.int .u8 0, .int .u8 0, .int .i64 0, .int .i64 0, .int .i64 0, .int .u64 0, .int .u8 0] 45)
  obtain ⟨a, c, rfl⟩ := S.shape
  have c1 := S1.c1
  have c0 := S1.c0
  have HI := Lib.hid hi
  clear S S1 hi
  go_enter Tryz.func15, Tryz.ntmps15
  go_wp2_with (first | (go_at_call 18; refine (none_made p m _ c1).mono ?_; rintro e w' ⟨rfl, rfl⟩) | (go_at_call 28; refine (has_any p _ L c _ _ c0).mono ?_; rw [HI.out]; rintro e w' ⟨rfl, rfl⟩))
  exact bodyPost_ret (v := .tuple #[.agg #[.int .u8 0, .int .u8 0, .int .i64 0, .int .i64 0, .int .i64 0, .int .u64 0, .int .u8 0], .int .i64 2]) (by simp [results, Tryz.results15, go_sem]) rfl ⟨rfl, by repeat (first | exact Below.refl _ _ | (refine Below.setCell ?_ (by simp; try omega) _) | (refine bel_alloc ?_ _) | (refine Below.drew ?_))⟩

/-! ### none, and a zero one -/
/-- The value leads to no store that a call made. -/
def NoneAt (w : World) (ptr : Value) : Prop := ptr = .pointer none ∨ ∃ p, ptr = .pointer (some ⟨p, 0, none⟩) ∧ w.cell? ⟨p, 1, none⟩ = some (.map none)
theorem NoneAt.keep {w w' : World} {ptr : Value} (h : NoneAt w ptr) (k : Below w.heap.size w w') : NoneAt w' ptr := by
  rcases h with h | ⟨p, h, hc⟩
  · exact .inl h
  · exact .inr ⟨p, h, (k.cell (p := ⟨p, 1, none⟩) (World.block_lt_of_cell? w _ hc)).trans hc⟩
theorem NoneAt.alloc {w : World} {ptr : Value} (h : NoneAt w ptr) (o : Obj) : NoneAt (w.alloc o) ptr := h.keep (bel_alloc (Below.refl _ _) o)
theorem isNone_any {w : World} {ptr : Value} (h : NoneAt w ptr) : Calls Tryz.prog 18 #[ptr] w fun e W' => e = .returned (.bool true) ∧ w = W' := by
  rcases h with h | ⟨p, h, hc⟩
  · subst h; exact none_nil w
  · subst h; exact none_zero p w hc

theorem make_none (ptr : Value) (x : Nd) (W : World) (h : NoneAt W ptr) :
    Calls Tryz.prog 10 #[ptr, x.val] W fun e W' => e = .returned (.tuple #[.int .i64 0, .int .i64 1]) ∧ Below W.heap.size W W' := by
  have HN := Lib.hid (h.alloc (.cells x.cells 45))
  clear h
  obtain ⟨o, w, k0, k1, k2, n, l⟩ := x
  unfold Nd.val
  unfold Nd.cells at HN
  go_enter Tryz.func10, Tryz.ntmps10
  go_wp2_with (go_at_call 18; refine (isNone_any HN.out).mono ?_; rintro e w' ⟨rfl, rfl⟩)
  exact bodyPost_ret (v := .tuple #[.int .i64 0, .int .i64 1]) (by simp [results, Tryz.results10, go_sem]) rfl ⟨rfl, bel_alloc (Below.refl _ _) _⟩

theorem node_none (ptr : Value) (k : Int) (W : World) (h : NoneAt W ptr) :
    Calls Tryz.prog 15 #[ptr, .int .i64 k] W fun e W' => e = .returned (.tuple #[.agg #[.int .u8 0, .int .u8 0, .int .i64 0, .int .i64 0, .int .i64 0, .int .u64 0, .int .u8 0], .int .i64 1]) ∧ Below W.heap.size W W' := by
  have HN := Lib.hid (h.alloc (.cells #[.int .u8 0, .int .u8 0, .int .i64 0, .int .i64 0, .int .i64 0, .int .u64 0, .int .u8 0] 45))
  clear h
  go_enter Tryz.func15, Tryz.ntmps15
  go_wp2_with (go_at_call 18; refine (isNone_any HN.out).mono ?_; rintro e w' ⟨rfl, rfl⟩)
  exact bodyPost_ret (v := .tuple #[.agg #[.int .u8 0, .int .u8 0, .int .i64 0, .int .i64 0, .int .i64 0, .int .u64 0, .int .u8 0], .int .i64 1]) (by simp [results, Tryz.results15, go_sem]) rfl ⟨rfl, by repeat (first | exact Below.refl _ _ | (refine Below.setCell ?_ (by simp; try omega) _) | (refine bel_alloc ?_ _) | (refine Below.drew ?_))⟩

end Tm
end Go.Proofs.YtbemkaninedonaaGreatDoor

namespace Go.Proofs.YtbemkaninedonaaGreatDoor
open Go.RowKit Go.Maps Bv
namespace Tm
set_option maxHeartbeats 1000000
set_option maxRecDepth 100000

def todoRow (T : List Nat) : List Value := T.map (fun i => .int .i64 ((i : Nat) : Int))

end Tm
end Go.Proofs.YtbemkaninedonaaGreatDoor

namespace Go.Proofs.YtbemkaninedonaaGreatDoor
open Go.RowKit Go.Maps Bv
namespace Tm
set_option maxHeartbeats 1000000
set_option maxRecDepth 100000

theorem row_at {w : World} {base : Nat} {v : Value} {T : List Nat} (h : w.ownsRow base 3 1 v T.length (todoRow T)) (hT : 0 < T.length) :
    ∃ g c, v = .slice (some ⟨g, 0, none⟩) T.length c ∧ ∀ j i, T[j]? = some i → w.cell? ⟨g, j, none⟩ = some (.int .i64 ((i : Nat) : Int)) := by
  have hr := h
  rcases h with ⟨hl, ⟨_, h2⟩ | ⟨g, cap, cur, hv, hb, hh, hn, _⟩⟩
  · omega
  · refine ⟨g, cap, hv, fun j i hj => ?_⟩
    have hc := hr.cells (g := g) (by rw [hv]; rfl) j (.int .i64 ((i : Nat) : Int)) (by simp [todoRow, hj])
    have e : (⟨g, 0, none⟩ : Addr).add j = ⟨g, j, none⟩ := by
      unfold Addr.add
      split <;> simp_all
    rw [e] at hc
    exact hc

theorem row_zero {w : World} {base : Nat} {v : Value} {xs : List Value} (h : w.ownsRow base 3 1 v 0 xs) : ∃ a c, v = .slice a 0 c := by
  rcases h with ⟨hl, ⟨h1, _⟩ | ⟨g, cap, cur, hv, _⟩⟩
  · exact ⟨none, 0, h1⟩
  · exact ⟨_, _, hv⟩

theorem made_to {B p m : Nat} {sv : Value} {L L' : List Nd} {x : Nd} {W : World} {f : FuncId} {args : Array Value} {a b : Int} (S : StoreAt B W p m sv L) (hB : B ≤ W.heap.size) (h : Calls Tryz.prog f args W (Made B p m sv L x W)) (h1 : (mk L x).1 = L') (h2 : (((mk L x).2.1 : Nat) : Int) = a) (h3 : (((mk L x).2.2 : Nat) : Int) = b) :
    Calls Tryz.prog f args W (fun e W' => e = .returned (.tuple #[.int .i64 a, .int .i64 b]) ∧ ∃ v, StoreAt B W' p m v L' ∧ Below B W W') := by
  refine h.mono ?_
  rintro e w' ⟨he, v, S', K, _⟩
  subst h1; subst h2; subst h3
  refine ⟨he, v, S', K.below (fun i hi hc => ?_) hB⟩
  rcases hc with c | c | c
  · have := S.bp; omega
  · have := S.bm; omega
  · have := (S.row.lt i c).1; omega

theorem new_at (W : World) :
    Calls Tryz.prog 9 #[] W fun e W' => e = .returned (.pointer (some ⟨W.heap.size + 1, 0, none⟩)) ∧
      StoreAt W.heap.size W' (W.heap.size + 1) W.heap.size (.slice none 0 0) [] ∧ Below W.heap.size W W' := by
  refine (new_any W).mono ?_
  rintro e w' ⟨rfl, rfl⟩
  exact ⟨rfl, new_store W, new_kept W _ _⟩

end Tm
end Go.Proofs.YtbemkaninedonaaGreatDoor

namespace Go.Proofs.YtbemkaninedonaaGreatDoor
open Go.RowKit Go.Maps Bv
namespace Tm
set_option maxHeartbeats 400000
set_option maxRecDepth 100000

/-- The store, the two lists; no two of them share a block; what was there before the call is as it was. -/
structure St (W : World) (p m : Nat) (sv u4 u5 : Value) (L : List Nd) (ids : List Nat) (N : List Nd) (w : World) : Prop where
  s : StoreAt W.heap.size w p m sv L
  r4 : w.ownsRow W.heap.size 3 1 u4 ids.length (todoRow ids)
  r5 : w.ownsRow W.heap.size 45 7 u5 N.length (rowOf N)
  a4 : ∀ g, u4.ownBlock = some g → ¬ foot p m sv g ∧ u5.ownBlock ≠ some g
  a5 : ∀ g, u5.ownBlock = some g → ¬ foot p m sv g
  b : Below W.heap.size W w

def StE (W : World) (p m : Nat) (u4 u5 : Value) (L : List Nd) (ids : List Nat) (N : List Nd) (w : World) : Prop := ∃ sv, St W p m sv u4 u5 L ids N w

theorem foot_lt {B : Nat} {w : World} {p m : Nat} {sv : Value} {L : List Nd} (S : StoreAt B w p m sv L) {i : Nat} (h : foot p m sv i) : B ≤ i ∧ i < w.heap.size := by
  rcases h with c | c | c
  · subst c; exact ⟨S.bp, S.lt⟩
  · subst c; exact ⟨S.bm, S.lm⟩
  · exact S.row.lt i c

theorem St.make {W : World} {p m : Nat} {sv u4 u5 v : Value} {L L' : List Nd} {ids : List Nat} {N : List Nd} {w w' : World} (h : St W p m sv u4 u5 L ids N w) (S' : StoreAt W.heap.size w' p m v L') (K : Kept (foot p m sv) w w') (loc : v.ownBlock = sv.ownBlock ∨ ∃ g, w.heap.size ≤ g ∧ v.ownBlock = some g) :
    St W p m v u4 u5 L' ids N w' := by
  have hf : ∀ g, g < w.heap.size → foot p m v g → foot p m sv g := by
    intro g hg c
    rcases c with c | c | c
    · exact .inl c
    · exact .inr (.inl c)
    · rcases loc with l | ⟨g2, hg2, l⟩
      · rw [l] at c; exact .inr (.inr c)
      · rw [l] at c; simp at c; omega
  refine ⟨S', row_kept h.r4 K (fun g e => (h.a4 g e).1), row_kept h.r5 K (fun g e => h.a5 g e), fun g e => ⟨fun c => (h.a4 g e).1 (hf g (h.r4.lt g e).2 c), (h.a4 g e).2⟩, fun g e c => h.a5 g e (hf g (h.r5.lt g e).2 c), ?_⟩
  exact h.b.trans (K.below (fun i hi c => by have := (foot_lt h.s c).1; omega) h.b.size)

theorem St.call {W : World} {p m : Nat} {sv u4 u5 : Value} {L : List Nd} {ids : List Nat} {N : List Nd} {w w' : World} (h : St W p m sv u4 u5 L ids N w) (k : Below w.heap.size w w') : St W p m sv u4 u5 L ids N w' :=
  ⟨h.s.call k, row_kept h.r4 (Kept.ofBelow k (fun _ => False)) (fun _ _ c => c), row_kept h.r5 (Kept.ofBelow k (fun _ => False)) (fun _ _ c => c), h.a4, h.a5, h.b.trans (k.mono h.b.size)⟩

theorem St.push4 {W : World} {p m : Nat} {sv u4 u5 v : Value} {L : List Nd} {ids : List Nat} {N : List Nd} {w w' : World} {a : Nat} {o : Obj} (h : St W p m sv u4 u5 L ids N w) (hr : w'.ownsRow W.heap.size 3 1 v (ids.length + 1) (todoRow ids ++ [.int .i64 ((a : Nat) : Int)])) (hg : (w.alloc o).grownBy w' u4.ownBlock) (hl : v.ownBlock = u4.ownBlock ∨ v.ownBlock = some (w.alloc o).heap.size) :
    St W p m sv v u5 L (ids ++ [a]) N w' := by
  have K : Kept (fun i => u4.ownBlock = some i) w w' := ((Kept.refl _ w).alloc o).grown hg (fun i e _ => e)
  rw [size_alloc] at hl
  refine ⟨h.s.kept K (fun i hi c => (h.a4 i c).1 hi), by simpa [todoRow] using hr, row_kept h.r5 K (fun g e c => (h.a4 g c).2 e), ?_, h.a5, h.b.trans (K.below (fun i hi c => by have := (h.r4.lt i c).1; omega) h.b.size)⟩
  intro g e
  rcases hl with l | l
  · rw [l] at e; exact h.a4 g e
  · rw [l] at e
    simp at e
    refine ⟨fun c => by have := (foot_lt h.s c).2; omega, fun c => by have := (h.r5.lt g c).2; omega⟩

theorem St.push5 {W : World} {p m : Nat} {sv u4 u5 v : Value} {L : List Nd} {ids : List Nat} {N : List Nd} {w w' : World} {x : Nd} {o : Obj} (h : St W p m sv u4 u5 L ids N w) (hr : w'.ownsRow W.heap.size 45 7 v (N.length + 1) (rowOf N ++ x.cells.toList)) (hg : (w.alloc o).grownBy w' u5.ownBlock) (hl : v.ownBlock = u5.ownBlock ∨ v.ownBlock = some (w.alloc o).heap.size) :
    St W p m sv u4 v L ids (N ++ [x]) w' := by
  have K : Kept (fun i => u5.ownBlock = some i) w w' := ((Kept.refl _ w).alloc o).grown hg (fun i e _ => e)
  rw [size_alloc] at hl
  refine ⟨h.s.kept K (fun i hi c => h.a5 i c hi), row_kept h.r4 K (fun g e c => (h.a4 g e).2 c), by rw [rowOf_append]; simpa using hr, ?_, ?_, h.b.trans (K.below (fun i hi c => by have := (h.r5.lt i c).1; omega) h.b.size)⟩
  · intro g e
    refine ⟨(h.a4 g e).1, ?_⟩
    rcases hl with l | l
    · rw [l]; exact (h.a4 g e).2
    · rw [l]; intro c; simp at c; have := (h.r4.lt g e).2; omega
  · intro g e c
    rcases hl with l | l
    · rw [l] at e; exact h.a5 g e c
    · rw [l] at e
      simp at e
      have := (foot_lt h.s c).2
      omega

/-- Each number is that of its node. -/
structure NumOf (L : List Nd) (ids : List Nat) (N : List Nd) : Prop where
  len : ids.length = N.length
  at1 : ∀ (j a : Nat) (x : Nd), ids[j]? = some a → N[j]? = some x → L[a]? = some x

theorem mk_prefix (L : List Nd) (x : Nd) : ∃ R, (mk L x).1 = L ++ R := by
  unfold mk
  repeat' split
  all_goals first | exact ⟨[], (List.append_nil L).symm⟩ | exact ⟨[x], rfl⟩
theorem idx_at {L : List Nd} {x : Nd} (h : x ∈ L) : L[idx L x]? = some x := by
  have hl := idx_lt h
  have hi := List.findIdx_getElem (xs := L) (p := fun y => decide (y = x)) (w := hl)
  simp at hi
  rw [List.getElem?_eq_getElem hl]
  show some L[idx L x] = some x
  unfold idx
  rw [hi]
theorem mk_ok {L : List Nd} {x : Nd} (h : (mk L x).2.2 = 0) : (mk L x).1[(mk L x).2.1]? = some x := by
  unfold mk at h ⊢
  split at h
  · simp at h
  split at h
  · simp at h
  split at h
  · rename_i h1 h2 h3
    rw [if_neg h1, if_neg h2, if_pos h3]
    exact idx_at h3
  split at h
  · simp at h
  · rename_i h1 h2 h3 h4
    rw [if_neg h1, if_neg h2, if_neg h3, if_neg h4]
    simp
theorem NumOf.more {L L' : List Nd} {ids : List Nat} {N : List Nd} (h : NumOf L ids N) {R : List Nd} (hL : L' = L ++ R) : NumOf L' ids N := by
  refine ⟨h.len, fun j a x h1 h2 => ?_⟩
  have := h.at1 j a x h1 h2
  rw [hL, List.getElem?_append_left (List.getElem?_eq_some_iff.1 this).1]
  exact this
theorem NumOf.push {L : List Nd} {ids : List Nat} {N : List Nd} (h : NumOf L ids N) {a : Nat} {x : Nd} (hx : L[a]? = some x) : NumOf L (ids ++ [a]) (N ++ [x]) := by
  refine ⟨by simp [h.len], fun j b y h1 h2 => ?_⟩
  by_cases hj : j < ids.length
  · rw [List.getElem?_append_left hj] at h1
    rw [List.getElem?_append_left (by rw [← h.len]; exact hj)] at h2
    exact h.at1 j b y h1 h2
  · rw [List.getElem?_append_right (by omega)] at h1
    rw [List.getElem?_append_right (by rw [← h.len]; omega)] at h2
    have h0 : j - ids.length = 0 := by
      have := (List.getElem?_eq_some_iff.1 h1).1
      simp at this
      omega
    rw [h0] at h1
    rw [← h.len, h0] at h2
    simp at h1 h2
    subst h1; subst h2
    exact hx

end Tm
end Go.Proofs.YtbemkaninedonaaGreatDoor
