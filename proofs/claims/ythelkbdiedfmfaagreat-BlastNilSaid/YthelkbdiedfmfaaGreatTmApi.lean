/-
  Const, Var, Node, Len, Width of layer term, of a store that was made, each as a fact on one call; and what they answer of none and of a zero one.
-/
import Derived.Test.YthelkbdiedfmfaaGreatTmMake
namespace Go.Proofs.YthelkbdiedfmfaaGreat
open Go.RowKit Go.Maps Bv
namespace Tm
set_option maxHeartbeats 1000000
set_option maxRecDepth 100000

/-- A width as a node has it. -/
def nar (w : Int) : Nat := if 0 ≤ w ∧ w ≤ 255 then w.toNat else 0
theorem nar_le (w : Int) : nar w ≤ 255 := by unfold nar; split <;> omega
def cnd (w : Int) (n : Nat) : Nd := ⟨1, nar w, 0, 0, 0, n, 0⟩
def u64 (n : Int) : Nat := (IntKind.u64.wrap n).toNat
theorem u64_is (n : Int) : ((u64 n : Nat) : Int) = IntKind.u64.wrap n := by
  unfold u64
  rw [IntKind.wrap_u64]
  omega
theorem u64_lt (n : Int) : u64 n < 18446744073709551616 := by
  unfold u64
  rw [IntKind.wrap_u64]
  omega
def vnd (w : Int) (n : Int) : Nd := ⟨2, nar w, 0, 0, 0, u64 n, 0⟩
theorem i64_0 : I64 0 := by unfold I64; omega
theorem cnd_ok (w : Int) {n : Nat} (h : n < 18446744073709551616) : (cnd w n).Ok := ⟨by simp [cnd], nar_le w, i64_0, i64_0, i64_0, h, by simp [cnd]⟩
theorem vnd_ok (w n : Int) : (vnd w n).Ok := ⟨by simp [vnd], nar_le w, i64_0, i64_0, i64_0, u64_lt n, by simp [vnd]⟩

/-- What a call of Make, Const, Var has done. -/
def Made (B : Nat) (p m : Nat) (sv : Value) (L : List Nd) (x : Nd) (W : World) (e : Ending) (W' : World) : Prop :=
  e = .returned (.tuple #[.int .i64 (((mk L x).2.1 : Nat) : Int), .int .i64 (((mk L x).2.2 : Nat) : Int)]) ∧
      ∃ v, StoreAt B W' p m v (mk L x).1 ∧ Kept (foot p m sv) W W' ∧ (v.ownBlock = sv.ownBlock ∨ ∃ g, W.heap.size ≤ g ∧ v.ownBlock = some g)

theorem node_yes {B p m k : Nat} {sv : Value} {L : List Nd} {x : Nd} {W : World} (S : StoreAt B W p m sv L) (hx : L[k]? = some x) :
    Calls Tryz.prog 10 #[.pointer (some ⟨p, 0, none⟩), .int .i64 ((k : Nat) : Int)] W fun e W' => e = .returned (.tuple #[x.val, .int .i64 0]) ∧ Below W.heap.size W W' := by
  have hlt := (List.getElem?_eq_some_iff.1 hx).1
  obtain ⟨g, c, rfl, hc⟩ := S.shapeAt hx
  have S1 := S.alloc (.cells #[.int .u8 0, .int .u8 0, .int .i64 0, .int .i64 0, .int .i64 0, .int .u64 0, .int .u8 0] 56)
  have hi : inB L ((k : Nat) : Int) = true := by simp [inB]; omega
  have c1 := S1.c1
  have c0 := S1.c0
  have lg : g < W.heap.size := by
    have := hc 0 _ rfl
    exact World.block_lt_of_cell? W _ this
  have hk1 : ((k : Nat) : Int) < ((L.length : Nat) : Int) := by omega
  have f0 : W.cell? ⟨g, k * 7, none⟩ = some (.int .u8 ((x.o : Nat) : Int)) := hc 0 _ rfl
  have f1 := hc 1 _ rfl
  have f2 := hc 2 _ rfl
  have f3 := hc 3 _ rfl
  have f4 := hc 4 _ rfl
  have f5 := hc 5 _ rfl
  have f6 := hc 6 _ rfl
  have HI := Lib.hid hi
  clear S S1 hc hx hi
  go_enter Tryz.func10, Tryz.ntmps10
  go_wp2_with (first | (go_at_call 19; refine (none_made p m _ c1).mono ?_; rintro e w' ⟨rfl, rfl⟩) | (go_at_call 20; refine (has_any p _ L c _ _ c0).mono ?_; rw [HI.out]; rintro e w' ⟨rfl, rfl⟩))
  exact bodyPost_ret (v := .tuple #[x.val, .int .i64 0]) (by simp [results, Tryz.results10, go_sem, Nd.val]) rfl ⟨rfl, by repeat (first | exact Below.refl _ _ | (refine Below.setCell ?_ (by simp; try omega) _) | (refine bel_alloc ?_ _) | (refine Below.drew ?_))⟩

theorem node_no {B p m : Nat} {k : Int} {sv : Value} {L : List Nd} {W : World} (S : StoreAt B W p m sv L) (hi : inB L k = false) :
    Calls Tryz.prog 10 #[.pointer (some ⟨p, 0, none⟩), .int .i64 k] W fun e W' => e = .returned (.tuple #[.agg #[.int .u8 0, .int .u8 0, .int .i64 0, .int .i64 0, .int .i64 0, .int .u64 0, .int .u8 0], .int .i64 2]) ∧ Below W.heap.size W W' := by
  have S1 := S.alloc (.cells #[.int .u8 0, .int .u8 0, .int .i64 0, .int .i64 0, .int .i64 0, .int .u64 0, .int .u8 0] 56)
  obtain ⟨a, c, rfl⟩ := S.shape
  have c1 := S1.c1
  have c0 := S1.c0
  have HI := Lib.hid hi
  clear S S1 hi
  go_enter Tryz.func10, Tryz.ntmps10
  go_wp2_with (first | (go_at_call 19; refine (none_made p m _ c1).mono ?_; rintro e w' ⟨rfl, rfl⟩) | (go_at_call 20; refine (has_any p _ L c _ _ c0).mono ?_; rw [HI.out]; rintro e w' ⟨rfl, rfl⟩))
  exact bodyPost_ret (v := .tuple #[.agg #[.int .u8 0, .int .u8 0, .int .i64 0, .int .i64 0, .int .i64 0, .int .u64 0, .int .u8 0], .int .i64 2]) (by simp [results, Tryz.results10, go_sem]) rfl ⟨rfl, by repeat (first | exact Below.refl _ _ | (refine Below.setCell ?_ (by simp; try omega) _) | (refine bel_alloc ?_ _) | (refine Below.drew ?_))⟩

/-! ### none, and a zero one -/
/-- The value leads to no store that a call made. -/
def NoneAt (w : World) (ptr : Value) : Prop := ptr = .pointer none ∨ ∃ p, ptr = .pointer (some ⟨p, 0, none⟩) ∧ w.cell? ⟨p, 1, none⟩ = some (.map none)
theorem NoneAt.keep {w w' : World} {ptr : Value} (h : NoneAt w ptr) (k : Below w.heap.size w w') : NoneAt w' ptr := by
  rcases h with h | ⟨p, h, hc⟩
  · exact .inl h
  · exact .inr ⟨p, h, (k.cell (p := ⟨p, 1, none⟩) (World.block_lt_of_cell? w _ hc)).trans hc⟩
theorem NoneAt.alloc {w : World} {ptr : Value} (h : NoneAt w ptr) (o : Obj) : NoneAt (w.alloc o) ptr := h.keep (bel_alloc (Below.refl _ _) o)
theorem isNone_any {w : World} {ptr : Value} (h : NoneAt w ptr) : Calls Tryz.prog 19 #[ptr] w fun e W' => e = .returned (.bool true) ∧ w = W' := by
  rcases h with h | ⟨p, h, hc⟩
  · subst h; exact none_nil w
  · subst h; exact none_zero p w hc

theorem make_none (ptr : Value) (x : Nd) (W : World) (h : NoneAt W ptr) :
    Calls Tryz.prog 43 #[ptr, x.val] W fun e W' => e = .returned (.tuple #[.int .i64 0, .int .i64 1]) ∧ Below W.heap.size W W' := by
  have HN := Lib.hid (h.alloc (.cells x.cells 56))
  clear h
  obtain ⟨o, w, k0, k1, k2, n, l⟩ := x
  unfold Nd.val
  unfold Nd.cells at HN
  go_enter Tryz.func43, Tryz.ntmps43
  go_wp2_with (go_at_call 19; refine (isNone_any HN.out).mono ?_; rintro e w' ⟨rfl, rfl⟩)
  exact bodyPost_ret (v := .tuple #[.int .i64 0, .int .i64 1]) (by simp [results, Tryz.results43, go_sem]) rfl ⟨rfl, bel_alloc (Below.refl _ _) _⟩

theorem node_none (ptr : Value) (k : Int) (W : World) (h : NoneAt W ptr) :
    Calls Tryz.prog 10 #[ptr, .int .i64 k] W fun e W' => e = .returned (.tuple #[.agg #[.int .u8 0, .int .u8 0, .int .i64 0, .int .i64 0, .int .i64 0, .int .u64 0, .int .u8 0], .int .i64 1]) ∧ Below W.heap.size W W' := by
  have HN := Lib.hid (h.alloc (.cells #[.int .u8 0, .int .u8 0, .int .i64 0, .int .i64 0, .int .i64 0, .int .u64 0, .int .u8 0] 56))
  clear h
  go_enter Tryz.func10, Tryz.ntmps10
  go_wp2_with (go_at_call 19; refine (isNone_any HN.out).mono ?_; rintro e w' ⟨rfl, rfl⟩)
  exact bodyPost_ret (v := .tuple #[.agg #[.int .u8 0, .int .u8 0, .int .i64 0, .int .i64 0, .int .i64 0, .int .u64 0, .int .u8 0], .int .i64 1]) (by simp [results, Tryz.results10, go_sem]) rfl ⟨rfl, by repeat (first | exact Below.refl _ _ | (refine Below.setCell ?_ (by simp; try omega) _) | (refine bel_alloc ?_ _) | (refine Below.drew ?_))⟩

end Tm
end Go.Proofs.YthelkbdiedfmfaaGreat
