/-
  Vars of layer term: what is below a node, gone through by a list of what is still to do: the closure that reaches a node, as a fact on one call.
-/
import Derived.Test.YtjhghfndhpaapaaTmApi
import Derived.Test.YtjhghfndhpaapaaTmP1
import Derived.Maps.AppendAt
namespace Go.Proofs.Ytjhghfndhpaapaa
open Go.RowKit Go.Maps Bv
namespace Tm
set_option maxHeartbeats 1000000
set_option maxRecDepth 100000

def todoRow (T : List Nat) : List Value := T.map (fun i => .int .i64 ((i : Nat) : Int))

/-- The marks lie in block bs, reached through block b6; what is to do is the value tv, which block b7 holds. -/
structure DfsAt (base : Nat) (w : World) (b6 b7 bs id : Nat) (seen : Nat → Bool) (tv : Value) (T : List Nat) : Prop where
  g6 : base ≤ b6
  g7 : base ≤ b7
  gs : base ≤ bs
  n67 : b6 ≠ b7
  n6s : b6 ≠ bs
  n7s : b7 ≠ bs
  l6 : b6 < w.heap.size
  l7 : b7 < w.heap.size
  ls : bs < w.heap.size
  c6 : w.cell? ⟨b6, 0, none⟩ = some (.slice (some ⟨bs, 0, none⟩) (id + 1) (id + 1))
  cs : ∀ i, i < id + 1 → w.cell? ⟨bs, i, none⟩ = some (.bool (seen i))
  fs : ∀ i, w.frozen? ⟨bs, i, none⟩ = false
  c7 : w.cell? ⟨b7, 0, none⟩ = some tv
  f7 : ∀ i, w.frozen? ⟨b7, i, none⟩ = false
  row : w.ownsRow base 3 1 tv T.length (todoRow T)
  t6 : tv.ownBlock ≠ some b6
  t7 : tv.ownBlock ≠ some b7
  ts : tv.ownBlock ≠ some bs

theorem DfsAt.call {base : Nat} {w w' : World} {b6 b7 bs id : Nat} {seen : Nat → Bool} {tv : Value} {T : List Nat} (h : DfsAt base w b6 b7 bs id seen tv T) (k : Below w.heap.size w w') : DfsAt base w' b6 b7 bs id seen tv T := by
  refine ⟨h.g6, h.g7, h.gs, h.n67, h.n6s, h.n7s, Nat.lt_of_lt_of_le h.l6 k.size, Nat.lt_of_lt_of_le h.l7 k.size, Nat.lt_of_lt_of_le h.ls k.size, (k.cell (p := ⟨b6, 0, none⟩) h.l6).trans h.c6, fun i hi => (k.cell (p := ⟨bs, i, none⟩) h.ls).trans (h.cs i hi),
    fun i => (k.frozen (p := ⟨bs, i, none⟩) h.ls).trans (h.fs i), (k.cell (p := ⟨b7, 0, none⟩) h.l7).trans h.c7, fun i => (k.frozen (p := ⟨b7, i, none⟩) h.l7).trans (h.f7 i), ?_, h.t6, h.t7, h.ts⟩
  rcases h.row with ⟨hl, h1 | ⟨g, cap, cur, hv, hb, hh, r⟩⟩
  · exact ⟨hl, .inl h1⟩
  · exact ⟨hl, .inr ⟨g, cap, cur, hv, hb, (k.block g (Array.getElem?_eq_some_iff.1 hh).1).trans hh, r⟩⟩

theorem DfsAt.shape {base : Nat} {w : World} {b6 b7 bs id : Nat} {seen : Nat → Bool} {tv : Value} {T : List Nat} (h : DfsAt base w b6 b7 bs id seen tv T) : ∃ a c, tv = .slice a T.length c := by
  rcases h.row with ⟨_, ⟨h1, h2⟩ | ⟨g, cap, cur, hv, _⟩⟩
  · exact ⟨none, 0, by rw [h1, h2]⟩
  · exact ⟨_, _, hv⟩


/-- The blocks that the search writes. -/
def dfoot (b7 bs : Nat) (tv : Value) (k : Nat) : Prop := k = b7 ∨ k = bs ∨ tv.ownBlock = some k
/-- What a call of the closure has done. -/
def Reached (base b6 b7 bs id : Nat) (seen : Nat → Bool) (tv : Value) (T : List Nat) (i : Nat) (W W' : World) : Prop :=
  ∃ tv', DfsAt base W' b6 b7 bs id (seen' seen i) tv' (todo' seen T i) ∧ Kept (dfoot b7 bs tv) W W' ∧ (tv'.ownBlock = tv.ownBlock ∨ ∃ g, W.heap.size ≤ g ∧ tv'.ownBlock = some g)

theorem DfsAt.kept {base : Nat} {w w' : World} {b6 b7 bs id : Nat} {seen : Nat → Bool} {tv : Value} {T : List Nat} {F : Nat → Prop} (h : DfsAt base w b6 b7 bs id seen tv T) (k : Kept F w w') (f6 : ¬ F b6) (f7 : ¬ F b7) (fs : ¬ F bs) (ft : ∀ g, tv.ownBlock = some g → ¬ F g) : DfsAt base w' b6 b7 bs id seen tv T := by
  refine ⟨h.g6, h.g7, h.gs, h.n67, h.n6s, h.n7s, Nat.lt_of_lt_of_le h.l6 k.size, Nat.lt_of_lt_of_le h.l7 k.size, Nat.lt_of_lt_of_le h.ls k.size, (k.cell (x := ⟨b6, 0, none⟩) h.l6 f6).trans h.c6, fun i hi => (k.cell (x := ⟨bs, i, none⟩) h.ls fs).trans (h.cs i hi),
    fun i => (k.frozen (x := ⟨bs, i, none⟩) h.ls fs).trans (h.fs i), (k.cell (x := ⟨b7, 0, none⟩) h.l7 f7).trans h.c7, fun i => (k.frozen (x := ⟨b7, i, none⟩) h.l7 f7).trans (h.f7 i), ?_, h.t6, h.t7, h.ts⟩
  rcases h.row with ⟨hl, h1 | ⟨g, cap, cur, hv, hb, hh, r⟩⟩
  · exact ⟨hl, .inl h1⟩
  · exact ⟨hl, .inr ⟨g, cap, cur, hv, hb, (k.block g (Array.getElem?_eq_some_iff.1 hh).1 (ft g (by rw [hv]; rfl))).trans hh, r⟩⟩

theorem DfsAt.marked {base : Nat} {w w2 : World} {b6 b7 bs id i : Nat} {seen : Nat → Bool} {tv v' : Value} {T : List Nat} {o : Obj} (h : DfsAt base w b6 b7 bs id seen tv T) (hi : i < id + 1)
    (hg : ((w.setCell ⟨bs, i, none⟩ (.bool true)).alloc o).grownBy w2 tv.ownBlock) (hrow : w2.ownsRow base 3 1 v' (T.length + 1) (todoRow T ++ [.int .i64 ((i : Nat) : Int)]))
    (hloc : v'.ownBlock = tv.ownBlock ∨ v'.ownBlock = some ((w.setCell ⟨bs, i, none⟩ (.bool true)).alloc o).heap.size) :
    DfsAt base (w2.setCell ⟨b7, 0, none⟩ v') b6 b7 bs id (mark seen i) v' (T ++ [i]) ∧ Kept (dfoot b7 bs tv) w (w2.setCell ⟨b7, 0, none⟩ v') ∧ (v'.ownBlock = tv.ownBlock ∨ ∃ g, w.heap.size ≤ g ∧ v'.ownBlock = some g) := by
  have hs0 : ((w.setCell ⟨bs, i, none⟩ (.bool true)).alloc o).heap.size = w.heap.size + 1 := by simp [World.setCell]
  have hs1 : (w.setCell ⟨bs, i, none⟩ (.bool true)).heap.size = w.heap.size := by simp [World.setCell]
  rw [hs0] at hloc
  have hsz := hg.size
  rw [hs0] at hsz
  have l6 := h.l6
  have l7 := h.l7
  have ls := h.ls
  have old : ∀ b, b < w.heap.size → tv.ownBlock ≠ some b → ∀ j, (w2.cell? ⟨b, j, none⟩ = (w.setCell ⟨bs, i, none⟩ (.bool true)).cell? ⟨b, j, none⟩) ∧ (w2.frozen? ⟨b, j, none⟩ = w.frozen? ⟨b, j, none⟩) := by
    intro b hb hn j
    have hk := hg.block b (by omega) (fun e => hn e.symm)
    refine ⟨(World.cell?_of_block hk).trans (World.cell?_alloc_lt _ _ _ (by rw [hs1]; exact hb)), ?_⟩
    refine (World.frozen?_of_block hk).trans ((World.frozen?_alloc_old _ _ _ (by rw [hs1]; show b ≠ _; omega)).trans (World.frozen?_setCell _ _ _ _))
  have v6 : v'.ownBlock ≠ some b6 := by rcases hloc with e | e <;> rw [e]; exact h.t6; simp; omega
  have v7 : v'.ownBlock ≠ some b7 := by rcases hloc with e | e <;> rw [e]; exact h.t7; simp; omega
  have vs : v'.ownBlock ≠ some bs := by rcases hloc with e | e <;> rw [e]; exact h.ts; simp; omega
  have hs2 : (w2.setCell ⟨b7, 0, none⟩ v').heap.size = w2.heap.size := by simp [World.setCell]
  refine ⟨⟨h.g6, h.g7, h.gs, h.n67, h.n6s, h.n7s, by omega, by omega, by omega, ?_, fun j hj => ?_, fun j => ?_, ?_, fun j => ?_, ?_, v6, v7, vs⟩, ?_, hloc.imp (fun e => e) (fun e => ⟨_, Nat.le_succ _, e⟩)⟩
  · rw [World.cell?_setCell_far _ _ _ _ (by simpa using h.n67.symm), (old b6 l6 h.t6 0).1, World.cell?_setCell_far _ _ _ _ (by simpa using h.n6s.symm)]; exact h.c6
  · rw [World.cell?_setCell_far _ _ _ _ (by simpa using h.n7s), (old bs ls h.ts j).1]
    unfold mark
    by_cases e : j = i
    · subst e
      rw [if_pos rfl]
      exact World.cell?_setCell_same' _ _ _ (by rw [h.cs j hj]; rfl)
    · rw [if_neg e, World.cell?_setCell_other _ _ _ _ (by simp; try omega)]
      exact h.cs j hj
  · rw [World.frozen?_setCell, (old bs ls h.ts j).2]; exact h.fs j
  · exact World.cell?_setCell_same' _ _ _ (by rw [(old b7 l7 h.t7 0).1, World.cell?_setCell_far _ _ _ _ (by simpa using h.n7s.symm), h.c7]; rfl)
  · rw [World.frozen?_setCell, (old b7 l7 h.t7 j).2]; exact h.f7 j
  · have hr := row_setCell hrow (a := ⟨b7, 0, none⟩) v' v7
    simpa [todoRow] using hr
  · exact ((((Kept.refl _ w).setCell ⟨bs, i, none⟩ _ (fun _ => .inr (.inl rfl))).alloc o).grown hg (fun k e _ => .inr (.inr e))).setCell ⟨b7, 0, none⟩ v' (fun _ => .inl rfl)

theorem info_int : (Try.prog.info? 3).map (fun i => (i.zero, i.size, i.bytes)) = some (some (.int .i64 0), 1, 8) := by kernel_rfl

/-- The closure: a node that is not marked is marked, and is to do. -/
theorem reach_any {base : Nat} {b6 b7 bs id i : Nat} {seen : Nat → Bool} {tv : Value} {T : List Nat} {W : World} (h : DfsAt base W b6 b7 bs id seen tv T) (hB : base ≤ W.heap.size) (hi : i < id + 1) (hT : T.length ≤ 1000000) (_hid : id ≤ 1000000) :
    Calls Try.prog 25 #[.int .i64 ((i : Nat) : Int), .pointer (some ⟨b6, 0, none⟩), .pointer (some ⟨b7, 0, none⟩)] W fun e W' => e = .returned (.tuple #[]) ∧ Reached base b6 b7 bs id seen tv T i W W' := by
  have hi' : ((i : Nat) : Int) < ((id + 1 : Nat) : Int) := by omega
  have hi0 : (0 : Int) ≤ ((i : Nat) : Int) := by omega
  have c6 := h.c6
  have c7 := h.c7
  have cs := h.cs i hi
  have fs := h.fs i
  have f7 := h.f7 0
  have ls := h.ls
  have l7 := h.l7
  have l6 := h.l6
  cases hs : seen i
  case true =>
    rw [hs] at cs
    have HD := Lib.hid h
    clear h
    go_enter Try.func25, Try.ntmps25
    go_wp2_with fail
    go_end0
    refine ⟨rfl, tv, ?_, Kept.refl _ _, .inl rfl⟩
    unfold seen' todo'
    rw [if_pos hs, if_pos hs]
    exact HD.out
  case false =>
    rw [hs] at cs
    obtain ⟨i0, hinfo, hz0, hz1, hz2⟩ := info_parts info_int
    have HD := Lib.hid h
    have HROW : ((W.setCell ⟨bs, i, none⟩ (.bool true)).alloc (.cells #[.int .i64 ((i : Nat) : Int)] 3)).ownsRow base 3 1 tv T.length (todoRow T) := (row_setCell h.row _ h.ts).alloc _
    have HR := Lib.hid HROW
    have hsz : (W.setCell ⟨bs, i, none⟩ (.bool true)).heap.size = W.heap.size := by simp [World.setCell]
    have HN := Lib.hid (cell_one_new (W.setCell ⟨bs, i, none⟩ (.bool true)) (.int .i64 ((i : Nat) : Int)) 3)
    rw [hsz] at HN
    have H1 := Lib.hid (show ∀ u ∈ [Value.int .i64 ((i : Nat) : Int)], u.oneCell' = true by intro u hu; simp at hu; subst hu; rfl)
    have c6' : (W.setCell ⟨bs, i, none⟩ (.bool true)).cell? ⟨b6, 0, none⟩ = some (.slice (some ⟨bs, 0, none⟩) (id + 1) (id + 1)) := by rw [World.cell?_setCell_far _ _ _ _ (by simpa using h.n6s.symm)]; exact h.c6
    have c7' : (W.setCell ⟨bs, i, none⟩ (.bool true)).cell? ⟨b7, 0, none⟩ = some tv := by rw [World.cell?_setCell_far _ _ _ _ (by simpa using h.n7s.symm)]; exact h.c7
    have HB1 : base ≤ ((W.setCell ⟨bs, i, none⟩ (.bool true)).alloc (.cells #[.int .i64 ((i : Nat) : Int)] 3)).heap.size := by simp [World.setCell]; omega
    clear h HROW
    go_enter Try.func25, Try.ntmps25
    go_wp2_with (at_builtin; refine wpList_append_own_at _ rfl (.tmp 12) (.tmp 14) 42 rfl base 3 i0 (.int .i64 0) 1 8 Try.underlying42 hinfo hz0 hz1 hz2 rfl (by decide) tv T.length (todoRow T) rfl HR.out ⟨W.heap.size, 0, none⟩ 1 1 [.int .i64 ((i : Nat) : Int)] rfl rfl HN.out H1.out (by unfold maxLen; omega) (by omega) HB1 ?_; intro v' w2 hrow hgr _ hloc; obtain ⟨g', c', rfl, hBg, hg'⟩ := row_slice hrow; have D2 := HD.out.marked hi hgr hrow hloc; have C7 : w2.cell? ⟨b7, 0, none⟩ = some tv := ?cc; have F7 : w2.frozen? ⟨b7, 0, none⟩ = false := ?ff)
    case cc => exact hgr.cell (by rw [World.cell?_alloc_lt _ _ _ (by simp [World.setCell]; omega)]; exact c7') (fun e => HD.out.t7 e.symm)
    case ff => exact (World.frozen?_of_block (hgr.block b7 (by simp [World.setCell]; omega) (fun e => HD.out.t7 e.symm))).trans (by rw [World.frozen?_alloc_old _ _ _ (by simp [World.setCell]; omega), World.frozen?_setCell]; exact f7)
    all_goals go_end0
    all_goals
      refine ⟨rfl, _, ?_, D2.2.1, D2.2.2⟩
      unfold seen' todo'
      rw [if_neg (by rw [hs]; simp), if_neg (by rw [hs]; simp)]
      exact D2.1
end Tm
end Go.Proofs.Ytjhghfndhpaapaa
