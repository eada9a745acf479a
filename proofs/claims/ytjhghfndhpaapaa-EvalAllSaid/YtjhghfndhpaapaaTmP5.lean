/-
The library's sort on a list of numbers that are all different; what Vars of layer term has made ahead of its loop.
Vars of layer term: what holds ahead of each round of its loop, and between the calls of its closure.
-/
import Derived.Test.YtjhghfndhpaapaaTmDfs
import Derived.Test.YtjhghfndhpaapaaTmShelf
import Derived.Sort.OwnSortedInts
import Derived.Laws.MakeOwn
namespace Go.Proofs.Ytjhghfndhpaapaa
open Go.RowKit Go.Maps Go.Sort Bv
namespace Tm
set_option maxHeartbeats 1000000
set_option maxRecDepth 100000

theorem rising_extI : ∀ (l l' : List Int), l.Pairwise (· < ·) → l'.Pairwise (· < ·) → (∀ x, x ∈ l ↔ x ∈ l') → l = l'
  | [], [], _, _, _ => rfl
  | [], b :: l', _, _, h => by have := (h b).2 (by simp); simp at this
  | a :: l, [], _, _, h => by have := (h a).1 (by simp); simp at this
  | a :: l, b :: l', h1, h2, h => by
    rw [List.pairwise_cons] at h1 h2
    have e : a = b := by
      have ha := (h a).1 (by simp)
      have hb := (h b).2 (by simp)
      rw [List.mem_cons] at ha hb
      rcases ha with ha | ha
      · exact ha
      · rcases hb with hb | hb
        · exact hb.symm
        · have := h1.1 b hb; have := h2.1 a ha; omega
    subst e
    congr 1
    refine rising_extI l l' h1.2 h2.2 (fun x => ?_)
    have hx := h x
    rw [List.mem_cons, List.mem_cons] at hx
    constructor
    · intro hm
      rcases hx.1 (.inr hm) with c | c
      · have := h1.1 x hm; omega
      · exact c
    · intro hm
      rcases hx.2 (.inr hm) with c | c
      · have := h2.1 x hm; omega
      · exact c

theorem sorted_is {vs r : List Nat} (nd : vs.Nodup) (hr : r.Pairwise (· < ·)) (hm : ∀ x, x ∈ vs ↔ x ∈ r) :
    ((vs.map (fun i => ((i : Nat) : Int))).mergeSort fun x y => decide (x ≤ y)) = r.map (fun i => ((i : Nat) : Int)) := by
  refine rising_extI _ _ ?_ ?_ ?_
  · have hs := List.pairwise_mergeSort (le := fun x y : Int => decide (x ≤ y)) (fun a b c h1 h2 => by simp at *; omega) (fun a b => by simp; omega) (vs.map (fun i => ((i : Nat) : Int)))
    have hp := List.mergeSort_perm (vs.map (fun i => ((i : Nat) : Int))) (fun x y => decide (x ≤ y))
    have hn : ((vs.map (fun i => ((i : Nat) : Int))).mergeSort fun x y => decide (x ≤ y)).Nodup := by
      rw [hp.nodup_iff]
      rw [List.nodup_iff_pairwise_ne, List.pairwise_map]
      exact nd.imp (fun h e => h (by omega))
    have hb := hs.and hn
    exact hb.imp (fun {a b} h => by
      have h1 := h.1
      have h2 := h.2
      simp at h1
      omega)
  · rw [List.pairwise_map]
    exact hr.imp (fun h => by omega)
  · intro x
    have hp := List.mergeSort_perm (vs.map (fun i => ((i : Nat) : Int))) (fun x y => decide (x ≤ y))
    rw [hp.mem_iff, List.mem_map, List.mem_map]
    constructor
    · rintro ⟨i, h, rfl⟩; exact ⟨i, (hm i).1 h, rfl⟩
    · rintro ⟨i, h, rfl⟩; exact ⟨i, (hm i).2 h, rfl⟩

theorem todoRow_map (T : List Nat) : todoRow T = (T.map (fun i => ((i : Nat) : Int))).map (Value.int .i64) := by simp [todoRow]

/-- The sort, of a list that the call owns. -/
theorem sort_any {base : Nat} {W : World} {v : Value} {vs r : List Nat} (hown : W.ownsRow base 3 1 v vs.length (todoRow vs)) (nd : vs.Nodup) (hr : r.Pairwise (· < ·)) (hm : ∀ x, x ∈ vs ↔ x ∈ r) (hl : vs.length ≤ 1000000) :
    Calls Try.prog 27 #[v] W fun e W' => e = .returned (.tuple #[]) ∧ W'.ownsRow base 3 1 v r.length (todoRow r) ∧ Kept (fun k => v.ownBlock = some k) W W' := by
  have hs := sorted_is nd hr hm
  have hlen : vs.length = r.length := by
    have h1 := List.length_mergeSort (le := fun x y : Int => decide (x ≤ y)) (vs.map (fun i => ((i : Nat) : Int)))
    rw [hs] at h1
    simpa using h1.symm
  rcases hown with ⟨hl0, ⟨hv, hn⟩ | ⟨g, cap, cur, hv, hb, hh, h1, h2, h3, h4⟩⟩
  · have hr0 : r = [] := List.eq_nil_of_length_eq_zero (by omega)
    subst hv; subst hr0
    refine (Try.slices_Sort_int_none none 0 W).mono ?_
    rintro e w' ⟨rfl, rfl⟩
    exact ⟨rfl, World.ownsRow_nil _ _ _ _, Kept.refl _ _⟩
  · subst hv
    have ht : cur.toList.take (vs.map (fun i => ((i : Nat) : Int))).length = (vs.map (fun i => ((i : Nat) : Int))).map (Value.int .i64) := by
      rw [List.length_map, ← todoRow_map]
      simpa using h4
    have hc := Try.slices_Sort_int g 0 cap (vs.map (fun i => ((i : Nat) : Int))) W (holds_of_blockI hh ht) (Array.getElem?_eq_some_iff.1 hh).1 (by simp; omega)
    rw [List.length_map] at hc
    refine hc.mono ?_
    rintro e w' ⟨rfl, n, os, rfl⟩
    rw [hs]
    have hro := ownsRow_sortedI (w := W) (base := base) (g := g) (cap := cap) (n := n) (e := 3) (os := os) (cur := cur) (ss := (vs.map (fun i => ((i : Nat) : Int)))) (ts := r.map (fun i => ((i : Nat) : Int))) (by simp [hlen]) hb hh (by simpa using h1) h2 h3
    rw [List.length_map, ← todoRow_map] at hro
    refine ⟨rfl, ?_, ?_⟩
    · rw [← hlen]; exact hro
    · exact (Kept.refl _ W).grown (grownBy_sortedI _) (fun i e _ => e)

theorem info_bool : (Try.prog.info? 4).map (fun i => (i.zero, i.size, i.bytes)) = some (some (.bool false), 1, 1) := by kernel_rfl
theorem made_bool (id j : Nat) (hj : j < id + 1) : (madeCells #[Value.bool false] (id + 1))[j]? = some (.bool false) := by
  simp [madeCells, hj, Nat.mod_one]

/-- The marks, the list of what is to do, as they are at first. -/
theorem dfs_start (W : World) (id : Nat) :
    DfsAt W.heap.size (((W.alloc (.cells (madeCells #[Value.bool false] (id + 1)) 4)).alloc (.cells #[.slice (some ⟨W.heap.size, 0, none⟩) (id + 1) (id + 1)] 71)).alloc (.cells #[.slice none 0 0] 42))
      (W.heap.size + 1) (W.heap.size + 1 + 1) W.heap.size id (fun _ => false) (.slice none 0 0) [] := by
  generalize hC : (madeCells #[Value.bool false] (id + 1)) = C
  have hz : ∀ j, j < id + 1 → C[j]? = some (.bool false) := by rw [← hC]; exact made_bool id
  have s1 : (W.alloc (.cells C 4)).heap.size = W.heap.size + 1 := by simp
  have s2 : ((W.alloc (.cells C 4)).alloc (.cells #[.slice (some ⟨W.heap.size, 0, none⟩) (id + 1) (id + 1)] 71)).heap.size = W.heap.size + 1 + 1 := by simp
  have hs : (((W.alloc (.cells C 4)).alloc (.cells #[.slice (some ⟨W.heap.size, 0, none⟩) (id + 1) (id + 1)] 71)).alloc (.cells #[.slice none 0 0] 42)).heap[W.heap.size]? = some (.cells C 4 (0, 0)) := by
    rw [Below.heap_alloc _ _ _ (by omega), Below.heap_alloc _ _ _ (by omega)]
    exact (MapKept.heap_alloc W _).1
  have h6 : (((W.alloc (.cells C 4)).alloc (.cells #[.slice (some ⟨W.heap.size, 0, none⟩) (id + 1) (id + 1)] 71)).alloc (.cells #[.slice none 0 0] 42)).heap[W.heap.size + 1]? = some (.cells #[.slice (some ⟨W.heap.size, 0, none⟩) (id + 1) (id + 1)] 71 (0, 0)) := by
    rw [Below.heap_alloc _ _ _ (by omega)]
    have := (MapKept.heap_alloc (W.alloc (.cells C 4)) (.cells #[.slice (some ⟨W.heap.size, 0, none⟩) (id + 1) (id + 1)] 71)).1
    rw [s1] at this
    exact this
  have h7 : (((W.alloc (.cells C 4)).alloc (.cells #[.slice (some ⟨W.heap.size, 0, none⟩) (id + 1) (id + 1)] 71)).alloc (.cells #[.slice none 0 0] 42)).heap[W.heap.size + 1 + 1]? = some (.cells #[.slice none 0 0] 42 (0, 0)) := by
    have := (MapKept.heap_alloc ((W.alloc (.cells C 4)).alloc (.cells #[.slice (some ⟨W.heap.size, 0, none⟩) (id + 1) (id + 1)] 71)) (.cells #[.slice none 0 0] 42)).1
    rw [s2] at this
    exact this
  have hsz : (((W.alloc (.cells C 4)).alloc (.cells #[.slice (some ⟨W.heap.size, 0, none⟩) (id + 1) (id + 1)] 71)).alloc (.cells #[.slice none 0 0] 42)).heap.size = W.heap.size + 1 + 1 + 1 := by simp
  generalize (((W.alloc (.cells C 4)).alloc (.cells #[.slice (some ⟨W.heap.size, 0, none⟩) (id + 1) (id + 1)] 71)).alloc (.cells #[.slice none 0 0] 42)) = W3 at hs h6 h7 hsz ⊢
  refine ⟨by omega, by omega, by omega, by omega, by omega, by omega, by omega, by omega, by omega, ?_, fun j hj => ?_, fun j => ?_, ?_, fun j => ?_, World.ownsRow_nil _ _ _ _, by simp [Value.ownBlock], by simp [Value.ownBlock], by simp [Value.ownBlock]⟩
  · unfold World.cell?; rw [h6]; rfl
  · unfold World.cell?; rw [hs]; exact hz j hj
  · unfold World.frozen?; rw [hs]; simp
  · unfold World.cell?; rw [h7]; rfl
  · unfold World.frozen?; rw [h7]; simp

theorem DfsAt.popped {base : Nat} {w : World} {b6 b7 bs id g i c : Nat} {seen : Nat → Bool} {T : List Nat} (h : DfsAt base w b6 b7 bs id seen (.slice (some ⟨g, 0, none⟩) (T.length + 1) c) (T ++ [i])) :
    DfsAt base (w.setCell ⟨b7, 0, none⟩ (.slice (some ⟨g, 0, none⟩) T.length c)) b6 b7 bs id seen (.slice (some ⟨g, 0, none⟩) T.length c) T := by
  have hs2 : (w.setCell ⟨b7, 0, none⟩ (.slice (some ⟨g, 0, none⟩) T.length c)).heap.size = w.heap.size := by simp [World.setCell]
  have t7 := h.t7
  refine ⟨h.g6, h.g7, h.gs, h.n67, h.n6s, h.n7s, by rw [hs2]; exact h.l6, by rw [hs2]; exact h.l7, by rw [hs2]; exact h.ls, ?_, fun j hj => ?_, fun j => ?_, ?_, fun j => ?_, ?_, h.t6, h.t7, h.ts⟩
  · rw [World.cell?_setCell_far _ _ _ _ (by simpa using h.n67.symm)]; exact h.c6
  · rw [World.cell?_setCell_far _ _ _ _ (by simpa using h.n7s)]; exact h.cs j hj
  · rw [World.frozen?_setCell]; exact h.fs j
  · exact World.cell?_setCell_same' _ _ _ (by rw [h.c7]; rfl)
  · rw [World.frozen?_setCell]; exact h.f7 j
  · have hrow : w.ownsRow base 3 1 (.slice (some ⟨g, 0, none⟩) T.length c) T.length (todoRow T) := by
      rcases h.row with ⟨hl, ⟨h1, _⟩ | ⟨g', cap, cur, hv, hb, hh, hn, hc, hz, ht⟩⟩
      · simp at h1
      · simp only [List.length_append, List.length_cons, List.length_nil, Value.slice.injEq, Option.some.injEq, Addr.mk.injEq] at hv
        obtain ⟨⟨rfl, _⟩, _, rfl⟩ := hv
        refine ⟨by simp [todoRow], .inr ⟨g, c, cur, rfl, hb, hh, by simp at hn; omega, hc, hz, ?_⟩⟩
        have e : cur.toList.take (T.length * 1) = (cur.toList.take ((T ++ [i]).length * 1)).take T.length := by
          rw [List.take_take]
          congr 1
          simp
        rw [e, ht]
        simp [todoRow]
    exact row_setCell hrow _ (fun e => t7 (by simpa [Value.ownBlock] using e))

/-- What is last to do. -/
theorem DfsAt.last {base : Nat} {w : World} {b6 b7 bs id i : Nat} {seen : Nat → Bool} {tv : Value} {T : List Nat} (h : DfsAt base w b6 b7 bs id seen tv (T ++ [i])) :
    ∃ g c, tv = .slice (some ⟨g, 0, none⟩) (T.length + 1) c ∧ T.length + 1 ≤ c ∧ g < w.heap.size ∧ w.cell? ⟨g, T.length, none⟩ = some (.int .i64 ((i : Nat) : Int)) := by
  have hr := h.row
  rcases h.row with ⟨hl, ⟨_, h2⟩ | ⟨g, cap, cur, hv, hb, hh, hn, _⟩⟩
  · simp at h2
  · refine ⟨g, cap, by rw [hv]; simp, by simpa using hn, (Array.getElem?_eq_some_iff.1 hh).1, ?_⟩
    have hc := hr.cells (g := g) (by rw [hv]; rfl) T.length (.int .i64 ((i : Nat) : Int)) (by simp [todoRow])
    have e : (⟨g, 0, none⟩ : Addr).add T.length = ⟨g, T.length, none⟩ := by
      unfold Addr.add
      split <;> simp_all
    rw [e] at hc
    exact hc

end Tm
end Go.Proofs.Ytjhghfndhpaapaa

namespace Go.Proofs.Ytjhghfndhpaapaa
open Go.RowKit Go.Maps Bv
namespace Tm
set_option maxHeartbeats 400000
set_option maxRecDepth 100000

/-- What holds ahead of each round. -/
def VarsRel (L : List Nd) (W : World) (b6 b7 bs id : Nat) (gk : Nat) (v8 : Value) (wr : World) : Prop :=
  ∃ seen tv T vs k', DfsAt W.heap.size wr b6 b7 bs id seen tv T ∧ Inv L id seen T vs k' 4 ∧ wr.ownsRow W.heap.size 3 1 v8 vs.length (todoRow vs) ∧
    (v8.ownBlock ≠ some b6 ∧ v8.ownBlock ≠ some b7 ∧ v8.ownBlock ≠ some bs) ∧ (∀ g, v8.ownBlock = some g → tv.ownBlock ≠ some g) ∧ Below W.heap.size W wr ∧ meas id seen T = gk

/-- What holds between the calls of the closure in the round of node k. -/
structure Mid (L : List Nd) (W : World) (b6 b7 bs id k : Nat) (x : Nd) (bx gk m : Nat) (v8 : Value) (seen : Nat → Bool) (tv : Value) (T vs : List Nat) (w : World) : Prop where
  d : DfsAt W.heap.size w b6 b7 bs id seen tv T
  i : Inv L id seen T vs k m
  row : w.ownsRow W.heap.size 3 1 v8 vs.length (todoRow vs)
  ne : v8.ownBlock ≠ some b6 ∧ v8.ownBlock ≠ some b7 ∧ v8.ownBlock ≠ some bs
  ap : ∀ g, v8.ownBlock = some g → tv.ownBlock ≠ some g
  bel : Below W.heap.size W w
  box : At7 w bx (.int .u8 ((x.o : Nat) : Int)) (.int .u8 ((x.w : Nat) : Int)) (.int .i64 x.k0) (.int .i64 x.k1) (.int .i64 x.k2) (.int .u64 ((x.n : Nat) : Int)) (.int .u8 ((x.l : Nat) : Int))
  b7x : bx ≠ b7
  bsx : bx ≠ bs
  tvx : tv.ownBlock ≠ some bx
  ms : meas id seen T < gk
  sk : seen k = true
def MidE (L : List Nd) (W : World) (b6 b7 bs id k : Nat) (x : Nd) (bx gk m : Nat) (v8 : Value) (w : World) : Prop := ∃ seen tv T vs, Mid L W b6 b7 bs id k x bx gk m v8 seen tv T vs w

theorem MidE.box {L : List Nd} {W : World} {b6 b7 bs id k bx gk m : Nat} {x : Nd} {v8 : Value} {w : World} (h : MidE L W b6 b7 bs id k x bx gk m v8 w) :
    At7 w bx (.int .u8 ((x.o : Nat) : Int)) (.int .u8 ((x.w : Nat) : Int)) (.int .i64 x.k0) (.int .i64 x.k1) (.int .i64 x.k2) (.int .u64 ((x.n : Nat) : Int)) (.int .u8 ((x.l : Nat) : Int)) := by
  obtain ⟨_, _, _, _, h⟩ := h
  exact h.box

theorem mid_call {L : List Nd} {W : World} {b6 b7 bs id k bx gk m : Nat} {x : Nd} {v8 : Value} {w : World} (g : Gd L) (hid : id ≤ 900000) (hx : L[k]? = some x) (h : MidE L W b6 b7 bs id k x bx gk m v8 w) (hm : m < kc x.o) (q : Int) (hq : q = x.kid m) :
    Calls Try.prog 25 #[.int .i64 q, .pointer (some ⟨b6, 0, none⟩), .pointer (some ⟨b7, 0, none⟩)] w fun e w' => e = .returned (.tuple #[]) ∧ MidE L W b6 b7 bs id k x bx gk (m + 1) v8 w' := by
  obtain ⟨seen, tv, T, vs, M⟩ := h
  have hk := g.kid k x hx m hm
  have hkid := (M.i.re k M.sk).le g
  have hi : (x.kid m).toNat < id + 1 := by omega
  have hq' : q = (((x.kid m).toNat : Nat) : Int) := by omega
  subst hq
  rw [hq']
  refine (reach_any M.d M.bel.size hi (by have := M.i.len g; omega) (by omega)).mono ?_
  rintro e w' ⟨rfl, tv', D, K, loc⟩
  have hbase := M.bel.size
  have hb8 : ∀ gg, v8.ownBlock = some gg → ¬ dfoot b7 bs tv gg := fun gg e hc => by
    rcases hc with c | c | c
    · subst c; exact M.ne.2.1 e
    · subst c; exact M.ne.2.2 e
    · exact M.ap gg e c
  refine ⟨rfl, _, tv', _, vs, D, M.i.reach hx M.sk hm, row_kept M.row K hb8, M.ne, ?_, ?_, M.box.kept K ?_, M.b7x, M.bsx, ?_, Nat.lt_of_le_of_lt (meas_reach hi) M.ms, ?_⟩
  · intro gg e c
    rcases loc with l | ⟨g2, hg2, l⟩
    · rw [l] at c; exact M.ap gg e c
    · rw [l] at c
      have := (M.row.lt gg e).2
      simp at c
      omega
  · exact M.bel.trans (K.below (fun i hi hc => by
      rcases hc with c | c | c
      · have := M.d.g7; omega
      · have := M.d.gs; omega
      · have := (M.d.row.lt i c).1; omega) hbase)
  · rintro (c | c | c)
    · exact M.b7x c
    · exact M.bsx c
    · exact M.tvx c
  · rcases loc with l | ⟨g2, hg2, l⟩
    · rw [l]; exact M.tvx
    · rw [l]; intro c
      have := M.box.lt
      simp at c
      omega
  · unfold seen'
    split
    · exact M.sk
    · exact mark_mono M.sk

theorem MidE.rel {L : List Nd} {W : World} {b6 b7 bs id k bx gk m : Nat} {x : Nd} {v8 : Value} {w : World} (hx : L[k]? = some x) (h : MidE L W b6 b7 bs id k x bx gk m v8 w) (hm : kc x.o ≤ m) : ∃ gk', gk' < gk ∧ VarsRel L W b6 b7 bs id gk' v8 w := by
  obtain ⟨seen, tv, T, vs, M⟩ := h
  exact ⟨_, M.ms, seen, tv, T, vs, k, M.d, M.i.closed hx hm, M.row, M.ne, M.ap, M.bel, rfl⟩

theorem MidE.drew {L : List Nd} {W : World} {b6 b7 bs id k bx gk m : Nat} {x : Nd} {v8 : Value} {w : World} (h : MidE L W b6 b7 bs id k x bx gk m v8 w) : MidE L W b6 b7 bs id k x bx gk m v8 w.drew := by
  obtain ⟨seen, tv, T, vs, M⟩ := h
  exact ⟨seen, tv, T, vs, M.d.call (Below.refl _ _).drew, M.i, M.row, M.ne, M.ap, M.bel.drew, M.box.drew, M.b7x, M.bsx, M.tvx, M.ms, M.sk⟩

/-- Behind the round's first steps: the last is taken off what is to do, the node lies in a box. -/
theorem mid_start {L : List Nd} {W wr : World} {b6 b7 bs id k k' g c : Nat} {x : Nd} {v8 : Value} {seen : Nat → Bool} {T0 vs : List Nat} (hD : DfsAt W.heap.size wr b6 b7 bs id seen (.slice (some ⟨g, 0, none⟩) (T0.length + 1) c) (T0 ++ [k])) (hI : Inv L id seen (T0 ++ [k]) vs k' 4)
    (hrow : wr.ownsRow W.heap.size 3 1 v8 vs.length (todoRow vs)) (hne : v8.ownBlock ≠ some b6 ∧ v8.ownBlock ≠ some b7 ∧ v8.ownBlock ≠ some bs) (hap : ∀ gg, v8.ownBlock = some gg → Value.ownBlock (.slice (some ⟨g, 0, none⟩) (T0.length + 1) c) ≠ some gg) (hbel : Below W.heap.size W wr)
    (hx : L[k]? = some x) (ho : ¬ x.o = 2) {n0 : Nat} (hn : n0 = T0.length) :
    MidE L W b6 b7 bs id k x wr.heap.size (meas id seen (T0 ++ [k])) 0 v8 ((wr.setCell ⟨b7, 0, none⟩ (.slice (some ⟨g, 0, none⟩) n0 c)).alloc (.cells #[.int .u8 ((x.o : Nat) : Int), .int .u8 ((x.w : Nat) : Int), .int .i64 x.k0, .int .i64 x.k1, .int .i64 x.k2, .int .u64 ((x.n : Nat) : Int), .int .u8 ((x.l : Nat) : Int)] 62)) := by
  subst hn
  have hs : (wr.setCell ⟨b7, 0, none⟩ (.slice (some ⟨g, 0, none⟩) T0.length c)).heap.size = wr.heap.size := by simp [World.setCell]
  have l7 := hD.l7
  have ls := hD.ls
  have lg := hD.row.lt g rfl
  have A := At7.new (wr.setCell ⟨b7, 0, none⟩ (.slice (some ⟨g, 0, none⟩) T0.length c)) (.int .u8 ((x.o : Nat) : Int)) (.int .u8 ((x.w : Nat) : Int)) (.int .i64 x.k0) (.int .i64 x.k1) (.int .i64 x.k2) (.int .u64 ((x.n : Nat) : Int)) (.int .u8 ((x.l : Nat) : Int)) 62
  rw [hs] at A
  refine ⟨seen, _, T0, vs, hD.popped.call ((Below.refl _ _).alloc (Nat.le_refl _) _), hI.pop hx ho, (row_setCell hrow _ hne.2.1).alloc _, hne, fun gg e => hap gg e, (hbel.setCell hD.g7 _).alloc (by rw [hs]; have := hD.g7; omega) _, A, by omega, by omega, ?_, meas_pop, hI.ts k (by simp)⟩
  simp [Value.ownBlock]
  omega

/-- The same of a variable, whose number has come to the others. -/
theorem mid_var {L : List Nd} {W wr w2 : World} {b6 b7 bs id k k' g c : Nat} {x : Nd} {v8 v9 : Value} {seen : Nat → Bool} {T0 vs : List Nat} {o : Obj} (gd : Gd L) (hD : DfsAt W.heap.size wr b6 b7 bs id seen (.slice (some ⟨g, 0, none⟩) (T0.length + 1) c) (T0 ++ [k])) (hI : Inv L id seen (T0 ++ [k]) vs k' 4)
    (hrow : wr.ownsRow W.heap.size 3 1 v8 vs.length (todoRow vs)) (hne : v8.ownBlock ≠ some b6 ∧ v8.ownBlock ≠ some b7 ∧ v8.ownBlock ≠ some bs) (hap : ∀ gg, v8.ownBlock = some gg → Value.ownBlock (.slice (some ⟨g, 0, none⟩) (T0.length + 1) c) ≠ some gg) (hbel : Below W.heap.size W wr)
    (hx : L[k]? = some x) (ho : x.o = 2) {n0 : Nat} (hn : n0 = T0.length)
    (hg2 : (((wr.setCell ⟨b7, 0, none⟩ (.slice (some ⟨g, 0, none⟩) n0 c)).alloc (.cells #[.int .u8 ((x.o : Nat) : Int), .int .u8 ((x.w : Nat) : Int), .int .i64 x.k0, .int .i64 x.k1, .int .i64 x.k2, .int .u64 ((x.n : Nat) : Int), .int .u8 ((x.l : Nat) : Int)] 62)).alloc o).grownBy w2 v8.ownBlock)
    (hrow2 : w2.ownsRow W.heap.size 3 1 v9 (vs.length + 1) (todoRow vs ++ [.int .i64 ((x.n : Nat) : Int)])) (hloc : v9.ownBlock = v8.ownBlock ∨ v9.ownBlock = some (wr.heap.size + 1 + 1)) :
    MidE L W b6 b7 bs id k x wr.heap.size (meas id seen (T0 ++ [k])) 0 v9 w2 := by
  subst hn
  have hs : (wr.setCell ⟨b7, 0, none⟩ (.slice (some ⟨g, 0, none⟩) T0.length c)).heap.size = wr.heap.size := by simp [World.setCell]
  have l6 := hD.l6
  have l7 := hD.l7
  have ls := hD.ls
  have g7 := hD.g7
  have lg := hD.row.lt g rfl
  have l8 : ∀ gg, v8.ownBlock = some gg → gg < wr.heap.size := fun gg e => (hrow.lt gg e).2
  have A := At7.new (wr.setCell ⟨b7, 0, none⟩ (.slice (some ⟨g, 0, none⟩) T0.length c)) (.int .u8 ((x.o : Nat) : Int)) (.int .u8 ((x.w : Nat) : Int)) (.int .i64 x.k0) (.int .i64 x.k1) (.int .i64 x.k2) (.int .u64 ((x.n : Nat) : Int)) (.int .u8 ((x.l : Nat) : Int)) 62
  rw [hs] at A
  have A2 := A.alloc o
  have D2 := (hD.popped.call ((Below.refl _ _).alloc (Nat.le_refl _) (.cells #[.int .u8 ((x.o : Nat) : Int), .int .u8 ((x.w : Nat) : Int), .int .i64 x.k0, .int .i64 x.k1, .int .i64 x.k2, .int .u64 ((x.n : Nat) : Int), .int .u8 ((x.l : Nat) : Int)] 62))).call ((Below.refl _ _).alloc (Nat.le_refl _) o)
  have hbel2 := ((hbel.setCell g7 (.slice (some ⟨g, 0, none⟩) T0.length c)).alloc (by rw [hs]; omega) (.cells #[.int .u8 ((x.o : Nat) : Int), .int .u8 ((x.w : Nat) : Int), .int .i64 x.k0, .int .i64 x.k1, .int .i64 x.k2, .int .u64 ((x.n : Nat) : Int), .int .u8 ((x.l : Nat) : Int)] 62)).alloc (by simp [World.setCell]; omega) o
  have hsz : (((wr.setCell ⟨b7, 0, none⟩ (.slice (some ⟨g, 0, none⟩) T0.length c)).alloc (.cells #[.int .u8 ((x.o : Nat) : Int), .int .u8 ((x.w : Nat) : Int), .int .i64 x.k0, .int .i64 x.k1, .int .i64 x.k2, .int .u64 ((x.n : Nat) : Int), .int .u8 ((x.l : Nat) : Int)] 62)).alloc o).heap.size = wr.heap.size + 1 + 1 := by simp [World.setCell]
  generalize (((wr.setCell ⟨b7, 0, none⟩ (.slice (some ⟨g, 0, none⟩) T0.length c)).alloc (.cells #[.int .u8 ((x.o : Nat) : Int), .int .u8 ((x.w : Nat) : Int), .int .i64 x.k0, .int .i64 x.k1, .int .i64 x.k2, .int .u64 ((x.n : Nat) : Int), .int .u8 ((x.l : Nat) : Int)] 62)).alloc o) = w1 at hg2 A2 D2 hbel2 hsz
  have K : Kept (fun i => v8.ownBlock = some i) w1 w2 := (Kept.refl _ w1).grown hg2 (fun i e _ => e)
  have v9n : ∀ b, b < wr.heap.size + 1 → v8.ownBlock ≠ some b → v9.ownBlock ≠ some b := by
    intro b hb hn
    rcases hloc with e | e
    · rw [e]; exact hn
    · rw [e]; intro c; simp at c; omega
  refine ⟨seen, _, T0, vs ++ [x.n], D2.kept K hne.1 hne.2.1 hne.2.2 (fun gg e c => hap gg c e), hI.popVar gd hx ho, ?_, ⟨v9n _ (by omega) hne.1, v9n _ (by omega) hne.2.1, v9n _ (by omega) hne.2.2⟩, ?_, ?_, A2.kept K (fun c => by have := l8 _ c; omega), by omega, by omega, ?_, meas_pop, hI.ts k (by simp)⟩
  · simpa [todoRow] using hrow2
  · intro gg e c
    simp only [Value.ownBlock, Option.some.injEq] at c
    subst c
    exact v9n g (by omega) (fun c => hap g c rfl) e
  · exact hbel2.trans (K.below (fun i hi c => by have := (hrow.lt i c).1; omega) (by rw [hsz]; have := hbel.size; omega))
  · simp [Value.ownBlock]
    omega
end Tm
end Go.Proofs.Ytjhghfndhpaapaa
