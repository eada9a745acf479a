/-
add of layer term: a node more, as a fact on one call.
The reader of layer text: a node and those below it, as a fact on one call.
-/
import Derived.Test.YtjinjddcnjcffaaDoorPt09
import Derived.Deep.RegionHeld3
import Derived.Test.YtjinjddcnjcffaaDoorTxHeadB
import Derived.Deep.RegionLaw
import Derived.Deep.LoopGhost
namespace Go.Proofs.YtjinjddcnjcffaaDoor
open Go.RowKit Go.Maps Bv
namespace Tm
set_option maxHeartbeats 1000000
set_option maxRecDepth 100000

theorem cell_new7 (w : World) (x0 x1 x2 x3 x4 x5 x6 : Value) (t : TypeId) : ∀ j u, [x0, x1, x2, x3, x4, x5, x6][j]? = some u → (w.alloc (.cells #[x0, x1, x2, x3, x4, x5, x6] t)).cell? ((⟨w.heap.size, 0, none⟩ : Addr).add j) = some u := by
  intro j u hj
  have A := At7.new w x0 x1 x2 x3 x4 x5 x6 t
  obtain ⟨a0, a1, a2, a3, a4, a5, a6⟩ := A
  match j, hj with
  | 0, hj => simp at hj; subst hj; exact a0
  | 1, hj => simp at hj; subst hj; exact a1
  | 2, hj => simp at hj; subst hj; exact a2
  | 3, hj => simp at hj; subst hj; exact a3
  | 4, hj => simp at hj; subst hj; exact a4
  | 5, hj => simp at hj; subst hj; exact a5
  | 6, hj => simp at hj; subst hj; exact a6

theorem one7 (x : Nd) : ∀ u ∈ x.cells.toList, u.oneCell' = true := by
  intro u hu
  simp only [Nd.cells, List.mem_cons, List.not_mem_nil, or_false] at hu
  rcases hu with rfl | rfl | rfl | rfl | rfl | rfl | rfl <;> rfl

/-- Behind the append. -/
theorem after_append {B : Nat} {w w2 : World} {p m : Nat} {sv : Value} {L : List Nd} (S : StoreAt B w p m sv L) (hg : w.grownBy w2 sv.ownBlock) :
    w2.cell? ⟨p, 0, none⟩ = some sv ∧ w2.cell? ⟨p, 1, none⟩ = some (.map (some m)) ∧ w2.frozen? ⟨p, 0, none⟩ = false := by
  have hp : some p ≠ sv.ownBlock := fun e => S.gp e.symm
  exact ⟨hg.cell S.c0 hp, hg.cell S.c1 hp, (World.frozen?_of_block (w := w) (hg.block p S.lt hp)).trans (S.fr 0)⟩

theorem added_mk {B : Nat} {W W1 w2 w4 : World} {p m : Nat} {sv v : Value} {L : List Nd} {x : Nd} (S : StoreAt B W p m sv L) (S1 : StoreAt B W1 p m sv L) (k1 : Below W.heap.size W W1)
    (hrow : w2.ownsRow B 44 7 v (L.length + 1) (rowOf L ++ x.cells.toList)) (hg : W1.grownBy w2 sv.ownBlock) (hloc : v.ownBlock = sv.ownBlock ∨ v.ownBlock = some W1.heap.size)
    {D : DataW Unit} (hown : w4.ownsMap Tryd.prog 44 (plainElem (H := Unit) Tryd.prog 3) m (L.length + 1) D) (ht : Table (L ++ [x]) D) (hg4 : (w2.setCell ⟨p, 0, none⟩ v).grownBy w4 (some m)) :
    Added B W w4 p m sv v L x := by
  have hp : some p ≠ sv.ownBlock := fun e => S.gp e.symm
  have hpm : some p ≠ some m := fun e => S.pm (by simpa using e)
  have lt2 : p < w2.heap.size := Nat.lt_of_lt_of_le S1.lt hg.size
  have hb4 : w4.heap[p]? = (w2.setCell ⟨p, 0, none⟩ v).heap[p]? := hg4.block p (by simpa [World.setCell] using lt2) hpm
  have hc4 : ∀ o, w4.cell? ⟨p, o, none⟩ = (w2.setCell ⟨p, 0, none⟩ v).cell? ⟨p, o, none⟩ := fun o => World.cell?_of_block hb4
  have hf4 : ∀ o, w4.frozen? ⟨p, o, none⟩ = (w2.setCell ⟨p, 0, none⟩ v).frozen? ⟨p, o, none⟩ := fun o => World.frozen?_of_block hb4
  have hc2 : ∀ o, w2.cell? ⟨p, o, none⟩ = W1.cell? ⟨p, o, none⟩ := fun o => World.cell?_of_block (w := W1) (hg.block p S1.lt hp)
  have hf2 : ∀ o, w2.frozen? ⟨p, o, none⟩ = W1.frozen? ⟨p, o, none⟩ := fun o => World.frozen?_of_block (w := W1) (hg.block p S1.lt hp)
  have hw1 : W.heap.size ≤ W1.heap.size := k1.size
  have kk : Kept (foot p m sv) W w4 := by
    refine ((((Kept.refl _ W).call k1).grown hg (fun i h _ => .inr (.inr h))).setCell ⟨p, 0, none⟩ v (fun _ => .inl rfl)).grown hg4 (fun i h _ => .inr (.inl ?_))
    simpa using h.symm
  have hvp : v.ownBlock ≠ some p := by
    rcases hloc with e | e
    · rw [e]; exact S.gp
    · rw [e]; intro c; have := S.lt; simp at c; omega
  have hvm : v.ownBlock ≠ some m := by
    rcases hloc with e | e
    · rw [e]; exact S.gm
    · rw [e]; intro c; have := S.lm; simp at c; omega
  refine ⟨kk, ?_, ?_, fun i hi => ?_, fun o => ?_, ?_, hloc.imp id (fun e => ⟨_, hw1, e⟩), ⟨D, hown, ht⟩⟩
  · rw [hc4]; exact World.cell?_setCell_same' _ _ _ (by rw [hc2, S1.c0]; rfl)
  · rw [hc4, World.cell?_setCell_other _ _ _ _ (by simp), hc2]; exact S1.c1
  · rw [hc4, World.cell?_setCell_other _ _ _ _ (by simp), hc2]; exact S1.cw i hi
  · rw [hf4, World.frozen?_setCell, hf2]; exact S1.fr o
  · exact (row_setCell hrow _ hvp).kept hg4 (.inr hvm)

theorem add_o (o w n l : Nat) (k0 k1 k2 : Int) (B p m : Nat) (sv : Value) (L : List Nd) (W : World) (S : StoreAt B W p m sv L) (hB : B ≤ W.heap.size) (hx : Nd.Ok ⟨o, w, k0, k1, k2, n, l⟩)
    (hn : ¬ Nd.mk o w k0 k1 k2 n l ∈ L) (hl : L.length < 200000) (hG : Hid (Gd (L ++ [⟨o, w, k0, k1, k2, n, l⟩]))) (d2 : ((o : Int) == 2) = false) (ho : ¬ o = 2) :
    Calls Tryd.prog 32 #[.pointer (some ⟨p, 0, none⟩), .agg #[.int .u8 o, .int .u8 w, .int .i64 k0, .int .i64 k1, .int .i64 k2, .int .u64 n, .int .u8 l]] W fun e W' => e = .returned (.int .i64 ((L.length : Nat) : Int)) ∧
      ∃ v, StoreAt B W' p m v (L ++ [⟨o, w, k0, k1, k2, n, l⟩]) ∧ Kept (foot p m sv) W W' ∧ (v.ownBlock = sv.ownBlock ∨ ∃ g, W.heap.size ≤ g ∧ v.ownBlock = some g) := by
  obtain ⟨a, c, rfl⟩ := S.shape
  obtain ⟨i, z, hi, hz, hzs, hsz, hby⟩ := info_nd_parts
  have S1 := ((S.alloc (.cells #[.int .u8 o, .int .u8 w, .int .i64 k0, .int .i64 k1, .int .i64 k2, .int .u64 n, .int .u8 l] 44)).drew).alloc (.cells #[.int .u8 o, .int .u8 w, .int .i64 k0, .int .i64 k1, .int .i64 k2, .int .u64 n, .int .u8 l] 44)
  have HS1 := Lib.hid S1
  have kb1 : Below W.heap.size W (((W.alloc (.cells #[.int .u8 o, .int .u8 w, .int .i64 k0, .int .i64 k1, .int .i64 k2, .int .u64 n, .int .u8 l] 44)).drew).alloc (.cells #[.int .u8 o, .int .u8 w, .int .i64 k0, .int .i64 k1, .int .i64 k2, .int .u64 n, .int .u8 l] 44)) := bel_alloc (bel_alloc (Below.refl _ _) _).drew _
  have HN : ∀ j u, (Nd.cells ⟨o, w, k0, k1, k2, n, l⟩).toList[j]? = some u → (((W.alloc (.cells #[.int .u8 o, .int .u8 w, .int .i64 k0, .int .i64 k1, .int .i64 k2, .int .u64 n, .int .u8 l] 44)).drew).alloc (.cells #[.int .u8 o, .int .u8 w, .int .i64 k0, .int .i64 k1, .int .i64 k2, .int .u64 n, .int .u8 l] 44)).cell? ((⟨W.heap.size + 1, 0, none⟩ : Addr).add j) = some u := by
    have h := cell_new7 ((W.alloc (.cells #[.int .u8 o, .int .u8 w, .int .i64 k0, .int .i64 k1, .int .i64 k2, .int .u64 n, .int .u8 l] 44)).drew) (.int .u8 o) (.int .u8 w) (.int .i64 k0) (.int .i64 k1) (.int .i64 k2) (.int .u64 n) (.int .u8 l) 44
    have e : ((W.alloc (.cells #[.int .u8 o, .int .u8 w, .int .i64 k0, .int .i64 k1, .int .i64 k2, .int .u64 n, .int .u8 l] 44)).drew).heap.size = W.heap.size + 1 := by simp
    rw [e] at h
    exact h
  have A1 := ((At7.new W (.int .u8 o) (.int .u8 w) (.int .i64 k0) (.int .i64 k1) (.int .i64 k2) (.int .u64 n) (.int .u8 l) 44).drew).alloc (.cells #[.int .u8 o, .int .u8 w, .int .i64 k0, .int .i64 k1, .int .i64 k2, .int .u64 n, .int .u8 l] 44)
  have hB1 : B ≤ (((W.alloc (.cells #[.int .u8 o, .int .u8 w, .int .i64 k0, .int .i64 k1, .int .i64 k2, .int .u64 n, .int .u8 l] 44)).drew).alloc (.cells #[.int .u8 o, .int .u8 w, .int .i64 k0, .int .i64 k1, .int .i64 k2, .int .u64 n, .int .u8 l] 44)).heap.size := by simp; omega
  have hsz1 : W.heap.size < (((W.alloc (.cells #[.int .u8 o, .int .u8 w, .int .i64 k0, .int .i64 k1, .int .i64 k2, .int .u64 n, .int .u8 l] 44)).drew).alloc (.cells #[.int .u8 o, .int .u8 w, .int .i64 k0, .int .i64 k1, .int .i64 k2, .int .u64 n, .int .u8 l] 44)).heap.size := by simp; omega
  have lp := S.lt
  have lp1 : p < W.heap.size + 1 := by omega
  have c0 := S.c0
  have HA1 := Lib.hid A1
  have HHN := Lib.hid HN
  clear HN S1 A1
  go_enter Tryd.func32, Tryd.ntmps32
  go_wp2_with fail
  go_region_law (refine step_append_at rfl (.tmp 15) (.tmp 17) 23 rfl B 44 i z 7 48 Tryd.underlying23 hi hz hsz hby hzs (by decide) (.slice a L.length c) L.length (rowOf L) (by simp [Act.eval]) HS1.out.row ⟨W.heap.size + 1, 0, none⟩ 1 1 (Nd.cells ⟨o, w, k0, k1, k2, n, l⟩).toList (by simp [Act.eval]) rfl HHN.out (one7 _) (by unfold maxLen; omega) (by omega) hB1 ?_; intro v' w2 hrow hgr hloc; obtain ⟨g', c', rfl, hBg, hg'⟩ := row_slice hrow; obtain ⟨C0, C1, F0⟩ := after_append HS1.out hgr)
  all_goals
    have HH : Hid (∃ w4, (Instr.mapUpdate 24 (.map (some m)) (.agg #[.int .u8 o, .int .u8 w, .int .i64 k0, .int .i64 k1, .int .i64 k2, .int .u64 n, .int .u8 l]) (.int .i64 ((L.length : Nat) : Int))).run Tryd.prog (w2.setCell ⟨p, 0, none⟩ (.slice (some ⟨g', 0, none⟩) (L.length + 1) c')).drew = .ok () w4 ∧ Added B W w4 p m (.slice a L.length c) (.slice (some ⟨g', 0, none⟩) (L.length + 1) c') L ⟨o, w, k0, k1, k2, n, l⟩ ∧ At7 w4 W.heap.size (.int .u8 o) (.int .u8 w) (.int .i64 k0) (.int .i64 k1) (.int .i64 k2) (.int .u64 n) (.int .u8 l)) := by
      obtain ⟨D, hD, hT⟩ := HS1.out.tab
      have hm2 : m < w2.heap.size := Nat.lt_of_lt_of_le HS1.out.lm hgr.size
      have D2 := (hD.kept hgr (fun e => S.gm e.symm)).setCell (a := ⟨p, 0, none⟩) (fun e => S.pm e.symm) (.slice (some ⟨g', 0, none⟩) (L.length + 1) c')
      obtain ⟨w4, hrun, ho, hg4⟩ := (D2.drew).update law_nd Tryd.underlying24 (by unfold maxLen; omega) (key_nd ⟨o, w, k0, k1, k2, n, l⟩ hx) (plainElem_int (H := Unit) Tryd.underlying3 (wf_i64 (n := ((L.length : Nat) : Int)) (by unfold I64; omega)))
      refine ⟨w4, hrun, added_mk S HS1.out kb1 hrow hgr hloc ho (hT.add S.good.ok hx hn) ⟨hg4.os, hg4.tape, hg4.output, hg4.size, hg4.block⟩, ?_⟩
      have hge : Value.ownBlock (.slice a L.length c) ≠ some W.heap.size := by
        intro e
        have := (S.row.lt _ e).2
        omega
      have A2 := HA1.out.move (w' := w2) (fun o => World.cell?_of_block (hgr.block W.heap.size hsz1 (fun e => hge e.symm)))
      have A3 := A2.move (w' := (w2.setCell ⟨p, 0, none⟩ (.slice (some ⟨g', 0, none⟩) (L.length + 1) c')).drew) (fun o => World.cell?_setCell_far w2 _ _ _ (by simp; omega))
      exact A3.move (w' := w4) (fun o => World.cell?_of_block (hg4.block W.heap.size A3.lt (fun e => by have := S.lm; simp at e; omega)))
  all_goals
    have A2 : At7 w2 W.heap.size (.int .u8 o) (.int .u8 w) (.int .i64 k0) (.int .i64 k1) (.int .i64 k2) (.int .u64 n) (.int .u8 l) := by
      have hge : Value.ownBlock (.slice a L.length c) ≠ some W.heap.size := by
        intro e
        have := (S.row.lt _ e).2
        omega
      exact HA1.out.move (w' := w2) (fun o => World.cell?_of_block (hgr.block W.heap.size hsz1 (fun e => hge e.symm)))
    have A3 := A2.move (w' := (w2.setCell ⟨p, 0, none⟩ (.slice (some ⟨g', 0, none⟩) (L.length + 1) c'))) (fun o => World.cell?_setCell_far w2 _ _ _ (by simp; omega))
    obtain ⟨w4, hrun, had, A4⟩ := HH.out
    have C30 : (w2.setCell ⟨p, 0, none⟩ (.slice (some ⟨g', 0, none⟩) (L.length + 1) c')).cell? ⟨p, 1, none⟩ = some (.map (some m)) := by
      rw [World.cell?_setCell_other _ _ _ _ (by simp)]; exact C1
    clear HH hrow hgr hloc A2
    have HAD := Lib.hid had
    clear had
    unfold At7 at A3 A4
    go_wp2_with fail
    go_region
  all_goals go_wp2_with fail
  all_goals go_ret
  all_goals exact ⟨rfl, _, HAD.out.plain S hG.out ho, HAD.out.keep, HAD.out.loc⟩

theorem add_v (w n l : Nat) (k0 k1 k2 : Int) (B p m : Nat) (sv : Value) (L : List Nd) (W : World) (S : StoreAt B W p m sv L) (hB : B ≤ W.heap.size) (hx : Nd.Ok ⟨2, w, k0, k1, k2, n, l⟩)
    (hn : ¬ Nd.mk 2 w k0 k1 k2 n l ∈ L) (hl : L.length < 200000) (hG : Hid (Gd (L ++ [⟨2, w, k0, k1, k2, n, l⟩]))) (hn2 : n < 256) :
    Calls Tryd.prog 32 #[.pointer (some ⟨p, 0, none⟩), .agg #[.int .u8 2, .int .u8 w, .int .i64 k0, .int .i64 k1, .int .i64 k2, .int .u64 n, .int .u8 l]] W fun e W' => e = .returned (.int .i64 ((L.length : Nat) : Int)) ∧
      ∃ v, StoreAt B W' p m v (L ++ [⟨2, w, k0, k1, k2, n, l⟩]) ∧ Kept (foot p m sv) W W' ∧ (v.ownBlock = sv.ownBlock ∨ ∃ g, W.heap.size ≤ g ∧ v.ownBlock = some g) := by
  obtain ⟨a, c, rfl⟩ := S.shape
  obtain ⟨i, z, hi, hz, hzs, hsz, hby⟩ := info_nd_parts
  have S1 := ((S.alloc (.cells #[.int .u8 2, .int .u8 w, .int .i64 k0, .int .i64 k1, .int .i64 k2, .int .u64 n, .int .u8 l] 44)).drew).alloc (.cells #[.int .u8 2, .int .u8 w, .int .i64 k0, .int .i64 k1, .int .i64 k2, .int .u64 n, .int .u8 l] 44)
  have HS1 := Lib.hid S1
  have kb1 : Below W.heap.size W (((W.alloc (.cells #[.int .u8 2, .int .u8 w, .int .i64 k0, .int .i64 k1, .int .i64 k2, .int .u64 n, .int .u8 l] 44)).drew).alloc (.cells #[.int .u8 2, .int .u8 w, .int .i64 k0, .int .i64 k1, .int .i64 k2, .int .u64 n, .int .u8 l] 44)) := bel_alloc (bel_alloc (Below.refl _ _) _).drew _
  have HN : ∀ j u, (Nd.cells ⟨2, w, k0, k1, k2, n, l⟩).toList[j]? = some u → (((W.alloc (.cells #[.int .u8 2, .int .u8 w, .int .i64 k0, .int .i64 k1, .int .i64 k2, .int .u64 n, .int .u8 l] 44)).drew).alloc (.cells #[.int .u8 2, .int .u8 w, .int .i64 k0, .int .i64 k1, .int .i64 k2, .int .u64 n, .int .u8 l] 44)).cell? ((⟨W.heap.size + 1, 0, none⟩ : Addr).add j) = some u := by
    have h := cell_new7 ((W.alloc (.cells #[.int .u8 2, .int .u8 w, .int .i64 k0, .int .i64 k1, .int .i64 k2, .int .u64 n, .int .u8 l] 44)).drew) (.int .u8 2) (.int .u8 w) (.int .i64 k0) (.int .i64 k1) (.int .i64 k2) (.int .u64 n) (.int .u8 l) 44
    have e : ((W.alloc (.cells #[.int .u8 2, .int .u8 w, .int .i64 k0, .int .i64 k1, .int .i64 k2, .int .u64 n, .int .u8 l] 44)).drew).heap.size = W.heap.size + 1 := by simp
    rw [e] at h
    exact h
  have A1 := ((At7.new W (.int .u8 2) (.int .u8 w) (.int .i64 k0) (.int .i64 k1) (.int .i64 k2) (.int .u64 n) (.int .u8 l) 44).drew).alloc (.cells #[.int .u8 2, .int .u8 w, .int .i64 k0, .int .i64 k1, .int .i64 k2, .int .u64 n, .int .u8 l] 44)
  have hB1 : B ≤ (((W.alloc (.cells #[.int .u8 2, .int .u8 w, .int .i64 k0, .int .i64 k1, .int .i64 k2, .int .u64 n, .int .u8 l] 44)).drew).alloc (.cells #[.int .u8 2, .int .u8 w, .int .i64 k0, .int .i64 k1, .int .i64 k2, .int .u64 n, .int .u8 l] 44)).heap.size := by simp; omega
  have hsz1 : W.heap.size < (((W.alloc (.cells #[.int .u8 2, .int .u8 w, .int .i64 k0, .int .i64 k1, .int .i64 k2, .int .u64 n, .int .u8 l] 44)).drew).alloc (.cells #[.int .u8 2, .int .u8 w, .int .i64 k0, .int .i64 k1, .int .i64 k2, .int .u64 n, .int .u8 l] 44)).heap.size := by simp; omega
  have lp := S.lt
  have lp1 : p < W.heap.size + 1 := by omega
  have c0 := S.c0
  have HA1 := Lib.hid A1
  have HHN := Lib.hid HN
  clear HN S1 A1
  go_enter Tryd.func32, Tryd.ntmps32
  go_wp2_with fail
  go_region_law (refine step_append_at rfl (.tmp 15) (.tmp 17) 23 rfl B 44 i z 7 48 Tryd.underlying23 hi hz hsz hby hzs (by decide) (.slice a L.length c) L.length (rowOf L) (by simp [Act.eval]) HS1.out.row ⟨W.heap.size + 1, 0, none⟩ 1 1 (Nd.cells ⟨2, w, k0, k1, k2, n, l⟩).toList (by simp [Act.eval]) rfl HHN.out (one7 _) (by unfold maxLen; omega) (by omega) hB1 ?_; intro v' w2 hrow hgr hloc; obtain ⟨g', c', rfl, hBg, hg'⟩ := row_slice hrow; obtain ⟨C0, C1, F0⟩ := after_append HS1.out hgr)
  all_goals
    have HH : Hid (∃ w4, (Instr.mapUpdate 24 (.map (some m)) (.agg #[.int .u8 2, .int .u8 w, .int .i64 k0, .int .i64 k1, .int .i64 k2, .int .u64 n, .int .u8 l]) (.int .i64 ((L.length : Nat) : Int))).run Tryd.prog (w2.setCell ⟨p, 0, none⟩ (.slice (some ⟨g', 0, none⟩) (L.length + 1) c')).drew = .ok () w4 ∧ Added B W w4 p m (.slice a L.length c) (.slice (some ⟨g', 0, none⟩) (L.length + 1) c') L ⟨2, w, k0, k1, k2, n, l⟩ ∧ At7 w4 W.heap.size (.int .u8 2) (.int .u8 w) (.int .i64 k0) (.int .i64 k1) (.int .i64 k2) (.int .u64 n) (.int .u8 l)) := by
      obtain ⟨D, hD, hT⟩ := HS1.out.tab
      have hm2 : m < w2.heap.size := Nat.lt_of_lt_of_le HS1.out.lm hgr.size
      have D2 := (hD.kept hgr (fun e => S.gm e.symm)).setCell (a := ⟨p, 0, none⟩) (fun e => S.pm e.symm) (.slice (some ⟨g', 0, none⟩) (L.length + 1) c')
      obtain ⟨w4, hrun, ho, hg4⟩ := (D2.drew).update law_nd Tryd.underlying24 (by unfold maxLen; omega) (key_nd ⟨2, w, k0, k1, k2, n, l⟩ hx) (plainElem_int (H := Unit) Tryd.underlying3 (wf_i64 (n := ((L.length : Nat) : Int)) (by unfold I64; omega)))
      refine ⟨w4, hrun, added_mk S HS1.out kb1 hrow hgr hloc ho (hT.add S.good.ok hx hn) ⟨hg4.os, hg4.tape, hg4.output, hg4.size, hg4.block⟩, ?_⟩
      have hge : Value.ownBlock (.slice a L.length c) ≠ some W.heap.size := by
        intro e
        have := (S.row.lt _ e).2
        omega
      have A2 := HA1.out.move (w' := w2) (fun o => World.cell?_of_block (hgr.block W.heap.size hsz1 (fun e => hge e.symm)))
      have A3 := A2.move (w' := (w2.setCell ⟨p, 0, none⟩ (.slice (some ⟨g', 0, none⟩) (L.length + 1) c')).drew) (fun o => World.cell?_setCell_far w2 _ _ _ (by simp; omega))
      exact A3.move (w' := w4) (fun o => World.cell?_of_block (hg4.block W.heap.size A3.lt (fun e => by have := S.lm; simp at e; omega)))
  all_goals
    have A2 : At7 w2 W.heap.size (.int .u8 2) (.int .u8 w) (.int .i64 k0) (.int .i64 k1) (.int .i64 k2) (.int .u64 n) (.int .u8 l) := by
      have hge : Value.ownBlock (.slice a L.length c) ≠ some W.heap.size := by
        intro e
        have := (S.row.lt _ e).2
        omega
      exact HA1.out.move (w' := w2) (fun o => World.cell?_of_block (hgr.block W.heap.size hsz1 (fun e => hge e.symm)))
    have A3 := A2.move (w' := (w2.setCell ⟨p, 0, none⟩ (.slice (some ⟨g', 0, none⟩) (L.length + 1) c'))) (fun o => World.cell?_setCell_far w2 _ _ _ (by simp; omega))
    obtain ⟨w4, hrun, had, A4⟩ := HH.out
    have C30 : (w2.setCell ⟨p, 0, none⟩ (.slice (some ⟨g', 0, none⟩) (L.length + 1) c')).cell? ⟨p, 1, none⟩ = some (.map (some m)) := by
      rw [World.cell?_setCell_other _ _ _ _ (by simp)]; exact C1
    clear HH hrow hgr hloc A2
    have HAD := Lib.hid had
    clear had
    unfold At7 at A3 A4
    go_wp2_with fail
    go_region
  all_goals go_wp2_with fail
  all_goals
    have Cw := HAD.out.cw n hn2
    have Fw := HAD.out.fr (2 + n)
    have hn3 : (n : Int) < 256 := by omega
    have hn4 : (0 : Int) ≤ (n : Int) := by omega
    go_region
  all_goals go_wp2_with fail
  all_goals go_ret
  all_goals exact ⟨rfl, _, (HAD.out.var S hG.out rfl hn2).1.drew, (HAD.out.var S hG.out rfl hn2).2.drew, HAD.out.loc⟩

/-- add, for every node that is to be added. -/
theorem add_any {B p m : Nat} {sv : Value} {L : List Nd} {x : Nd} {W : World} (S : StoreAt B W p m sv L) (hB : B ≤ W.heap.size) (hx : x.Ok) (hm : mayN L x = true) (hn : ¬ x ∈ L) (hl : L.length < 200000)
    (hw : ¬ (x.o = 2 ∧ ¬ wdOf L x.n = 0 ∧ ¬ wdOf L x.n = x.w)) :
    Calls Tryd.prog 32 #[.pointer (some ⟨p, 0, none⟩), x.val] W fun e W' => e = .returned (.int .i64 ((L.length : Nat) : Int)) ∧
      ∃ v, StoreAt B W' p m v (L ++ [x]) ∧ Kept (foot p m sv) W W' ∧ (v.ownBlock = sv.ownBlock ∨ ∃ g, W.heap.size ≤ g ∧ v.ownBlock = some g) := by
  have hG := Added.good S.good hx hm hn hl hw
  have hv := fun h => mayN_var hm h
  obtain ⟨o, w, k0, k1, k2, n, l⟩ := x
  by_cases ho : o = 2
  · subst ho
    exact add_v w n l k0 k1 k2 B p m sv L W S hB hx hn hl hG (hv rfl)
  · exact add_o o w n l k0 k1 k2 B p m sv L W S hB hx hn hl hG (by simp; omega) ho
end Tm
end Go.Proofs.YtjinjddcnjcffaaDoor

namespace Go.Proofs.YtjinjddcnjcffaaDoor
open Go.RowKit Go.Maps Bv Tm
namespace Tx
set_option maxHeartbeats 3200000
set_option maxRecDepth 100000

/-- What a call of node has done. -/
def NodeR (F : Nat → Prop) (r : Nat) (w : World) (x : Option (By × List Nd)) : Ending → World → Prop :=
  Reads F r w x (fun p => .int .i64 ((p.2.length : Nat) - 1 : Int)) (fun p => p.1) (fun p => p.2)

/-- Behind the append of a node that was read, and the store. -/
theorem rd_appended {F G : Nat → Prop} {r bx : Nat} {W u w2 : World} {s : By} {ns : List Nd} {x : Nd} {tx : ByteArray} {v v' : Value} {o : Obj} (h : RdAt G r tx v s ns u) (hB : BS F G r W bx s ns x u)
    (hrow : w2.ownsRow 0 44 7 v' (ns.length + 1) (rowOf ns ++ x.cells.toList)) (hg : (u.drew.alloc o).grownBy w2 v.ownBlock) (hloc : v'.ownBlock = v.ownBlock ∨ v'.ownBlock = some (u.drew.alloc o).heap.size) :
    RdE F r s (ns ++ [x]) (w2.setCell ⟨r, 1, none⟩ v') ∧ Kept F W (w2.setCell ⟨r, 1, none⟩ v') ∧ w2.cell? ⟨r, 1, none⟩ = some v ∧ w2.frozen? ⟨r, 1, none⟩ = false := by
  have lr := h.lt
  have kb : Below u.heap.size u (u.drew.alloc o) := bel_alloc (Below.refl _ _).drew _
  have ls : (u.drew.alloc o).heap.size = u.heap.size + 1 := by simp
  have K1 : Kept G u w2 := ((Kept.ofBelow kb G)).grown hg (fun i hi _ => h.fo i hi)
  have lr1 : r < (u.drew.alloc o).heap.size := by omega
  have nr : some r ≠ v.ownBlock := Ne.symm h.gp
  have hc : ∀ q, w2.cell? ⟨r, q, none⟩ = u.cell? ⟨r, q, none⟩ := fun q => by
    rw [World.cell?_of_block (w := u.drew.alloc o) (hg.block r lr1 nr)]
    exact kb.cell (p := ⟨r, q, none⟩) lr
  have hf : ∀ q, w2.frozen? ⟨r, q, none⟩ = u.frozen? ⟨r, q, none⟩ := fun q => by
    rw [World.frozen?_of_block (w := u.drew.alloc o) (hg.block r lr1 nr)]
    exact kb.frozen (p := ⟨r, q, none⟩) lr
  have nb' : v'.ownBlock ≠ some r := by
    rcases hloc with e | e
    · rw [e]; exact h.gp
    · rw [e]; intro c; simp at c; omega
  refine ⟨⟨tx, v', ?_, h.tx, ?_, fun q => ?_, ?_, nb', hB.gf _ h.fb, ?_, fun i hi => hB.gf _ (h.fn i ?_)⟩, (hB.k.trans (K1.mono (fun i _ c => hB.gf i c))).setCell _ _ (fun _ => hB.gf _ h.fb), ?_, ?_⟩
  · rw [World.cell?_setCell_other _ _ _ _ (by simp), hc]; exact h.c0
  · exact World.cell?_setCell_same _ _ _ ((hc 1).trans h.c1)
  · rw [World.frozen?_setCell, hf]; exact h.fr q
  · have q := row_setCell hrow v' (a := ⟨r, 1, none⟩) nb'
    rw [rowOf_append, List.length_append]
    exact q
  · intro g e
    rcases hloc with c | c
    · rw [c] at e; exact hB.gf _ (h.fo g e)
    · rw [c] at e; simp at e; exact hB.gf _ (h.fn g (by omega))
  · have : w2.heap.size ≤ i := by simpa using hi
    have := K1.size
    omega
  · rw [hc]; exact h.c1
  · rw [hf]; exact h.fr 1

theorem rnode_const {F : Nat → Prop} {r : Nat} {s s1 : By} {ns : List Nd} {W : World} (h : RdE F r s ns W) (hE : EnvAt F W) (hs : s.length ≤ 10000) (hnl : ns.length + s.length ≤ 10000) (hh : s = 35 :: s1) :
    Calls Tryd.prog 21 #[.pointer (some ⟨r, 0, none⟩)] W (NodeR F r W ((sho s1).bind fun p => (need 58 p.2).bind fun r => (num r).map fun q => (q.2, ns ++ [⟨1, p.1, 0, 0, 0, q.1, 0⟩]))) := by
  have hb0 : Below W.heap.size W (W.alloc (.cells zNd.cells 44)) := bel_alloc (Below.refl _ _) _
  have R0 := h.apart hb0 (Nat.le_refl _) (by simp)
  obtain ⟨bx, hbx⟩ : ∃ bx, W.heap.size = bx := ⟨_, rfl⟩
  obtain ⟨G, hG⟩ : ∃ G : Nat → Prop, G = (fun i => F i ∧ i ≠ bx) := ⟨_, rfl⟩
  rw [hbx, ← hG] at R0
  have HFB : F bx := by obtain ⟨_, _, h⟩ := h; exact h.fn _ (by omega)
  have B0 : BS F G r W bx s ns zNd (W.alloc (.cells #[.int .u8 0, .int .u8 0, .int .i64 0, .int .i64 0, .int .i64 0, .int .u64 0, .int .u8 0] 44)) := ⟨R0, Kept.ofBelow hb0 F, by rw [← hbx]; exact NdAt.new W zNd _, hE.call hb0, fun i c => by rw [hG] at c; exact c.1, fun c => by rw [hG] at c; exact c.2 rfl, HFB⟩
  have HB0 := Lib.hid B0
  have HS := Lib.hid hs
  have HNL := Lib.hid hnl
  clear B0 R0 hG hs hnl h hE HFB hb0
  subst hh
  go_enter Tryd.func21, Tryd.ntmps21
  go_wp2_with fail
  try simp only [hbx]
  generalize (W.alloc (.cells #[.int .u8 0, .int .u8 0, .int .i64 0, .int .i64 0, .int .i64 0, .int .u64 0, .int .u8 0] 44)) = X at HB0 ⊢
  clear hbx
  have HL1 : Hid (s1.length ≤ 1000000) := Lib.hid (by have := HS.out; simp at this; omega)
  go_wp2_with (
     go_at_call 25
     refine (rhas_any HB0.out.rd 35).mono ?_
     rintro e a0 ⟨rfl, h7, k7⟩
     rw [show has1 35 (35 :: s1) = true from rfl]
     rw [show aft 35 (35 :: s1) = s1 from rfl] at h7
     have NA := Lib.hid (HB0.out.call h7 k7)
     clear h7 k7
     refine Hid.out ?_)
  refine Lib.hid ?_
  go_wp2_with (
     go_at_call 26
     refine (rsho_any NA.out.rd NA.out.envG HL1.out).mono ?_
     intro e a1 h7
     rcases hq : sho s1 with _ | ⟨v1, s2⟩
     · rw [hq] at h7
       obtain ⟨rfl, k7⟩ := h7
       exact ⟨rfl, by unfold NodeR; simp only [hq, Option.bind_none]; exact ⟨rfl, NA.out.k.trans (k7.mono (fun i _ c => NA.out.gf i c))⟩⟩
     rw [hq] at h7
     obtain ⟨rfl, h7, k7⟩ := h7
     have NB := Lib.hid (NA.out.call h7 k7)
     have E1 := Lib.hid hq
     have g0 := NB.out.box.1.1
     have g1 := NB.out.box.2 0
     have g2 := NB.out.box.1.2.1
     have g3 := NB.out.box.2 1
     have HU1 := Lib.hid (Nat.le_trans (sho_len hq) HL1.out)
     clear h7 k7 hq
     refine Hid.out ?_)
  refine Lib.hid ?_
  have NC : Hid (BS F G r W bx s2 ns ⟨1, v1, 0, 0, 0, 0, 0⟩ ((a1.setCell ⟨bx, 0, none⟩ (.int .u8 1)).setCell ⟨bx, 1, none⟩ (.int .u8 ((v1 : Nat) : Int)))) := (NB.out.set (i := 0) (x' := ⟨1, 0, 0, 0, 0, 0, 0⟩) (by omega) rfl (by intro j hj hne; rcases j with _ | _ | _ | _ | _ | _ | _ | j <;> first | rfl | omega)).set (i := 1) (by omega) rfl (by intro j hj hne; rcases j with _ | _ | _ | _ | _ | _ | _ | j <;> first | rfl | omega)
  go_wp2_with (
     go_at_call 27
     refine (rneed_any NC.out.rd).mono ?_
     intro e a2 h7
     rcases hq : need 58 s2 with _ | s3
     · rw [hq] at h7
       obtain ⟨rfl, k7⟩ := h7
       exact ⟨rfl, by unfold NodeR; simp only [E1.out, hq, Option.bind_some, Option.bind_none]; exact ⟨rfl, NC.out.k.trans (k7.mono (fun i _ c => NC.out.gf i c))⟩⟩
     rw [hq] at h7
     obtain ⟨rfl, h7, k7⟩ := h7
     have ND := Lib.hid (NC.out.call h7 k7)
     have E2 := Lib.hid hq
     have HU2 := Lib.hid (need_len hq)
     clear h7 k7 hq
     refine Hid.out ?_)
  refine Lib.hid ?_
  have HL3 : Hid (s3.length ≤ 1000000) := Lib.hid (by have := HU1.out; have := HU2.out; omega)
  go_wp2_with (
     go_at_call 28
     refine (rnum_any ND.out.rd ND.out.envG HL3.out).mono ?_
     intro e a3 h7
     rcases hq : num s3 with _ | ⟨v2, s4⟩
     · rw [hq] at h7
       obtain ⟨rfl, k7⟩ := h7
       exact ⟨rfl, by unfold NodeR; simp only [E1.out, E2.out, hq, Option.bind_some, Option.map_none]; exact ⟨rfl, ND.out.k.trans (k7.mono (fun i _ c => ND.out.gf i c))⟩⟩
     rw [hq] at h7
     obtain ⟨rfl, h7, k7⟩ := h7
     have NE := Lib.hid (ND.out.call h7 k7)
     have E3 := Lib.hid hq
     have g0 := NE.out.box.1.2.2.2.2.2.1
     have g1 := NE.out.box.2 5
     clear h7 k7 hq
     refine Hid.out ?_)
  refine Lib.hid ?_
  have NF : Hid (BS F G r W bx s4 ns ⟨1, v1, 0, 0, 0, v2, 0⟩ (a3.setCell ⟨bx, 5, none⟩ (.int .u64 ((v2 : Nat) : Int)))) := NE.out.set (i := 5) (by omega) rfl (by intro j hj hne; rcases j with _ | _ | _ | _ | _ | _ | _ | j <;> first | rfl | omega)
  go_wp2_with fail
  obtain ⟨U, hU⟩ : ∃ U, (a3.setCell ⟨bx, 5, none⟩ (.int .u64 ((v2 : Nat) : Int))) = U := ⟨_, rfl⟩
  have BU : Hid (BS F G r W bx s4 ns (⟨1, v1, 0, 0, 0, v2, 0⟩ : Nd) U) := Lib.hid (by rw [← hU]; exact NF.out)
  rw [hU]
  clear hU
  obtain ⟨tx, v, hrd⟩ := BU.out.rd
  have c1 := hrd.c1
  have lr := hrd.lt
  have lbx := BU.out.box.lt
  have f0 : U.cell? ⟨bx, 0, none⟩ = some (.int .u8 1) := BU.out.box.1.1
  have f1 : U.cell? ⟨bx, 1, none⟩ = some (.int .u8 ((v1 : Nat) : Int)) := BU.out.box.1.2.1
  have f2 : U.cell? ⟨bx, 2, none⟩ = some (.int .i64 0) := BU.out.box.1.2.2.1
  have f3 : U.cell? ⟨bx, 3, none⟩ = some (.int .i64 0) := BU.out.box.1.2.2.2.1
  have f4 : U.cell? ⟨bx, 4, none⟩ = some (.int .i64 0) := BU.out.box.1.2.2.2.2.1
  have f5 : U.cell? ⟨bx, 5, none⟩ = some (.int .u64 ((v2 : Nat) : Int)) := BU.out.box.1.2.2.2.2.2.1
  have f6 : U.cell? ⟨bx, 6, none⟩ = some (.int .u8 0) := BU.out.box.1.2.2.2.2.2.2
  have HRD := Lib.hid hrd
  have HROW := Lib.hid (((row_kept hrd.row (Kept.ofBelow (bel_alloc (Below.refl _ _).drew (.cells #[.int .u8 1, .int .u8 ((v1 : Nat) : Int), .int .i64 0, .int .i64 0, .int .i64 0, .int .u64 ((v2 : Nat) : Int), .int .u8 0] 44)) (fun _ => False)) (fun _ _ c => c))))
  obtain ⟨a, c, hv⟩ := row_shape hrd.row
  subst hv
  clear hrd
  obtain ⟨i, z, hi, hz, hzs, hsz, hby⟩ := info_nd_parts
  have HW9 : Hid (wrap64 ((ns.length : Nat) : Int) = ((ns.length : Nat) : Int)) := Lib.hid (by have := HNL.out; unfold wrap64; rw [← IntKind.wrap_i64, IntKind.wrap_i64]; omega)
  have HHN : Hid (∀ j q, (Nd.cells (⟨1, v1, 0, 0, 0, v2, 0⟩ : Nd)).toList[j]? = some q → (U.drew.alloc (.cells #[.int .u8 1, .int .u8 ((v1 : Nat) : Int), .int .i64 0, .int .i64 0, .int .i64 0, .int .u64 ((v2 : Nat) : Int), .int .u8 0] 44)).cell? ((⟨U.heap.size, 0, none⟩ : Addr).add j) = some q) := Lib.hid (cell_new7 U.drew _ _ _ _ _ _ _ _)
  go_region_law (refine step_append_at rfl (.tmp 53) (.tmp 55) 23 rfl 0 44 i z 7 48 Tryd.underlying23 hi hz hsz hby hzs (by decide) (.slice a ns.length c) ns.length (rowOf ns) (by simp [Act.eval]) HROW.out ⟨U.heap.size, 0, none⟩ 1 1 (Nd.cells (⟨1, v1, 0, 0, 0, v2, 0⟩ : Nd)).toList (by simp [Act.eval]) rfl HHN.out (one7 _) (by have := HNL.out; unfold maxLen; omega) (by have := HNL.out; omega) (Nat.zero_le _) ?_; intro v' w2 hrow hgr hloc; obtain ⟨g', c', rfl, hBg, hg'⟩ := row_slice hrow; obtain ⟨E1, E2, C1, F1⟩ := rd_appended HRD.out BU.out hrow hgr hloc)
  all_goals
    have HE1 := Lib.hid E1
    have HE2 := Lib.hid E2
    have C3 : (w2.setCell ⟨r, 1, none⟩ (.slice (some ⟨g', 0, none⟩) (ns.length + 1) c')).cell? ⟨r, 1, none⟩ = some (.slice (some ⟨g', 0, none⟩) (ns.length + 1) c') := World.cell?_setCell_same _ _ _ C1
    clear hrow hgr hloc E1 E2
    go_wp2_with fail
    exact bodyPost_ret (v := .int .i64 ((((ns ++ [(⟨1, v1, 0, 0, 0, v2, 0⟩ : Nd)]).length : Nat) : Int) - 1)) (by simp [results, Tryd.results21, go_sem, HW9.out]) rfl (by unfold NodeR; simp only [E1.out, E2.out, E3.out, Option.bind_some, Option.map_some]; exact ⟨by simp, HE1.out, HE2.out⟩)

theorem rnode_var {F : Nat → Prop} {r : Nat} {s s1 : By} {ns : List Nd} {W : World} (h : RdE F r s ns W) (hE : EnvAt F W) (hs : s.length ≤ 10000) (hnl : ns.length + s.length ≤ 10000) (hh : s = 118 :: s1) :
    Calls Tryd.prog 21 #[.pointer (some ⟨r, 0, none⟩)] W (NodeR F r W ((num s1).bind fun p => (need 58 p.2).bind fun r => (sho r).map fun q => (q.2, ns ++ [⟨2, q.1, 0, 0, 0, p.1, 0⟩]))) := by
  have hb0 : Below W.heap.size W (W.alloc (.cells zNd.cells 44)) := bel_alloc (Below.refl _ _) _
  have R0 := h.apart hb0 (Nat.le_refl _) (by simp)
  obtain ⟨bx, hbx⟩ : ∃ bx, W.heap.size = bx := ⟨_, rfl⟩
  obtain ⟨G, hG⟩ : ∃ G : Nat → Prop, G = (fun i => F i ∧ i ≠ bx) := ⟨_, rfl⟩
  rw [hbx, ← hG] at R0
  have HFB : F bx := by obtain ⟨_, _, h⟩ := h; exact h.fn _ (by omega)
  have B0 : BS F G r W bx s ns zNd (W.alloc (.cells #[.int .u8 0, .int .u8 0, .int .i64 0, .int .i64 0, .int .i64 0, .int .u64 0, .int .u8 0] 44)) := ⟨R0, Kept.ofBelow hb0 F, by rw [← hbx]; exact NdAt.new W zNd _, hE.call hb0, fun i c => by rw [hG] at c; exact c.1, fun c => by rw [hG] at c; exact c.2 rfl, HFB⟩
  have HB0 := Lib.hid B0
  have HS := Lib.hid hs
  have HNL := Lib.hid hnl
  clear B0 R0 hG hs hnl h hE HFB hb0
  subst hh
  go_enter Tryd.func21, Tryd.ntmps21
  go_wp2_with fail
  try simp only [hbx]
  generalize (W.alloc (.cells #[.int .u8 0, .int .u8 0, .int .i64 0, .int .i64 0, .int .i64 0, .int .u64 0, .int .u8 0] 44)) = X at HB0 ⊢
  clear hbx
  have HL1 : Hid (s1.length ≤ 1000000) := Lib.hid (by have := HS.out; simp at this; omega)
  go_wp2_with (
     go_at_call 25
     refine (rhas_any HB0.out.rd 35).mono ?_
     rintro e a9 ⟨rfl, h7, k7⟩
     rw [show has1 35 (118 :: s1) = false from rfl]
     rw [show aft 35 (118 :: s1) = 118 :: s1 from rfl] at h7
     have NZ := Lib.hid (HB0.out.call h7 k7)
     clear h7 k7
     refine Hid.out ?_)
  refine Lib.hid ?_
  go_wp2_with (
     go_at_call 25
     refine (rhas_any NZ.out.rd 118).mono ?_
     rintro e a0 ⟨rfl, h7, k7⟩
     rw [show has1 118 (118 :: s1) = true from rfl]
     rw [show aft 118 (118 :: s1) = s1 from rfl] at h7
     have NA := Lib.hid (NZ.out.call h7 k7)
     clear h7 k7
     refine Hid.out ?_)
  refine Lib.hid ?_
  go_wp2_with (
     go_at_call 28
     refine (rnum_any NA.out.rd NA.out.envG HL1.out).mono ?_
     intro e a1 h7
     rcases hq : num s1 with _ | ⟨v1, s2⟩
     · rw [hq] at h7
       obtain ⟨rfl, k7⟩ := h7
       exact ⟨rfl, by unfold NodeR; simp only [hq, Option.bind_none]; exact ⟨rfl, NA.out.k.trans (k7.mono (fun i _ c => NA.out.gf i c))⟩⟩
     rw [hq] at h7
     obtain ⟨rfl, h7, k7⟩ := h7
     have NB := Lib.hid (NA.out.call h7 k7)
     have E1 := Lib.hid hq
     have g0 := NB.out.box.1.1
     have g1 := NB.out.box.2 0
     have g2 := NB.out.box.1.2.2.2.2.2.1
     have g3 := NB.out.box.2 5
     have HU1 := Lib.hid (Nat.le_trans (num_len hq) HL1.out)
     clear h7 k7 hq
     refine Hid.out ?_)
  refine Lib.hid ?_
  have NC : Hid (BS F G r W bx s2 ns ⟨2, 0, 0, 0, 0, v1, 0⟩ ((a1.setCell ⟨bx, 0, none⟩ (.int .u8 2)).setCell ⟨bx, 5, none⟩ (.int .u64 ((v1 : Nat) : Int)))) := (NB.out.set (i := 0) (x' := ⟨2, 0, 0, 0, 0, 0, 0⟩) (by omega) rfl (by intro j hj hne; rcases j with _ | _ | _ | _ | _ | _ | _ | j <;> first | rfl | omega)).set (i := 5) (by omega) rfl (by intro j hj hne; rcases j with _ | _ | _ | _ | _ | _ | _ | j <;> first | rfl | omega)
  go_wp2_with (
     go_at_call 27
     refine (rneed_any NC.out.rd).mono ?_
     intro e a2 h7
     rcases hq : need 58 s2 with _ | s3
     · rw [hq] at h7
       obtain ⟨rfl, k7⟩ := h7
       exact ⟨rfl, by unfold NodeR; simp only [E1.out, hq, Option.bind_some, Option.bind_none]; exact ⟨rfl, NC.out.k.trans (k7.mono (fun i _ c => NC.out.gf i c))⟩⟩
     rw [hq] at h7
     obtain ⟨rfl, h7, k7⟩ := h7
     have ND := Lib.hid (NC.out.call h7 k7)
     have E2 := Lib.hid hq
     have HU2 := Lib.hid (need_len hq)
     clear h7 k7 hq
     refine Hid.out ?_)
  refine Lib.hid ?_
  have HL3 : Hid (s3.length ≤ 1000000) := Lib.hid (by have := HU1.out; have := HU2.out; omega)
  go_wp2_with (
     go_at_call 26
     refine (rsho_any ND.out.rd ND.out.envG HL3.out).mono ?_
     intro e a3 h7
     rcases hq : sho s3 with _ | ⟨v2, s4⟩
     · rw [hq] at h7
       obtain ⟨rfl, k7⟩ := h7
       exact ⟨rfl, by unfold NodeR; simp only [E1.out, E2.out, hq, Option.bind_some, Option.map_none]; exact ⟨rfl, ND.out.k.trans (k7.mono (fun i _ c => ND.out.gf i c))⟩⟩
     rw [hq] at h7
     obtain ⟨rfl, h7, k7⟩ := h7
     have NE := Lib.hid (ND.out.call h7 k7)
     have E3 := Lib.hid hq
     have g0 := NE.out.box.1.2.1
     have g1 := NE.out.box.2 1
     clear h7 k7 hq
     refine Hid.out ?_)
  refine Lib.hid ?_
  have NF : Hid (BS F G r W bx s4 ns ⟨2, v2, 0, 0, 0, v1, 0⟩ (a3.setCell ⟨bx, 1, none⟩ (.int .u8 ((v2 : Nat) : Int)))) := NE.out.set (i := 1) (by omega) rfl (by intro j hj hne; rcases j with _ | _ | _ | _ | _ | _ | _ | j <;> first | rfl | omega)
  go_wp2_with fail
  obtain ⟨U, hU⟩ : ∃ U, (a3.setCell ⟨bx, 1, none⟩ (.int .u8 ((v2 : Nat) : Int))) = U := ⟨_, rfl⟩
  have BU : Hid (BS F G r W bx s4 ns (⟨2, v2, 0, 0, 0, v1, 0⟩ : Nd) U) := Lib.hid (by rw [← hU]; exact NF.out)
  rw [hU]
  clear hU
  obtain ⟨tx, v, hrd⟩ := BU.out.rd
  have c1 := hrd.c1
  have lr := hrd.lt
  have lbx := BU.out.box.lt
  have f0 : U.cell? ⟨bx, 0, none⟩ = some (.int .u8 2) := BU.out.box.1.1
  have f1 : U.cell? ⟨bx, 1, none⟩ = some (.int .u8 ((v2 : Nat) : Int)) := BU.out.box.1.2.1
  have f2 : U.cell? ⟨bx, 2, none⟩ = some (.int .i64 0) := BU.out.box.1.2.2.1
  have f3 : U.cell? ⟨bx, 3, none⟩ = some (.int .i64 0) := BU.out.box.1.2.2.2.1
  have f4 : U.cell? ⟨bx, 4, none⟩ = some (.int .i64 0) := BU.out.box.1.2.2.2.2.1
  have f5 : U.cell? ⟨bx, 5, none⟩ = some (.int .u64 ((v1 : Nat) : Int)) := BU.out.box.1.2.2.2.2.2.1
  have f6 : U.cell? ⟨bx, 6, none⟩ = some (.int .u8 0) := BU.out.box.1.2.2.2.2.2.2
  have HRD := Lib.hid hrd
  have HROW := Lib.hid (((row_kept hrd.row (Kept.ofBelow (bel_alloc (Below.refl _ _).drew (.cells #[.int .u8 2, .int .u8 ((v2 : Nat) : Int), .int .i64 0, .int .i64 0, .int .i64 0, .int .u64 ((v1 : Nat) : Int), .int .u8 0] 44)) (fun _ => False)) (fun _ _ c => c))))
  obtain ⟨a, c, hv⟩ := row_shape hrd.row
  subst hv
  clear hrd
  obtain ⟨i, z, hi, hz, hzs, hsz, hby⟩ := info_nd_parts
  have HW9 : Hid (wrap64 ((ns.length : Nat) : Int) = ((ns.length : Nat) : Int)) := Lib.hid (by have := HNL.out; unfold wrap64; rw [← IntKind.wrap_i64, IntKind.wrap_i64]; omega)
  have HHN : Hid (∀ j q, (Nd.cells (⟨2, v2, 0, 0, 0, v1, 0⟩ : Nd)).toList[j]? = some q → (U.drew.alloc (.cells #[.int .u8 2, .int .u8 ((v2 : Nat) : Int), .int .i64 0, .int .i64 0, .int .i64 0, .int .u64 ((v1 : Nat) : Int), .int .u8 0] 44)).cell? ((⟨U.heap.size, 0, none⟩ : Addr).add j) = some q) := Lib.hid (cell_new7 U.drew _ _ _ _ _ _ _ _)
  go_region_law (refine step_append_at rfl (.tmp 53) (.tmp 55) 23 rfl 0 44 i z 7 48 Tryd.underlying23 hi hz hsz hby hzs (by decide) (.slice a ns.length c) ns.length (rowOf ns) (by simp [Act.eval]) HROW.out ⟨U.heap.size, 0, none⟩ 1 1 (Nd.cells (⟨2, v2, 0, 0, 0, v1, 0⟩ : Nd)).toList (by simp [Act.eval]) rfl HHN.out (one7 _) (by have := HNL.out; unfold maxLen; omega) (by have := HNL.out; omega) (Nat.zero_le _) ?_; intro v' w2 hrow hgr hloc; obtain ⟨g', c', rfl, hBg, hg'⟩ := row_slice hrow; obtain ⟨E1, E2, C1, F1⟩ := rd_appended HRD.out BU.out hrow hgr hloc)
  all_goals
    have HE1 := Lib.hid E1
    have HE2 := Lib.hid E2
    have C3 : (w2.setCell ⟨r, 1, none⟩ (.slice (some ⟨g', 0, none⟩) (ns.length + 1) c')).cell? ⟨r, 1, none⟩ = some (.slice (some ⟨g', 0, none⟩) (ns.length + 1) c') := World.cell?_setCell_same _ _ _ C1
    clear hrow hgr hloc E1 E2
    go_wp2_with fail
    exact bodyPost_ret (v := .int .i64 ((((ns ++ [(⟨2, v2, 0, 0, 0, v1, 0⟩ : Nd)]).length : Nat) : Int) - 1)) (by simp [results, Tryd.results21, go_sem, HW9.out]) rfl (by unfold NodeR; simp only [E1.out, E2.out, E3.out, Option.bind_some, Option.map_some]; exact ⟨by simp, HE1.out, HE2.out⟩)

end Tx
end Go.Proofs.YtjinjddcnjcffaaDoor
