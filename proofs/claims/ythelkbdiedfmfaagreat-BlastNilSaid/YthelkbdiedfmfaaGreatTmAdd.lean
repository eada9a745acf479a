/-
  add of layer term: a node more, as a fact on one call.
-/
import Derived.Test.YthelkbdiedfmfaaGreatTmAddA
import Derived.Deep.RegionHeld3
namespace Go.Proofs.YthelkbdiedfmfaaGreat
open Go.RowKit Go.Maps Bv
namespace Tm
set_option maxHeartbeats 1000000
set_option maxRecDepth 100000

theorem cell_new7 (w : World) (x0 x1 x2 x3 x4 x5 x6 : Value) (t : TypeId) : ∀ j u, [x0, x1, x2, x3, x4, x5, x6][j]? = some u → (w.alloc (.cells #[x0, x1, x2, x3, x4, x5, x6] t)).cell? ((⟨w.heap.size, 0, none⟩ : Addr).add j) = some u := by
  intro j u hj
  have A := At7.new w x0 x1 x2 x3 x4 x5 x6 t
  obtain ⟨a0, a1, a2, a3, a4, a5, a6⟩ := A
  match j, hj with
  | 0, hj => simp at hj; subst hj; exact a0
  | 1, hj => simp at hj; subst hj; exact a1
  | 2, hj => simp at hj; subst hj; exact a2
  | 3, hj => simp at hj; subst hj; exact a3
  | 4, hj => simp at hj; subst hj; exact a4
  | 5, hj => simp at hj; subst hj; exact a5
  | 6, hj => simp at hj; subst hj; exact a6

theorem one7 (x : Nd) : ∀ u ∈ x.cells.toList, u.oneCell' = true := by
  intro u hu
  simp only [Nd.cells, List.mem_cons, List.not_mem_nil, or_false] at hu
  rcases hu with rfl | rfl | rfl | rfl | rfl | rfl | rfl <;> rfl

/-- Behind the append. -/
theorem after_append {B : Nat} {w w2 : World} {p m : Nat} {sv : Value} {L : List Nd} (S : StoreAt B w p m sv L) (hg : w.grownBy w2 sv.ownBlock) :
    w2.cell? ⟨p, 0, none⟩ = some sv ∧ w2.cell? ⟨p, 1, none⟩ = some (.map (some m)) ∧ w2.frozen? ⟨p, 0, none⟩ = false := by
  have hp : some p ≠ sv.ownBlock := fun e => S.gp e.symm
  exact ⟨hg.cell S.c0 hp, hg.cell S.c1 hp, (World.frozen?_of_block (w := w) (hg.block p S.lt hp)).trans (S.fr 0)⟩

theorem added_mk {B : Nat} {W W1 w2 w4 : World} {p m : Nat} {sv v : Value} {L : List Nd} {x : Nd} (S : StoreAt B W p m sv L) (S1 : StoreAt B W1 p m sv L) (k1 : Below W.heap.size W W1)
    (hrow : w2.ownsRow B 56 7 v (L.length + 1) (rowOf L ++ x.cells.toList)) (hg : W1.grownBy w2 sv.ownBlock) (hloc : v.ownBlock = sv.ownBlock ∨ v.ownBlock = some W1.heap.size)
    {D : DataW Unit} (hown : w4.ownsMap Tryz.prog 56 (plainElem (H := Unit) Tryz.prog 3) m (L.length + 1) D) (ht : Table (L ++ [x]) D) (hg4 : (w2.setCell ⟨p, 0, none⟩ v).grownBy w4 (some m)) :
    Added B W w4 p m sv v L x := by
  have hp : some p ≠ sv.ownBlock := fun e => S.gp e.symm
  have hpm : some p ≠ some m := fun e => S.pm (by simpa using e)
  have lt2 : p < w2.heap.size := Nat.lt_of_lt_of_le S1.lt hg.size
  have hb4 : w4.heap[p]? = (w2.setCell ⟨p, 0, none⟩ v).heap[p]? := hg4.block p (by simpa [World.setCell] using lt2) hpm
  have hc4 : ∀ o, w4.cell? ⟨p, o, none⟩ = (w2.setCell ⟨p, 0, none⟩ v).cell? ⟨p, o, none⟩ := fun o => World.cell?_of_block hb4
  have hf4 : ∀ o, w4.frozen? ⟨p, o, none⟩ = (w2.setCell ⟨p, 0, none⟩ v).frozen? ⟨p, o, none⟩ := fun o => World.frozen?_of_block hb4
  have hc2 : ∀ o, w2.cell? ⟨p, o, none⟩ = W1.cell? ⟨p, o, none⟩ := fun o => World.cell?_of_block (w := W1) (hg.block p S1.lt hp)
  have hf2 : ∀ o, w2.frozen? ⟨p, o, none⟩ = W1.frozen? ⟨p, o, none⟩ := fun o => World.frozen?_of_block (w := W1) (hg.block p S1.lt hp)
  have hw1 : W.heap.size ≤ W1.heap.size := k1.size
  have kk : Kept (foot p m sv) W w4 := by
    refine ((((Kept.refl _ W).call k1).grown hg (fun i h _ => .inr (.inr h))).setCell ⟨p, 0, none⟩ v (fun _ => .inl rfl)).grown hg4 (fun i h _ => .inr (.inl ?_))
    simpa using h.symm
  have hvp : v.ownBlock ≠ some p := by
    rcases hloc with e | e
    · rw [e]; exact S.gp
    · rw [e]; intro c; have := S.lt; simp at c; omega
  have hvm : v.ownBlock ≠ some m := by
    rcases hloc with e | e
    · rw [e]; exact S.gm
    · rw [e]; intro c; have := S.lm; simp at c; omega
  refine ⟨kk, ?_, ?_, fun i hi => ?_, fun o => ?_, ?_, hloc.imp id (fun e => ⟨_, hw1, e⟩), ⟨D, hown, ht⟩⟩
  · rw [hc4]; exact World.cell?_setCell_same' _ _ _ (by rw [hc2, S1.c0]; rfl)
  · rw [hc4, World.cell?_setCell_other _ _ _ _ (by simp), hc2]; exact S1.c1
  · rw [hc4, World.cell?_setCell_other _ _ _ _ (by simp), hc2]; exact S1.cw i hi
  · rw [hf4, World.frozen?_setCell, hf2]; exact S1.fr o
  · exact (row_setCell hrow _ hvp).kept hg4 (.inr hvm)

theorem add_o (o w n l : Nat) (k0 k1 k2 : Int) (B p m : Nat) (sv : Value) (L : List Nd) (W : World) (S : StoreAt B W p m sv L) (hB : B ≤ W.heap.size) (hx : Nd.Ok ⟨o, w, k0, k1, k2, n, l⟩)
    (hn : ¬ Nd.mk o w k0 k1 k2 n l ∈ L) (hl : L.length < 200000) (hG : Hid (Gd (L ++ [⟨o, w, k0, k1, k2, n, l⟩]))) (d2 : ((o : Int) == 2) = false) (ho : ¬ o = 2) :
    Calls Tryz.prog 60 #[.pointer (some ⟨p, 0, none⟩), .agg #[.int .u8 o, .int .u8 w, .int .i64 k0, .int .i64 k1, .int .i64 k2, .int .u64 n, .int .u8 l]] W fun e W' => e = .returned (.int .i64 ((L.length : Nat) : Int)) ∧
      ∃ v, StoreAt B W' p m v (L ++ [⟨o, w, k0, k1, k2, n, l⟩]) ∧ Kept (foot p m sv) W W' ∧ (v.ownBlock = sv.ownBlock ∨ ∃ g, W.heap.size ≤ g ∧ v.ownBlock = some g) := by
  obtain ⟨a, c, rfl⟩ := S.shape
  obtain ⟨i, z, hi, hz, hzs, hsz, hby⟩ := info_nd_parts
  have S1 := ((S.alloc (.cells #[.int .u8 o, .int .u8 w, .int .i64 k0, .int .i64 k1, .int .i64 k2, .int .u64 n, .int .u8 l] 56)).drew).alloc (.cells #[.int .u8 o, .int .u8 w, .int .i64 k0, .int .i64 k1, .int .i64 k2, .int .u64 n, .int .u8 l] 56)
  have HS1 := Lib.hid S1
  have kb1 : Below W.heap.size W (((W.alloc (.cells #[.int .u8 o, .int .u8 w, .int .i64 k0, .int .i64 k1, .int .i64 k2, .int .u64 n, .int .u8 l] 56)).drew).alloc (.cells #[.int .u8 o, .int .u8 w, .int .i64 k0, .int .i64 k1, .int .i64 k2, .int .u64 n, .int .u8 l] 56)) := bel_alloc (bel_alloc (Below.refl _ _) _).drew _
  have HN : ∀ j u, (Nd.cells ⟨o, w, k0, k1, k2, n, l⟩).toList[j]? = some u → (((W.alloc (.cells #[.int .u8 o, .int .u8 w, .int .i64 k0, .int .i64 k1, .int .i64 k2, .int .u64 n, .int .u8 l] 56)).drew).alloc (.cells #[.int .u8 o, .int .u8 w, .int .i64 k0, .int .i64 k1, .int .i64 k2, .int .u64 n, .int .u8 l] 56)).cell? ((⟨W.heap.size + 1, 0, none⟩ : Addr).add j) = some u := by
    have h := cell_new7 ((W.alloc (.cells #[.int .u8 o, .int .u8 w, .int .i64 k0, .int .i64 k1, .int .i64 k2, .int .u64 n, .int .u8 l] 56)).drew) (.int .u8 o) (.int .u8 w) (.int .i64 k0) (.int .i64 k1) (.int .i64 k2) (.int .u64 n) (.int .u8 l) 56
    have e : ((W.alloc (.cells #[.int .u8 o, .int .u8 w, .int .i64 k0, .int .i64 k1, .int .i64 k2, .int .u64 n, .int .u8 l] 56)).drew).heap.size = W.heap.size + 1 := by simp
    rw [e] at h
    exact h
  have A1 := ((At7.new W (.int .u8 o) (.int .u8 w) (.int .i64 k0) (.int .i64 k1) (.int .i64 k2) (.int .u64 n) (.int .u8 l) 56).drew).alloc (.cells #[.int .u8 o, .int .u8 w, .int .i64 k0, .int .i64 k1, .int .i64 k2, .int .u64 n, .int .u8 l] 56)
  have hB1 : B ≤ (((W.alloc (.cells #[.int .u8 o, .int .u8 w, .int .i64 k0, .int .i64 k1, .int .i64 k2, .int .u64 n, .int .u8 l] 56)).drew).alloc (.cells #[.int .u8 o, .int .u8 w, .int .i64 k0, .int .i64 k1, .int .i64 k2, .int .u64 n, .int .u8 l] 56)).heap.size := by simp; omega
  have hsz1 : W.heap.size < (((W.alloc (.cells #[.int .u8 o, .int .u8 w, .int .i64 k0, .int .i64 k1, .int .i64 k2, .int .u64 n, .int .u8 l] 56)).drew).alloc (.cells #[.int .u8 o, .int .u8 w, .int .i64 k0, .int .i64 k1, .int .i64 k2, .int .u64 n, .int .u8 l] 56)).heap.size := by simp; omega
  have lp := S.lt
  have lp1 : p < W.heap.size + 1 := by omega
  have c0 := S.c0
  have HA1 := Lib.hid A1
  have HHN := Lib.hid HN
  clear HN S1 A1
  go_enter Tryz.func60, Tryz.ntmps60
  go_wp2_with fail
  go_region_law (refine step_append_at rfl (.tmp 15) (.tmp 17) 24 rfl B 56 i z 7 48 Tryz.underlying24 hi hz hsz hby hzs (by decide) (.slice a L.length c) L.length (rowOf L) (by simp [Act.eval]) HS1.out.row ⟨W.heap.size + 1, 0, none⟩ 1 1 (Nd.cells ⟨o, w, k0, k1, k2, n, l⟩).toList (by simp [Act.eval]) rfl HHN.out (one7 _) (by unfold maxLen; omega) (by omega) hB1 ?_; intro v' w2 hrow hgr hloc; obtain ⟨g', c', rfl, hBg, hg'⟩ := row_slice hrow; obtain ⟨C0, C1, F0⟩ := after_append HS1.out hgr)
  all_goals
    have HH : Hid (∃ w4, (Instr.mapUpdate 25 (.map (some m)) (.agg #[.int .u8 o, .int .u8 w, .int .i64 k0, .int .i64 k1, .int .i64 k2, .int .u64 n, .int .u8 l]) (.int .i64 ((L.length : Nat) : Int))).run Tryz.prog (w2.setCell ⟨p, 0, none⟩ (.slice (some ⟨g', 0, none⟩) (L.length + 1) c')).drew = .ok () w4 ∧ Added B W w4 p m (.slice a L.length c) (.slice (some ⟨g', 0, none⟩) (L.length + 1) c') L ⟨o, w, k0, k1, k2, n, l⟩ ∧ At7 w4 W.heap.size (.int .u8 o) (.int .u8 w) (.int .i64 k0) (.int .i64 k1) (.int .i64 k2) (.int .u64 n) (.int .u8 l)) := by
      obtain ⟨D, hD, hT⟩ := HS1.out.tab
      have hm2 : m < w2.heap.size := Nat.lt_of_lt_of_le HS1.out.lm hgr.size
      have D2 := (hD.kept hgr (fun e => S.gm e.symm)).setCell (a := ⟨p, 0, none⟩) (fun e => S.pm e.symm) (.slice (some ⟨g', 0, none⟩) (L.length + 1) c')
      obtain ⟨w4, hrun, ho, hg4⟩ := (D2.drew).update law_nd Tryz.underlying25 (by unfold maxLen; omega) (key_nd ⟨o, w, k0, k1, k2, n, l⟩ hx) (plainElem_int (H := Unit) Tryz.underlying3 (wf_i64 (n := ((L.length : Nat) : Int)) (by unfold I64; omega)))
      refine ⟨w4, hrun, added_mk S HS1.out kb1 hrow hgr hloc ho (hT.add S.good.ok hx hn) ⟨hg4.os, hg4.tape, hg4.output, hg4.size, hg4.block⟩, ?_⟩
      have hge : Value.ownBlock (.slice a L.length c) ≠ some W.heap.size := by
        intro e
        have := (S.row.lt _ e).2
        omega
      have A2 := HA1.out.move (w' := w2) (fun o => World.cell?_of_block (hgr.block W.heap.size hsz1 (fun e => hge e.symm)))
      have A3 := A2.move (w' := (w2.setCell ⟨p, 0, none⟩ (.slice (some ⟨g', 0, none⟩) (L.length + 1) c')).drew) (fun o => World.cell?_setCell_far w2 _ _ _ (by simp; omega))
      exact A3.move (w' := w4) (fun o => World.cell?_of_block (hg4.block W.heap.size A3.lt (fun e => by have := S.lm; simp at e; omega)))
  all_goals
    have A2 : At7 w2 W.heap.size (.int .u8 o) (.int .u8 w) (.int .i64 k0) (.int .i64 k1) (.int .i64 k2) (.int .u64 n) (.int .u8 l) := by
      have hge : Value.ownBlock (.slice a L.length c) ≠ some W.heap.size := by
        intro e
        have := (S.row.lt _ e).2
        omega
      exact HA1.out.move (w' := w2) (fun o => World.cell?_of_block (hgr.block W.heap.size hsz1 (fun e => hge e.symm)))
    have A3 := A2.move (w' := (w2.setCell ⟨p, 0, none⟩ (.slice (some ⟨g', 0, none⟩) (L.length + 1) c'))) (fun o => World.cell?_setCell_far w2 _ _ _ (by simp; omega))
    obtain ⟨w4, hrun, had, A4⟩ := HH.out
    have C30 : (w2.setCell ⟨p, 0, none⟩ (.slice (some ⟨g', 0, none⟩) (L.length + 1) c')).cell? ⟨p, 1, none⟩ = some (.map (some m)) := by
      rw [World.cell?_setCell_other _ _ _ _ (by simp)]; exact C1
    clear HH hrow hgr hloc A2
    have HAD := Lib.hid had
    clear had
    unfold At7 at A3 A4
    go_wp2_with fail
    go_region
  all_goals go_wp2_with fail
  all_goals go_ret
  all_goals exact ⟨rfl, _, HAD.out.plain S hG.out ho, HAD.out.keep, HAD.out.loc⟩

theorem add_v (w n l : Nat) (k0 k1 k2 : Int) (B p m : Nat) (sv : Value) (L : List Nd) (W : World) (S : StoreAt B W p m sv L) (hB : B ≤ W.heap.size) (hx : Nd.Ok ⟨2, w, k0, k1, k2, n, l⟩)
    (hn : ¬ Nd.mk 2 w k0 k1 k2 n l ∈ L) (hl : L.length < 200000) (hG : Hid (Gd (L ++ [⟨2, w, k0, k1, k2, n, l⟩]))) (hn2 : n < 256) :
    Calls Tryz.prog 60 #[.pointer (some ⟨p, 0, none⟩), .agg #[.int .u8 2, .int .u8 w, .int .i64 k0, .int .i64 k1, .int .i64 k2, .int .u64 n, .int .u8 l]] W fun e W' => e = .returned (.int .i64 ((L.length : Nat) : Int)) ∧
      ∃ v, StoreAt B W' p m v (L ++ [⟨2, w, k0, k1, k2, n, l⟩]) ∧ Kept (foot p m sv) W W' ∧ (v.ownBlock = sv.ownBlock ∨ ∃ g, W.heap.size ≤ g ∧ v.ownBlock = some g) := by
  obtain ⟨a, c, rfl⟩ := S.shape
  obtain ⟨i, z, hi, hz, hzs, hsz, hby⟩ := info_nd_parts
  have S1 := ((S.alloc (.cells #[.int .u8 2, .int .u8 w, .int .i64 k0, .int .i64 k1, .int .i64 k2, .int .u64 n, .int .u8 l] 56)).drew).alloc (.cells #[.int .u8 2, .int .u8 w, .int .i64 k0, .int .i64 k1, .int .i64 k2, .int .u64 n, .int .u8 l] 56)
  have HS1 := Lib.hid S1
  have kb1 : Below W.heap.size W (((W.alloc (.cells #[.int .u8 2, .int .u8 w, .int .i64 k0, .int .i64 k1, .int .i64 k2, .int .u64 n, .int .u8 l] 56)).drew).alloc (.cells #[.int .u8 2, .int .u8 w, .int .i64 k0, .int .i64 k1, .int .i64 k2, .int .u64 n, .int .u8 l] 56)) := bel_alloc (bel_alloc (Below.refl _ _) _).drew _
  have HN : ∀ j u, (Nd.cells ⟨2, w, k0, k1, k2, n, l⟩).toList[j]? = some u → (((W.alloc (.cells #[.int .u8 2, .int .u8 w, .int .i64 k0, .int .i64 k1, .int .i64 k2, .int .u64 n, .int .u8 l] 56)).drew).alloc (.cells #[.int .u8 2, .int .u8 w, .int .i64 k0, .int .i64 k1, .int .i64 k2, .int .u64 n, .int .u8 l] 56)).cell? ((⟨W.heap.size + 1, 0, none⟩ : Addr).add j) = some u := by
    have h := cell_new7 ((W.alloc (.cells #[.int .u8 2, .int .u8 w, .int .i64 k0, .int .i64 k1, .int .i64 k2, .int .u64 n, .int .u8 l] 56)).drew) (.int .u8 2) (.int .u8 w) (.int .i64 k0) (.int .i64 k1) (.int .i64 k2) (.int .u64 n) (.int .u8 l) 56
    have e : ((W.alloc (.cells #[.int .u8 2, .int .u8 w, .int .i64 k0, .int .i64 k1, .int .i64 k2, .int .u64 n, .int .u8 l] 56)).drew).heap.size = W.heap.size + 1 := by simp
    rw [e] at h
    exact h
  have A1 := ((At7.new W (.int .u8 2) (.int .u8 w) (.int .i64 k0) (.int .i64 k1) (.int .i64 k2) (.int .u64 n) (.int .u8 l) 56).drew).alloc (.cells #[.int .u8 2, .int .u8 w, .int .i64 k0, .int .i64 k1, .int .i64 k2, .int .u64 n, .int .u8 l] 56)
  have hB1 : B ≤ (((W.alloc (.cells #[.int .u8 2, .int .u8 w, .int .i64 k0, .int .i64 k1, .int .i64 k2, .int .u64 n, .int .u8 l] 56)).drew).alloc (.cells #[.int .u8 2, .int .u8 w, .int .i64 k0, .int .i64 k1, .int .i64 k2, .int .u64 n, .int .u8 l] 56)).heap.size := by simp; omega
  have hsz1 : W.heap.size < (((W.alloc (.cells #[.int .u8 2, .int .u8 w, .int .i64 k0, .int .i64 k1, .int .i64 k2, .int .u64 n, .int .u8 l] 56)).drew).alloc (.cells #[.int .u8 2, .int .u8 w, .int .i64 k0, .int .i64 k1, .int .i64 k2, .int .u64 n, .int .u8 l] 56)).heap.size := by simp; omega
  have lp := S.lt
  have lp1 : p < W.heap.size + 1 := by omega
  have c0 := S.c0
  have HA1 := Lib.hid A1
  have HHN := Lib.hid HN
  clear HN S1 A1
  go_enter Tryz.func60, Tryz.ntmps60
  go_wp2_with fail
  go_region_law (refine step_append_at rfl (.tmp 15) (.tmp 17) 24 rfl B 56 i z 7 48 Tryz.underlying24 hi hz hsz hby hzs (by decide) (.slice a L.length c) L.length (rowOf L) (by simp [Act.eval]) HS1.out.row ⟨W.heap.size + 1, 0, none⟩ 1 1 (Nd.cells ⟨2, w, k0, k1, k2, n, l⟩).toList (by simp [Act.eval]) rfl HHN.out (one7 _) (by unfold maxLen; omega) (by omega) hB1 ?_; intro v' w2 hrow hgr hloc; obtain ⟨g', c', rfl, hBg, hg'⟩ := row_slice hrow; obtain ⟨C0, C1, F0⟩ := after_append HS1.out hgr)
  all_goals
    have HH : Hid (∃ w4, (Instr.mapUpdate 25 (.map (some m)) (.agg #[.int .u8 2, .int .u8 w, .int .i64 k0, .int .i64 k1, .int .i64 k2, .int .u64 n, .int .u8 l]) (.int .i64 ((L.length : Nat) : Int))).run Tryz.prog (w2.setCell ⟨p, 0, none⟩ (.slice (some ⟨g', 0, none⟩) (L.length + 1) c')).drew = .ok () w4 ∧ Added B W w4 p m (.slice a L.length c) (.slice (some ⟨g', 0, none⟩) (L.length + 1) c') L ⟨2, w, k0, k1, k2, n, l⟩ ∧ At7 w4 W.heap.size (.int .u8 2) (.int .u8 w) (.int .i64 k0) (.int .i64 k1) (.int .i64 k2) (.int .u64 n) (.int .u8 l)) := by
      obtain ⟨D, hD, hT⟩ := HS1.out.tab
      have hm2 : m < w2.heap.size := Nat.lt_of_lt_of_le HS1.out.lm hgr.size
      have D2 := (hD.kept hgr (fun e => S.gm e.symm)).setCell (a := ⟨p, 0, none⟩) (fun e => S.pm e.symm) (.slice (some ⟨g', 0, none⟩) (L.length + 1) c')
      obtain ⟨w4, hrun, ho, hg4⟩ := (D2.drew).update law_nd Tryz.underlying25 (by unfold maxLen; omega) (key_nd ⟨2, w, k0, k1, k2, n, l⟩ hx) (plainElem_int (H := Unit) Tryz.underlying3 (wf_i64 (n := ((L.length : Nat) : Int)) (by unfold I64; omega)))
      refine ⟨w4, hrun, added_mk S HS1.out kb1 hrow hgr hloc ho (hT.add S.good.ok hx hn) ⟨hg4.os, hg4.tape, hg4.output, hg4.size, hg4.block⟩, ?_⟩
      have hge : Value.ownBlock (.slice a L.length c) ≠ some W.heap.size := by
        intro e
        have := (S.row.lt _ e).2
        omega
      have A2 := HA1.out.move (w' := w2) (fun o => World.cell?_of_block (hgr.block W.heap.size hsz1 (fun e => hge e.symm)))
      have A3 := A2.move (w' := (w2.setCell ⟨p, 0, none⟩ (.slice (some ⟨g', 0, none⟩) (L.length + 1) c')).drew) (fun o => World.cell?_setCell_far w2 _ _ _ (by simp; omega))
      exact A3.move (w' := w4) (fun o => World.cell?_of_block (hg4.block W.heap.size A3.lt (fun e => by have := S.lm; simp at e; omega)))
  all_goals
    have A2 : At7 w2 W.heap.size (.int .u8 2) (.int .u8 w) (.int .i64 k0) (.int .i64 k1) (.int .i64 k2) (.int .u64 n) (.int .u8 l) := by
      have hge : Value.ownBlock (.slice a L.length c) ≠ some W.heap.size := by
        intro e
        have := (S.row.lt _ e).2
        omega
      exact HA1.out.move (w' := w2) (fun o => World.cell?_of_block (hgr.block W.heap.size hsz1 (fun e => hge e.symm)))
    have A3 := A2.move (w' := (w2.setCell ⟨p, 0, none⟩ (.slice (some ⟨g', 0, none⟩) (L.length + 1) c'))) (fun o => World.cell?_setCell_far w2 _ _ _ (by simp; omega))
    obtain ⟨w4, hrun, had, A4⟩ := HH.out
    have C30 : (w2.setCell ⟨p, 0, none⟩ (.slice (some ⟨g', 0, none⟩) (L.length + 1) c')).cell? ⟨p, 1, none⟩ = some (.map (some m)) := by
      rw [World.cell?_setCell_other _ _ _ _ (by simp)]; exact C1
    clear HH hrow hgr hloc A2
    have HAD := Lib.hid had
    clear had
    unfold At7 at A3 A4
    go_wp2_with fail
    go_region
  all_goals go_wp2_with fail
  all_goals
    have Cw := HAD.out.cw n hn2
    have Fw := HAD.out.fr (2 + n)
    have hn3 : (n : Int) < 256 := by omega
    have hn4 : (0 : Int) ≤ (n : Int) := by omega
    go_region
  all_goals go_wp2_with fail
  all_goals go_ret
  all_goals exact ⟨rfl, _, (HAD.out.var S hG.out rfl hn2).1.drew, (HAD.out.var S hG.out rfl hn2).2.drew, HAD.out.loc⟩

/-- add, for every node that is to be added. -/
theorem add_any {B p m : Nat} {sv : Value} {L : List Nd} {x : Nd} {W : World} (S : StoreAt B W p m sv L) (hB : B ≤ W.heap.size) (hx : x.Ok) (hm : mayN L x = true) (hn : ¬ x ∈ L) (hl : L.length < 200000)
    (hw : ¬ (x.o = 2 ∧ ¬ wdOf L x.n = 0 ∧ ¬ wdOf L x.n = x.w)) :
    Calls Tryz.prog 60 #[.pointer (some ⟨p, 0, none⟩), x.val] W fun e W' => e = .returned (.int .i64 ((L.length : Nat) : Int)) ∧
      ∃ v, StoreAt B W' p m v (L ++ [x]) ∧ Kept (foot p m sv) W W' ∧ (v.ownBlock = sv.ownBlock ∨ ∃ g, W.heap.size ≤ g ∧ v.ownBlock = some g) := by
  have hG := Added.good S.good hx hm hn hl hw
  have hv := fun h => mayN_var hm h
  obtain ⟨o, w, k0, k1, k2, n, l⟩ := x
  by_cases ho : o = 2
  · subst ho
    exact add_v w n l k0 k1 k2 B p m sv L W S hB hx hn hl hG (hv rfl)
  · exact add_o o w n l k0 k1 k2 B p m sv L W S hB hx hn hl hG (by simp; omega) ho
end Tm
end Go.Proofs.YthelkbdiedfmfaaGreat
