/-
The reader of layer text: a node and those below it, as a fact on one call.
The reader of layer text: an operator and its kids, where it is known how the kids are read; what is no node; a node of whatever text.
-/
import Derived.Test.YtkiegiofholofaaGreatDoorTxHeadB
import Derived.Test.YtkiegiofholofaaGreatDoorPt09
import Derived.Deep.RegionLaw
import Derived.Deep.LoopGhost
namespace Go.Proofs.YtkiegiofholofaaGreatDoor
open Go.RowKit Go.Maps Bv Tm
namespace Tx
set_option maxHeartbeats 3200000
set_option maxRecDepth 100000

/-- What a call of node has done. -/
def NodeR (F : Nat → Prop) (r : Nat) (w : World) (x : Option (By × List Nd)) : Ending → World → Prop :=
  Reads F r w x (fun p => .int .i64 ((p.2.length : Nat) - 1 : Int)) (fun p => p.1) (fun p => p.2)

/-- Behind the append of a node that was read, and the store. -/
theorem rd_appended {F G : Nat → Prop} {r bx : Nat} {W u w2 : World} {s : By} {ns : List Nd} {x : Nd} {tx : ByteArray} {v v' : Value} {o : Obj} (h : RdAt G r tx v s ns u) (hB : BS F G r W bx s ns x u)
    (hrow : w2.ownsRow 0 36 7 v' (ns.length + 1) (rowOf ns ++ x.cells.toList)) (hg : (u.drew.alloc o).grownBy w2 v.ownBlock) (hloc : v'.ownBlock = v.ownBlock ∨ v'.ownBlock = some (u.drew.alloc o).heap.size) :
    RdE F r s (ns ++ [x]) (w2.setCell ⟨r, 1, none⟩ v') ∧ Kept F W (w2.setCell ⟨r, 1, none⟩ v') ∧ w2.cell? ⟨r, 1, none⟩ = some v ∧ w2.frozen? ⟨r, 1, none⟩ = false := by
  have lr := h.lt
  have kb : Below u.heap.size u (u.drew.alloc o) := bel_alloc (Below.refl _ _).drew _
  have ls : (u.drew.alloc o).heap.size = u.heap.size + 1 := by simp
  have K1 : Kept G u w2 := ((Kept.ofBelow kb G)).grown hg (fun i hi _ => h.fo i hi)
  have lr1 : r < (u.drew.alloc o).heap.size := by omega
  have nr : some r ≠ v.ownBlock := Ne.symm h.gp
  have hc : ∀ q, w2.cell? ⟨r, q, none⟩ = u.cell? ⟨r, q, none⟩ := fun q => by
    rw [World.cell?_of_block (w := u.drew.alloc o) (hg.block r lr1 nr)]
    exact kb.cell (p := ⟨r, q, none⟩) lr
  have hf : ∀ q, w2.frozen? ⟨r, q, none⟩ = u.frozen? ⟨r, q, none⟩ := fun q => by
    rw [World.frozen?_of_block (w := u.drew.alloc o) (hg.block r lr1 nr)]
    exact kb.frozen (p := ⟨r, q, none⟩) lr
  have nb' : v'.ownBlock ≠ some r := by
    rcases hloc with e | e
    · rw [e]; exact h.gp
    · rw [e]; intro c; simp at c; omega
  refine ⟨⟨tx, v', ?_, h.tx, ?_, fun q => ?_, ?_, nb', hB.gf _ h.fb, ?_, fun i hi => hB.gf _ (h.fn i ?_)⟩, (hB.k.trans (K1.mono (fun i _ c => hB.gf i c))).setCell _ _ (fun _ => hB.gf _ h.fb), ?_, ?_⟩
  · rw [World.cell?_setCell_other _ _ _ _ (by simp), hc]; exact h.c0
  · exact World.cell?_setCell_same _ _ _ ((hc 1).trans h.c1)
  · rw [World.frozen?_setCell, hf]; exact h.fr q
  · have q := row_setCell hrow v' (a := ⟨r, 1, none⟩) nb'
    rw [rowOf_append, List.length_append]
    exact q
  · intro g e
    rcases hloc with c | c
    · rw [c] at e; exact hB.gf _ (h.fo g e)
    · rw [c] at e; simp at e; exact hB.gf _ (h.fn g (by omega))
  · have : w2.heap.size ≤ i := by simpa using hi
    have := K1.size
    omega
  · rw [hc]; exact h.c1
  · rw [hf]; exact h.fr 1

theorem rnode_const {F : Nat → Prop} {r : Nat} {s s1 : By} {ns : List Nd} {W : World} (h : RdE F r s ns W) (hE : EnvAt F W) (hs : s.length ≤ 10000) (hnl : ns.length + s.length ≤ 10000) (hh : s = 35 :: s1) :
    Calls Tryz.prog 100 #[.pointer (some ⟨r, 0, none⟩)] W (NodeR F r W ((sho s1).bind fun p => (need 58 p.2).bind fun r => (num r).map fun q => (q.2, ns ++ [⟨1, p.1, 0, 0, 0, q.1, 0⟩]))) := by
  have hb0 : Below W.heap.size W (W.alloc (.cells zNd.cells 36)) := bel_alloc (Below.refl _ _) _
  have R0 := h.apart hb0 (Nat.le_refl _) (by simp)
  obtain ⟨bx, hbx⟩ : ∃ bx, W.heap.size = bx := ⟨_, rfl⟩
  obtain ⟨G, hG⟩ : ∃ G : Nat → Prop, G = (fun i => F i ∧ i ≠ bx) := ⟨_, rfl⟩
  rw [hbx, ← hG] at R0
  have HFB : F bx := by obtain ⟨_, _, h⟩ := h; exact h.fn _ (by omega)
  have B0 : BS F G r W bx s ns zNd (W.alloc (.cells #[.int .u8 0, .int .u8 0, .int .i64 0, .int .i64 0, .int .i64 0, .int .u64 0, .int .u8 0] 36)) := ⟨R0, Kept.ofBelow hb0 F, by rw [← hbx]; exact NdAt.new W zNd _, hE.call hb0, fun i c => by rw [hG] at c; exact c.1, fun c => by rw [hG] at c; exact c.2 rfl, HFB⟩
  have HB0 := Lib.hid B0
  have HS := Lib.hid hs
  have HNL := Lib.hid hnl
  clear B0 R0 hG hs hnl h hE HFB hb0
  subst hh
  go_enter Tryz.func100, Tryz.ntmps100
  go_wp2_with fail
  try simp only [hbx]
  generalize (W.alloc (.cells #[.int .u8 0, .int .u8 0, .int .i64 0, .int .i64 0, .int .i64 0, .int .u64 0, .int .u8 0] 36)) = X at HB0 ⊢
  clear hbx
  have HL1 : Hid (s1.length ≤ 1000000) := Lib.hid (by have := HS.out; simp at this; omega)
  go_wp2_with (
     go_at_call 127
     refine (rhas_any HB0.out.rd 35).mono ?_
     rintro e a0 ⟨rfl, h7, k7⟩
     rw [show has1 35 (35 :: s1) = true from rfl]
     rw [show aft 35 (35 :: s1) = s1 from rfl] at h7
     have NA := Lib.hid (HB0.out.call h7 k7)
     clear h7 k7
     refine Hid.out ?_)
  refine Lib.hid ?_
  go_wp2_with (
     go_at_call 128
     refine (rsho_any NA.out.rd NA.out.envG HL1.out).mono ?_
     intro e a1 h7
     rcases hq : sho s1 with _ | ⟨v1, s2⟩
     · rw [hq] at h7
       obtain ⟨rfl, k7⟩ := h7
       exact ⟨rfl, by unfold NodeR; simp only [hq, Option.bind_none]; exact ⟨rfl, NA.out.k.trans (k7.mono (fun i _ c => NA.out.gf i c))⟩⟩
     rw [hq] at h7
     obtain ⟨rfl, h7, k7⟩ := h7
     have NB := Lib.hid (NA.out.call h7 k7)
     have E1 := Lib.hid hq
     have g0 := NB.out.box.1.1
     have g1 := NB.out.box.2 0
     have g2 := NB.out.box.1.2.1
     have g3 := NB.out.box.2 1
     have HU1 := Lib.hid (Nat.le_trans (sho_len hq) HL1.out)
     clear h7 k7 hq
     refine Hid.out ?_)
  refine Lib.hid ?_
  have NC : Hid (BS F G r W bx s2 ns ⟨1, v1, 0, 0, 0, 0, 0⟩ ((a1.setCell ⟨bx, 0, none⟩ (.int .u8 1)).setCell ⟨bx, 1, none⟩ (.int .u8 ((v1 : Nat) : Int)))) := (NB.out.set (i := 0) (x' := ⟨1, 0, 0, 0, 0, 0, 0⟩) (by omega) rfl (by intro j hj hne; rcases j with _ | _ | _ | _ | _ | _ | _ | j <;> first | rfl | omega)).set (i := 1) (by omega) rfl (by intro j hj hne; rcases j with _ | _ | _ | _ | _ | _ | _ | j <;> first | rfl | omega)
  go_wp2_with (
     go_at_call 129
     refine (rneed_any NC.out.rd).mono ?_
     intro e a2 h7
     rcases hq : need 58 s2 with _ | s3
     · rw [hq] at h7
       obtain ⟨rfl, k7⟩ := h7
       exact ⟨rfl, by unfold NodeR; simp only [E1.out, hq, Option.bind_some, Option.bind_none]; exact ⟨rfl, NC.out.k.trans (k7.mono (fun i _ c => NC.out.gf i c))⟩⟩
     rw [hq] at h7
     obtain ⟨rfl, h7, k7⟩ := h7
     have ND := Lib.hid (NC.out.call h7 k7)
     have E2 := Lib.hid hq
     have HU2 := Lib.hid (need_len hq)
     clear h7 k7 hq
     refine Hid.out ?_)
  refine Lib.hid ?_
  have HL3 : Hid (s3.length ≤ 1000000) := Lib.hid (by have := HU1.out; have := HU2.out; omega)
  go_wp2_with (
     go_at_call 130
     refine (rnum_any ND.out.rd ND.out.envG HL3.out).mono ?_
     intro e a3 h7
     rcases hq : num s3 with _ | ⟨v2, s4⟩
     · rw [hq] at h7
       obtain ⟨rfl, k7⟩ := h7
       exact ⟨rfl, by unfold NodeR; simp only [E1.out, E2.out, hq, Option.bind_some, Option.map_none]; exact ⟨rfl, ND.out.k.trans (k7.mono (fun i _ c => ND.out.gf i c))⟩⟩
     rw [hq] at h7
     obtain ⟨rfl, h7, k7⟩ := h7
     have NE := Lib.hid (ND.out.call h7 k7)
     have E3 := Lib.hid hq
     have g0 := NE.out.box.1.2.2.2.2.2.1
     have g1 := NE.out.box.2 5
     clear h7 k7 hq
     refine Hid.out ?_)
  refine Lib.hid ?_
  have NF : Hid (BS F G r W bx s4 ns ⟨1, v1, 0, 0, 0, v2, 0⟩ (a3.setCell ⟨bx, 5, none⟩ (.int .u64 ((v2 : Nat) : Int)))) := NE.out.set (i := 5) (by omega) rfl (by intro j hj hne; rcases j with _ | _ | _ | _ | _ | _ | _ | j <;> first | rfl | omega)
  go_wp2_with fail
  obtain ⟨U, hU⟩ : ∃ U, (a3.setCell ⟨bx, 5, none⟩ (.int .u64 ((v2 : Nat) : Int))) = U := ⟨_, rfl⟩
  have BU : Hid (BS F G r W bx s4 ns (⟨1, v1, 0, 0, 0, v2, 0⟩ : Nd) U) := Lib.hid (by rw [← hU]; exact NF.out)
  rw [hU]
  clear hU
  obtain ⟨tx, v, hrd⟩ := BU.out.rd
  have c1 := hrd.c1
  have lr := hrd.lt
  have lbx := BU.out.box.lt
  have f0 : U.cell? ⟨bx, 0, none⟩ = some (.int .u8 1) := BU.out.box.1.1
  have f1 : U.cell? ⟨bx, 1, none⟩ = some (.int .u8 ((v1 : Nat) : Int)) := BU.out.box.1.2.1
  have f2 : U.cell? ⟨bx, 2, none⟩ = some (.int .i64 0) := BU.out.box.1.2.2.1
  have f3 : U.cell? ⟨bx, 3, none⟩ = some (.int .i64 0) := BU.out.box.1.2.2.2.1
  have f4 : U.cell? ⟨bx, 4, none⟩ = some (.int .i64 0) := BU.out.box.1.2.2.2.2.1
  have f5 : U.cell? ⟨bx, 5, none⟩ = some (.int .u64 ((v2 : Nat) : Int)) := BU.out.box.1.2.2.2.2.2.1
  have f6 : U.cell? ⟨bx, 6, none⟩ = some (.int .u8 0) := BU.out.box.1.2.2.2.2.2.2
  have HRD := Lib.hid hrd
  have HROW := Lib.hid (((row_kept hrd.row (Kept.ofBelow (bel_alloc (Below.refl _ _).drew (.cells #[.int .u8 1, .int .u8 ((v1 : Nat) : Int), .int .i64 0, .int .i64 0, .int .i64 0, .int .u64 ((v2 : Nat) : Int), .int .u8 0] 36)) (fun _ => False)) (fun _ _ c => c))))
  obtain ⟨a, c, hv⟩ := row_shape hrd.row
  subst hv
  clear hrd
  obtain ⟨i, z, hi, hz, hzs, hsz, hby⟩ := info_nd_parts
  have HW9 : Hid (wrap64 ((ns.length : Nat) : Int) = ((ns.length : Nat) : Int)) := Lib.hid (by have := HNL.out; unfold wrap64; rw [← IntKind.wrap_i64, IntKind.wrap_i64]; omega)
  have HHN : Hid (∀ j q, (Nd.cells (⟨1, v1, 0, 0, 0, v2, 0⟩ : Nd)).toList[j]? = some q → (U.drew.alloc (.cells #[.int .u8 1, .int .u8 ((v1 : Nat) : Int), .int .i64 0, .int .i64 0, .int .i64 0, .int .u64 ((v2 : Nat) : Int), .int .u8 0] 36)).cell? ((⟨U.heap.size, 0, none⟩ : Addr).add j) = some q) := Lib.hid (cell_new7 U.drew _ _ _ _ _ _ _ _)
  go_region_law (refine step_append_at rfl (.tmp 53) (.tmp 55) 22 rfl 0 36 i z 7 48 Tryz.underlying22 hi hz hsz hby hzs (by decide) (.slice a ns.length c) ns.length (rowOf ns) (by simp [Act.eval]) HROW.out ⟨U.heap.size, 0, none⟩ 1 1 (Nd.cells (⟨1, v1, 0, 0, 0, v2, 0⟩ : Nd)).toList (by simp [Act.eval]) rfl HHN.out (one7 _) (by have := HNL.out; unfold maxLen; omega) (by have := HNL.out; omega) (Nat.zero_le _) ?_; intro v' w2 hrow hgr hloc; obtain ⟨g', c', rfl, hBg, hg'⟩ := row_slice hrow; obtain ⟨E1, E2, C1, F1⟩ := rd_appended HRD.out BU.out hrow hgr hloc)
  all_goals
    have HE1 := Lib.hid E1
    have HE2 := Lib.hid E2
    have C3 : (w2.setCell ⟨r, 1, none⟩ (.slice (some ⟨g', 0, none⟩) (ns.length + 1) c')).cell? ⟨r, 1, none⟩ = some (.slice (some ⟨g', 0, none⟩) (ns.length + 1) c') := World.cell?_setCell_same _ _ _ C1
    clear hrow hgr hloc E1 E2
    go_wp2_with fail
    exact bodyPost_ret (v := .int .i64 ((((ns ++ [(⟨1, v1, 0, 0, 0, v2, 0⟩ : Nd)]).length : Nat) : Int) - 1)) (by simp [results, Tryz.results100, go_sem, HW9.out]) rfl (by unfold NodeR; simp only [E1.out, E2.out, E3.out, Option.bind_some, Option.map_some]; exact ⟨by simp, HE1.out, HE2.out⟩)

theorem rnode_var {F : Nat → Prop} {r : Nat} {s s1 : By} {ns : List Nd} {W : World} (h : RdE F r s ns W) (hE : EnvAt F W) (hs : s.length ≤ 10000) (hnl : ns.length + s.length ≤ 10000) (hh : s = 118 :: s1) :
    Calls Tryz.prog 100 #[.pointer (some ⟨r, 0, none⟩)] W (NodeR F r W ((num s1).bind fun p => (need 58 p.2).bind fun r => (sho r).map fun q => (q.2, ns ++ [⟨2, q.1, 0, 0, 0, p.1, 0⟩]))) := by
  have hb0 : Below W.heap.size W (W.alloc (.cells zNd.cells 36)) := bel_alloc (Below.refl _ _) _
  have R0 := h.apart hb0 (Nat.le_refl _) (by simp)
  obtain ⟨bx, hbx⟩ : ∃ bx, W.heap.size = bx := ⟨_, rfl⟩
  obtain ⟨G, hG⟩ : ∃ G : Nat → Prop, G = (fun i => F i ∧ i ≠ bx) := ⟨_, rfl⟩
  rw [hbx, ← hG] at R0
  have HFB : F bx := by obtain ⟨_, _, h⟩ := h; exact h.fn _ (by omega)
  have B0 : BS F G r W bx s ns zNd (W.alloc (.cells #[.int .u8 0, .int .u8 0, .int .i64 0, .int .i64 0, .int .i64 0, .int .u64 0, .int .u8 0] 36)) := ⟨R0, Kept.ofBelow hb0 F, by rw [← hbx]; exact NdAt.new W zNd _, hE.call hb0, fun i c => by rw [hG] at c; exact c.1, fun c => by rw [hG] at c; exact c.2 rfl, HFB⟩
  have HB0 := Lib.hid B0
  have HS := Lib.hid hs
  have HNL := Lib.hid hnl
  clear B0 R0 hG hs hnl h hE HFB hb0
  subst hh
  go_enter Tryz.func100, Tryz.ntmps100
  go_wp2_with fail
  try simp only [hbx]
  generalize (W.alloc (.cells #[.int .u8 0, .int .u8 0, .int .i64 0, .int .i64 0, .int .i64 0, .int .u64 0, .int .u8 0] 36)) = X at HB0 ⊢
  clear hbx
  have HL1 : Hid (s1.length ≤ 1000000) := Lib.hid (by have := HS.out; simp at this; omega)
  go_wp2_with (
     go_at_call 127
     refine (rhas_any HB0.out.rd 35).mono ?_
     rintro e a9 ⟨rfl, h7, k7⟩
     rw [show has1 35 (118 :: s1) = false from rfl]
     rw [show aft 35 (118 :: s1) = 118 :: s1 from rfl] at h7
     have NZ := Lib.hid (HB0.out.call h7 k7)
     clear h7 k7
     refine Hid.out ?_)
  refine Lib.hid ?_
  go_wp2_with (
     go_at_call 127
     refine (rhas_any NZ.out.rd 118).mono ?_
     rintro e a0 ⟨rfl, h7, k7⟩
     rw [show has1 118 (118 :: s1) = true from rfl]
     rw [show aft 118 (118 :: s1) = s1 from rfl] at h7
     have NA := Lib.hid (NZ.out.call h7 k7)
     clear h7 k7
     refine Hid.out ?_)
  refine Lib.hid ?_
  go_wp2_with (
     go_at_call 130
     refine (rnum_any NA.out.rd NA.out.envG HL1.out).mono ?_
     intro e a1 h7
     rcases hq : num s1 with _ | ⟨v1, s2⟩
     · rw [hq] at h7
       obtain ⟨rfl, k7⟩ := h7
       exact ⟨rfl, by unfold NodeR; simp only [hq, Option.bind_none]; exact ⟨rfl, NA.out.k.trans (k7.mono (fun i _ c => NA.out.gf i c))⟩⟩
     rw [hq] at h7
     obtain ⟨rfl, h7, k7⟩ := h7
     have NB := Lib.hid (NA.out.call h7 k7)
     have E1 := Lib.hid hq
     have g0 := NB.out.box.1.1
     have g1 := NB.out.box.2 0
     have g2 := NB.out.box.1.2.2.2.2.2.1
     have g3 := NB.out.box.2 5
     have HU1 := Lib.hid (Nat.le_trans (num_len hq) HL1.out)
     clear h7 k7 hq
     refine Hid.out ?_)
  refine Lib.hid ?_
  have NC : Hid (BS F G r W bx s2 ns ⟨2, 0, 0, 0, 0, v1, 0⟩ ((a1.setCell ⟨bx, 0, none⟩ (.int .u8 2)).setCell ⟨bx, 5, none⟩ (.int .u64 ((v1 : Nat) : Int)))) := (NB.out.set (i := 0) (x' := ⟨2, 0, 0, 0, 0, 0, 0⟩) (by omega) rfl (by intro j hj hne; rcases j with _ | _ | _ | _ | _ | _ | _ | j <;> first | rfl | omega)).set (i := 5) (by omega) rfl (by intro j hj hne; rcases j with _ | _ | _ | _ | _ | _ | _ | j <;> first | rfl | omega)
  go_wp2_with (
     go_at_call 129
     refine (rneed_any NC.out.rd).mono ?_
     intro e a2 h7
     rcases hq : need 58 s2 with _ | s3
     · rw [hq] at h7
       obtain ⟨rfl, k7⟩ := h7
       exact ⟨rfl, by unfold NodeR; simp only [E1.out, hq, Option.bind_some, Option.bind_none]; exact ⟨rfl, NC.out.k.trans (k7.mono (fun i _ c => NC.out.gf i c))⟩⟩
     rw [hq] at h7
     obtain ⟨rfl, h7, k7⟩ := h7
     have ND := Lib.hid (NC.out.call h7 k7)
     have E2 := Lib.hid hq
     have HU2 := Lib.hid (need_len hq)
     clear h7 k7 hq
     refine Hid.out ?_)
  refine Lib.hid ?_
  have HL3 : Hid (s3.length ≤ 1000000) := Lib.hid (by have := HU1.out; have := HU2.out; omega)
  go_wp2_with (
     go_at_call 128
     refine (rsho_any ND.out.rd ND.out.envG HL3.out).mono ?_
     intro e a3 h7
     rcases hq : sho s3 with _ | ⟨v2, s4⟩
     · rw [hq] at h7
       obtain ⟨rfl, k7⟩ := h7
       exact ⟨rfl, by unfold NodeR; simp only [E1.out, E2.out, hq, Option.bind_some, Option.map_none]; exact ⟨rfl, ND.out.k.trans (k7.mono (fun i _ c => ND.out.gf i c))⟩⟩
     rw [hq] at h7
     obtain ⟨rfl, h7, k7⟩ := h7
     have NE := Lib.hid (ND.out.call h7 k7)
     have E3 := Lib.hid hq
     have g0 := NE.out.box.1.2.1
     have g1 := NE.out.box.2 1
     clear h7 k7 hq
     refine Hid.out ?_)
  refine Lib.hid ?_
  have NF : Hid (BS F G r W bx s4 ns ⟨2, v2, 0, 0, 0, v1, 0⟩ (a3.setCell ⟨bx, 1, none⟩ (.int .u8 ((v2 : Nat) : Int)))) := NE.out.set (i := 1) (by omega) rfl (by intro j hj hne; rcases j with _ | _ | _ | _ | _ | _ | _ | j <;> first | rfl | omega)
  go_wp2_with fail
  obtain ⟨U, hU⟩ : ∃ U, (a3.setCell ⟨bx, 1, none⟩ (.int .u8 ((v2 : Nat) : Int))) = U := ⟨_, rfl⟩
  have BU : Hid (BS F G r W bx s4 ns (⟨2, v2, 0, 0, 0, v1, 0⟩ : Nd) U) := Lib.hid (by rw [← hU]; exact NF.out)
  rw [hU]
  clear hU
  obtain ⟨tx, v, hrd⟩ := BU.out.rd
  have c1 := hrd.c1
  have lr := hrd.lt
  have lbx := BU.out.box.lt
  have f0 : U.cell? ⟨bx, 0, none⟩ = some (.int .u8 2) := BU.out.box.1.1
  have f1 : U.cell? ⟨bx, 1, none⟩ = some (.int .u8 ((v2 : Nat) : Int)) := BU.out.box.1.2.1
  have f2 : U.cell? ⟨bx, 2, none⟩ = some (.int .i64 0) := BU.out.box.1.2.2.1
  have f3 : U.cell? ⟨bx, 3, none⟩ = some (.int .i64 0) := BU.out.box.1.2.2.2.1
  have f4 : U.cell? ⟨bx, 4, none⟩ = some (.int .i64 0) := BU.out.box.1.2.2.2.2.1
  have f5 : U.cell? ⟨bx, 5, none⟩ = some (.int .u64 ((v1 : Nat) : Int)) := BU.out.box.1.2.2.2.2.2.1
  have f6 : U.cell? ⟨bx, 6, none⟩ = some (.int .u8 0) := BU.out.box.1.2.2.2.2.2.2
  have HRD := Lib.hid hrd
  have HROW := Lib.hid (((row_kept hrd.row (Kept.ofBelow (bel_alloc (Below.refl _ _).drew (.cells #[.int .u8 2, .int .u8 ((v2 : Nat) : Int), .int .i64 0, .int .i64 0, .int .i64 0, .int .u64 ((v1 : Nat) : Int), .int .u8 0] 36)) (fun _ => False)) (fun _ _ c => c))))
  obtain ⟨a, c, hv⟩ := row_shape hrd.row
  subst hv
  clear hrd
  obtain ⟨i, z, hi, hz, hzs, hsz, hby⟩ := info_nd_parts
  have HW9 : Hid (wrap64 ((ns.length : Nat) : Int) = ((ns.length : Nat) : Int)) := Lib.hid (by have := HNL.out; unfold wrap64; rw [← IntKind.wrap_i64, IntKind.wrap_i64]; omega)
  have HHN : Hid (∀ j q, (Nd.cells (⟨2, v2, 0, 0, 0, v1, 0⟩ : Nd)).toList[j]? = some q → (U.drew.alloc (.cells #[.int .u8 2, .int .u8 ((v2 : Nat) : Int), .int .i64 0, .int .i64 0, .int .i64 0, .int .u64 ((v1 : Nat) : Int), .int .u8 0] 36)).cell? ((⟨U.heap.size, 0, none⟩ : Addr).add j) = some q) := Lib.hid (cell_new7 U.drew _ _ _ _ _ _ _ _)
  go_region_law (refine step_append_at rfl (.tmp 53) (.tmp 55) 22 rfl 0 36 i z 7 48 Tryz.underlying22 hi hz hsz hby hzs (by decide) (.slice a ns.length c) ns.length (rowOf ns) (by simp [Act.eval]) HROW.out ⟨U.heap.size, 0, none⟩ 1 1 (Nd.cells (⟨2, v2, 0, 0, 0, v1, 0⟩ : Nd)).toList (by simp [Act.eval]) rfl HHN.out (one7 _) (by have := HNL.out; unfold maxLen; omega) (by have := HNL.out; omega) (Nat.zero_le _) ?_; intro v' w2 hrow hgr hloc; obtain ⟨g', c', rfl, hBg, hg'⟩ := row_slice hrow; obtain ⟨E1, E2, C1, F1⟩ := rd_appended HRD.out BU.out hrow hgr hloc)
  all_goals
    have HE1 := Lib.hid E1
    have HE2 := Lib.hid E2
    have C3 : (w2.setCell ⟨r, 1, none⟩ (.slice (some ⟨g', 0, none⟩) (ns.length + 1) c')).cell? ⟨r, 1, none⟩ = some (.slice (some ⟨g', 0, none⟩) (ns.length + 1) c') := World.cell?_setCell_same _ _ _ C1
    clear hrow hgr hloc E1 E2
    go_wp2_with fail
    exact bodyPost_ret (v := .int .i64 ((((ns ++ [(⟨2, v2, 0, 0, 0, v1, 0⟩ : Nd)]).length : Nat) : Int) - 1)) (by simp [results, Tryz.results100, go_sem, HW9.out]) rfl (by unfold NodeR; simp only [E1.out, E2.out, E3.out, Option.bind_some, Option.map_some]; exact ⟨by simp, HE1.out, HE2.out⟩)

end Tx
end Go.Proofs.YtkiegiofholofaaGreatDoor

namespace Go.Proofs.YtkiegiofholofaaGreatDoor
open Go.RowKit Go.Maps Bv Tm
namespace Tx
set_option maxHeartbeats 3200000
set_option maxRecDepth 100000

theorem opN_le (s : By) : opN s ≤ 25 := by
  unfold opN
  split
  · omega
  · simp only []
    split <;> omega
theorem opN_ge {s : By} (h : opN s ≠ 0) : 3 ≤ opN s := by
  unfold opN at h ⊢
  by_cases hs : s = []
  · rw [if_pos hs] at h; exact absurd rfl h
  · rw [if_neg hs] at h ⊢
    simp only [] at h ⊢
    by_cases hi : nameL.findIdx (fun y => decide (y = s)) < 26
    · rw [if_pos hi] at h ⊢
      have := List.findIdx_getElem (p := fun y => decide (y = s)) (xs := nameL) (w := by have : nameL.length = 26 := rfl; omega)
      rw [nm_get] at this
      simp only [decide_eq_true_eq] at this
      by_cases h3 : nameL.findIdx (fun y => decide (y = s)) < 3
      · rw [nm_low h3] at this; exact absurd this.symm hs
      · omega
    · rw [if_neg hi] at h; exact absurd rfl h
theorem headP_facts {s s' : By} {x : Nd} (h : headP s = some (x, s')) : 3 ≤ x.o ∧ x.o ≤ 25 ∧ s'.length ≤ s.length := by
  unfold headP at h
  simp only [] at h
  have hd := aft_le (inR 97 122) s
  have hle := opN_le (s.takeWhile (inR 97 122))
  by_cases h0 : opN (s.takeWhile (inR 97 122)) = 0
  · rw [if_pos h0] at h; cases h
  have hge := opN_ge h0
  rw [if_neg h0] at h
  by_cases h22 : opN (s.takeWhile (inR 97 122)) = 22
  · rw [if_pos h22] at h
    cases h1 : need 32 (s.dropWhile (inR 97 122)) with
    | none => rw [h1] at h; simp at h
    | some t1 =>
      rw [h1, Option.bind_some] at h
      cases h2 : sho t1 with
      | none => rw [h2] at h; simp at h
      | some q =>
        rw [h2, Option.bind_some] at h
        cases h3 : need 32 q.2 with
        | none => rw [h3] at h; simp at h
        | some t2 =>
          rw [h3, Option.bind_some] at h
          cases h4 : sho t2 with
          | none => rw [h4] at h; simp at h
          | some q2 =>
            rw [h4] at h
            simp only [Option.map_some, Option.some.injEq, Prod.mk.injEq] at h
            obtain ⟨hx, hs⟩ := h
            have := need_len h1; have := sho_len (n := q.1) (s' := q.2) h2; have := need_len h3; have := sho_len (n := q2.1) (s' := q2.2) h4
            rw [← hx, ← hs]
            exact ⟨hge, hle, by omega⟩
  rw [if_neg h22] at h
  by_cases h23 : opN (s.takeWhile (inR 97 122)) = 23 ∨ opN (s.takeWhile (inR 97 122)) = 24
  · rw [if_pos h23] at h
    cases h1 : need 32 (s.dropWhile (inR 97 122)) with
    | none => rw [h1] at h; simp at h
    | some t1 =>
      rw [h1, Option.bind_some] at h
      cases h2 : sho t1 with
      | none => rw [h2] at h; simp at h
      | some q =>
        rw [h2] at h
        simp only [Option.map_some, Option.some.injEq, Prod.mk.injEq] at h
        obtain ⟨hx, hs⟩ := h
        have := need_len h1; have := sho_len (n := q.1) (s' := q.2) h2
        rw [← hx, ← hs]
        exact ⟨hge, hle, by omega⟩
  rw [if_neg h23] at h
  simp only [Option.some.injEq, Prod.mk.injEq] at h
  obtain ⟨hx, hs⟩ := h
  rw [← hx, ← hs]
  exact ⟨hge, hle, hd⟩

/-- What has been read is no longer than the text. -/
def Shr (s : By) (ns : List Nd) (p : By × List Nd) : Prop := ns.length < p.2.length ∧ p.2.length + p.1.length ≤ ns.length + s.length ∧ p.1.length < s.length
theorem kidsP_shr {rec : By → List Nd → Option (By × List Nd)} (hrec : ∀ s ns p, rec s ns = some p → Shr s ns p) : ∀ (c i : Nat) (x : Nd) (s : By) (ns : List Nd) (y : Nd) (s' : By) (ns' : List Nd), kidsP rec c i x s ns = some (y, s', ns') → ns.length ≤ ns'.length ∧ ns'.length + s'.length ≤ ns.length + s.length ∧ y.o = x.o
  | 0, i, x, s, ns, y, s', ns', h => by
    simp only [kidsP, Option.some.injEq, Prod.mk.injEq] at h
    obtain ⟨rfl, rfl, rfl⟩ := h
    exact ⟨Nat.le_refl _, Nat.le_refl _, rfl⟩
  | c + 1, i, x, s, ns, y, s', ns', h => by
    simp only [kidsP] at h
    cases h1 : need 32 s with
    | none => rw [h1] at h; simp at h
    | some t =>
      rw [h1, Option.bind_some] at h
      cases h2 : rec t ns with
      | none => rw [h2] at h; simp at h
      | some p =>
        rw [h2, Option.bind_some] at h
        have hp := hrec t ns p h2
        have hk := kidsP_shr hrec c (i + 1) _ _ _ y s' ns' h
        have hl := need_len h1
        unfold Shr at hp
        refine ⟨by omega, by omega, ?_⟩
        rw [hk.2.2]
        unfold setKid
        split <;> rfl
theorem nodeP_shr : ∀ (f : Nat) (s : By) (ns : List Nd) (p : By × List Nd), nodeP f s ns = some p → Shr s ns p
  | 0, s, ns, p, h => by simp [nodeP] at h
  | f + 1, [], ns, p, h => by simp [nodeP] at h
  | f + 1, c :: r, ns, p, h => by
    unfold Shr
    simp only [nodeP] at h
    by_cases h35 : c = 35
    · rw [if_pos h35] at h
      cases h1 : sho r with
      | none => rw [h1] at h; simp at h
      | some q =>
        rw [h1, Option.bind_some] at h
        cases h2 : need 58 q.2 with
        | none => rw [h2] at h; simp at h
        | some t =>
          rw [h2, Option.bind_some] at h
          cases h3 : num t with
          | none => rw [h3] at h; simp at h
          | some q2 =>
            rw [h3] at h
            simp only [Option.map_some, Option.some.injEq] at h
            have := sho_len (n := q.1) (s' := q.2) h1; have := need_len h2; have := num_len (n := q2.1) (s' := q2.2) h3
            rw [← h]
            simp
            omega
    rw [if_neg h35] at h
    by_cases h118 : c = 118
    · rw [if_pos h118] at h
      cases h1 : num r with
      | none => rw [h1] at h; simp at h
      | some q =>
        rw [h1, Option.bind_some] at h
        cases h2 : need 58 q.2 with
        | none => rw [h2] at h; simp at h
        | some t =>
          rw [h2, Option.bind_some] at h
          cases h3 : sho t with
          | none => rw [h3] at h; simp at h
          | some q2 =>
            rw [h3] at h
            simp only [Option.map_some, Option.some.injEq] at h
            have := num_len (n := q.1) (s' := q.2) h1; have := need_len h2; have := sho_len (n := q2.1) (s' := q2.2) h3
            rw [← h]
            simp
            omega
    rw [if_neg h118] at h
    by_cases h40 : c = 40
    · rw [if_pos h40] at h
      cases h1 : headP r with
      | none => rw [h1] at h; simp at h
      | some q =>
        rw [h1, Option.bind_some] at h
        cases h2 : kidsP (nodeP f) (kc q.1.o) 0 q.1 q.2 ns with
        | none => rw [h2] at h; simp at h
        | some y =>
          obtain ⟨y, t, ms⟩ := y
          rw [h2, Option.bind_some] at h
          cases h3 : need 41 t with
          | none => rw [h3] at h; simp at h
          | some t2 =>
            rw [h3] at h
            simp only [Option.map_some, Option.some.injEq] at h
            have a1 := headP_facts (x := q.1) (s' := q.2) h1; have a2 := kidsP_shr (fun s ns p hp => nodeP_shr f s ns p hp) _ _ _ _ _ _ _ _ h2; have a3 := need_len h3
            rw [← h]
            simp
            omega
    · rw [if_neg h40] at h; cases h

/-- It is known how a shorter text is read. -/
def ReadsDo (f r : Nat) : Prop := ∀ (F : Nat → Prop) (s : By) (ns : List Nd) (w : World), RdE F r s ns w → EnvAt F w → s.length < f → s.length ≤ 10000 → ns.length + s.length ≤ 10000 →
  Calls Tryz.prog 100 #[.pointer (some ⟨r, 0, none⟩)] w (NodeR F r w (nodeP f s ns))

theorem BS.setKid {F G : Nat → Prop} {r : Nat} {W : World} {b i : Nat} {s : By} {ns : List Nd} {x : Nd} {w : World} {v : Int} (h : BS F G r W b s ns x w) (hi : i < 3) : BS F G r W b s ns (setKid x i v) (w.setCell ⟨b, 2 + i, none⟩ (.int .i64 v)) := by
  match i, hi with
  | 0, _ => exact h.set (i := 2) (by omega) rfl (by intro j hj hne; rcases j with _ | _ | _ | _ | _ | _ | _ | j <;> first | rfl | omega)
  | 1, _ => exact h.set (i := 3) (by omega) rfl (by intro j hj hne; rcases j with _ | _ | _ | _ | _ | _ | _ | j <;> first | rfl | omega)
  | 2, _ => exact h.set (i := 4) (by omega) rfl (by intro j hj hne; rcases j with _ | _ | _ | _ | _ | _ | _ | j <;> first | rfl | omega)
  | (j + 3), h => omega
theorem rnode_op {F : Nat → Prop} {r f : Nat} {s s1 : By} {ns : List Nd} {W : World} (h : RdE F r s ns W) (hE : EnvAt F W) (hs : s.length ≤ 10000) (hnl : ns.length + s.length ≤ 10000) (hf : s.length < f + 1) (hI : ReadsDo f r) (hh : s = 40 :: s1) :
    Calls Tryz.prog 100 #[.pointer (some ⟨r, 0, none⟩)] W (NodeR F r W ((headP s1).bind fun h => (kidsP (nodeP f) (kc h.1.o) 0 h.1 h.2 ns).bind fun p => (need 41 p.2.1).map fun r => (r, p.2.2 ++ [p.1]))) := by
  have hb0 : Below W.heap.size W (W.alloc (.cells zNd.cells 36)) := bel_alloc (Below.refl _ _) _
  have R0 := h.apart hb0 (Nat.le_refl _) (by simp)
  obtain ⟨bx, hbx⟩ : ∃ bx, W.heap.size = bx := ⟨_, rfl⟩
  obtain ⟨G, hG⟩ : ∃ G : Nat → Prop, G = (fun i => F i ∧ i ≠ bx) := ⟨_, rfl⟩
  rw [hbx, ← hG] at R0
  have HFB : F bx := by obtain ⟨_, _, h⟩ := h; exact h.fn _ (by omega)
  have B0 : BS F G r W bx s ns zNd (W.alloc (.cells #[.int .u8 0, .int .u8 0, .int .i64 0, .int .i64 0, .int .i64 0, .int .u64 0, .int .u8 0] 36)) := ⟨R0, Kept.ofBelow hb0 F, by rw [← hbx]; exact NdAt.new W zNd _, hE.call hb0, fun i c => by rw [hG] at c; exact c.1, fun c => by rw [hG] at c; exact c.2 rfl, HFB⟩
  have HB0 := Lib.hid B0
  have HS := Lib.hid hs
  have HNL := Lib.hid hnl
  clear B0 R0 hG hs hnl h hE HFB hb0
  have HI := Lib.hid hI
  have HFU := Lib.hid hf
  clear hI hf
  subst hh
  go_enter Tryz.func100, Tryz.ntmps100
  go_wp2_with fail
  try simp only [hbx]
  generalize (W.alloc (.cells #[.int .u8 0, .int .u8 0, .int .i64 0, .int .i64 0, .int .i64 0, .int .u64 0, .int .u8 0] 36)) = X at HB0 ⊢
  clear hbx
  have HL1 : Hid (s1.length ≤ 1000000) := Lib.hid (by have := HS.out; simp at this; omega)
  go_wp2_with (
     go_at_call 127
     refine (rhas_any HB0.out.rd 35).mono ?_
     rintro e a8 ⟨rfl, h7, k7⟩
     rw [show has1 35 (40 :: s1) = false from rfl]
     rw [show aft 35 (40 :: s1) = 40 :: s1 from rfl] at h7
     have NY := Lib.hid (HB0.out.call h7 k7)
     clear h7 k7
     refine Hid.out ?_)
  refine Lib.hid ?_
  go_wp2_with (
     go_at_call 127
     refine (rhas_any NY.out.rd 118).mono ?_
     rintro e a9 ⟨rfl, h7, k7⟩
     rw [show has1 118 (40 :: s1) = false from rfl]
     rw [show aft 118 (40 :: s1) = 40 :: s1 from rfl] at h7
     have NZ := Lib.hid (NY.out.call h7 k7)
     clear h7 k7
     refine Hid.out ?_)
  refine Lib.hid ?_
  go_wp2_with (
     go_at_call 129
     refine (rneed_yes NZ.out.rd (show need 40 (40 :: s1) = some s1 from rfl)).mono ?_
     rintro e a0 ⟨rfl, h7, k7⟩
     have NA := Lib.hid (NZ.out.call h7 k7)
     clear h7 k7
     refine Hid.out ?_)
  refine Lib.hid ?_
  go_wp2_with (
     go_at_call 131
     refine (rhead_any NA.out.rd NA.out.envG HL1.out).mono ?_
     intro e a1 h7
     rcases hq : headP s1 with _ | ⟨⟨o, w, k0, k1, k2, n, l⟩, t0⟩
     · rw [hq] at h7
       obtain ⟨rfl, k7⟩ := h7
       exact ⟨rfl, by unfold NodeR; simp only [hq, Option.bind_none]; exact ⟨rfl, NA.out.k.trans (k7.mono (fun i _ c => NA.out.gf i c))⟩⟩
     rw [hq] at h7
     obtain ⟨rfl, h7, k7⟩ := h7
     have NB := Lib.hid (NA.out.call h7 k7)
     have E1 := Lib.hid hq
     have HHF := Lib.hid (headP_facts hq)
     have g0 := NB.out.box.1.1
     have g1 := NB.out.box.1.2.1
     have g2 := NB.out.box.1.2.2.1
     have g3 := NB.out.box.1.2.2.2.1
     have g4 := NB.out.box.1.2.2.2.2.1
     have g5 := NB.out.box.1.2.2.2.2.2.1
     have g6 := NB.out.box.1.2.2.2.2.2.2
     have gf := NB.out.box.2
     unfold Nd.val
     clear h7 k7 hq
     refine Hid.out ?_)
  refine Lib.hid ?_
  have NC : Hid (BS F G r W bx t0 ns ⟨o, w, k0, k1, k2, n, l⟩ (((((((a1.setCell ⟨bx, 0, none⟩ (.int .u8 ((o : Nat) : Int))).setCell ⟨bx, 1, none⟩ (.int .u8 ((w : Nat) : Int))).setCell ⟨bx, 2, none⟩ (.int .i64 k0)).setCell ⟨bx, 3, none⟩ (.int .i64 k1)).setCell ⟨bx, 4, none⟩ (.int .i64 k2)).setCell ⟨bx, 5, none⟩ (.int .u64 ((n : Nat) : Int))).setCell ⟨bx, 6, none⟩ (.int .u8 ((l : Nat) : Int)))) := ⟨rd7 NB.out.rd NB.out.gb _ _ _ _ _ _ _, k7 NB.out.k NB.out.fb _ _ _ _ _ _ _, ⟨set7 NB.out.box.1 _ _ _ _ _ _ _, fun i => by simp only [World.frozen?_setCell]; exact NB.out.box.2 i⟩, NB.out.env.kept (k7 (Kept.refl F a1) NB.out.fb _ _ _ _ _ _ _), NB.out.gf, NB.out.gb, NB.out.fb⟩
  have e0 : (((((((a1.setCell ⟨bx, 0, none⟩ (.int .u8 ((o : Nat) : Int))).setCell ⟨bx, 1, none⟩ (.int .u8 ((w : Nat) : Int))).setCell ⟨bx, 2, none⟩ (.int .i64 k0)).setCell ⟨bx, 3, none⟩ (.int .i64 k1)).setCell ⟨bx, 4, none⟩ (.int .i64 k2)).setCell ⟨bx, 5, none⟩ (.int .u64 ((n : Nat) : Int))).setCell ⟨bx, 6, none⟩ (.int .u8 ((l : Nat) : Int))).cell? ⟨bx, 0, none⟩ = some (.int .u8 ((o : Nat) : Int)) := NC.out.box.1.1
  have HKN : Hid (∀ W : World, Calls Tryz.prog 60 #[.int .u8 ((o : Nat) : Int)] W fun e W' => e = .returned (.int .i64 ((kc o : Nat) : Int)) ∧ W = W') := fun W => tk_any (by have h1 := HHF.out; omega) W
  go_wp2_with (go_at_call 60; refine (HKN.out _).mono ?_; rintro e w2 ⟨rfl, rfl⟩)
  obtain ⟨U, hU⟩ : ∃ U, (((((((a1.setCell ⟨bx, 0, none⟩ (.int .u8 ((o : Nat) : Int))).setCell ⟨bx, 1, none⟩ (.int .u8 ((w : Nat) : Int))).setCell ⟨bx, 2, none⟩ (.int .i64 k0)).setCell ⟨bx, 3, none⟩ (.int .i64 k1)).setCell ⟨bx, 4, none⟩ (.int .i64 k2)).setCell ⟨bx, 5, none⟩ (.int .u64 ((n : Nat) : Int))).setCell ⟨bx, 6, none⟩ (.int .u8 ((l : Nat) : Int))) = U := ⟨_, rfl⟩
  rw [hU] at NC
  try rw [hU]
  clear e0 hU g0 g1 g2 g3 g4 g5 g6 gf
  obtain ⟨kcn, hkcn⟩ : ∃ kcn, kc o = kcn := ⟨_, rfl⟩
  have HK3 : Hid (kcn ≤ 3) := Lib.hid (by rw [← hkcn]; exact kc_le o)
  obtain ⟨KR, hKR⟩ : ∃ KR, kidsP (nodeP f) (kc o) 0 ⟨o, w, k0, k1, k2, n, l⟩ t0 ns = KR := ⟨_, rfl⟩
  have HKR := Lib.hid hKR
  rw [hkcn] at hKR
  have HKR0 := Lib.hid hKR
  try simp only [hkcn]
  clear hKR hkcn
  have HLN : Hid (t0.length ≤ s1.length ∧ ns.length + s1.length ≤ 9999 ∧ s1.length < f) := Lib.hid (by have h1 := HHF.out; have h2 := HNL.out; have h3 := HFU.out; simp only [List.length_cons] at h2 h3; exact ⟨h1.2.2, by omega, by omega⟩)
  go_loopg [12] kcn (fun gk u12 wr => ∃ (i : Nat) (x : Nd) (t : By) (m : List Nd), u12 = .int .i64 ((i : Nat) : Int) ∧ i + gk = kcn ∧ BS F G r W bx t m x wr ∧ kidsP (nodeP f) gk i x t m = KR ∧ t.length ≤ s1.length ∧ m.length + t.length ≤ 9999)
  case atStart => exact ⟨0, _, t0, ns, rfl, by omega, NC.out, HKR0.out, HLN.out.1, by have := HLN.out; omega⟩
  case round =>
    obtain ⟨i, x, t, m, rfl, hgk, hBS, hk, hl1, hl2⟩ := hrel
    clear NC HKR0
    have NC := Lib.hid hBS
    have HK := Lib.hid hk
    have HL := Lib.hid (And.intro hl1 hl2)
    clear hBS hk hl1 hl2
    by_cases hin : i < kcn
    · obtain ⟨c, rfl⟩ : ∃ c, gk = c + 1 := ⟨gk - 1, by omega⟩
      have hi3 : i < 3 := by have := HK3.out; omega
      have HI3 := Lib.hid hi3
      have q1 : ((i : Nat) : Int) < ((kcn : Nat) : Int) := by omega
      have q0 : (0 : Int) ≤ ((i : Nat) : Int) := by omega
      have q3 : ((i : Nat) : Int) < 3 := by omega
      have r1 : IntKind.i64.wrap (((i : Nat) : Int) + 1) = (((i + 1 : Nat) : Nat) : Int) := by rw [IntKind.wrap_i64]; omega
      have r2 : wrap64 (((i : Nat) : Int) + 1) = (((i + 1 : Nat) : Nat) : Int) := by unfold wrap64; rw [← IntKind.wrap_i64]; exact r1
      have HR2 := Lib.hid r2
      have HGK := Lib.hid (And.intro hgk hin)
      clear hi3 hin hgk r1 r2
      go_wp2_with (
         go_at_call 129
         refine (rneed_any NC.out.rd).mono ?_
         intro e b1 h7
         rcases hq : need 32 t with _ | t1
         · rw [hq] at h7
           obtain ⟨rfl, k7⟩ := h7
           exact ⟨rfl, by unfold NodeR; simp only [E1.out, Option.bind_some]; rw [HKR.out, ← HK.out]; simp only [kidsP, hq, Option.bind_none]; exact ⟨rfl, NC.out.k.trans (k7.mono (fun i _ c => NC.out.gf i c))⟩⟩
         rw [hq] at h7
         obtain ⟨rfl, h7, k7⟩ := h7
         have ND := Lib.hid (NC.out.call h7 k7)
         have E2 := Lib.hid hq
         have HQ := Lib.hid (need_len hq)
         clear h7 k7 hq
         refine Hid.out ?_)
      refine Lib.hid ?_
      go_wp2_with (
         go_at_call 100
         refine (HI.out G t1 m _ ND.out.rd ND.out.envG (by have := HQ.out; have := HL.out; have := HLN.out; omega) (by have := HQ.out; have := HL.out; have := HLN.out; omega) (by have := HQ.out; have := HL.out; omega)).mono ?_
         intro e b2 h7
         unfold NodeR at h7
         rcases hq : nodeP f t1 m with _ | ⟨t2, m2⟩
         · rw [hq] at h7
           obtain ⟨rfl, k7⟩ := h7
           exact ⟨rfl, by unfold NodeR; simp only [E1.out, Option.bind_some]; rw [HKR.out, ← HK.out]; simp only [kidsP, E2.out, hq, Option.bind_none, Option.bind_some]; exact ⟨rfl, ND.out.k.trans (k7.mono (fun i _ c => ND.out.gf i c))⟩⟩
         rw [hq] at h7
         obtain ⟨rfl, h7, k7⟩ := h7
         have NE := Lib.hid (ND.out.call h7 k7)
         have E3 := Lib.hid hq
         have HSH := Lib.hid (nodeP_shr f t1 m _ hq)
         have g0 := NE.out.box.kid HI3.out
         have g1 := NE.out.box.2 (2 + i)
         clear h7 k7 hq
         refine Hid.out ?_)
      refine Lib.hid ?_
      have NF : Hid (BS F G r W bx t2 m2 (setKid x i (((m2.length : Nat) : Int) - 1)) (b2.setCell ⟨bx, 2 + i, none⟩ (.int .i64 (((m2.length : Nat) : Int) - 1)))) := NE.out.setKid HI3.out
      have HKN2 : Hid (kidsP (nodeP f) c (i + 1) (setKid x i (((m2.length : Nat) : Int) - 1)) t2 m2 = KR) := Lib.hid (by
        have h1 := HK.out
        have h2 := HSH.out
        unfold Shr at h2
        dsimp only at h2
        simp only [kidsP, E2.out, E3.out, Option.bind_some] at h1
        rw [show (((m2.length : Nat) : Int) - 1) = (((m2.length - 1 : Nat) : Nat) : Int) by omega]
        exact h1)
      go_wp2_with fail
      go_roundg c
      case measure => omega
      case rel => exact ⟨i + 1, _, t2, m2, by first | rfl | (rw [HR2.out]) | (congr 1; exact HR2.out), by have := HGK.out; omega, NF.out, HKN2.out, by have h1 := HSH.out; unfold Shr at h1; dsimp only at h1; have h2 := HQ.out; have h3 := HL.out; omega, by have h1 := HSH.out; unfold Shr at h1; dsimp only at h1; have h2 := HQ.out; have h3 := HL.out; omega⟩
    · have hie : i = kcn := by omega
      have hgz : gk = 0 := by omega
      subst hie
      subst hgz
      have HKF : Hid (KR = some (x, t, m)) := Lib.hid (by rw [← HK.out]; rfl)
      clear hin hgk
      obtain ⟨xo, xw, x0, x1, x2, xn, xl⟩ := x
      go_wp2_with (
         go_at_call 129
         refine (rneed_any NC.out.rd).mono ?_
         intro e b1 h7
         rcases hq : need 41 t with _ | t1
         · rw [hq] at h7
           obtain ⟨rfl, k7⟩ := h7
           exact ⟨rfl, by unfold NodeR; simp only [E1.out, Option.bind_some]; rw [HKR.out, HKF.out]; simp only [hq, Option.bind_some, Option.map_none]; exact ⟨rfl, NC.out.k.trans (k7.mono (fun i _ c => NC.out.gf i c))⟩⟩
         rw [hq] at h7
         obtain ⟨rfl, h7, k7⟩ := h7
         have ND := Lib.hid (NC.out.call h7 k7)
         have E2 := Lib.hid hq
         clear h7 k7 hq
         refine Hid.out ?_)
      refine Lib.hid ?_
      have HNL := Lib.hid (show m.length + t.length ≤ 9999 from HL.out.2)
      go_wp2_with fail
      obtain ⟨U, hU⟩ : ∃ U, b1 = U := ⟨_, rfl⟩
      have BU : Hid (BS F G r W bx t1 m (⟨xo, xw, x0, x1, x2, xn, xl⟩ : Nd) U) := Lib.hid (by rw [← hU]; exact ND.out)
      rw [hU]
      clear hU
      obtain ⟨tx, v, hrd⟩ := BU.out.rd
      have c1 := hrd.c1
      have lr := hrd.lt
      have lbx := BU.out.box.lt
      have f0 : U.cell? ⟨bx, 0, none⟩ = some (.int .u8 ((xo : Nat) : Int)) := BU.out.box.1.1
      have f1 : U.cell? ⟨bx, 1, none⟩ = some (.int .u8 ((xw : Nat) : Int)) := BU.out.box.1.2.1
      have f2 : U.cell? ⟨bx, 2, none⟩ = some (.int .i64 x0) := BU.out.box.1.2.2.1
      have f3 : U.cell? ⟨bx, 3, none⟩ = some (.int .i64 x1) := BU.out.box.1.2.2.2.1
      have f4 : U.cell? ⟨bx, 4, none⟩ = some (.int .i64 x2) := BU.out.box.1.2.2.2.2.1
      have f5 : U.cell? ⟨bx, 5, none⟩ = some (.int .u64 ((xn : Nat) : Int)) := BU.out.box.1.2.2.2.2.2.1
      have f6 : U.cell? ⟨bx, 6, none⟩ = some (.int .u8 ((xl : Nat) : Int)) := BU.out.box.1.2.2.2.2.2.2
      have HRD := Lib.hid hrd
      have HROW := Lib.hid (((row_kept hrd.row (Kept.ofBelow (bel_alloc (Below.refl _ _).drew (.cells #[.int .u8 ((xo : Nat) : Int), .int .u8 ((xw : Nat) : Int), .int .i64 x0, .int .i64 x1, .int .i64 x2, .int .u64 ((xn : Nat) : Int), .int .u8 ((xl : Nat) : Int)] 36)) (fun _ => False)) (fun _ _ c => c))))
      obtain ⟨a, c, hv⟩ := row_shape hrd.row
      subst hv
      clear hrd
      obtain ⟨i, z, hi, hz, hzs, hsz, hby⟩ := info_nd_parts
      have HW9 : Hid (wrap64 ((m.length : Nat) : Int) = ((m.length : Nat) : Int)) := Lib.hid (by have := HNL.out; unfold wrap64; rw [← IntKind.wrap_i64, IntKind.wrap_i64]; omega)
      have HHN : Hid (∀ j q, (Nd.cells (⟨xo, xw, x0, x1, x2, xn, xl⟩ : Nd)).toList[j]? = some q → (U.drew.alloc (.cells #[.int .u8 ((xo : Nat) : Int), .int .u8 ((xw : Nat) : Int), .int .i64 x0, .int .i64 x1, .int .i64 x2, .int .u64 ((xn : Nat) : Int), .int .u8 ((xl : Nat) : Int)] 36)).cell? ((⟨U.heap.size, 0, none⟩ : Addr).add j) = some q) := Lib.hid (cell_new7 U.drew _ _ _ _ _ _ _ _)
      go_region_law (refine step_append_at rfl (.tmp 53) (.tmp 55) 22 rfl 0 36 i z 7 48 Tryz.underlying22 hi hz hsz hby hzs (by decide) (.slice a m.length c) m.length (rowOf m) (by simp [Act.eval]) HROW.out ⟨U.heap.size, 0, none⟩ 1 1 (Nd.cells (⟨xo, xw, x0, x1, x2, xn, xl⟩ : Nd)).toList (by simp [Act.eval]) rfl HHN.out (one7 _) (by have := HNL.out; unfold maxLen; omega) (by have := HNL.out; omega) (Nat.zero_le _) ?_; intro v' w2 hrow hgr hloc; obtain ⟨g', c', rfl, hBg, hg'⟩ := row_slice hrow; obtain ⟨E1, E2, C1, F1⟩ := rd_appended HRD.out BU.out hrow hgr hloc)
      all_goals
        have HE1 := Lib.hid E1
        have HE2 := Lib.hid E2
        have C3 : (w2.setCell ⟨r, 1, none⟩ (.slice (some ⟨g', 0, none⟩) (m.length + 1) c')).cell? ⟨r, 1, none⟩ = some (.slice (some ⟨g', 0, none⟩) (m.length + 1) c') := World.cell?_setCell_same _ _ _ C1
        clear hrow hgr hloc E1 E2
        go_wp2_with fail
        exact bodyPost_ret (v := .int .i64 ((((m ++ [(⟨xo, xw, x0, x1, x2, xn, xl⟩ : Nd)]).length : Nat) : Int) - 1)) (by simp [results, Tryz.results100, go_sem, HW9.out]) rfl (by unfold NodeR; simp only [E1.out, Option.bind_some]; rw [HKR.out, HKF.out]; simp only [E2.out, Option.bind_some, Option.map_some]; exact ⟨by simp, HE1.out, HE2.out⟩)
end Tx
end Go.Proofs.YtkiegiofholofaaGreatDoor
