/-
  The reader of layer text: a node and those below it, as a fact on one call.
-/
import Derived.Test.YtbemkaninedonaaGreatDoorTxHeadB
import Derived.Test.YtbemkaninedonaaGreatDoorPt17
import Derived.Deep.RegionLaw
import Derived.Deep.LoopGhost
namespace Go.Proofs.YtbemkaninedonaaGreatDoor
open Go.RowKit Go.Maps Bv Tm
namespace Tx
set_option maxHeartbeats 3200000
set_option maxRecDepth 100000

/-- What a call of node has done. -/
def NodeR (F : Nat → Prop) (r : Nat) (w : World) (x : Option (By × List Nd)) : Ending → World → Prop :=
  Reads F r w x (fun p => .int .i64 ((p.2.length : Nat) - 1 : Int)) (fun p => p.1) (fun p => p.2)

/-- Behind the append of a node that was read, and the store. -/
theorem rd_appended {F G : Nat → Prop} {r bx : Nat} {W u w2 : World} {s : By} {ns : List Nd} {x : Nd} {tx : ByteArray} {v v' : Value} {o : Obj} (h : RdAt G r tx v s ns u) (hB : BS F G r W bx s ns x u)
    (hrow : w2.ownsRow 0 45 7 v' (ns.length + 1) (rowOf ns ++ x.cells.toList)) (hg : (u.drew.alloc o).grownBy w2 v.ownBlock) (hloc : v'.ownBlock = v.ownBlock ∨ v'.ownBlock = some (u.drew.alloc o).heap.size) :
    RdE F r s (ns ++ [x]) (w2.setCell ⟨r, 1, none⟩ v') ∧ Kept F W (w2.setCell ⟨r, 1, none⟩ v') ∧ w2.cell? ⟨r, 1, none⟩ = some v ∧ w2.frozen? ⟨r, 1, none⟩ = false := by
  have lr := h.lt
  have kb : Below u.heap.size u (u.drew.alloc o) := bel_alloc (Below.refl _ _).drew _
  have ls : (u.drew.alloc o).heap.size = u.heap.size + 1 := by simp
  have K1 : Kept G u w2 := ((Kept.ofBelow kb G)).grown hg (fun i hi _ => h.fo i hi)
  have lr1 : r < (u.drew.alloc o).heap.size := by omega
  have nr : some r ≠ v.ownBlock := Ne.symm h.gp
  have hc : ∀ q, w2.cell? ⟨r, q, none⟩ = u.cell? ⟨r, q, none⟩ := fun q => by
    rw [World.cell?_of_block (w := u.drew.alloc o) (hg.block r lr1 nr)]
    exact kb.cell (p := ⟨r, q, none⟩) lr
  have hf : ∀ q, w2.frozen? ⟨r, q, none⟩ = u.frozen? ⟨r, q, none⟩ := fun q => by
    rw [World.frozen?_of_block (w := u.drew.alloc o) (hg.block r lr1 nr)]
    exact kb.frozen (p := ⟨r, q, none⟩) lr
  have nb' : v'.ownBlock ≠ some r := by
    rcases hloc with e | e
    · rw [e]; exact h.gp
    · rw [e]; intro c; simp at c; omega
  refine ⟨⟨tx, v', ?_, h.tx, ?_, fun q => ?_, ?_, nb', hB.gf _ h.fb, ?_, fun i hi => hB.gf _ (h.fn i ?_)⟩, (hB.k.trans (K1.mono (fun i _ c => hB.gf i c))).setCell _ _ (fun _ => hB.gf _ h.fb), ?_, ?_⟩
  · rw [World.cell?_setCell_other _ _ _ _ (by simp), hc]; exact h.c0
  · exact World.cell?_setCell_same _ _ _ ((hc 1).trans h.c1)
  · rw [World.frozen?_setCell, hf]; exact h.fr q
  · have q := row_setCell hrow v' (a := ⟨r, 1, none⟩) nb'
    rw [rowOf_append, List.length_append]
    exact q
  · intro g e
    rcases hloc with c | c
    · rw [c] at e; exact hB.gf _ (h.fo g e)
    · rw [c] at e; simp at e; exact hB.gf _ (h.fn g (by omega))
  · have : w2.heap.size ≤ i := by simpa using hi
    have := K1.size
    omega
  · rw [hc]; exact h.c1
  · rw [hf]; exact h.fr 1

theorem rnode_const {F : Nat → Prop} {r : Nat} {s s1 : By} {ns : List Nd} {W : World} (h : RdE F r s ns W) (hE : EnvAt F W) (hs : s.length ≤ 10000) (hnl : ns.length + s.length ≤ 10000) (hh : s = 35 :: s1) :
    Calls Tryz.prog 29 #[.pointer (some ⟨r, 0, none⟩)] W (NodeR F r W ((sho s1).bind fun p => (need 58 p.2).bind fun r => (num r).map fun q => (q.2, ns ++ [⟨1, p.1, 0, 0, 0, q.1, 0⟩]))) := by
  have hb0 : Below W.heap.size W (W.alloc (.cells zNd.cells 45)) := bel_alloc (Below.refl _ _) _
  have R0 := h.apart hb0 (Nat.le_refl _) (by simp)
  obtain ⟨bx, hbx⟩ : ∃ bx, W.heap.size = bx := ⟨_, rfl⟩
  obtain ⟨G, hG⟩ : ∃ G : Nat → Prop, G = (fun i => F i ∧ i ≠ bx) := ⟨_, rfl⟩
  rw [hbx, ← hG] at R0
  have HFB : F bx := by obtain ⟨_, _, h⟩ := h; exact h.fn _ (by omega)
  have B0 : BS F G r W bx s ns zNd (W.alloc (.cells #[.int .u8 0, .int .u8 0, .int .i64 0, .int .i64 0, .int .i64 0, .int .u64 0, .int .u8 0] 45)) := ⟨R0, Kept.ofBelow hb0 F, by rw [← hbx]; exact NdAt.new W zNd _, hE.call hb0, fun i c => by rw [hG] at c; exact c.1, fun c => by rw [hG] at c; exact c.2 rfl, HFB⟩
  have HB0 := Lib.hid B0
  have HS := Lib.hid hs
  have HNL := Lib.hid hnl
  clear B0 R0 hG hs hnl h hE HFB hb0
  subst hh
  go_enter Tryz.func29, Tryz.ntmps29
  go_wp2_with fail
  try simp only [hbx]
  generalize (W.alloc (.cells #[.int .u8 0, .int .u8 0, .int .i64 0, .int .i64 0, .int .i64 0, .int .u64 0, .int .u8 0] 45)) = X at HB0 ⊢
  clear hbx
  have HL1 : Hid (s1.length ≤ 1000000) := Lib.hid (by have := HS.out; simp at this; omega)
  go_wp2_with (
     go_at_call 43
     refine (rhas_any HB0.out.rd 35).mono ?_
     rintro e a0 ⟨rfl, h7, k7⟩
     rw [show has1 35 (35 :: s1) = true from rfl]
     rw [show aft 35 (35 :: s1) = s1 from rfl] at h7
     have NA := Lib.hid (HB0.out.call h7 k7)
     clear h7 k7
     refine Hid.out ?_)
  refine Lib.hid ?_
  go_wp2_with (
     go_at_call 44
     refine (rsho_any NA.out.rd NA.out.envG HL1.out).mono ?_
     intro e a1 h7
     rcases hq : sho s1 with _ | ⟨v1, s2⟩
     · rw [hq] at h7
       obtain ⟨rfl, k7⟩ := h7
       exact ⟨rfl, by unfold NodeR; simp only [hq, Option.bind_none]; exact ⟨rfl, NA.out.k.trans (k7.mono (fun i _ c => NA.out.gf i c))⟩⟩
     rw [hq] at h7
     obtain ⟨rfl, h7, k7⟩ := h7
     have NB := Lib.hid (NA.out.call h7 k7)
     have E1 := Lib.hid hq
     have g0 := NB.out.box.1.1
     have g1 := NB.out.box.2 0
     have g2 := NB.out.box.1.2.1
     have g3 := NB.out.box.2 1
     have HU1 := Lib.hid (Nat.le_trans (sho_len hq) HL1.out)
     clear h7 k7 hq
     refine Hid.out ?_)
  refine Lib.hid ?_
  have NC : Hid (BS F G r W bx s2 ns ⟨1, v1, 0, 0, 0, 0, 0⟩ ((a1.setCell ⟨bx, 0, none⟩ (.int .u8 1)).setCell ⟨bx, 1, none⟩ (.int .u8 ((v1 : Nat) : Int)))) := (NB.out.set (i := 0) (x' := ⟨1, 0, 0, 0, 0, 0, 0⟩) (by omega) rfl (by intro j hj hne; rcases j with _ | _ | _ | _ | _ | _ | _ | j <;> first | rfl | omega)).set (i := 1) (by omega) rfl (by intro j hj hne; rcases j with _ | _ | _ | _ | _ | _ | _ | j <;> first | rfl | omega)
  go_wp2_with (
     go_at_call 45
     refine (rneed_any NC.out.rd).mono ?_
     intro e a2 h7
     rcases hq : need 58 s2 with _ | s3
     · rw [hq] at h7
       obtain ⟨rfl, k7⟩ := h7
       exact ⟨rfl, by unfold NodeR; simp only [E1.out, hq, Option.bind_some, Option.bind_none]; exact ⟨rfl, NC.out.k.trans (k7.mono (fun i _ c => NC.out.gf i c))⟩⟩
     rw [hq] at h7
     obtain ⟨rfl, h7, k7⟩ := h7
     have ND := Lib.hid (NC.out.call h7 k7)
     have E2 := Lib.hid hq
     have HU2 := Lib.hid (need_len hq)
     clear h7 k7 hq
     refine Hid.out ?_)
  refine Lib.hid ?_
  have HL3 : Hid (s3.length ≤ 1000000) := Lib.hid (by have := HU1.out; have := HU2.out; omega)
  go_wp2_with (
     go_at_call 46
     refine (rnum_any ND.out.rd ND.out.envG HL3.out).mono ?_
     intro e a3 h7
     rcases hq : num s3 with _ | ⟨v2, s4⟩
     · rw [hq] at h7
       obtain ⟨rfl, k7⟩ := h7
       exact ⟨rfl, by unfold NodeR; simp only [E1.out, E2.out, hq, Option.bind_some, Option.map_none]; exact ⟨rfl, ND.out.k.trans (k7.mono (fun i _ c => ND.out.gf i c))⟩⟩
     rw [hq] at h7
     obtain ⟨rfl, h7, k7⟩ := h7
     have NE := Lib.hid (ND.out.call h7 k7)
     have E3 := Lib.hid hq
     have g0 := NE.out.box.1.2.2.2.2.2.1
     have g1 := NE.out.box.2 5
     clear h7 k7 hq
     refine Hid.out ?_)
  refine Lib.hid ?_
  have NF : Hid (BS F G r W bx s4 ns ⟨1, v1, 0, 0, 0, v2, 0⟩ (a3.setCell ⟨bx, 5, none⟩ (.int .u64 ((v2 : Nat) : Int)))) := NE.out.set (i := 5) (by omega) rfl (by intro j hj hne; rcases j with _ | _ | _ | _ | _ | _ | _ | j <;> first | rfl | omega)
  go_wp2_with fail
  obtain ⟨U, hU⟩ : ∃ U, (a3.setCell ⟨bx, 5, none⟩ (.int .u64 ((v2 : Nat) : Int))) = U := ⟨_, rfl⟩
  have BU : Hid (BS F G r W bx s4 ns (⟨1, v1, 0, 0, 0, v2, 0⟩ : Nd) U) := Lib.hid (by rw [← hU]; exact NF.out)
  rw [hU]
  clear hU
  obtain ⟨tx, v, hrd⟩ := BU.out.rd
  have c1 := hrd.c1
  have lr := hrd.lt
  have lbx := BU.out.box.lt
  have f0 : U.cell? ⟨bx, 0, none⟩ = some (.int .u8 1) := BU.out.box.1.1
  have f1 : U.cell? ⟨bx, 1, none⟩ = some (.int .u8 ((v1 : Nat) : Int)) := BU.out.box.1.2.1
  have f2 : U.cell? ⟨bx, 2, none⟩ = some (.int .i64 0) := BU.out.box.1.2.2.1
  have f3 : U.cell? ⟨bx, 3, none⟩ = some (.int .i64 0) := BU.out.box.1.2.2.2.1
  have f4 : U.cell? ⟨bx, 4, none⟩ = some (.int .i64 0) := BU.out.box.1.2.2.2.2.1
  have f5 : U.cell? ⟨bx, 5, none⟩ = some (.int .u64 ((v2 : Nat) : Int)) := BU.out.box.1.2.2.2.2.2.1
  have f6 : U.cell? ⟨bx, 6, none⟩ = some (.int .u8 0) := BU.out.box.1.2.2.2.2.2.2
  have HRD := Lib.hid hrd
  have HROW := Lib.hid (((row_kept hrd.row (Kept.ofBelow (bel_alloc (Below.refl _ _).drew (.cells #[.int .u8 1, .int .u8 ((v1 : Nat) : Int), .int .i64 0, .int .i64 0, .int .i64 0, .int .u64 ((v2 : Nat) : Int), .int .u8 0] 45)) (fun _ => False)) (fun _ _ c => c))))
  obtain ⟨a, c, hv⟩ := row_shape hrd.row
  subst hv
  clear hrd
  obtain ⟨i, z, hi, hz, hzs, hsz, hby⟩ := info_nd_parts
  have HW9 : Hid (wrap64 ((ns.length : Nat) : Int) = ((ns.length : Nat) : Int)) := Lib.hid (by have := HNL.out; unfold wrap64; rw [← IntKind.wrap_i64, IntKind.wrap_i64]; omega)
  have HHN : Hid (∀ j q, (Nd.cells (⟨1, v1, 0, 0, 0, v2, 0⟩ : Nd)).toList[j]? = some q → (U.drew.alloc (.cells #[.int .u8 1, .int .u8 ((v1 : Nat) : Int), .int .i64 0, .int .i64 0, .int .i64 0, .int .u64 ((v2 : Nat) : Int), .int .u8 0] 45)).cell? ((⟨U.heap.size, 0, none⟩ : Addr).add j) = some q) := Lib.hid (cell_new7 U.drew _ _ _ _ _ _ _ _)
  go_region_law (refine step_append_at rfl (.tmp 53) (.tmp 55) 22 rfl 0 45 i z 7 48 Tryz.underlying22 hi hz hsz hby hzs (by decide) (.slice a ns.length c) ns.length (rowOf ns) (by simp [Act.eval]) HROW.out ⟨U.heap.size, 0, none⟩ 1 1 (Nd.cells (⟨1, v1, 0, 0, 0, v2, 0⟩ : Nd)).toList (by simp [Act.eval]) rfl HHN.out (one7 _) (by have := HNL.out; unfold maxLen; omega) (by have := HNL.out; omega) (Nat.zero_le _) ?_; intro v' w2 hrow hgr hloc; obtain ⟨g', c', rfl, hBg, hg'⟩ := row_slice hrow; obtain ⟨E1, E2, C1, F1⟩ := rd_appended HRD.out BU.out hrow hgr hloc)
  all_goals
    have HE1 := Lib.hid E1
    have HE2 := Lib.hid E2
    have C3 : (w2.setCell ⟨r, 1, none⟩ (.slice (some ⟨g', 0, none⟩) (ns.length + 1) c')).cell? ⟨r, 1, none⟩ = some (.slice (some ⟨g', 0, none⟩) (ns.length + 1) c') := World.cell?_setCell_same _ _ _ C1
    clear hrow hgr hloc E1 E2
    go_wp2_with fail
    exact bodyPost_ret (v := .int .i64 ((((ns ++ [(⟨1, v1, 0, 0, 0, v2, 0⟩ : Nd)]).length : Nat) : Int) - 1)) (by simp [results, Tryz.results29, go_sem, HW9.out]) rfl (by unfold NodeR; simp only [E1.out, E2.out, E3.out, Option.bind_some, Option.map_some]; exact ⟨by simp, HE1.out, HE2.out⟩)

theorem rnode_var {F : Nat → Prop} {r : Nat} {s s1 : By} {ns : List Nd} {W : World} (h : RdE F r s ns W) (hE : EnvAt F W) (hs : s.length ≤ 10000) (hnl : ns.length + s.length ≤ 10000) (hh : s = 118 :: s1) :
    Calls Tryz.prog 29 #[.pointer (some ⟨r, 0, none⟩)] W (NodeR F r W ((num s1).bind fun p => (need 58 p.2).bind fun r => (sho r).map fun q => (q.2, ns ++ [⟨2, q.1, 0, 0, 0, p.1, 0⟩]))) := by
  have hb0 : Below W.heap.size W (W.alloc (.cells zNd.cells 45)) := bel_alloc (Below.refl _ _) _
  have R0 := h.apart hb0 (Nat.le_refl _) (by simp)
  obtain ⟨bx, hbx⟩ : ∃ bx, W.heap.size = bx := ⟨_, rfl⟩
  obtain ⟨G, hG⟩ : ∃ G : Nat → Prop, G = (fun i => F i ∧ i ≠ bx) := ⟨_, rfl⟩
  rw [hbx, ← hG] at R0
  have HFB : F bx := by obtain ⟨_, _, h⟩ := h; exact h.fn _ (by omega)
  have B0 : BS F G r W bx s ns zNd (W.alloc (.cells #[.int .u8 0, .int .u8 0, .int .i64 0, .int .i64 0, .int .i64 0, .int .u64 0, .int .u8 0] 45)) := ⟨R0, Kept.ofBelow hb0 F, by rw [← hbx]; exact NdAt.new W zNd _, hE.call hb0, fun i c => by rw [hG] at c; exact c.1, fun c => by rw [hG] at c; exact c.2 rfl, HFB⟩
  have HB0 := Lib.hid B0
  have HS := Lib.hid hs
  have HNL := Lib.hid hnl
  clear B0 R0 hG hs hnl h hE HFB hb0
  subst hh
  go_enter Tryz.func29, Tryz.ntmps29
  go_wp2_with fail
  try simp only [hbx]
  generalize (W.alloc (.cells #[.int .u8 0, .int .u8 0, .int .i64 0, .int .i64 0, .int .i64 0, .int .u64 0, .int .u8 0] 45)) = X at HB0 ⊢
  clear hbx
  have HL1 : Hid (s1.length ≤ 1000000) := Lib.hid (by have := HS.out; simp at this; omega)
  go_wp2_with (
     go_at_call 43
     refine (rhas_any HB0.out.rd 35).mono ?_
     rintro e a9 ⟨rfl, h7, k7⟩
     rw [show has1 35 (118 :: s1) = false from rfl]
     rw [show aft 35 (118 :: s1) = 118 :: s1 from rfl] at h7
     have NZ := Lib.hid (HB0.out.call h7 k7)
     clear h7 k7
     refine Hid.out ?_)
  refine Lib.hid ?_
  go_wp2_with (
     go_at_call 43
     refine (rhas_any NZ.out.rd 118).mono ?_
     rintro e a0 ⟨rfl, h7, k7⟩
     rw [show has1 118 (118 :: s1) = true from rfl]
     rw [show aft 118 (118 :: s1) = s1 from rfl] at h7
     have NA := Lib.hid (NZ.out.call h7 k7)
     clear h7 k7
     refine Hid.out ?_)
  refine Lib.hid ?_
  go_wp2_with (
     go_at_call 46
     refine (rnum_any NA.out.rd NA.out.envG HL1.out).mono ?_
     intro e a1 h7
     rcases hq : num s1 with _ | ⟨v1, s2⟩
     · rw [hq] at h7
       obtain ⟨rfl, k7⟩ := h7
       exact ⟨rfl, by unfold NodeR; simp only [hq, Option.bind_none]; exact ⟨rfl, NA.out.k.trans (k7.mono (fun i _ c => NA.out.gf i c))⟩⟩
     rw [hq] at h7
     obtain ⟨rfl, h7, k7⟩ := h7
     have NB := Lib.hid (NA.out.call h7 k7)
     have E1 := Lib.hid hq
     have g0 := NB.out.box.1.1
     have g1 := NB.out.box.2 0
     have g2 := NB.out.box.1.2.2.2.2.2.1
     have g3 := NB.out.box.2 5
     have HU1 := Lib.hid (Nat.le_trans (num_len hq) HL1.out)
     clear h7 k7 hq
     refine Hid.out ?_)
  refine Lib.hid ?_
  have NC : Hid (BS F G r W bx s2 ns ⟨2, 0, 0, 0, 0, v1, 0⟩ ((a1.setCell ⟨bx, 0, none⟩ (.int .u8 2)).setCell ⟨bx, 5, none⟩ (.int .u64 ((v1 : Nat) : Int)))) := (NB.out.set (i := 0) (x' := ⟨2, 0, 0, 0, 0, 0, 0⟩) (by omega) rfl (by intro j hj hne; rcases j with _ | _ | _ | _ | _ | _ | _ | j <;> first | rfl | omega)).set (i := 5) (by omega) rfl (by intro j hj hne; rcases j with _ | _ | _ | _ | _ | _ | _ | j <;> first | rfl | omega)
  go_wp2_with (
     go_at_call 45
     refine (rneed_any NC.out.rd).mono ?_
     intro e a2 h7
     rcases hq : need 58 s2 with _ | s3
     · rw [hq] at h7
       obtain ⟨rfl, k7⟩ := h7
       exact ⟨rfl, by unfold NodeR; simp only [E1.out, hq, Option.bind_some, Option.bind_none]; exact ⟨rfl, NC.out.k.trans (k7.mono (fun i _ c => NC.out.gf i c))⟩⟩
     rw [hq] at h7
     obtain ⟨rfl, h7, k7⟩ := h7
     have ND := Lib.hid (NC.out.call h7 k7)
     have E2 := Lib.hid hq
     have HU2 := Lib.hid (need_len hq)
     clear h7 k7 hq
     refine Hid.out ?_)
  refine Lib.hid ?_
  have HL3 : Hid (s3.length ≤ 1000000) := Lib.hid (by have := HU1.out; have := HU2.out; omega)
  go_wp2_with (
     go_at_call 44
     refine (rsho_any ND.out.rd ND.out.envG HL3.out).mono ?_
     intro e a3 h7
     rcases hq : sho s3 with _ | ⟨v2, s4⟩
     · rw [hq] at h7
       obtain ⟨rfl, k7⟩ := h7
       exact ⟨rfl, by unfold NodeR; simp only [E1.out, E2.out, hq, Option.bind_some, Option.map_none]; exact ⟨rfl, ND.out.k.trans (k7.mono (fun i _ c => ND.out.gf i c))⟩⟩
     rw [hq] at h7
     obtain ⟨rfl, h7, k7⟩ := h7
     have NE := Lib.hid (ND.out.call h7 k7)
     have E3 := Lib.hid hq
     have g0 := NE.out.box.1.2.1
     have g1 := NE.out.box.2 1
     clear h7 k7 hq
     refine Hid.out ?_)
  refine Lib.hid ?_
  have NF : Hid (BS F G r W bx s4 ns ⟨2, v2, 0, 0, 0, v1, 0⟩ (a3.setCell ⟨bx, 1, none⟩ (.int .u8 ((v2 : Nat) : Int)))) := NE.out.set (i := 1) (by omega) rfl (by intro j hj hne; rcases j with _ | _ | _ | _ | _ | _ | _ | j <;> first | rfl | omega)
  go_wp2_with fail
  obtain ⟨U, hU⟩ : ∃ U, (a3.setCell ⟨bx, 1, none⟩ (.int .u8 ((v2 : Nat) : Int))) = U := ⟨_, rfl⟩
  have BU : Hid (BS F G r W bx s4 ns (⟨2, v2, 0, 0, 0, v1, 0⟩ : Nd) U) := Lib.hid (by rw [← hU]; exact NF.out)
  rw [hU]
  clear hU
  obtain ⟨tx, v, hrd⟩ := BU.out.rd
  have c1 := hrd.c1
  have lr := hrd.lt
  have lbx := BU.out.box.lt
  have f0 : U.cell? ⟨bx, 0, none⟩ = some (.int .u8 2) := BU.out.box.1.1
  have f1 : U.cell? ⟨bx, 1, none⟩ = some (.int .u8 ((v2 : Nat) : Int)) := BU.out.box.1.2.1
  have f2 : U.cell? ⟨bx, 2, none⟩ = some (.int .i64 0) := BU.out.box.1.2.2.1
  have f3 : U.cell? ⟨bx, 3, none⟩ = some (.int .i64 0) := BU.out.box.1.2.2.2.1
  have f4 : U.cell? ⟨bx, 4, none⟩ = some (.int .i64 0) := BU.out.box.1.2.2.2.2.1
  have f5 : U.cell? ⟨bx, 5, none⟩ = some (.int .u64 ((v1 : Nat) : Int)) := BU.out.box.1.2.2.2.2.2.1
  have f6 : U.cell? ⟨bx, 6, none⟩ = some (.int .u8 0) := BU.out.box.1.2.2.2.2.2.2
  have HRD := Lib.hid hrd
  have HROW := Lib.hid (((row_kept hrd.row (Kept.ofBelow (bel_alloc (Below.refl _ _).drew (.cells #[.int .u8 2, .int .u8 ((v2 : Nat) : Int), .int .i64 0, .int .i64 0, .int .i64 0, .int .u64 ((v1 : Nat) : Int), .int .u8 0] 45)) (fun _ => False)) (fun _ _ c => c))))
  obtain ⟨a, c, hv⟩ := row_shape hrd.row
  subst hv
  clear hrd
  obtain ⟨i, z, hi, hz, hzs, hsz, hby⟩ := info_nd_parts
  have HW9 : Hid (wrap64 ((ns.length : Nat) : Int) = ((ns.length : Nat) : Int)) := Lib.hid (by have := HNL.out; unfold wrap64; rw [← IntKind.wrap_i64, IntKind.wrap_i64]; omega)
  have HHN : Hid (∀ j q, (Nd.cells (⟨2, v2, 0, 0, 0, v1, 0⟩ : Nd)).toList[j]? = some q → (U.drew.alloc (.cells #[.int .u8 2, .int .u8 ((v2 : Nat) : Int), .int .i64 0, .int .i64 0, .int .i64 0, .int .u64 ((v1 : Nat) : Int), .int .u8 0] 45)).cell? ((⟨U.heap.size, 0, none⟩ : Addr).add j) = some q) := Lib.hid (cell_new7 U.drew _ _ _ _ _ _ _ _)
  go_region_law (refine step_append_at rfl (.tmp 53) (.tmp 55) 22 rfl 0 45 i z 7 48 Tryz.underlying22 hi hz hsz hby hzs (by decide) (.slice a ns.length c) ns.length (rowOf ns) (by simp [Act.eval]) HROW.out ⟨U.heap.size, 0, none⟩ 1 1 (Nd.cells (⟨2, v2, 0, 0, 0, v1, 0⟩ : Nd)).toList (by simp [Act.eval]) rfl HHN.out (one7 _) (by have := HNL.out; unfold maxLen; omega) (by have := HNL.out; omega) (Nat.zero_le _) ?_; intro v' w2 hrow hgr hloc; obtain ⟨g', c', rfl, hBg, hg'⟩ := row_slice hrow; obtain ⟨E1, E2, C1, F1⟩ := rd_appended HRD.out BU.out hrow hgr hloc)
  all_goals
    have HE1 := Lib.hid E1
    have HE2 := Lib.hid E2
    have C3 : (w2.setCell ⟨r, 1, none⟩ (.slice (some ⟨g', 0, none⟩) (ns.length + 1) c')).cell? ⟨r, 1, none⟩ = some (.slice (some ⟨g', 0, none⟩) (ns.length + 1) c') := World.cell?_setCell_same _ _ _ C1
    clear hrow hgr hloc E1 E2
    go_wp2_with fail
    exact bodyPost_ret (v := .int .i64 ((((ns ++ [(⟨2, v2, 0, 0, 0, v1, 0⟩ : Nd)]).length : Nat) : Int) - 1)) (by simp [results, Tryz.results29, go_sem, HW9.out]) rfl (by unfold NodeR; simp only [E1.out, E2.out, E3.out, Option.bind_some, Option.map_some]; exact ⟨by simp, HE1.out, HE2.out⟩)

end Tx
end Go.Proofs.YtbemkaninedonaaGreatDoor
