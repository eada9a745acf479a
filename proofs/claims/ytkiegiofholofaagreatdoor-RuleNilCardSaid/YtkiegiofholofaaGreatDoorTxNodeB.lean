/-
  node of layer text's writer, of constants and variables.
-/
import Derived.Test.YtkiegiofholofaaGreatDoorPt28
import Derived.Deep.RegionHeld3
namespace Go.Proofs.YtkiegiofholofaaGreatDoor
open Go.RowKit Go.Maps Bv Tm
namespace Tx
set_option maxHeartbeats 3200000
set_option maxRecDepth 100000

theorem tab_heap {P : Program} {w : World} {n : String} {k : IntKind} {zs : List Int} (h : Lib.TabIs P w n k zs) (w' : World) (e : w'.heap = w.heap) : Lib.TabIs P w' n k zs := by
  unfold Lib.TabIs World.var? at *
  rw [e]
  exact h
/-- Two cells of the node's own variable. -/
def Two15 (bx : Nat) (w n : Nat) (u : World) : Prop := u.cell? ⟨bx, 1, none⟩ = some (.int .u8 ((w : Nat) : Int)) ∧ u.cell? ⟨bx, 5, none⟩ = some (.int .u64 ((n : Nat) : Int))
theorem Two15.new {W1 : World} {w n : Nat} {x0 x2 x3 x4 x6 : Value} {T : TypeId} : Two15 W1.heap.size w n (W1.alloc (.cells #[x0, .int .u8 ((w : Nat) : Int), x2, x3, x4, .int .u64 ((n : Nat) : Int), x6] T)) := by
  constructor <;> (rw [World.cell?_alloc_new]; rfl)
theorem Two15.heap {bx w n : Nat} {u u' : World} (h : Two15 bx w n u) (e : u'.heap = u.heap) : Two15 bx w n u' := by
  unfold Two15 World.cell? at *
  rw [e]
  exact h
theorem Two15.kept {F : Nat → Prop} {bx w n : Nat} {u u' : World} (h : Two15 bx w n u) (k : Kept F u u') (hF : ¬ F bx) : Two15 bx w n u' :=
  ⟨(k.cell (x := ⟨bx, 1, none⟩) (World.block_lt_of_cell? u _ h.1) hF).trans h.1, (k.cell (x := ⟨bx, 5, none⟩) (World.block_lt_of_cell? u _ h.2) hF).trans h.2⟩
theorem Two15.call {bx w n : Nat} {u u' : World} (h : Two15 bx w n u) (k : Below u.heap.size u u') : Two15 bx w n u' := h.kept (Kept.ofBelow k (fun _ => False)) (fun c => c)
theorem Two15.alloc {bx w n : Nat} {u : World} (h : Two15 bx w n u) (o : Obj) : Two15 bx w n (u.alloc o) := h.call (bel_alloc (Below.refl _ _) o)

theorem wnode_const {F : Nat → Prop} {B b p mm k w n : Nat} {sv : Value} {L : List Nd} {k0 k1 k2 : Int} {l : Nat} {bs : By} {W : World} (hW : WrE F b (.pointer (some ⟨p, 0, none⟩)) bs W) (hE : EnvAt F W) (S : StoreAt B W p mm sv L)
    (hx : L[k]? = some ⟨1, w, k0, k1, k2, n, l⟩) (hl : bs.length ≤ 10000) :
    Calls Tryz.prog 27 #[.pointer (some ⟨b, 0, none⟩), .int .i64 ((k : Nat) : Int)] W (Wrote F b (.pointer (some ⟨p, 0, none⟩)) (bs ++ (35 :: (dec w ++ 58 :: dec n))) W) := by
  have hw := S.good.w _ (List.mem_of_getElem? hx)
  have hok := S.good.ok _ (List.mem_of_getElem? hx)
  have hwle : w ≤ 64 := hw.2
  have hnlt : n < 18446744073709551616 := hok.n
  have HNODE := Lib.hid (node_yes S hx)
  unfold Nd.val at HNODE
  obtain ⟨v, hv⟩ := hW
  have c0 := hv.c0
  have HV := Lib.hid (show WrE F b (.pointer (some ⟨p, 0, none⟩)) bs W from ⟨v, hv⟩)
  have hE' := hE
  have cw : IntKind.u64.wrap ((w : Nat) : Int) = ((w : Nat) : Int) := by rw [IntKind.wrap_u64]; omega
  have HWL := Lib.hid (show w < 100 by omega)
  have HNL := Lib.hid hnlt
  have HFE := Lib.hid (show bs ++ (35 :: (dec w ++ 58 :: dec n)) = bs ++ flat [⟨#[35]⟩, ⟨(dec w).toArray⟩, ⟨#[58]⟩, ⟨(dec n).toArray⟩] by simp [flat])
  have HFL := Lib.hid (show (bs ++ (35 :: (dec w ++ 58 :: dec n))).length ≤ 900000 by have := dec_len hnlt; have := dec_len (n := w) (by omega); simp; omega)
  clear hv hE S hx hw hok hwle hnlt hl
  generalize bs ++ (35 :: (dec w ++ 58 :: dec n)) = bs' at HFE HFL ⊢
  by_cases hf : bs'.length ≤ 10000
  · have HF := Lib.hid hf
    clear hf
    go_enter Tryz.func27, Tryz.ntmps27
    go_wp2_with (go_at_call 11; refine HNODE.out.mono ?_; rintro e W1 ⟨rfl, hb1⟩; have HB1 := Lib.hid hb1; clear hb1)
    have HT := Lib.hid (Two15.new : Two15 W1.heap.size w n (W1.alloc (.cells #[.int .u8 1, .int .u8 ((w : Nat) : Int), .int .i64 k0, .int .i64 k1, .int .i64 k2, .int .u64 ((n : Nat) : Int), .int .u8 ((l : Nat) : Int)] 36)))
    have HB2 := Lib.hid (bel_alloc HB1.out (.cells #[.int .u8 1, .int .u8 ((w : Nat) : Int), .int .i64 k0, .int .i64 k1, .int .i64 k2, .int .u64 ((n : Nat) : Int), .int .u8 ((l : Nat) : Int)] 36))
    have HX := Lib.hid (HV.out.apart HB2.out HB1.out.size (by simp))
    have HPW := Lib.hid (hE'.call HB2.out).pw
    clear hE'
    obtain ⟨bx, hbx⟩ : ∃ bx, W1.heap.size = bx := ⟨_, rfl⟩
    rw [hbx] at HT HX
    simp only [hbx]
    generalize (W1.alloc (.cells #[.int .u8 1, .int .u8 ((w : Nat) : Int), .int .i64 k0, .int .i64 k1, .int .i64 k2, .int .u64 ((n : Nat) : Int), .int .u8 ((l : Nat) : Int)] 36)) = X at HT HB2 HX HPW ⊢
    clear hbx HB1
    refine wp_region_held_drew (S := fun w' => Two15 bx w n w') (by kernel_rfl) (HT.out.heap rfl) (fun hHeld => ?_)
    refine wpAnyH_take (i := 0) (v := .pointer (some ⟨b, 0, none⟩)) (by simp only [List.getElem?_toArray, List.getElem?_cons_zero]; rfl) (by kernel_rfl) (by kernel_rfl) (by kernel_rfl) (by exact fun _ _ _ h => h) (Or.inl ⟨by rfl, ?_⟩) hHeld ?_
    · intro w' hSw
      go_simp
    simp only [Act.put, List.setIfInBounds_toArray, List.set_cons_zero, List.set_cons_succ]
    refine wpAnyH_take (i := 1) (v := .pointer (some ⟨bx, 1, none⟩)) (by simp only [List.getElem?_toArray, List.getElem?_cons_zero, List.getElem?_cons_succ]; rfl) (by kernel_rfl) (by kernel_rfl) (by kernel_rfl) (by exact fun _ _ _ h => h) (Or.inl ⟨by rfl, ?_⟩) hHeld ?_
    · intro w' hSw
      go_simp
    simp only [Act.put, List.setIfInBounds_toArray, List.set_cons_zero, List.set_cons_succ]
    refine wpAnyH_take (i := 2) (v := .int .u8 ((w : Nat) : Int)) (by simp only [List.getElem?_toArray, List.getElem?_cons_zero, List.getElem?_cons_succ]; rfl) (by kernel_rfl) (by kernel_rfl) (by kernel_rfl) (by exact fun _ _ _ h => h) (Or.inl ⟨by rfl, ?_⟩) hHeld ?_
    · intro w' hSw
      obtain ⟨f1, f5⟩ := hSw; go_simp
    simp only [Act.put, List.setIfInBounds_toArray, List.set_cons_zero, List.set_cons_succ]
    refine wpAnyH_take (i := 3) (v := .int .u64 ((w : Nat) : Int)) (by simp only [List.getElem?_toArray, List.getElem?_cons_zero, List.getElem?_cons_succ]; rfl) (by kernel_rfl) (by kernel_rfl) (by kernel_rfl) (by exact fun _ _ _ h => h) (Or.inl ⟨by rfl, ?_⟩) hHeld ?_
    · intro w' hSw
      go_simp
    simp only [Act.put, List.setIfInBounds_toArray, List.set_cons_zero, List.set_cons_succ]
    refine wpAnyH_take (i := 5) (v := .pointer (some ⟨bx, 5, none⟩)) (by simp only [List.getElem?_toArray, List.getElem?_cons_zero, List.getElem?_cons_succ]; rfl) (by kernel_rfl) (by kernel_rfl) (by kernel_rfl) (by exact fun _ _ _ h => h) (Or.inl ⟨by rfl, ?_⟩) hHeld ?_
    · intro w' hSw
      go_simp
    simp only [Act.put, List.setIfInBounds_toArray, List.set_cons_zero, List.set_cons_succ]
    refine wpAnyH_take (i := 6) (v := .int .u64 ((n : Nat) : Int)) (by simp only [List.getElem?_toArray, List.getElem?_cons_zero, List.getElem?_cons_succ]; rfl) (by kernel_rfl) (by kernel_rfl) (by kernel_rfl) (by exact fun _ _ _ h => h) (Or.inl ⟨by rfl, ?_⟩) hHeld ?_
    · intro w' hSw
      obtain ⟨f1, f5⟩ := hSw; go_simp
    simp only [Act.put, List.setIfInBounds_toArray, List.set_cons_zero, List.set_cons_succ]
    refine wpAnyH_ready (rs := [4]) (by kernel_rfl) (by simp) ?_
    refine AllReadyH.cons (by simp only [List.getElem?_toArray, List.getElem?_cons_zero, List.getElem?_cons_succ]; rfl) (fun K hK => ?_) AllReadyH.nil
    go_simp
    refine (small_tens w HWL.out _).mono ?_
    rintro e w5 ⟨rfl, rfl⟩
    refine hK.out _ _ hHeld (fun _ => ?_)
    clear hK K
    try simp only [Act.put, List.setIfInBounds_toArray, List.set_cons_zero, List.set_cons_succ]
    refine wpAnyH_ready (rs := [7]) (by kernel_rfl) (by simp) ?_
    refine AllReadyH.cons (by simp only [List.getElem?_toArray, List.getElem?_cons_zero, List.getElem?_cons_succ]; rfl) (fun K hK => ?_) AllReadyH.nil
    go_simp
    refine (tens_any n HNL.out _ (by exact tab_heap HPW.out _ rfl)).mono ?_
    rintro e w6 ⟨rfl, hb6⟩
    have HB6 : Hid (Below X.heap.size X w6) := Lib.hid ⟨hb6.os, hb6.tape, hb6.output, hb6.size, hb6.block⟩
    refine hK.out _ _ (HT.out.call HB6.out) (fun hHeld => ?_)
    clear hK K hb6
    try simp only [Act.put, List.setIfInBounds_toArray, List.set_cons_zero, List.set_cons_succ]
    refine wpAnyH_ready (rs := [8]) (by kernel_rfl) (by simp) ?_
    refine AllReadyH.cons (by simp only [List.getElem?_toArray, List.getElem?_cons_zero, List.getElem?_cons_succ]; rfl) (fun K hK => ?_) AllReadyH.nil
    go_simp
    refine hK.out _ _ (hHeld.alloc _) (fun hHeld => ?_)
    clear hK K
    try simp only [Act.put, List.setIfInBounds_toArray, List.set_cons_zero, List.set_cons_succ]
    refine wpAnyH_ready (rs := [9]) (by kernel_rfl) (by simp) ?_
    refine AllReadyH.cons (by simp only [List.getElem?_toArray, List.getElem?_cons_zero, List.getElem?_cons_succ]; rfl) (fun K hK => ?_) AllReadyH.nil
    go_simp
    refine (add_fit HF.out HFE.out HX.out (by repeat (first | exact HB6.out | refine Below.drew ?_ | refine bel_alloc ?_ _)) (by exact HB6.out.size) (by simp) (by exact fun i s h => parts_new (P := [⟨#[35]⟩, ⟨(dec w).toArray⟩, ⟨#[58]⟩, ⟨(dec n).toArray⟩]) _ _ i s h) rfl (by simp)).mono ?_
    rintro e w7 ⟨rfl, h7, k7⟩
    refine hK.out _ _ (HT.out.kept k7 (fun c => c.2 rfl)) (fun hHeld => ?_)
    clear hK K
    try simp only [Act.put, List.setIfInBounds_toArray, List.set_cons_zero, List.set_cons_succ]
    refine wpAnyH_done (by kernel_rfl) ?_ _
    go_wp2_with fail
    exact bodyPost_ret (v := .tuple #[]) (by simp [results, Tryz.results27, go_sem]) rfl (.inl ⟨HF.out, rfl, h7.mono (fun i c => c.1), (Kept.ofBelow HB2.out F).trans (k7.mono (fun i _ c => c.1))⟩)
  · have HF := Lib.hid (show 10000 < bs'.length by omega)
    clear hf
    go_enter Tryz.func27, Tryz.ntmps27
    go_wp2_with (go_at_call 11; refine HNODE.out.mono ?_; rintro e W1 ⟨rfl, hb1⟩; have HB1 := Lib.hid hb1; clear hb1)
    have HT := Lib.hid (Two15.new : Two15 W1.heap.size w n (W1.alloc (.cells #[.int .u8 1, .int .u8 ((w : Nat) : Int), .int .i64 k0, .int .i64 k1, .int .i64 k2, .int .u64 ((n : Nat) : Int), .int .u8 ((l : Nat) : Int)] 36)))
    have HB2 := Lib.hid (bel_alloc HB1.out (.cells #[.int .u8 1, .int .u8 ((w : Nat) : Int), .int .i64 k0, .int .i64 k1, .int .i64 k2, .int .u64 ((n : Nat) : Int), .int .u8 ((l : Nat) : Int)] 36))
    have HX := Lib.hid (HV.out.apart HB2.out HB1.out.size (by simp))
    have HPW := Lib.hid (hE'.call HB2.out).pw
    clear hE'
    obtain ⟨bx, hbx⟩ : ∃ bx, W1.heap.size = bx := ⟨_, rfl⟩
    rw [hbx] at HT HX
    simp only [hbx]
    generalize (W1.alloc (.cells #[.int .u8 1, .int .u8 ((w : Nat) : Int), .int .i64 k0, .int .i64 k1, .int .i64 k2, .int .u64 ((n : Nat) : Int), .int .u8 ((l : Nat) : Int)] 36)) = X at HT HB2 HX HPW ⊢
    clear hbx HB1
    refine wp_region_held_drew (S := fun w' => Two15 bx w n w') (by kernel_rfl) (HT.out.heap rfl) (fun hHeld => ?_)
    refine wpAnyH_take (i := 0) (v := .pointer (some ⟨b, 0, none⟩)) (by simp only [List.getElem?_toArray, List.getElem?_cons_zero]; rfl) (by kernel_rfl) (by kernel_rfl) (by kernel_rfl) (by exact fun _ _ _ h => h) (Or.inl ⟨by rfl, ?_⟩) hHeld ?_
    · intro w' hSw
      go_simp
    simp only [Act.put, List.setIfInBounds_toArray, List.set_cons_zero, List.set_cons_succ]
    refine wpAnyH_take (i := 1) (v := .pointer (some ⟨bx, 1, none⟩)) (by simp only [List.getElem?_toArray, List.getElem?_cons_zero, List.getElem?_cons_succ]; rfl) (by kernel_rfl) (by kernel_rfl) (by kernel_rfl) (by exact fun _ _ _ h => h) (Or.inl ⟨by rfl, ?_⟩) hHeld ?_
    · intro w' hSw
      go_simp
    simp only [Act.put, List.setIfInBounds_toArray, List.set_cons_zero, List.set_cons_succ]
    refine wpAnyH_take (i := 2) (v := .int .u8 ((w : Nat) : Int)) (by simp only [List.getElem?_toArray, List.getElem?_cons_zero, List.getElem?_cons_succ]; rfl) (by kernel_rfl) (by kernel_rfl) (by kernel_rfl) (by exact fun _ _ _ h => h) (Or.inl ⟨by rfl, ?_⟩) hHeld ?_
    · intro w' hSw
      obtain ⟨f1, f5⟩ := hSw; go_simp
    simp only [Act.put, List.setIfInBounds_toArray, List.set_cons_zero, List.set_cons_succ]
    refine wpAnyH_take (i := 3) (v := .int .u64 ((w : Nat) : Int)) (by simp only [List.getElem?_toArray, List.getElem?_cons_zero, List.getElem?_cons_succ]; rfl) (by kernel_rfl) (by kernel_rfl) (by kernel_rfl) (by exact fun _ _ _ h => h) (Or.inl ⟨by rfl, ?_⟩) hHeld ?_
    · intro w' hSw
      go_simp
    simp only [Act.put, List.setIfInBounds_toArray, List.set_cons_zero, List.set_cons_succ]
    refine wpAnyH_take (i := 5) (v := .pointer (some ⟨bx, 5, none⟩)) (by simp only [List.getElem?_toArray, List.getElem?_cons_zero, List.getElem?_cons_succ]; rfl) (by kernel_rfl) (by kernel_rfl) (by kernel_rfl) (by exact fun _ _ _ h => h) (Or.inl ⟨by rfl, ?_⟩) hHeld ?_
    · intro w' hSw
      go_simp
    simp only [Act.put, List.setIfInBounds_toArray, List.set_cons_zero, List.set_cons_succ]
    refine wpAnyH_take (i := 6) (v := .int .u64 ((n : Nat) : Int)) (by simp only [List.getElem?_toArray, List.getElem?_cons_zero, List.getElem?_cons_succ]; rfl) (by kernel_rfl) (by kernel_rfl) (by kernel_rfl) (by exact fun _ _ _ h => h) (Or.inl ⟨by rfl, ?_⟩) hHeld ?_
    · intro w' hSw
      obtain ⟨f1, f5⟩ := hSw; go_simp
    simp only [Act.put, List.setIfInBounds_toArray, List.set_cons_zero, List.set_cons_succ]
    refine wpAnyH_ready (rs := [4]) (by kernel_rfl) (by simp) ?_
    refine AllReadyH.cons (by simp only [List.getElem?_toArray, List.getElem?_cons_zero, List.getElem?_cons_succ]; rfl) (fun K hK => ?_) AllReadyH.nil
    go_simp
    refine (small_tens w HWL.out _).mono ?_
    rintro e w5 ⟨rfl, rfl⟩
    refine hK.out _ _ hHeld (fun _ => ?_)
    clear hK K
    try simp only [Act.put, List.setIfInBounds_toArray, List.set_cons_zero, List.set_cons_succ]
    refine wpAnyH_ready (rs := [7]) (by kernel_rfl) (by simp) ?_
    refine AllReadyH.cons (by simp only [List.getElem?_toArray, List.getElem?_cons_zero, List.getElem?_cons_succ]; rfl) (fun K hK => ?_) AllReadyH.nil
    go_simp
    refine (tens_any n HNL.out _ (by exact tab_heap HPW.out _ rfl)).mono ?_
    rintro e w6 ⟨rfl, hb6⟩
    have HB6 : Hid (Below X.heap.size X w6) := Lib.hid ⟨hb6.os, hb6.tape, hb6.output, hb6.size, hb6.block⟩
    refine hK.out _ _ (HT.out.call HB6.out) (fun hHeld => ?_)
    clear hK K hb6
    try simp only [Act.put, List.setIfInBounds_toArray, List.set_cons_zero, List.set_cons_succ]
    refine wpAnyH_ready (rs := [8]) (by kernel_rfl) (by simp) ?_
    refine AllReadyH.cons (by simp only [List.getElem?_toArray, List.getElem?_cons_zero, List.getElem?_cons_succ]; rfl) (fun K hK => ?_) AllReadyH.nil
    go_simp
    refine hK.out _ _ (hHeld.alloc _) (fun hHeld => ?_)
    clear hK K
    try simp only [Act.put, List.setIfInBounds_toArray, List.set_cons_zero, List.set_cons_succ]
    refine wpAnyH_ready (rs := [9]) (by kernel_rfl) (by simp) ?_
    refine AllReadyH.cons (by simp only [List.getElem?_toArray, List.getElem?_cons_zero, List.getElem?_cons_succ]; rfl) (fun K hK => ?_) AllReadyH.nil
    go_simp
    refine (add_over HF.out HFL.out HFE.out HX.out (by repeat (first | exact HB6.out | refine Below.drew ?_ | refine bel_alloc ?_ _)) (by exact HB6.out.size) (by simp) (by exact fun i s h => parts_new (P := [⟨#[35]⟩, ⟨(dec w).toArray⟩, ⟨#[58]⟩, ⟨(dec n).toArray⟩]) _ _ i s h) rfl (by simp)).mono ?_
    rintro e w7 ⟨rfl, k7⟩
    exact ⟨rfl, .inr ⟨HF.out, rfl, (Kept.ofBelow HB2.out F).trans (k7.mono (fun i _ c => c.1))⟩⟩

theorem wnode_var {F : Nat → Prop} {B b p mm k w n : Nat} {sv : Value} {L : List Nd} {k0 k1 k2 : Int} {l : Nat} {bs : By} {W : World} (hW : WrE F b (.pointer (some ⟨p, 0, none⟩)) bs W) (hE : EnvAt F W) (S : StoreAt B W p mm sv L)
    (hx : L[k]? = some ⟨2, w, k0, k1, k2, n, l⟩) (hl : bs.length ≤ 10000) :
    Calls Tryz.prog 27 #[.pointer (some ⟨b, 0, none⟩), .int .i64 ((k : Nat) : Int)] W (Wrote F b (.pointer (some ⟨p, 0, none⟩)) (bs ++ (118 :: (dec n ++ 58 :: dec w))) W) := by
  have hw := S.good.w _ (List.mem_of_getElem? hx)
  have hok := S.good.ok _ (List.mem_of_getElem? hx)
  have hwle : w ≤ 64 := hw.2
  have hnlt : n < 18446744073709551616 := hok.n
  have HNODE := Lib.hid (node_yes S hx)
  unfold Nd.val at HNODE
  obtain ⟨v, hv⟩ := hW
  have c0 := hv.c0
  have HV := Lib.hid (show WrE F b (.pointer (some ⟨p, 0, none⟩)) bs W from ⟨v, hv⟩)
  have hE' := hE
  have cw : IntKind.u64.wrap ((w : Nat) : Int) = ((w : Nat) : Int) := by rw [IntKind.wrap_u64]; omega
  have HWL := Lib.hid (show w < 100 by omega)
  have HNL := Lib.hid hnlt
  have HFE := Lib.hid (show bs ++ (118 :: (dec n ++ 58 :: dec w)) = bs ++ flat [⟨#[118]⟩, ⟨(dec n).toArray⟩, ⟨#[58]⟩, ⟨(dec w).toArray⟩] by simp [flat])
  have HFL := Lib.hid (show (bs ++ (118 :: (dec n ++ 58 :: dec w))).length ≤ 900000 by have := dec_len hnlt; have := dec_len (n := w) (by omega); simp; omega)
  clear hv hE S hx hw hok hwle hnlt hl
  generalize bs ++ (118 :: (dec n ++ 58 :: dec w)) = bs' at HFE HFL ⊢
  by_cases hf : bs'.length ≤ 10000
  · have HF := Lib.hid hf
    clear hf
    go_enter Tryz.func27, Tryz.ntmps27
    go_wp2_with (go_at_call 11; refine HNODE.out.mono ?_; rintro e W1 ⟨rfl, hb1⟩; have HB1 := Lib.hid hb1; clear hb1)
    have HT := Lib.hid (Two15.new : Two15 W1.heap.size w n (W1.alloc (.cells #[.int .u8 2, .int .u8 ((w : Nat) : Int), .int .i64 k0, .int .i64 k1, .int .i64 k2, .int .u64 ((n : Nat) : Int), .int .u8 ((l : Nat) : Int)] 36)))
    have HB2 := Lib.hid (bel_alloc HB1.out (.cells #[.int .u8 2, .int .u8 ((w : Nat) : Int), .int .i64 k0, .int .i64 k1, .int .i64 k2, .int .u64 ((n : Nat) : Int), .int .u8 ((l : Nat) : Int)] 36))
    have HX := Lib.hid (HV.out.apart HB2.out HB1.out.size (by simp))
    have HPW := Lib.hid (hE'.call HB2.out).pw
    clear hE'
    obtain ⟨bx, hbx⟩ : ∃ bx, W1.heap.size = bx := ⟨_, rfl⟩
    rw [hbx] at HT HX
    simp only [hbx]
    generalize (W1.alloc (.cells #[.int .u8 2, .int .u8 ((w : Nat) : Int), .int .i64 k0, .int .i64 k1, .int .i64 k2, .int .u64 ((n : Nat) : Int), .int .u8 ((l : Nat) : Int)] 36)) = X at HT HB2 HX HPW ⊢
    clear hbx HB1
    refine wp_region_held_drew (S := fun w' => Two15 bx w n w') (by kernel_rfl) (HT.out.heap rfl) (fun hHeld => ?_)
    refine wpAnyH_take (i := 0) (v := .pointer (some ⟨b, 0, none⟩)) (by simp only [List.getElem?_toArray, List.getElem?_cons_zero]; rfl) (by kernel_rfl) (by kernel_rfl) (by kernel_rfl) (by exact fun _ _ _ h => h) (Or.inl ⟨by rfl, ?_⟩) hHeld ?_
    · intro w' hSw
      go_simp
    simp only [Act.put, List.setIfInBounds_toArray, List.set_cons_zero, List.set_cons_succ]
    refine wpAnyH_take (i := 1) (v := .pointer (some ⟨bx, 5, none⟩)) (by simp only [List.getElem?_toArray, List.getElem?_cons_zero, List.getElem?_cons_succ]; rfl) (by kernel_rfl) (by kernel_rfl) (by kernel_rfl) (by exact fun _ _ _ h => h) (Or.inl ⟨by rfl, ?_⟩) hHeld ?_
    · intro w' hSw
      go_simp
    simp only [Act.put, List.setIfInBounds_toArray, List.set_cons_zero, List.set_cons_succ]
    refine wpAnyH_take (i := 2) (v := .int .u64 ((n : Nat) : Int)) (by simp only [List.getElem?_toArray, List.getElem?_cons_zero, List.getElem?_cons_succ]; rfl) (by kernel_rfl) (by kernel_rfl) (by kernel_rfl) (by exact fun _ _ _ h => h) (Or.inl ⟨by rfl, ?_⟩) hHeld ?_
    · intro w' hSw
      obtain ⟨f1, f5⟩ := hSw; go_simp
    simp only [Act.put, List.setIfInBounds_toArray, List.set_cons_zero, List.set_cons_succ]
    refine wpAnyH_take (i := 4) (v := .pointer (some ⟨bx, 1, none⟩)) (by simp only [List.getElem?_toArray, List.getElem?_cons_zero, List.getElem?_cons_succ]; rfl) (by kernel_rfl) (by kernel_rfl) (by kernel_rfl) (by exact fun _ _ _ h => h) (Or.inl ⟨by rfl, ?_⟩) hHeld ?_
    · intro w' hSw
      go_simp
    simp only [Act.put, List.setIfInBounds_toArray, List.set_cons_zero, List.set_cons_succ]
    refine wpAnyH_take (i := 5) (v := .int .u8 ((w : Nat) : Int)) (by simp only [List.getElem?_toArray, List.getElem?_cons_zero, List.getElem?_cons_succ]; rfl) (by kernel_rfl) (by kernel_rfl) (by kernel_rfl) (by exact fun _ _ _ h => h) (Or.inl ⟨by rfl, ?_⟩) hHeld ?_
    · intro w' hSw
      obtain ⟨f1, f5⟩ := hSw; go_simp
    simp only [Act.put, List.setIfInBounds_toArray, List.set_cons_zero, List.set_cons_succ]
    refine wpAnyH_take (i := 6) (v := .int .u64 ((w : Nat) : Int)) (by simp only [List.getElem?_toArray, List.getElem?_cons_zero, List.getElem?_cons_succ]; rfl) (by kernel_rfl) (by kernel_rfl) (by kernel_rfl) (by exact fun _ _ _ h => h) (Or.inl ⟨by rfl, ?_⟩) hHeld ?_
    · intro w' hSw
      go_simp
    simp only [Act.put, List.setIfInBounds_toArray, List.set_cons_zero, List.set_cons_succ]
    refine wpAnyH_ready (rs := [3]) (by kernel_rfl) (by simp) ?_
    refine AllReadyH.cons (by simp only [List.getElem?_toArray, List.getElem?_cons_zero, List.getElem?_cons_succ]; rfl) (fun K hK => ?_) AllReadyH.nil
    go_simp
    refine (tens_any n HNL.out _ (by exact tab_heap HPW.out _ rfl)).mono ?_
    rintro e w6 ⟨rfl, hb6⟩
    have HB6 : Hid (Below X.heap.size X w6) := Lib.hid ⟨hb6.os, hb6.tape, hb6.output, hb6.size, hb6.block⟩
    refine hK.out _ _ (HT.out.call HB6.out) (fun hHeld => ?_)
    clear hK K hb6
    try simp only [Act.put, List.setIfInBounds_toArray, List.set_cons_zero, List.set_cons_succ]
    refine wpAnyH_ready (rs := [7]) (by kernel_rfl) (by simp) ?_
    refine AllReadyH.cons (by simp only [List.getElem?_toArray, List.getElem?_cons_zero, List.getElem?_cons_succ]; rfl) (fun K hK => ?_) AllReadyH.nil
    go_simp
    refine (small_tens w HWL.out _).mono ?_
    rintro e w5 ⟨rfl, rfl⟩
    refine hK.out _ _ hHeld (fun _ => ?_)
    clear hK K
    try simp only [Act.put, List.setIfInBounds_toArray, List.set_cons_zero, List.set_cons_succ]
    refine wpAnyH_ready (rs := [8]) (by kernel_rfl) (by simp) ?_
    refine AllReadyH.cons (by simp only [List.getElem?_toArray, List.getElem?_cons_zero, List.getElem?_cons_succ]; rfl) (fun K hK => ?_) AllReadyH.nil
    go_simp
    refine hK.out _ _ (hHeld.alloc _) (fun hHeld => ?_)
    clear hK K
    try simp only [Act.put, List.setIfInBounds_toArray, List.set_cons_zero, List.set_cons_succ]
    refine wpAnyH_ready (rs := [9]) (by kernel_rfl) (by simp) ?_
    refine AllReadyH.cons (by simp only [List.getElem?_toArray, List.getElem?_cons_zero, List.getElem?_cons_succ]; rfl) (fun K hK => ?_) AllReadyH.nil
    go_simp
    refine (add_fit HF.out HFE.out HX.out (by repeat (first | exact HB6.out | refine Below.drew ?_ | refine bel_alloc ?_ _)) (by exact HB6.out.size) (by simp) (by exact fun i s h => parts_new (P := [⟨#[118]⟩, ⟨(dec n).toArray⟩, ⟨#[58]⟩, ⟨(dec w).toArray⟩]) _ _ i s h) rfl (by simp)).mono ?_
    rintro e w7 ⟨rfl, h7, k7⟩
    refine hK.out _ _ (HT.out.kept k7 (fun c => c.2 rfl)) (fun hHeld => ?_)
    clear hK K
    try simp only [Act.put, List.setIfInBounds_toArray, List.set_cons_zero, List.set_cons_succ]
    refine wpAnyH_done (by kernel_rfl) ?_ _
    go_wp2_with fail
    exact bodyPost_ret (v := .tuple #[]) (by simp [results, Tryz.results27, go_sem]) rfl (.inl ⟨HF.out, rfl, h7.mono (fun i c => c.1), (Kept.ofBelow HB2.out F).trans (k7.mono (fun i _ c => c.1))⟩)
  · have HF := Lib.hid (show 10000 < bs'.length by omega)
    clear hf
    go_enter Tryz.func27, Tryz.ntmps27
    go_wp2_with (go_at_call 11; refine HNODE.out.mono ?_; rintro e W1 ⟨rfl, hb1⟩; have HB1 := Lib.hid hb1; clear hb1)
    have HT := Lib.hid (Two15.new : Two15 W1.heap.size w n (W1.alloc (.cells #[.int .u8 2, .int .u8 ((w : Nat) : Int), .int .i64 k0, .int .i64 k1, .int .i64 k2, .int .u64 ((n : Nat) : Int), .int .u8 ((l : Nat) : Int)] 36)))
    have HB2 := Lib.hid (bel_alloc HB1.out (.cells #[.int .u8 2, .int .u8 ((w : Nat) : Int), .int .i64 k0, .int .i64 k1, .int .i64 k2, .int .u64 ((n : Nat) : Int), .int .u8 ((l : Nat) : Int)] 36))
    have HX := Lib.hid (HV.out.apart HB2.out HB1.out.size (by simp))
    have HPW := Lib.hid (hE'.call HB2.out).pw
    clear hE'
    obtain ⟨bx, hbx⟩ : ∃ bx, W1.heap.size = bx := ⟨_, rfl⟩
    rw [hbx] at HT HX
    simp only [hbx]
    generalize (W1.alloc (.cells #[.int .u8 2, .int .u8 ((w : Nat) : Int), .int .i64 k0, .int .i64 k1, .int .i64 k2, .int .u64 ((n : Nat) : Int), .int .u8 ((l : Nat) : Int)] 36)) = X at HT HB2 HX HPW ⊢
    clear hbx HB1
    refine wp_region_held_drew (S := fun w' => Two15 bx w n w') (by kernel_rfl) (HT.out.heap rfl) (fun hHeld => ?_)
    refine wpAnyH_take (i := 0) (v := .pointer (some ⟨b, 0, none⟩)) (by simp only [List.getElem?_toArray, List.getElem?_cons_zero]; rfl) (by kernel_rfl) (by kernel_rfl) (by kernel_rfl) (by exact fun _ _ _ h => h) (Or.inl ⟨by rfl, ?_⟩) hHeld ?_
    · intro w' hSw
      go_simp
    simp only [Act.put, List.setIfInBounds_toArray, List.set_cons_zero, List.set_cons_succ]
    refine wpAnyH_take (i := 1) (v := .pointer (some ⟨bx, 5, none⟩)) (by simp only [List.getElem?_toArray, List.getElem?_cons_zero, List.getElem?_cons_succ]; rfl) (by kernel_rfl) (by kernel_rfl) (by kernel_rfl) (by exact fun _ _ _ h => h) (Or.inl ⟨by rfl, ?_⟩) hHeld ?_
    · intro w' hSw
      go_simp
    simp only [Act.put, List.setIfInBounds_toArray, List.set_cons_zero, List.set_cons_succ]
    refine wpAnyH_take (i := 2) (v := .int .u64 ((n : Nat) : Int)) (by simp only [List.getElem?_toArray, List.getElem?_cons_zero, List.getElem?_cons_succ]; rfl) (by kernel_rfl) (by kernel_rfl) (by kernel_rfl) (by exact fun _ _ _ h => h) (Or.inl ⟨by rfl, ?_⟩) hHeld ?_
    · intro w' hSw
      obtain ⟨f1, f5⟩ := hSw; go_simp
    simp only [Act.put, List.setIfInBounds_toArray, List.set_cons_zero, List.set_cons_succ]
    refine wpAnyH_take (i := 4) (v := .pointer (some ⟨bx, 1, none⟩)) (by simp only [List.getElem?_toArray, List.getElem?_cons_zero, List.getElem?_cons_succ]; rfl) (by kernel_rfl) (by kernel_rfl) (by kernel_rfl) (by exact fun _ _ _ h => h) (Or.inl ⟨by rfl, ?_⟩) hHeld ?_
    · intro w' hSw
      go_simp
    simp only [Act.put, List.setIfInBounds_toArray, List.set_cons_zero, List.set_cons_succ]
    refine wpAnyH_take (i := 5) (v := .int .u8 ((w : Nat) : Int)) (by simp only [List.getElem?_toArray, List.getElem?_cons_zero, List.getElem?_cons_succ]; rfl) (by kernel_rfl) (by kernel_rfl) (by kernel_rfl) (by exact fun _ _ _ h => h) (Or.inl ⟨by rfl, ?_⟩) hHeld ?_
    · intro w' hSw
      obtain ⟨f1, f5⟩ := hSw; go_simp
    simp only [Act.put, List.setIfInBounds_toArray, List.set_cons_zero, List.set_cons_succ]
    refine wpAnyH_take (i := 6) (v := .int .u64 ((w : Nat) : Int)) (by simp only [List.getElem?_toArray, List.getElem?_cons_zero, List.getElem?_cons_succ]; rfl) (by kernel_rfl) (by kernel_rfl) (by kernel_rfl) (by exact fun _ _ _ h => h) (Or.inl ⟨by rfl, ?_⟩) hHeld ?_
    · intro w' hSw
      go_simp
    simp only [Act.put, List.setIfInBounds_toArray, List.set_cons_zero, List.set_cons_succ]
    refine wpAnyH_ready (rs := [3]) (by kernel_rfl) (by simp) ?_
    refine AllReadyH.cons (by simp only [List.getElem?_toArray, List.getElem?_cons_zero, List.getElem?_cons_succ]; rfl) (fun K hK => ?_) AllReadyH.nil
    go_simp
    refine (tens_any n HNL.out _ (by exact tab_heap HPW.out _ rfl)).mono ?_
    rintro e w6 ⟨rfl, hb6⟩
    have HB6 : Hid (Below X.heap.size X w6) := Lib.hid ⟨hb6.os, hb6.tape, hb6.output, hb6.size, hb6.block⟩
    refine hK.out _ _ (HT.out.call HB6.out) (fun hHeld => ?_)
    clear hK K hb6
    try simp only [Act.put, List.setIfInBounds_toArray, List.set_cons_zero, List.set_cons_succ]
    refine wpAnyH_ready (rs := [7]) (by kernel_rfl) (by simp) ?_
    refine AllReadyH.cons (by simp only [List.getElem?_toArray, List.getElem?_cons_zero, List.getElem?_cons_succ]; rfl) (fun K hK => ?_) AllReadyH.nil
    go_simp
    refine (small_tens w HWL.out _).mono ?_
    rintro e w5 ⟨rfl, rfl⟩
    refine hK.out _ _ hHeld (fun _ => ?_)
    clear hK K
    try simp only [Act.put, List.setIfInBounds_toArray, List.set_cons_zero, List.set_cons_succ]
    refine wpAnyH_ready (rs := [8]) (by kernel_rfl) (by simp) ?_
    refine AllReadyH.cons (by simp only [List.getElem?_toArray, List.getElem?_cons_zero, List.getElem?_cons_succ]; rfl) (fun K hK => ?_) AllReadyH.nil
    go_simp
    refine hK.out _ _ (hHeld.alloc _) (fun hHeld => ?_)
    clear hK K
    try simp only [Act.put, List.setIfInBounds_toArray, List.set_cons_zero, List.set_cons_succ]
    refine wpAnyH_ready (rs := [9]) (by kernel_rfl) (by simp) ?_
    refine AllReadyH.cons (by simp only [List.getElem?_toArray, List.getElem?_cons_zero, List.getElem?_cons_succ]; rfl) (fun K hK => ?_) AllReadyH.nil
    go_simp
    refine (add_over HF.out HFL.out HFE.out HX.out (by repeat (first | exact HB6.out | refine Below.drew ?_ | refine bel_alloc ?_ _)) (by exact HB6.out.size) (by simp) (by exact fun i s h => parts_new (P := [⟨#[118]⟩, ⟨(dec n).toArray⟩, ⟨#[58]⟩, ⟨(dec w).toArray⟩]) _ _ i s h) rfl (by simp)).mono ?_
    rintro e w7 ⟨rfl, k7⟩
    exact ⟨rfl, .inr ⟨HF.out, rfl, (Kept.ofBelow HB2.out F).trans (k7.mono (fun i _ c => c.1))⟩⟩

end Tx
end Go.Proofs.YtkiegiofholofaaGreatDoor
