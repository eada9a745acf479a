/-
  node of layer text's writer, of operators, where it is known what it does of the kids.
-/
import Derived.Test.YtkiegiofholofaaGreatDoorTxNodeB
import Derived.Test.YtkiegiofholofaaGreatDoorPt04
import Derived.Deep.LoopGhost
namespace Go.Proofs.YtkiegiofholofaaGreatDoor
open Go.RowKit Go.Maps Bv Tm
namespace Tx
set_option maxHeartbeats 3200000
set_option maxRecDepth 100000

/-- The writer with what the call has of its own, in the world X and from there on. -/
structure NS (G : Nat → Prop) (b : Nat) (st : Value) (X : World) (cur : By) (u : World) : Prop where
  w : WrE G b st cur u
  k : Kept G X u
theorem NS.step {G : Nat → Prop} {b : Nat} {st : Value} {X u u' : World} {cur cur' : By} (h : NS G b st X cur u) (hw : WrE G b st cur' u') (k : Kept G u u') : NS G b st X cur' u' := ⟨hw, h.k.trans k⟩

theorem slice3_0 (bx n : Nat) (hn : n ≤ 3) (W : World) : (Instr.sliceAt 33 (.pointer (some ⟨bx, 2, none⟩)) none (some (.int .i64 ((n : Nat) : Int))) none).run Tryz.prog W = .ok (.slice (some ⟨bx, 2, none⟩) n 3) W := by
  have hal : Tryz.prog.arrayLen 33 = 3 := by kernel_rfl
  have hel : Tryz.prog.underlying 33 = some (TypeDesc.array 3 (Tryz.prog.elem 33)) := by kernel_rfl
  rw [run_sliceAt_array_h W 33 ⟨bx, 2, none⟩ (by rw [hal]; exact hel) .i64 (n : Int) (by omega) (by rw [hal]; omega)]
  simp [Tryz.sizeOf3, slicedAt, go_sem]

/-- What is known of the calls on the kids. -/
def KidsDo (L : List Nd) (k B b p mm : Nat) (sv : Value) : Prop :=
  ∀ (j : Nat), j < k → ∀ (F : Nat → Prop) (cur : By) (u : World), WrE F b (.pointer (some ⟨p, 0, none⟩)) cur u → EnvAt F u → StoreAt B u p mm sv L → (∀ i, foot p mm sv i → ¬ F i) → cur.length ≤ 10000 →
    Calls Tryz.prog 27 #[.pointer (some ⟨b, 0, none⟩), .int .i64 ((j : Nat) : Int)] u (Wrote F b (.pointer (some ⟨p, 0, none⟩)) (cur ++ txt L j) u)

theorem wnode_plain {F : Nat → Prop} {B b p mm k w n : Nat} {o : Nat} {sv : Value} {L : List Nd} {k0 k1 k2 : Int} {l : Nat} {bs : By} {W : World} (ho : 3 ≤ o ∧ o ≤ 25 ∧ ¬ o = 22 ∧ ¬ o = 23 ∧ ¬ o = 24) (hI : KidsDo L k B b p mm sv) (hW : WrE F b (.pointer (some ⟨p, 0, none⟩)) bs W) (hE : EnvAt F W) (S : StoreAt B W p mm sv L) (hF : ∀ i, foot p mm sv i → ¬ F i)
    (hx : L[k]? = some ⟨o, w, k0, k1, k2, n, l⟩) (hl : bs.length ≤ 10000) :
    Calls Tryz.prog 27 #[.pointer (some ⟨b, 0, none⟩), .int .i64 ((k : Nat) : Int)] W (Wrote F b (.pointer (some ⟨p, 0, none⟩)) (bs ++ txt L k) W) := by
  obtain ⟨x, hxe⟩ : ∃ x : Nd, x = ⟨o, w, k0, k1, k2, n, l⟩ := ⟨_, rfl⟩
  have hw := S.good.w _ (List.mem_of_getElem? hx)
  have hok := S.good.ok _ (List.mem_of_getElem? hx)
  have hwle : w ≤ 64 := hw.2
  have hlle : l ≤ 255 := hok.l
  have hkid : ∀ j, j < kc o → 0 ≤ x.kid j ∧ x.kid j < ((k : Nat) : Int) := by rw [hxe]; exact S.good.kid k _ hx
  have htx : txt L k = 40 :: nm o ++ ([]) ++ (kidsT (txt L) x (kc o) ++ [41]) := by
    rw [txt_is S.good hx, ← hxe]
    unfold bodyT hd
    rw [hxe]
    simp only []
    rw [if_neg (by omega), if_neg (by omega), if_neg (by omega), if_neg (by omega)]
    simp
  have HTX := Lib.hid htx
  have HKID := Lib.hid hkid
  have HLEN : Hid (∀ i, i < kc o → (kidsT (txt L) x (i + 1)).length ≤ (kidsT (txt L) x (kc o)).length) := fun i hi => kidsT_le hi
  have HNODE := Lib.hid (node_yes S hx)
  unfold Nd.val at HNODE
  obtain ⟨v, hv⟩ := hW
  have c0 := hv.c0
  have HV := Lib.hid (show WrE F b (.pointer (some ⟨p, 0, none⟩)) bs W from ⟨v, hv⟩)
  have HE := Lib.hid hE
  have HS := Lib.hid S
  have HFO := Lib.hid hF
  have HI := Lib.hid hI
  have cw : IntKind.u64.wrap ((w : Nat) : Int) = ((w : Nat) : Int) := by rw [IntKind.wrap_u64]; omega
  have cl : IntKind.u64.wrap ((l : Nat) : Int) = ((l : Nat) : Int) := by rw [IntKind.wrap_u64]; omega
  have HWL := Lib.hid (And.intro hwle hlle)
  have HL := Lib.hid hl
  have hnl := nm_len o
  have hdw : (dec w).length ≤ 20 := dec_len (by omega)
  have hdl : (dec l).length ≤ 20 := dec_len (by omega)
  have HN := Lib.hid (And.intro hnl (And.intro hdw hdl))
  have d1 : (((o : Nat) : Int) == 1) = false := by simp; omega
  have d2 : (((o : Nat) : Int) == 2) = false := by simp; omega
  have d22 : (((o : Nat) : Int) == 22) = false := by simp; omega
  have d23 : (((o : Nat) : Int) == 23) = false := by simp; omega
  have d24 : (((o : Nat) : Int) == 24) = false := by simp; omega
  have HKC := Lib.hid (show 1 ≤ o ∧ o ≤ 25 by omega)
  have hkc3 : kc o ≤ 3 := kc_le o
  have HKN : Hid (∀ W : World, Calls Tryz.prog 60 #[.int .u8 ((o : Nat) : Int)] W fun e W' => e = .returned (.int .i64 ((kc o : Nat) : Int)) ∧ W = W') := fun W => tk_any HKC.out W
  have HNM : Hid (∀ u : World, EnvAt F u → Calls Tryz.prog 59 #[.int .u8 ((o : Nat) : Int)] u fun e w' => e = .returned (.string ⟨(nm o).toArray⟩) ∧ u = w') := fun u hu => name_any (o := o) hu (by omega)
  obtain ⟨kcn, hkcn⟩ : ∃ kcn, kc o = kcn := ⟨_, rfl⟩
  rw [hkcn] at HTX HKID HLEN HKN hkc3
  obtain ⟨nmv, hnmv⟩ : ∃ nmv, nm o = nmv := ⟨_, rfl⟩
  rw [hnmv] at HTX HN HNM
  have hks := slice3_0
  have HK3 := Lib.hid hkc3
  clear hv hE S hx hw hok hwle hlle hl hF hI htx hkid hnl hdw hdl hkcn hnmv hks ho
  obtain ⟨tot, htot⟩ : ∃ tot, bs ++ txt L k = tot := ⟨_, rfl⟩
  have HTOT := Lib.hid htot
  rw [htot]
  clear htot
  go_enter Tryz.func27, Tryz.ntmps27
  go_wp2_with (go_at_call 11; refine HNODE.out.mono ?_; rintro e W1 ⟨rfl, hb1⟩; have HB1 := Lib.hid hb1; clear hb1)
  have HB2 := Lib.hid (bel_alloc HB1.out (.cells #[.int .u8 ((o : Nat) : Int), .int .u8 ((w : Nat) : Int), .int .i64 k0, .int .i64 k1, .int .i64 k2, .int .u64 ((n : Nat) : Int), .int .u8 ((l : Nat) : Int)] 36))
  have HX := Lib.hid (HV.out.apart HB2.out HB1.out.size (by simp))
  have HA := Lib.hid (At7.new W1 (.int .u8 ((o : Nat) : Int)) (.int .u8 ((w : Nat) : Int)) (.int .i64 k0) (.int .i64 k1) (.int .i64 k2) (.int .u64 ((n : Nat) : Int)) (.int .u8 ((l : Nat) : Int)) 36)
  obtain ⟨bx, hbx⟩ : ∃ bx, W1.heap.size = bx := ⟨_, rfl⟩
  rw [hbx] at HX HA
  simp only [hbx]
  generalize (W1.alloc (.cells #[.int .u8 ((o : Nat) : Int), .int .u8 ((w : Nat) : Int), .int .i64 k0, .int .i64 k1, .int .i64 k2, .int .u64 ((n : Nat) : Int), .int .u8 ((l : Nat) : Int)] 36)) = X at HB2 HX HA ⊢
  clear hbx HB1
  have HEX := Lib.hid (HE.out.call HB2.out)
  have HSX := Lib.hid (HS.out.call HB2.out)
  obtain ⟨G, hG⟩ : ∃ G : Nat → Prop, G = (fun i => F i ∧ i ≠ bx) := ⟨_, rfl⟩
  rw [← hG] at HX
  have HGF : Hid (∀ i, G i → F i) := Lib.hid (fun i c => by rw [hG] at c; exact c.1)
  have HGB : Hid (¬ G bx) := Lib.hid (fun c => by rw [hG] at c; exact c.2 rfl)
  have HEG := Lib.hid (HEX.out.mono HGF.out)
  clear hG
  have HEND : Hid (∀ (e : Ending) (u : World) (cur : By), (cur.length ≤ tot.length ∧ 10000 < cur.length ∧ e = boom 3 ∧ Kept G X u) → Wrote F b (.pointer (some ⟨p, 0, none⟩)) tot W e u) := by
    show ∀ (e : Ending) (u : World) (cur : By), _ → _
    rintro e u cur ⟨h1, h2, rfl, k⟩
    exact .inr ⟨by omega, rfl, (Kept.ofBelow HB2.out F).trans (k.mono (fun i _ c => HGF.out i c))⟩
  have HDONE : Hid (∀ (u : World), tot.length ≤ 10000 → NS G b (.pointer (some ⟨p, 0, none⟩)) X tot u → Wrote F b (.pointer (some ⟨p, 0, none⟩)) tot W (.returned (.tuple #[])) u) := by
    show ∀ (u : World), _ → _ → _
    rintro u h1 h
    exact .inl ⟨h1, rfl, h.w.mono HGF.out, (Kept.ofBelow HB2.out F).trans (h.k.mono (fun i _ c => HGF.out i c))⟩
  have hA := HA.out
  unfold At7 at hA
  obtain ⟨a0, a1, a2, a3, a4, a5, a6⟩ := hA
  have HS0 : Hid (NS G b (.pointer (some ⟨p, 0, none⟩)) X bs X) := Lib.hid ⟨HX.out, Kept.refl G X⟩
  clear HNODE HE HS HV c0
  go_wp2_with (first
  | (go_at_call 59; refine (HNM.out _ HEX.out).mono ?_; rintro e w2 ⟨rfl, rfl⟩)
    | (go_at_call 57
       refine (add_step (P := [⟨#[40]⟩, ⟨nmv.toArray⟩]) HS0.out.w (by repeat (first | exact Below.refl _ _ | refine Below.drew ?_ | refine bel_alloc ?_ _)) (by exact Nat.le_refl _) (by simp) (by exact fun i s h => parts_new (P := [⟨#[40]⟩, ⟨nmv.toArray⟩]) _ _ i s h) rfl (by simp) (by have := HN.out; have := HL.out; simp [flat]; omega)).mono ?_
       rintro e u1 h7
       rw [show bs ++ flat [⟨#[40]⟩, ⟨nmv.toArray⟩] = bs ++ 40 :: nmv by simp [flat]] at h7
       rcases h7 with ⟨hf, rfl, h7, k7⟩ | ⟨hf, rfl, k7⟩
       rotate_left
       · exact ⟨rfl, HEND.out _ _ (bs ++ 40 :: nmv) ⟨by rw [← HTOT.out, HTX.out]; simp <;> omega, hf, rfl, HS0.out.k.trans k7⟩⟩
       refine Hid.out ?_))
  refine Lib.hid ?_
  have HS1 := Lib.hid (HS0.out.step h7 k7)
  have hA := At7.kept HA.out HS1.out.k HGB.out
  unfold At7 at hA
  obtain ⟨a0, a1, a2, a3, a4, a5, a6⟩ := hA
  have HF1 := Lib.hid hf
  clear h7 k7 hf
  obtain ⟨s3, hs3⟩ : ∃ s3, bs ++ 40 :: nmv = s3 := ⟨_, rfl⟩
  rw [hs3] at HS1 HF1
  have HT3 : Hid (tot = s3 ++ (kidsT (txt L) x kcn ++ [41])) := Lib.hid (by rw [← HTOT.out, HTX.out, ← hs3]; simp)
  clear hs3
  have hks := slice3_0 bx kcn HK3.out
  go_wp2_with (go_at_call 60; refine (HKN.out _).mono ?_; rintro e w2 ⟨rfl, rfl⟩)
  clear hks
  go_loopg [80] kcn (fun gk u80 wr => ∃ i : Nat, u80 = .int .i64 ((i : Nat) : Int) ∧ i + gk = kcn ∧ (s3 ++ kidsT (txt L) x i).length ≤ 10000 ∧ NS G b (.pointer (some ⟨p, 0, none⟩)) X (s3 ++ kidsT (txt L) x i) wr)
  case atStart => exact ⟨0, rfl, by omega, by simpa [kidsT] using HF1.out, by simpa [kidsT] using HS1.out⟩
  case round =>
    obtain ⟨i, rfl, hgk, hlen, hNS⟩ := hrel
    clear HF1 HS1 a0 a1 a2 a3 a4 a5 a6
    have HNS := Lib.hid hNS
    have HLE := Lib.hid hlen
    have hA := At7.kept HA.out hNS.k HGB.out
    clear hNS hlen
    by_cases hin : i < kcn
    · obtain ⟨kd, hkd⟩ : ∃ kd : Nat, x.kid i = ((kd : Nat) : Int) := ⟨(x.kid i).toNat, by have := (HKID.out i hin).1; omega⟩
      have hkdl : kd < k := by have := (HKID.out i hin).2; omega
      have hck : wr.cell? ⟨bx, 2 + i, none⟩ = some (.int .i64 ((kd : Nat) : Int)) := by
        have h3 := HK3.out
        unfold At7 at hA
        rw [← hkd, hxe]
        match i, hin with
        | 0, _ => exact hA.2.2.1
        | 1, _ => exact hA.2.2.2.1
        | 2, _ => exact hA.2.2.2.2.1
        | (j + 3), h => omega
      have q1 : ((i : Nat) : Int) < ((kcn : Nat) : Int) := by omega
      have q0 : (0 : Int) ≤ ((i : Nat) : Int) := by omega
      have r1 : IntKind.i64.wrap (((i : Nat) : Int) + 1) = (((i + 1 : Nat) : Nat) : Int) := by have := HK3.out; rw [IntKind.wrap_i64]; omega
      have r2 : wrap64 (((i : Nat) : Int) + 1) = (((i + 1 : Nat) : Nat) : Int) := by unfold wrap64; rw [← IntKind.wrap_i64]; exact r1
      have HR2 := Lib.hid r2
      have HGK := Lib.hid (And.intro hgk hin)
      have HKL := Lib.hid hkdl
      have HKE : Hid (kidsT (txt L) x (i + 1) = kidsT (txt L) x i ++ 32 :: txt L kd) := Lib.hid (by simp only [kidsT]; rw [hkd]; simp)
      have HTL : Hid ((s3 ++ kidsT (txt L) x (i + 1)).length ≤ tot.length) := Lib.hid (by have := HLEN.out i hin; rw [HT3.out]; simp; omega)
      clear hA hin hgk hkdl hkd r1 r2
      go_wp2_with (
         go_at_call 57
         refine (add_step (P := [⟨#[32]⟩]) HNS.out.w (by repeat (first | exact Below.refl _ _ | refine Below.drew ?_ | refine bel_alloc ?_ _)) (by exact Nat.le_refl _) (by simp) (by exact fun i s h => parts_new (P := [⟨#[32]⟩]) _ _ i s h) rfl (by simp) (by have := HLE.out; simp [flat] at *; omega)).mono ?_
         rintro e v1 h7
         rw [show s3 ++ kidsT (txt L) x i ++ flat [⟨#[32]⟩] = s3 ++ kidsT (txt L) x i ++ [32] by simp [flat]] at h7
         rcases h7 with ⟨hf, rfl, h7, k7⟩ | ⟨hf, rfl, k7⟩
         rotate_left
         · exact ⟨rfl, HEND.out _ _ (s3 ++ kidsT (txt L) x i ++ [32]) ⟨by have := HTL.out; rw [HKE.out] at this; simp at *; omega, hf, rfl, HNS.out.k.trans k7⟩⟩
         refine Hid.out ?_)
      refine Lib.hid ?_
      have HN1 := Lib.hid (HNS.out.step h7 k7)
      have HF1 := Lib.hid hf
      clear h7 k7 hf
      go_wp2_with (
         go_at_call 27
         refine (HI.out kd HKL.out G _ _ HN1.out.w (HEG.out.kept HN1.out.k) (HSX.out.kept HN1.out.k (fun i c d => HFO.out i c (HGF.out i d))) (fun i c d => HFO.out i c (HGF.out i d)) HF1.out).mono ?_
         rintro e v2 h7
         rw [show s3 ++ kidsT (txt L) x i ++ [32] ++ txt L kd = s3 ++ kidsT (txt L) x (i + 1) by rw [HKE.out]; simp] at h7
         rcases h7 with ⟨hf, rfl, h7, k7⟩ | ⟨hf, rfl, k7⟩
         rotate_left
         · exact ⟨rfl, HEND.out _ _ _ ⟨HTL.out, hf, rfl, HN1.out.k.trans k7⟩⟩
         have HN2 := Lib.hid (HN1.out.step h7 k7)
         have HF2 := Lib.hid hf
         clear h7 k7 hf)
      go_roundg (gk - 1)
      case measure => have := HGK.out; omega
      case rel => exact ⟨i + 1, by first | rfl | (rw [HR2.out]) | (congr 1; exact HR2.out), by have := HGK.out; omega, HF2.out, HN2.out⟩
    · have hie : i = kcn := by omega
      subst hie
      clear hin hA hgk
      go_wp2_with (
         go_at_call 57
         refine (add_step (P := [⟨#[41]⟩]) HNS.out.w (by repeat (first | exact Below.refl _ _ | refine Below.drew ?_ | refine bel_alloc ?_ _)) (by exact Nat.le_refl _) (by simp) (by exact fun i s h => parts_new (P := [⟨#[41]⟩]) _ _ i s h) rfl (by simp) (by have := HLE.out; simp [flat] at *; omega)).mono ?_
         rintro e v1 h7
         rw [show s3 ++ kidsT (txt L) x i ++ flat [⟨#[41]⟩] = tot by rw [HT3.out]; simp [flat]] at h7
         rcases h7 with ⟨hf, rfl, h7, k7⟩ | ⟨hf, rfl, k7⟩
         rotate_left
         · exact ⟨rfl, HEND.out _ _ tot ⟨Nat.le_refl _, hf, rfl, HNS.out.k.trans k7⟩⟩
         have HN1 := Lib.hid (HNS.out.step h7 k7)
         have HF1 := Lib.hid hf
         clear h7 k7 hf)
      exact bodyPost_ret (v := .tuple #[]) (by simp [results, Tryz.results27, go_sem]) rfl (HDONE.out _ HF1.out HN1.out)
theorem wnode_extract {F : Nat → Prop} {B b p mm k w n : Nat} {sv : Value} {L : List Nd} {k0 k1 k2 : Int} {l : Nat} {bs : By} {W : World} (hI : KidsDo L k B b p mm sv) (hW : WrE F b (.pointer (some ⟨p, 0, none⟩)) bs W) (hE : EnvAt F W) (S : StoreAt B W p mm sv L) (hF : ∀ i, foot p mm sv i → ¬ F i)
    (hx : L[k]? = some ⟨22, w, k0, k1, k2, n, l⟩) (hl : bs.length ≤ 10000) :
    Calls Tryz.prog 27 #[.pointer (some ⟨b, 0, none⟩), .int .i64 ((k : Nat) : Int)] W (Wrote F b (.pointer (some ⟨p, 0, none⟩)) (bs ++ txt L k) W) := by
  obtain ⟨x, hxe⟩ : ∃ x : Nd, x = ⟨22, w, k0, k1, k2, n, l⟩ := ⟨_, rfl⟩
  have hw := S.good.w _ (List.mem_of_getElem? hx)
  have hok := S.good.ok _ (List.mem_of_getElem? hx)
  have hwle : w ≤ 64 := hw.2
  have hlle : l ≤ 255 := hok.l
  have hkid : ∀ j, j < kc 22 → 0 ≤ x.kid j ∧ x.kid j < ((k : Nat) : Int) := by rw [hxe]; exact S.good.kid k _ hx
  have htx : txt L k = 40 :: nm 22 ++ (32 :: dec l ++ 32 :: dec w) ++ (kidsT (txt L) x (kc 22) ++ [41]) := by
    rw [txt_is S.good hx, ← hxe]
    unfold bodyT hd
    rw [hxe]
    simp
  have HTX := Lib.hid htx
  have HKID := Lib.hid hkid
  have HLEN : Hid (∀ i, i < kc 22 → (kidsT (txt L) x (i + 1)).length ≤ (kidsT (txt L) x (kc 22)).length) := fun i hi => kidsT_le hi
  have HNODE := Lib.hid (node_yes S hx)
  unfold Nd.val at HNODE
  obtain ⟨v, hv⟩ := hW
  have c0 := hv.c0
  have HV := Lib.hid (show WrE F b (.pointer (some ⟨p, 0, none⟩)) bs W from ⟨v, hv⟩)
  have HE := Lib.hid hE
  have HS := Lib.hid S
  have HFO := Lib.hid hF
  have HI := Lib.hid hI
  have cw : IntKind.u64.wrap ((w : Nat) : Int) = ((w : Nat) : Int) := by rw [IntKind.wrap_u64]; omega
  have cl : IntKind.u64.wrap ((l : Nat) : Int) = ((l : Nat) : Int) := by rw [IntKind.wrap_u64]; omega
  have HWL := Lib.hid (And.intro hwle hlle)
  have HL := Lib.hid hl
  have hnl := nm_len 22
  have hdw : (dec w).length ≤ 20 := dec_len (by omega)
  have hdl : (dec l).length ≤ 20 := dec_len (by omega)
  have HN := Lib.hid (And.intro hnl (And.intro hdw hdl))
  have HKC := Lib.hid (show 1 ≤ 22 ∧ 22 ≤ 25 by omega)
  have hkc3 : kc 22 ≤ 3 := kc_le 22
  have HKN : Hid (∀ W : World, Calls Tryz.prog 60 #[.int .u8 22] W fun e W' => e = .returned (.int .i64 ((kc 22 : Nat) : Int)) ∧ W = W') := fun W => tk_any HKC.out W
  have HNM : Hid (∀ u : World, EnvAt F u → Calls Tryz.prog 59 #[.int .u8 22] u fun e w' => e = .returned (.string ⟨(nm 22).toArray⟩) ∧ u = w') := fun u hu => name_any (o := 22) hu (by omega)
  obtain ⟨kcn, hkcn⟩ : ∃ kcn, kc 22 = kcn := ⟨_, rfl⟩
  rw [hkcn] at HTX HKID HLEN HKN hkc3
  obtain ⟨nmv, hnmv⟩ : ∃ nmv, nm 22 = nmv := ⟨_, rfl⟩
  rw [hnmv] at HTX HN HNM
  have hks := slice3_0
  have HK3 := Lib.hid hkc3
  clear hv hE S hx hw hok hwle hlle hl hF hI htx hkid hnl hdw hdl hkcn hnmv hks
  obtain ⟨tot, htot⟩ : ∃ tot, bs ++ txt L k = tot := ⟨_, rfl⟩
  have HTOT := Lib.hid htot
  rw [htot]
  clear htot
  go_enter Tryz.func27, Tryz.ntmps27
  go_wp2_with (go_at_call 11; refine HNODE.out.mono ?_; rintro e W1 ⟨rfl, hb1⟩; have HB1 := Lib.hid hb1; clear hb1)
  have HB2 := Lib.hid (bel_alloc HB1.out (.cells #[.int .u8 22, .int .u8 ((w : Nat) : Int), .int .i64 k0, .int .i64 k1, .int .i64 k2, .int .u64 ((n : Nat) : Int), .int .u8 ((l : Nat) : Int)] 36))
  have HX := Lib.hid (HV.out.apart HB2.out HB1.out.size (by simp))
  have HA := Lib.hid (At7.new W1 (.int .u8 22) (.int .u8 ((w : Nat) : Int)) (.int .i64 k0) (.int .i64 k1) (.int .i64 k2) (.int .u64 ((n : Nat) : Int)) (.int .u8 ((l : Nat) : Int)) 36)
  obtain ⟨bx, hbx⟩ : ∃ bx, W1.heap.size = bx := ⟨_, rfl⟩
  rw [hbx] at HX HA
  simp only [hbx]
  generalize (W1.alloc (.cells #[.int .u8 22, .int .u8 ((w : Nat) : Int), .int .i64 k0, .int .i64 k1, .int .i64 k2, .int .u64 ((n : Nat) : Int), .int .u8 ((l : Nat) : Int)] 36)) = X at HB2 HX HA ⊢
  clear hbx HB1
  have HEX := Lib.hid (HE.out.call HB2.out)
  have HSX := Lib.hid (HS.out.call HB2.out)
  obtain ⟨G, hG⟩ : ∃ G : Nat → Prop, G = (fun i => F i ∧ i ≠ bx) := ⟨_, rfl⟩
  rw [← hG] at HX
  have HGF : Hid (∀ i, G i → F i) := Lib.hid (fun i c => by rw [hG] at c; exact c.1)
  have HGB : Hid (¬ G bx) := Lib.hid (fun c => by rw [hG] at c; exact c.2 rfl)
  have HEG := Lib.hid (HEX.out.mono HGF.out)
  clear hG
  have HEND : Hid (∀ (e : Ending) (u : World) (cur : By), (cur.length ≤ tot.length ∧ 10000 < cur.length ∧ e = boom 3 ∧ Kept G X u) → Wrote F b (.pointer (some ⟨p, 0, none⟩)) tot W e u) := by
    show ∀ (e : Ending) (u : World) (cur : By), _ → _
    rintro e u cur ⟨h1, h2, rfl, k⟩
    exact .inr ⟨by omega, rfl, (Kept.ofBelow HB2.out F).trans (k.mono (fun i _ c => HGF.out i c))⟩
  have HDONE : Hid (∀ (u : World), tot.length ≤ 10000 → NS G b (.pointer (some ⟨p, 0, none⟩)) X tot u → Wrote F b (.pointer (some ⟨p, 0, none⟩)) tot W (.returned (.tuple #[])) u) := by
    show ∀ (u : World), _ → _ → _
    rintro u h1 h
    exact .inl ⟨h1, rfl, h.w.mono HGF.out, (Kept.ofBelow HB2.out F).trans (h.k.mono (fun i _ c => HGF.out i c))⟩
  have hA := HA.out
  unfold At7 at hA
  obtain ⟨a0, a1, a2, a3, a4, a5, a6⟩ := hA
  have HS0 : Hid (NS G b (.pointer (some ⟨p, 0, none⟩)) X bs X) := Lib.hid ⟨HX.out, Kept.refl G X⟩
  clear HNODE HE HS HV c0
  go_wp2_with (first
  | (go_at_call 59; refine (HNM.out _ HEX.out).mono ?_; rintro e w2 ⟨rfl, rfl⟩)
    | (go_at_call 57
       refine (add_step (P := [⟨#[40]⟩, ⟨nmv.toArray⟩]) HS0.out.w (by repeat (first | exact Below.refl _ _ | refine Below.drew ?_ | refine bel_alloc ?_ _)) (by exact Nat.le_refl _) (by simp) (by exact fun i s h => parts_new (P := [⟨#[40]⟩, ⟨nmv.toArray⟩]) _ _ i s h) rfl (by simp) (by have := HN.out; have := HL.out; simp [flat]; omega)).mono ?_
       rintro e u1 h7
       rw [show bs ++ flat [⟨#[40]⟩, ⟨nmv.toArray⟩] = bs ++ 40 :: nmv by simp [flat]] at h7
       rcases h7 with ⟨hf, rfl, h7, k7⟩ | ⟨hf, rfl, k7⟩
       rotate_left
       · exact ⟨rfl, HEND.out _ _ (bs ++ 40 :: nmv) ⟨by rw [← HTOT.out, HTX.out]; simp <;> omega, hf, rfl, HS0.out.k.trans k7⟩⟩
       refine Hid.out ?_))
  refine Lib.hid ?_
  have HS1 := Lib.hid (HS0.out.step h7 k7)
  have hA := At7.kept HA.out HS1.out.k HGB.out
  unfold At7 at hA
  obtain ⟨a0, a1, a2, a3, a4, a5, a6⟩ := hA
  have HF1 := Lib.hid hf
  clear h7 k7 hf
  go_wp2_with (first
  | (go_at_call 58; refine (tens_any l (by have := HWL.out; omega) _ (HEG.out.kept HS1.out.k).pw).mono ?_; rintro e w5 ⟨rfl, hb5⟩; have HB5 := Lib.hid hb5; clear hb5)
    | (go_at_call 57
       refine (add_step (P := [⟨#[32]⟩, ⟨(dec l).toArray⟩]) HS1.out.w (by repeat (first | exact HB5.out | refine Below.drew ?_ | refine bel_alloc ?_ _)) (by exact HB5.out.size) (by simp) (by exact fun i s h => parts_new (P := [⟨#[32]⟩, ⟨(dec l).toArray⟩]) _ _ i s h) rfl (by simp) (by have := HN.out; have := HL.out; have := HF1.out; simp [flat] at *; omega)).mono ?_
       rintro e u2 h7
       rw [show (bs ++ 40 :: nmv) ++ flat [⟨#[32]⟩, ⟨(dec l).toArray⟩] = bs ++ 40 :: nmv ++ 32 :: dec l by simp [flat]] at h7
       rcases h7 with ⟨hf, rfl, h7, k7⟩ | ⟨hf, rfl, k7⟩
       rotate_left
       · exact ⟨rfl, HEND.out _ _ (bs ++ 40 :: nmv ++ 32 :: dec l) ⟨by rw [← HTOT.out, HTX.out]; simp <;> omega, hf, rfl, HS1.out.k.trans k7⟩⟩
       refine Hid.out ?_))
  refine Lib.hid ?_
  have HS2 := Lib.hid (HS1.out.step h7 k7)
  have hA := At7.kept HA.out HS2.out.k HGB.out
  unfold At7 at hA
  obtain ⟨a0, a1, a2, a3, a4, a5, a6⟩ := hA
  have HF2 := Lib.hid hf
  clear h7 k7 hf
  go_wp2_with (first
  | (go_at_call 58; refine (small_tens w (by have := HWL.out; omega) _).mono ?_; rintro e w5 ⟨rfl, rfl⟩)
    | (go_at_call 57
       refine (add_step (P := [⟨#[32]⟩, ⟨(dec w).toArray⟩]) HS2.out.w (by repeat (first | exact Below.refl _ _ | refine Below.drew ?_ | refine bel_alloc ?_ _)) (by exact Nat.le_refl _) (by simp) (by exact fun i s h => parts_new (P := [⟨#[32]⟩, ⟨(dec w).toArray⟩]) _ _ i s h) rfl (by simp) (by have := HN.out; have := HL.out; have := HF2.out; simp [flat] at *; omega)).mono ?_
       rintro e u3 h7
       rw [show (bs ++ 40 :: nmv ++ 32 :: dec l) ++ flat [⟨#[32]⟩, ⟨(dec w).toArray⟩] = bs ++ 40 :: nmv ++ 32 :: dec l ++ 32 :: dec w by simp [flat]] at h7
       rcases h7 with ⟨hf, rfl, h7, k7⟩ | ⟨hf, rfl, k7⟩
       rotate_left
       · exact ⟨rfl, HEND.out _ _ (bs ++ 40 :: nmv ++ 32 :: dec l ++ 32 :: dec w) ⟨by rw [← HTOT.out, HTX.out]; simp <;> omega, hf, rfl, HS2.out.k.trans k7⟩⟩
       refine Hid.out ?_))
  refine Lib.hid ?_
  have HS3 := Lib.hid (HS2.out.step h7 k7)
  have hA := At7.kept HA.out HS3.out.k HGB.out
  unfold At7 at hA
  obtain ⟨a0, a1, a2, a3, a4, a5, a6⟩ := hA
  have HF3 := Lib.hid hf
  clear h7 k7 hf
  obtain ⟨s3, hs3⟩ : ∃ s3, bs ++ 40 :: nmv ++ 32 :: dec l ++ 32 :: dec w = s3 := ⟨_, rfl⟩
  rw [hs3] at HS3 HF3
  have HT3 : Hid (tot = s3 ++ (kidsT (txt L) x kcn ++ [41])) := Lib.hid (by rw [← HTOT.out, HTX.out, ← hs3]; simp)
  clear hs3
  have hks := slice3_0 bx kcn HK3.out
  go_wp2_with (go_at_call 60; refine (HKN.out _).mono ?_; rintro e w2 ⟨rfl, rfl⟩)
  clear hks
  go_loopg [80] kcn (fun gk u80 wr => ∃ i : Nat, u80 = .int .i64 ((i : Nat) : Int) ∧ i + gk = kcn ∧ (s3 ++ kidsT (txt L) x i).length ≤ 10000 ∧ NS G b (.pointer (some ⟨p, 0, none⟩)) X (s3 ++ kidsT (txt L) x i) wr)
  case atStart => exact ⟨0, rfl, by omega, by simpa [kidsT] using HF3.out, by simpa [kidsT] using HS3.out⟩
  case round =>
    obtain ⟨i, rfl, hgk, hlen, hNS⟩ := hrel
    clear HF3 HS3 a0 a1 a2 a3 a4 a5 a6
    have HNS := Lib.hid hNS
    have HLE := Lib.hid hlen
    have hA := At7.kept HA.out hNS.k HGB.out
    clear hNS hlen
    by_cases hin : i < kcn
    · obtain ⟨kd, hkd⟩ : ∃ kd : Nat, x.kid i = ((kd : Nat) : Int) := ⟨(x.kid i).toNat, by have := (HKID.out i hin).1; omega⟩
      have hkdl : kd < k := by have := (HKID.out i hin).2; omega
      have hck : wr.cell? ⟨bx, 2 + i, none⟩ = some (.int .i64 ((kd : Nat) : Int)) := by
        have h3 := HK3.out
        unfold At7 at hA
        rw [← hkd, hxe]
        match i, hin with
        | 0, _ => exact hA.2.2.1
        | 1, _ => exact hA.2.2.2.1
        | 2, _ => exact hA.2.2.2.2.1
        | (j + 3), h => omega
      have q1 : ((i : Nat) : Int) < ((kcn : Nat) : Int) := by omega
      have q0 : (0 : Int) ≤ ((i : Nat) : Int) := by omega
      have r1 : IntKind.i64.wrap (((i : Nat) : Int) + 1) = (((i + 1 : Nat) : Nat) : Int) := by have := HK3.out; rw [IntKind.wrap_i64]; omega
      have r2 : wrap64 (((i : Nat) : Int) + 1) = (((i + 1 : Nat) : Nat) : Int) := by unfold wrap64; rw [← IntKind.wrap_i64]; exact r1
      have HR2 := Lib.hid r2
      have HGK := Lib.hid (And.intro hgk hin)
      have HKL := Lib.hid hkdl
      have HKE : Hid (kidsT (txt L) x (i + 1) = kidsT (txt L) x i ++ 32 :: txt L kd) := Lib.hid (by simp only [kidsT]; rw [hkd]; simp)
      have HTL : Hid ((s3 ++ kidsT (txt L) x (i + 1)).length ≤ tot.length) := Lib.hid (by have := HLEN.out i hin; rw [HT3.out]; simp; omega)
      clear hA hin hgk hkdl hkd r1 r2
      go_wp2_with (
         go_at_call 57
         refine (add_step (P := [⟨#[32]⟩]) HNS.out.w (by repeat (first | exact Below.refl _ _ | refine Below.drew ?_ | refine bel_alloc ?_ _)) (by exact Nat.le_refl _) (by simp) (by exact fun i s h => parts_new (P := [⟨#[32]⟩]) _ _ i s h) rfl (by simp) (by have := HLE.out; simp [flat] at *; omega)).mono ?_
         rintro e v1 h7
         rw [show s3 ++ kidsT (txt L) x i ++ flat [⟨#[32]⟩] = s3 ++ kidsT (txt L) x i ++ [32] by simp [flat]] at h7
         rcases h7 with ⟨hf, rfl, h7, k7⟩ | ⟨hf, rfl, k7⟩
         rotate_left
         · exact ⟨rfl, HEND.out _ _ (s3 ++ kidsT (txt L) x i ++ [32]) ⟨by have := HTL.out; rw [HKE.out] at this; simp at *; omega, hf, rfl, HNS.out.k.trans k7⟩⟩
         refine Hid.out ?_)
      refine Lib.hid ?_
      have HN1 := Lib.hid (HNS.out.step h7 k7)
      have HF1 := Lib.hid hf
      clear h7 k7 hf
      go_wp2_with (
         go_at_call 27
         refine (HI.out kd HKL.out G _ _ HN1.out.w (HEG.out.kept HN1.out.k) (HSX.out.kept HN1.out.k (fun i c d => HFO.out i c (HGF.out i d))) (fun i c d => HFO.out i c (HGF.out i d)) HF1.out).mono ?_
         rintro e v2 h7
         rw [show s3 ++ kidsT (txt L) x i ++ [32] ++ txt L kd = s3 ++ kidsT (txt L) x (i + 1) by rw [HKE.out]; simp] at h7
         rcases h7 with ⟨hf, rfl, h7, k7⟩ | ⟨hf, rfl, k7⟩
         rotate_left
         · exact ⟨rfl, HEND.out _ _ _ ⟨HTL.out, hf, rfl, HN1.out.k.trans k7⟩⟩
         have HN2 := Lib.hid (HN1.out.step h7 k7)
         have HF2 := Lib.hid hf
         clear h7 k7 hf)
      go_roundg (gk - 1)
      case measure => have := HGK.out; omega
      case rel => exact ⟨i + 1, by first | rfl | (rw [HR2.out]) | (congr 1; exact HR2.out), by have := HGK.out; omega, HF2.out, HN2.out⟩
    · have hie : i = kcn := by omega
      subst hie
      clear hin hA hgk
      go_wp2_with (
         go_at_call 57
         refine (add_step (P := [⟨#[41]⟩]) HNS.out.w (by repeat (first | exact Below.refl _ _ | refine Below.drew ?_ | refine bel_alloc ?_ _)) (by exact Nat.le_refl _) (by simp) (by exact fun i s h => parts_new (P := [⟨#[41]⟩]) _ _ i s h) rfl (by simp) (by have := HLE.out; simp [flat] at *; omega)).mono ?_
         rintro e v1 h7
         rw [show s3 ++ kidsT (txt L) x i ++ flat [⟨#[41]⟩] = tot by rw [HT3.out]; simp [flat]] at h7
         rcases h7 with ⟨hf, rfl, h7, k7⟩ | ⟨hf, rfl, k7⟩
         rotate_left
         · exact ⟨rfl, HEND.out _ _ tot ⟨Nat.le_refl _, hf, rfl, HNS.out.k.trans k7⟩⟩
         have HN1 := Lib.hid (HNS.out.step h7 k7)
         have HF1 := Lib.hid hf
         clear h7 k7 hf)
      exact bodyPost_ret (v := .tuple #[]) (by simp [results, Tryz.results27, go_sem]) rfl (HDONE.out _ HF1.out HN1.out)
theorem wnode_zext {F : Nat → Prop} {B b p mm k w n : Nat} {sv : Value} {L : List Nd} {k0 k1 k2 : Int} {l : Nat} {bs : By} {W : World} (hI : KidsDo L k B b p mm sv) (hW : WrE F b (.pointer (some ⟨p, 0, none⟩)) bs W) (hE : EnvAt F W) (S : StoreAt B W p mm sv L) (hF : ∀ i, foot p mm sv i → ¬ F i)
    (hx : L[k]? = some ⟨23, w, k0, k1, k2, n, l⟩) (hl : bs.length ≤ 10000) :
    Calls Tryz.prog 27 #[.pointer (some ⟨b, 0, none⟩), .int .i64 ((k : Nat) : Int)] W (Wrote F b (.pointer (some ⟨p, 0, none⟩)) (bs ++ txt L k) W) := by
  obtain ⟨x, hxe⟩ : ∃ x : Nd, x = ⟨23, w, k0, k1, k2, n, l⟩ := ⟨_, rfl⟩
  have hw := S.good.w _ (List.mem_of_getElem? hx)
  have hok := S.good.ok _ (List.mem_of_getElem? hx)
  have hwle : w ≤ 64 := hw.2
  have hlle : l ≤ 255 := hok.l
  have hkid : ∀ j, j < kc 23 → 0 ≤ x.kid j ∧ x.kid j < ((k : Nat) : Int) := by rw [hxe]; exact S.good.kid k _ hx
  have htx : txt L k = 40 :: nm 23 ++ (32 :: dec w) ++ (kidsT (txt L) x (kc 23) ++ [41]) := by
    rw [txt_is S.good hx, ← hxe]
    unfold bodyT hd
    rw [hxe]
    simp
  have HTX := Lib.hid htx
  have HKID := Lib.hid hkid
  have HLEN : Hid (∀ i, i < kc 23 → (kidsT (txt L) x (i + 1)).length ≤ (kidsT (txt L) x (kc 23)).length) := fun i hi => kidsT_le hi
  have HNODE := Lib.hid (node_yes S hx)
  unfold Nd.val at HNODE
  obtain ⟨v, hv⟩ := hW
  have c0 := hv.c0
  have HV := Lib.hid (show WrE F b (.pointer (some ⟨p, 0, none⟩)) bs W from ⟨v, hv⟩)
  have HE := Lib.hid hE
  have HS := Lib.hid S
  have HFO := Lib.hid hF
  have HI := Lib.hid hI
  have cw : IntKind.u64.wrap ((w : Nat) : Int) = ((w : Nat) : Int) := by rw [IntKind.wrap_u64]; omega
  have cl : IntKind.u64.wrap ((l : Nat) : Int) = ((l : Nat) : Int) := by rw [IntKind.wrap_u64]; omega
  have HWL := Lib.hid (And.intro hwle hlle)
  have HL := Lib.hid hl
  have hnl := nm_len 23
  have hdw : (dec w).length ≤ 20 := dec_len (by omega)
  have hdl : (dec l).length ≤ 20 := dec_len (by omega)
  have HN := Lib.hid (And.intro hnl (And.intro hdw hdl))
  have HKC := Lib.hid (show 1 ≤ 23 ∧ 23 ≤ 25 by omega)
  have hkc3 : kc 23 ≤ 3 := kc_le 23
  have HKN : Hid (∀ W : World, Calls Tryz.prog 60 #[.int .u8 23] W fun e W' => e = .returned (.int .i64 ((kc 23 : Nat) : Int)) ∧ W = W') := fun W => tk_any HKC.out W
  have HNM : Hid (∀ u : World, EnvAt F u → Calls Tryz.prog 59 #[.int .u8 23] u fun e w' => e = .returned (.string ⟨(nm 23).toArray⟩) ∧ u = w') := fun u hu => name_any (o := 23) hu (by omega)
  obtain ⟨kcn, hkcn⟩ : ∃ kcn, kc 23 = kcn := ⟨_, rfl⟩
  rw [hkcn] at HTX HKID HLEN HKN hkc3
  obtain ⟨nmv, hnmv⟩ : ∃ nmv, nm 23 = nmv := ⟨_, rfl⟩
  rw [hnmv] at HTX HN HNM
  have hks := slice3_0
  have HK3 := Lib.hid hkc3
  clear hv hE S hx hw hok hwle hlle hl hF hI htx hkid hnl hdw hdl hkcn hnmv hks
  obtain ⟨tot, htot⟩ : ∃ tot, bs ++ txt L k = tot := ⟨_, rfl⟩
  have HTOT := Lib.hid htot
  rw [htot]
  clear htot
  go_enter Tryz.func27, Tryz.ntmps27
  go_wp2_with (go_at_call 11; refine HNODE.out.mono ?_; rintro e W1 ⟨rfl, hb1⟩; have HB1 := Lib.hid hb1; clear hb1)
  have HB2 := Lib.hid (bel_alloc HB1.out (.cells #[.int .u8 23, .int .u8 ((w : Nat) : Int), .int .i64 k0, .int .i64 k1, .int .i64 k2, .int .u64 ((n : Nat) : Int), .int .u8 ((l : Nat) : Int)] 36))
  have HX := Lib.hid (HV.out.apart HB2.out HB1.out.size (by simp))
  have HA := Lib.hid (At7.new W1 (.int .u8 23) (.int .u8 ((w : Nat) : Int)) (.int .i64 k0) (.int .i64 k1) (.int .i64 k2) (.int .u64 ((n : Nat) : Int)) (.int .u8 ((l : Nat) : Int)) 36)
  obtain ⟨bx, hbx⟩ : ∃ bx, W1.heap.size = bx := ⟨_, rfl⟩
  rw [hbx] at HX HA
  simp only [hbx]
  generalize (W1.alloc (.cells #[.int .u8 23, .int .u8 ((w : Nat) : Int), .int .i64 k0, .int .i64 k1, .int .i64 k2, .int .u64 ((n : Nat) : Int), .int .u8 ((l : Nat) : Int)] 36)) = X at HB2 HX HA ⊢
  clear hbx HB1
  have HEX := Lib.hid (HE.out.call HB2.out)
  have HSX := Lib.hid (HS.out.call HB2.out)
  obtain ⟨G, hG⟩ : ∃ G : Nat → Prop, G = (fun i => F i ∧ i ≠ bx) := ⟨_, rfl⟩
  rw [← hG] at HX
  have HGF : Hid (∀ i, G i → F i) := Lib.hid (fun i c => by rw [hG] at c; exact c.1)
  have HGB : Hid (¬ G bx) := Lib.hid (fun c => by rw [hG] at c; exact c.2 rfl)
  have HEG := Lib.hid (HEX.out.mono HGF.out)
  clear hG
  have HEND : Hid (∀ (e : Ending) (u : World) (cur : By), (cur.length ≤ tot.length ∧ 10000 < cur.length ∧ e = boom 3 ∧ Kept G X u) → Wrote F b (.pointer (some ⟨p, 0, none⟩)) tot W e u) := by
    show ∀ (e : Ending) (u : World) (cur : By), _ → _
    rintro e u cur ⟨h1, h2, rfl, k⟩
    exact .inr ⟨by omega, rfl, (Kept.ofBelow HB2.out F).trans (k.mono (fun i _ c => HGF.out i c))⟩
  have HDONE : Hid (∀ (u : World), tot.length ≤ 10000 → NS G b (.pointer (some ⟨p, 0, none⟩)) X tot u → Wrote F b (.pointer (some ⟨p, 0, none⟩)) tot W (.returned (.tuple #[])) u) := by
    show ∀ (u : World), _ → _ → _
    rintro u h1 h
    exact .inl ⟨h1, rfl, h.w.mono HGF.out, (Kept.ofBelow HB2.out F).trans (h.k.mono (fun i _ c => HGF.out i c))⟩
  have hA := HA.out
  unfold At7 at hA
  obtain ⟨a0, a1, a2, a3, a4, a5, a6⟩ := hA
  have HS0 : Hid (NS G b (.pointer (some ⟨p, 0, none⟩)) X bs X) := Lib.hid ⟨HX.out, Kept.refl G X⟩
  clear HNODE HE HS HV c0
  go_wp2_with (first
  | (go_at_call 59; refine (HNM.out _ HEX.out).mono ?_; rintro e w2 ⟨rfl, rfl⟩)
    | (go_at_call 57
       refine (add_step (P := [⟨#[40]⟩, ⟨nmv.toArray⟩]) HS0.out.w (by repeat (first | exact Below.refl _ _ | refine Below.drew ?_ | refine bel_alloc ?_ _)) (by exact Nat.le_refl _) (by simp) (by exact fun i s h => parts_new (P := [⟨#[40]⟩, ⟨nmv.toArray⟩]) _ _ i s h) rfl (by simp) (by have := HN.out; have := HL.out; simp [flat]; omega)).mono ?_
       rintro e u1 h7
       rw [show bs ++ flat [⟨#[40]⟩, ⟨nmv.toArray⟩] = bs ++ 40 :: nmv by simp [flat]] at h7
       rcases h7 with ⟨hf, rfl, h7, k7⟩ | ⟨hf, rfl, k7⟩
       rotate_left
       · exact ⟨rfl, HEND.out _ _ (bs ++ 40 :: nmv) ⟨by rw [← HTOT.out, HTX.out]; simp <;> omega, hf, rfl, HS0.out.k.trans k7⟩⟩
       refine Hid.out ?_))
  refine Lib.hid ?_
  have HS1 := Lib.hid (HS0.out.step h7 k7)
  have hA := At7.kept HA.out HS1.out.k HGB.out
  unfold At7 at hA
  obtain ⟨a0, a1, a2, a3, a4, a5, a6⟩ := hA
  have HF1 := Lib.hid hf
  clear h7 k7 hf
  go_wp2_with (first
  | (go_at_call 58; refine (small_tens w (by have := HWL.out; omega) _).mono ?_; rintro e w5 ⟨rfl, rfl⟩)
    | (go_at_call 57
       refine (add_step (P := [⟨#[32]⟩, ⟨(dec w).toArray⟩]) HS1.out.w (by repeat (first | exact Below.refl _ _ | refine Below.drew ?_ | refine bel_alloc ?_ _)) (by exact Nat.le_refl _) (by simp) (by exact fun i s h => parts_new (P := [⟨#[32]⟩, ⟨(dec w).toArray⟩]) _ _ i s h) rfl (by simp) (by have := HN.out; have := HL.out; have := HF1.out; simp [flat] at *; omega)).mono ?_
       rintro e u2 h7
       rw [show (bs ++ 40 :: nmv) ++ flat [⟨#[32]⟩, ⟨(dec w).toArray⟩] = bs ++ 40 :: nmv ++ 32 :: dec w by simp [flat]] at h7
       rcases h7 with ⟨hf, rfl, h7, k7⟩ | ⟨hf, rfl, k7⟩
       rotate_left
       · exact ⟨rfl, HEND.out _ _ (bs ++ 40 :: nmv ++ 32 :: dec w) ⟨by rw [← HTOT.out, HTX.out]; simp <;> omega, hf, rfl, HS1.out.k.trans k7⟩⟩
       refine Hid.out ?_))
  refine Lib.hid ?_
  have HS2 := Lib.hid (HS1.out.step h7 k7)
  have hA := At7.kept HA.out HS2.out.k HGB.out
  unfold At7 at hA
  obtain ⟨a0, a1, a2, a3, a4, a5, a6⟩ := hA
  have HF2 := Lib.hid hf
  clear h7 k7 hf
  obtain ⟨s3, hs3⟩ : ∃ s3, bs ++ 40 :: nmv ++ 32 :: dec w = s3 := ⟨_, rfl⟩
  rw [hs3] at HS2 HF2
  have HT3 : Hid (tot = s3 ++ (kidsT (txt L) x kcn ++ [41])) := Lib.hid (by rw [← HTOT.out, HTX.out, ← hs3]; simp)
  clear hs3
  have hks := slice3_0 bx kcn HK3.out
  go_wp2_with (go_at_call 60; refine (HKN.out _).mono ?_; rintro e w2 ⟨rfl, rfl⟩)
  clear hks
  go_loopg [80] kcn (fun gk u80 wr => ∃ i : Nat, u80 = .int .i64 ((i : Nat) : Int) ∧ i + gk = kcn ∧ (s3 ++ kidsT (txt L) x i).length ≤ 10000 ∧ NS G b (.pointer (some ⟨p, 0, none⟩)) X (s3 ++ kidsT (txt L) x i) wr)
  case atStart => exact ⟨0, rfl, by omega, by simpa [kidsT] using HF2.out, by simpa [kidsT] using HS2.out⟩
  case round =>
    obtain ⟨i, rfl, hgk, hlen, hNS⟩ := hrel
    clear HF2 HS2 a0 a1 a2 a3 a4 a5 a6
    have HNS := Lib.hid hNS
    have HLE := Lib.hid hlen
    have hA := At7.kept HA.out hNS.k HGB.out
    clear hNS hlen
    by_cases hin : i < kcn
    · obtain ⟨kd, hkd⟩ : ∃ kd : Nat, x.kid i = ((kd : Nat) : Int) := ⟨(x.kid i).toNat, by have := (HKID.out i hin).1; omega⟩
      have hkdl : kd < k := by have := (HKID.out i hin).2; omega
      have hck : wr.cell? ⟨bx, 2 + i, none⟩ = some (.int .i64 ((kd : Nat) : Int)) := by
        have h3 := HK3.out
        unfold At7 at hA
        rw [← hkd, hxe]
        match i, hin with
        | 0, _ => exact hA.2.2.1
        | 1, _ => exact hA.2.2.2.1
        | 2, _ => exact hA.2.2.2.2.1
        | (j + 3), h => omega
      have q1 : ((i : Nat) : Int) < ((kcn : Nat) : Int) := by omega
      have q0 : (0 : Int) ≤ ((i : Nat) : Int) := by omega
      have r1 : IntKind.i64.wrap (((i : Nat) : Int) + 1) = (((i + 1 : Nat) : Nat) : Int) := by have := HK3.out; rw [IntKind.wrap_i64]; omega
      have r2 : wrap64 (((i : Nat) : Int) + 1) = (((i + 1 : Nat) : Nat) : Int) := by unfold wrap64; rw [← IntKind.wrap_i64]; exact r1
      have HR2 := Lib.hid r2
      have HGK := Lib.hid (And.intro hgk hin)
      have HKL := Lib.hid hkdl
      have HKE : Hid (kidsT (txt L) x (i + 1) = kidsT (txt L) x i ++ 32 :: txt L kd) := Lib.hid (by simp only [kidsT]; rw [hkd]; simp)
      have HTL : Hid ((s3 ++ kidsT (txt L) x (i + 1)).length ≤ tot.length) := Lib.hid (by have := HLEN.out i hin; rw [HT3.out]; simp; omega)
      clear hA hin hgk hkdl hkd r1 r2
      go_wp2_with (
         go_at_call 57
         refine (add_step (P := [⟨#[32]⟩]) HNS.out.w (by repeat (first | exact Below.refl _ _ | refine Below.drew ?_ | refine bel_alloc ?_ _)) (by exact Nat.le_refl _) (by simp) (by exact fun i s h => parts_new (P := [⟨#[32]⟩]) _ _ i s h) rfl (by simp) (by have := HLE.out; simp [flat] at *; omega)).mono ?_
         rintro e v1 h7
         rw [show s3 ++ kidsT (txt L) x i ++ flat [⟨#[32]⟩] = s3 ++ kidsT (txt L) x i ++ [32] by simp [flat]] at h7
         rcases h7 with ⟨hf, rfl, h7, k7⟩ | ⟨hf, rfl, k7⟩
         rotate_left
         · exact ⟨rfl, HEND.out _ _ (s3 ++ kidsT (txt L) x i ++ [32]) ⟨by have := HTL.out; rw [HKE.out] at this; simp at *; omega, hf, rfl, HNS.out.k.trans k7⟩⟩
         refine Hid.out ?_)
      refine Lib.hid ?_
      have HN1 := Lib.hid (HNS.out.step h7 k7)
      have HF1 := Lib.hid hf
      clear h7 k7 hf
      go_wp2_with (
         go_at_call 27
         refine (HI.out kd HKL.out G _ _ HN1.out.w (HEG.out.kept HN1.out.k) (HSX.out.kept HN1.out.k (fun i c d => HFO.out i c (HGF.out i d))) (fun i c d => HFO.out i c (HGF.out i d)) HF1.out).mono ?_
         rintro e v2 h7
         rw [show s3 ++ kidsT (txt L) x i ++ [32] ++ txt L kd = s3 ++ kidsT (txt L) x (i + 1) by rw [HKE.out]; simp] at h7
         rcases h7 with ⟨hf, rfl, h7, k7⟩ | ⟨hf, rfl, k7⟩
         rotate_left
         · exact ⟨rfl, HEND.out _ _ _ ⟨HTL.out, hf, rfl, HN1.out.k.trans k7⟩⟩
         have HN2 := Lib.hid (HN1.out.step h7 k7)
         have HF2 := Lib.hid hf
         clear h7 k7 hf)
      go_roundg (gk - 1)
      case measure => have := HGK.out; omega
      case rel => exact ⟨i + 1, by first | rfl | (rw [HR2.out]) | (congr 1; exact HR2.out), by have := HGK.out; omega, HF2.out, HN2.out⟩
    · have hie : i = kcn := by omega
      subst hie
      clear hin hA hgk
      go_wp2_with (
         go_at_call 57
         refine (add_step (P := [⟨#[41]⟩]) HNS.out.w (by repeat (first | exact Below.refl _ _ | refine Below.drew ?_ | refine bel_alloc ?_ _)) (by exact Nat.le_refl _) (by simp) (by exact fun i s h => parts_new (P := [⟨#[41]⟩]) _ _ i s h) rfl (by simp) (by have := HLE.out; simp [flat] at *; omega)).mono ?_
         rintro e v1 h7
         rw [show s3 ++ kidsT (txt L) x i ++ flat [⟨#[41]⟩] = tot by rw [HT3.out]; simp [flat]] at h7
         rcases h7 with ⟨hf, rfl, h7, k7⟩ | ⟨hf, rfl, k7⟩
         rotate_left
         · exact ⟨rfl, HEND.out _ _ tot ⟨Nat.le_refl _, hf, rfl, HNS.out.k.trans k7⟩⟩
         have HN1 := Lib.hid (HNS.out.step h7 k7)
         have HF1 := Lib.hid hf
         clear h7 k7 hf)
      exact bodyPost_ret (v := .tuple #[]) (by simp [results, Tryz.results27, go_sem]) rfl (HDONE.out _ HF1.out HN1.out)
theorem wnode_sext {F : Nat → Prop} {B b p mm k w n : Nat} {sv : Value} {L : List Nd} {k0 k1 k2 : Int} {l : Nat} {bs : By} {W : World} (hI : KidsDo L k B b p mm sv) (hW : WrE F b (.pointer (some ⟨p, 0, none⟩)) bs W) (hE : EnvAt F W) (S : StoreAt B W p mm sv L) (hF : ∀ i, foot p mm sv i → ¬ F i)
    (hx : L[k]? = some ⟨24, w, k0, k1, k2, n, l⟩) (hl : bs.length ≤ 10000) :
    Calls Tryz.prog 27 #[.pointer (some ⟨b, 0, none⟩), .int .i64 ((k : Nat) : Int)] W (Wrote F b (.pointer (some ⟨p, 0, none⟩)) (bs ++ txt L k) W) := by
  obtain ⟨x, hxe⟩ : ∃ x : Nd, x = ⟨24, w, k0, k1, k2, n, l⟩ := ⟨_, rfl⟩
  have hw := S.good.w _ (List.mem_of_getElem? hx)
  have hok := S.good.ok _ (List.mem_of_getElem? hx)
  have hwle : w ≤ 64 := hw.2
  have hlle : l ≤ 255 := hok.l
  have hkid : ∀ j, j < kc 24 → 0 ≤ x.kid j ∧ x.kid j < ((k : Nat) : Int) := by rw [hxe]; exact S.good.kid k _ hx
  have htx : txt L k = 40 :: nm 24 ++ (32 :: dec w) ++ (kidsT (txt L) x (kc 24) ++ [41]) := by
    rw [txt_is S.good hx, ← hxe]
    unfold bodyT hd
    rw [hxe]
    simp
  have HTX := Lib.hid htx
  have HKID := Lib.hid hkid
  have HLEN : Hid (∀ i, i < kc 24 → (kidsT (txt L) x (i + 1)).length ≤ (kidsT (txt L) x (kc 24)).length) := fun i hi => kidsT_le hi
  have HNODE := Lib.hid (node_yes S hx)
  unfold Nd.val at HNODE
  obtain ⟨v, hv⟩ := hW
  have c0 := hv.c0
  have HV := Lib.hid (show WrE F b (.pointer (some ⟨p, 0, none⟩)) bs W from ⟨v, hv⟩)
  have HE := Lib.hid hE
  have HS := Lib.hid S
  have HFO := Lib.hid hF
  have HI := Lib.hid hI
  have cw : IntKind.u64.wrap ((w : Nat) : Int) = ((w : Nat) : Int) := by rw [IntKind.wrap_u64]; omega
  have cl : IntKind.u64.wrap ((l : Nat) : Int) = ((l : Nat) : Int) := by rw [IntKind.wrap_u64]; omega
  have HWL := Lib.hid (And.intro hwle hlle)
  have HL := Lib.hid hl
  have hnl := nm_len 24
  have hdw : (dec w).length ≤ 20 := dec_len (by omega)
  have hdl : (dec l).length ≤ 20 := dec_len (by omega)
  have HN := Lib.hid (And.intro hnl (And.intro hdw hdl))
  have HKC := Lib.hid (show 1 ≤ 24 ∧ 24 ≤ 25 by omega)
  have hkc3 : kc 24 ≤ 3 := kc_le 24
  have HKN : Hid (∀ W : World, Calls Tryz.prog 60 #[.int .u8 24] W fun e W' => e = .returned (.int .i64 ((kc 24 : Nat) : Int)) ∧ W = W') := fun W => tk_any HKC.out W
  have HNM : Hid (∀ u : World, EnvAt F u → Calls Tryz.prog 59 #[.int .u8 24] u fun e w' => e = .returned (.string ⟨(nm 24).toArray⟩) ∧ u = w') := fun u hu => name_any (o := 24) hu (by omega)
  obtain ⟨kcn, hkcn⟩ : ∃ kcn, kc 24 = kcn := ⟨_, rfl⟩
  rw [hkcn] at HTX HKID HLEN HKN hkc3
  obtain ⟨nmv, hnmv⟩ : ∃ nmv, nm 24 = nmv := ⟨_, rfl⟩
  rw [hnmv] at HTX HN HNM
  have hks := slice3_0
  have HK3 := Lib.hid hkc3
  clear hv hE S hx hw hok hwle hlle hl hF hI htx hkid hnl hdw hdl hkcn hnmv hks
  obtain ⟨tot, htot⟩ : ∃ tot, bs ++ txt L k = tot := ⟨_, rfl⟩
  have HTOT := Lib.hid htot
  rw [htot]
  clear htot
  go_enter Tryz.func27, Tryz.ntmps27
  go_wp2_with (go_at_call 11; refine HNODE.out.mono ?_; rintro e W1 ⟨rfl, hb1⟩; have HB1 := Lib.hid hb1; clear hb1)
  have HB2 := Lib.hid (bel_alloc HB1.out (.cells #[.int .u8 24, .int .u8 ((w : Nat) : Int), .int .i64 k0, .int .i64 k1, .int .i64 k2, .int .u64 ((n : Nat) : Int), .int .u8 ((l : Nat) : Int)] 36))
  have HX := Lib.hid (HV.out.apart HB2.out HB1.out.size (by simp))
  have HA := Lib.hid (At7.new W1 (.int .u8 24) (.int .u8 ((w : Nat) : Int)) (.int .i64 k0) (.int .i64 k1) (.int .i64 k2) (.int .u64 ((n : Nat) : Int)) (.int .u8 ((l : Nat) : Int)) 36)
  obtain ⟨bx, hbx⟩ : ∃ bx, W1.heap.size = bx := ⟨_, rfl⟩
  rw [hbx] at HX HA
  simp only [hbx]
  generalize (W1.alloc (.cells #[.int .u8 24, .int .u8 ((w : Nat) : Int), .int .i64 k0, .int .i64 k1, .int .i64 k2, .int .u64 ((n : Nat) : Int), .int .u8 ((l : Nat) : Int)] 36)) = X at HB2 HX HA ⊢
  clear hbx HB1
  have HEX := Lib.hid (HE.out.call HB2.out)
  have HSX := Lib.hid (HS.out.call HB2.out)
  obtain ⟨G, hG⟩ : ∃ G : Nat → Prop, G = (fun i => F i ∧ i ≠ bx) := ⟨_, rfl⟩
  rw [← hG] at HX
  have HGF : Hid (∀ i, G i → F i) := Lib.hid (fun i c => by rw [hG] at c; exact c.1)
  have HGB : Hid (¬ G bx) := Lib.hid (fun c => by rw [hG] at c; exact c.2 rfl)
  have HEG := Lib.hid (HEX.out.mono HGF.out)
  clear hG
  have HEND : Hid (∀ (e : Ending) (u : World) (cur : By), (cur.length ≤ tot.length ∧ 10000 < cur.length ∧ e = boom 3 ∧ Kept G X u) → Wrote F b (.pointer (some ⟨p, 0, none⟩)) tot W e u) := by
    show ∀ (e : Ending) (u : World) (cur : By), _ → _
    rintro e u cur ⟨h1, h2, rfl, k⟩
    exact .inr ⟨by omega, rfl, (Kept.ofBelow HB2.out F).trans (k.mono (fun i _ c => HGF.out i c))⟩
  have HDONE : Hid (∀ (u : World), tot.length ≤ 10000 → NS G b (.pointer (some ⟨p, 0, none⟩)) X tot u → Wrote F b (.pointer (some ⟨p, 0, none⟩)) tot W (.returned (.tuple #[])) u) := by
    show ∀ (u : World), _ → _ → _
    rintro u h1 h
    exact .inl ⟨h1, rfl, h.w.mono HGF.out, (Kept.ofBelow HB2.out F).trans (h.k.mono (fun i _ c => HGF.out i c))⟩
  have hA := HA.out
  unfold At7 at hA
  obtain ⟨a0, a1, a2, a3, a4, a5, a6⟩ := hA
  have HS0 : Hid (NS G b (.pointer (some ⟨p, 0, none⟩)) X bs X) := Lib.hid ⟨HX.out, Kept.refl G X⟩
  clear HNODE HE HS HV c0
  go_wp2_with (first
  | (go_at_call 59; refine (HNM.out _ HEX.out).mono ?_; rintro e w2 ⟨rfl, rfl⟩)
    | (go_at_call 57
       refine (add_step (P := [⟨#[40]⟩, ⟨nmv.toArray⟩]) HS0.out.w (by repeat (first | exact Below.refl _ _ | refine Below.drew ?_ | refine bel_alloc ?_ _)) (by exact Nat.le_refl _) (by simp) (by exact fun i s h => parts_new (P := [⟨#[40]⟩, ⟨nmv.toArray⟩]) _ _ i s h) rfl (by simp) (by have := HN.out; have := HL.out; simp [flat]; omega)).mono ?_
       rintro e u1 h7
       rw [show bs ++ flat [⟨#[40]⟩, ⟨nmv.toArray⟩] = bs ++ 40 :: nmv by simp [flat]] at h7
       rcases h7 with ⟨hf, rfl, h7, k7⟩ | ⟨hf, rfl, k7⟩
       rotate_left
       · exact ⟨rfl, HEND.out _ _ (bs ++ 40 :: nmv) ⟨by rw [← HTOT.out, HTX.out]; simp <;> omega, hf, rfl, HS0.out.k.trans k7⟩⟩
       refine Hid.out ?_))
  refine Lib.hid ?_
  have HS1 := Lib.hid (HS0.out.step h7 k7)
  have hA := At7.kept HA.out HS1.out.k HGB.out
  unfold At7 at hA
  obtain ⟨a0, a1, a2, a3, a4, a5, a6⟩ := hA
  have HF1 := Lib.hid hf
  clear h7 k7 hf
  go_wp2_with (first
  | (go_at_call 58; refine (small_tens w (by have := HWL.out; omega) _).mono ?_; rintro e w5 ⟨rfl, rfl⟩)
    | (go_at_call 57
       refine (add_step (P := [⟨#[32]⟩, ⟨(dec w).toArray⟩]) HS1.out.w (by repeat (first | exact Below.refl _ _ | refine Below.drew ?_ | refine bel_alloc ?_ _)) (by exact Nat.le_refl _) (by simp) (by exact fun i s h => parts_new (P := [⟨#[32]⟩, ⟨(dec w).toArray⟩]) _ _ i s h) rfl (by simp) (by have := HN.out; have := HL.out; have := HF1.out; simp [flat] at *; omega)).mono ?_
       rintro e u2 h7
       rw [show (bs ++ 40 :: nmv) ++ flat [⟨#[32]⟩, ⟨(dec w).toArray⟩] = bs ++ 40 :: nmv ++ 32 :: dec w by simp [flat]] at h7
       rcases h7 with ⟨hf, rfl, h7, k7⟩ | ⟨hf, rfl, k7⟩
       rotate_left
       · exact ⟨rfl, HEND.out _ _ (bs ++ 40 :: nmv ++ 32 :: dec w) ⟨by rw [← HTOT.out, HTX.out]; simp <;> omega, hf, rfl, HS1.out.k.trans k7⟩⟩
       refine Hid.out ?_))
  refine Lib.hid ?_
  have HS2 := Lib.hid (HS1.out.step h7 k7)
  have hA := At7.kept HA.out HS2.out.k HGB.out
  unfold At7 at hA
  obtain ⟨a0, a1, a2, a3, a4, a5, a6⟩ := hA
  have HF2 := Lib.hid hf
  clear h7 k7 hf
  obtain ⟨s3, hs3⟩ : ∃ s3, bs ++ 40 :: nmv ++ 32 :: dec w = s3 := ⟨_, rfl⟩
  rw [hs3] at HS2 HF2
  have HT3 : Hid (tot = s3 ++ (kidsT (txt L) x kcn ++ [41])) := Lib.hid (by rw [← HTOT.out, HTX.out, ← hs3]; simp)
  clear hs3
  have hks := slice3_0 bx kcn HK3.out
  go_wp2_with (go_at_call 60; refine (HKN.out _).mono ?_; rintro e w2 ⟨rfl, rfl⟩)
  clear hks
  go_loopg [80] kcn (fun gk u80 wr => ∃ i : Nat, u80 = .int .i64 ((i : Nat) : Int) ∧ i + gk = kcn ∧ (s3 ++ kidsT (txt L) x i).length ≤ 10000 ∧ NS G b (.pointer (some ⟨p, 0, none⟩)) X (s3 ++ kidsT (txt L) x i) wr)
  case atStart => exact ⟨0, rfl, by omega, by simpa [kidsT] using HF2.out, by simpa [kidsT] using HS2.out⟩
  case round =>
    obtain ⟨i, rfl, hgk, hlen, hNS⟩ := hrel
    clear HF2 HS2 a0 a1 a2 a3 a4 a5 a6
    have HNS := Lib.hid hNS
    have HLE := Lib.hid hlen
    have hA := At7.kept HA.out hNS.k HGB.out
    clear hNS hlen
    by_cases hin : i < kcn
    · obtain ⟨kd, hkd⟩ : ∃ kd : Nat, x.kid i = ((kd : Nat) : Int) := ⟨(x.kid i).toNat, by have := (HKID.out i hin).1; omega⟩
      have hkdl : kd < k := by have := (HKID.out i hin).2; omega
      have hck : wr.cell? ⟨bx, 2 + i, none⟩ = some (.int .i64 ((kd : Nat) : Int)) := by
        have h3 := HK3.out
        unfold At7 at hA
        rw [← hkd, hxe]
        match i, hin with
        | 0, _ => exact hA.2.2.1
        | 1, _ => exact hA.2.2.2.1
        | 2, _ => exact hA.2.2.2.2.1
        | (j + 3), h => omega
      have q1 : ((i : Nat) : Int) < ((kcn : Nat) : Int) := by omega
      have q0 : (0 : Int) ≤ ((i : Nat) : Int) := by omega
      have r1 : IntKind.i64.wrap (((i : Nat) : Int) + 1) = (((i + 1 : Nat) : Nat) : Int) := by have := HK3.out; rw [IntKind.wrap_i64]; omega
      have r2 : wrap64 (((i : Nat) : Int) + 1) = (((i + 1 : Nat) : Nat) : Int) := by unfold wrap64; rw [← IntKind.wrap_i64]; exact r1
      have HR2 := Lib.hid r2
      have HGK := Lib.hid (And.intro hgk hin)
      have HKL := Lib.hid hkdl
      have HKE : Hid (kidsT (txt L) x (i + 1) = kidsT (txt L) x i ++ 32 :: txt L kd) := Lib.hid (by simp only [kidsT]; rw [hkd]; simp)
      have HTL : Hid ((s3 ++ kidsT (txt L) x (i + 1)).length ≤ tot.length) := Lib.hid (by have := HLEN.out i hin; rw [HT3.out]; simp; omega)
      clear hA hin hgk hkdl hkd r1 r2
      go_wp2_with (
         go_at_call 57
         refine (add_step (P := [⟨#[32]⟩]) HNS.out.w (by repeat (first | exact Below.refl _ _ | refine Below.drew ?_ | refine bel_alloc ?_ _)) (by exact Nat.le_refl _) (by simp) (by exact fun i s h => parts_new (P := [⟨#[32]⟩]) _ _ i s h) rfl (by simp) (by have := HLE.out; simp [flat] at *; omega)).mono ?_
         rintro e v1 h7
         rw [show s3 ++ kidsT (txt L) x i ++ flat [⟨#[32]⟩] = s3 ++ kidsT (txt L) x i ++ [32] by simp [flat]] at h7
         rcases h7 with ⟨hf, rfl, h7, k7⟩ | ⟨hf, rfl, k7⟩
         rotate_left
         · exact ⟨rfl, HEND.out _ _ (s3 ++ kidsT (txt L) x i ++ [32]) ⟨by have := HTL.out; rw [HKE.out] at this; simp at *; omega, hf, rfl, HNS.out.k.trans k7⟩⟩
         refine Hid.out ?_)
      refine Lib.hid ?_
      have HN1 := Lib.hid (HNS.out.step h7 k7)
      have HF1 := Lib.hid hf
      clear h7 k7 hf
      go_wp2_with (
         go_at_call 27
         refine (HI.out kd HKL.out G _ _ HN1.out.w (HEG.out.kept HN1.out.k) (HSX.out.kept HN1.out.k (fun i c d => HFO.out i c (HGF.out i d))) (fun i c d => HFO.out i c (HGF.out i d)) HF1.out).mono ?_
         rintro e v2 h7
         rw [show s3 ++ kidsT (txt L) x i ++ [32] ++ txt L kd = s3 ++ kidsT (txt L) x (i + 1) by rw [HKE.out]; simp] at h7
         rcases h7 with ⟨hf, rfl, h7, k7⟩ | ⟨hf, rfl, k7⟩
         rotate_left
         · exact ⟨rfl, HEND.out _ _ _ ⟨HTL.out, hf, rfl, HN1.out.k.trans k7⟩⟩
         have HN2 := Lib.hid (HN1.out.step h7 k7)
         have HF2 := Lib.hid hf
         clear h7 k7 hf)
      go_roundg (gk - 1)
      case measure => have := HGK.out; omega
      case rel => exact ⟨i + 1, by first | rfl | (rw [HR2.out]) | (congr 1; exact HR2.out), by have := HGK.out; omega, HF2.out, HN2.out⟩
    · have hie : i = kcn := by omega
      subst hie
      clear hin hA hgk
      go_wp2_with (
         go_at_call 57
         refine (add_step (P := [⟨#[41]⟩]) HNS.out.w (by repeat (first | exact Below.refl _ _ | refine Below.drew ?_ | refine bel_alloc ?_ _)) (by exact Nat.le_refl _) (by simp) (by exact fun i s h => parts_new (P := [⟨#[41]⟩]) _ _ i s h) rfl (by simp) (by have := HLE.out; simp [flat] at *; omega)).mono ?_
         rintro e v1 h7
         rw [show s3 ++ kidsT (txt L) x i ++ flat [⟨#[41]⟩] = tot by rw [HT3.out]; simp [flat]] at h7
         rcases h7 with ⟨hf, rfl, h7, k7⟩ | ⟨hf, rfl, k7⟩
         rotate_left
         · exact ⟨rfl, HEND.out _ _ tot ⟨Nat.le_refl _, hf, rfl, HNS.out.k.trans k7⟩⟩
         have HN1 := Lib.hid (HNS.out.step h7 k7)
         have HF1 := Lib.hid hf
         clear h7 k7 hf)
      exact bodyPost_ret (v := .tuple #[]) (by simp [results, Tryz.results27, go_sem]) rfl (HDONE.out _ HF1.out HN1.out)
end Tx
end Go.Proofs.YtkiegiofholofaaGreatDoor
