/-
  RupMore, where it refutes: two of its eight ways.
-/
import Derived.Test.YtmgkgbhkaoflhaaRpLawD
namespace Go.Proofs.Ytmgkgbhkaoflhaa
open Go.RowKit
namespace Rp
open Cf
set_option maxHeartbeats 3200000
set_option maxRecDepth 100000

theorem mor_nif (A : Api) {W : World} {al gl pl kl : Option Addr} {C : Cl} {g : List Int} {P : Cl} {T : List Int} {v z : Int} {n c gn gc pn pc tn tc : Nat} (h : ClsAt W al C) (hn : n = C.length) (hok : OkC C) (hnc : al = none → c = 0) (hgi : IntsAt W gl g) (hgn : gn = g.length) (hgI : ∀ l ∈ g, I64 l) (hgc : gl = none → gc = 0) (hP : ClsAt W pl P) (hpn : pn = P.length) (hokP : OkC P) (hpc : pl = none → pc = 0) (hT : IntsAt W kl T) (htn : tn = T.length) (hTI : ∀ l ∈ T, I64 l) (hz : I64 z) (hg : greatR C P = false) (hl : gn ≤ 30) (hl2 : tn ≤ 20) (hf : checkP v C g P = 0) (hm : mayC v (C ++ [T]) = false) (hi : isL z v = true) (he : ¬ C.length = 0) :
    Calls Try.prog 6 #[.agg #[.int .i64 v, .slice al n c], .slice gl gn gc, .slice pl pn pc, .slice kl tn tc, .int .i64 z] W fun e w => e = .returned (.bool true) ∧ Below W.heap.size W w := by
  have HA := Lib.hid A
  have HC := Lib.hid h
  have HN := Lib.hid hn
  have HOK := Lib.hid hok
  have HNC := Lib.hid hnc
  have HGI := Lib.hid hgi
  have HGN := Lib.hid hgn
  have HGI6 := Lib.hid hgI
  have HGC := Lib.hid hgc
  have HP := Lib.hid hP
  have HPN := Lib.hid hpn
  have HOKP := Lib.hid hokP
  have HPC := Lib.hid hpc
  have HT := Lib.hid hT
  have HTN := Lib.hid htn
  have HTI := Lib.hid hTI
  have HZ := Lib.hid hz
  have g1 : decide (30 < ((gn : Nat) : Int)) = false := decide_eq_false (by omega)
  have g2 : ¬ 30 < ((gn : Nat) : Int) := by omega
  have g3 : decide (20 < ((tn : Nat) : Int)) = false := decide_eq_false (by omega)
  have g4 : ¬ 20 < ((tn : Nat) : Int) := by omega
  have HG := Lib.hid hg
  have HSZ : Hid (C.flatten.length + P.flatten.length ≤ 300 ∧ C.length + P.length ≤ 100 ∧ gn ≤ 30 ∧ tn ≤ 20) := Lib.hid (by have := greatR_no hg; omega)
  have HF := Lib.hid hf
  have HV := Lib.hid (may_v (check_parts hf).1)
  have HM : Hid (mayC v (C ++ [T]) = false) := Lib.hid hm
  have HIS : Hid (isL z v = true) := Lib.hid hi
  have HE2 := Lib.hid (check_assume hf hi)
  have HNE : Hid (0 < C.length) := Lib.hid (by omega)
  clear A h hn hok hnc hgi hgn hgI hgc hP hpn hokP hpc hT htn hTI hz hg hl hl2 hf hm hi he
  have hbt := build_v
  go_enter Try.func6, Try.ntmps6
  go_wp2_with fail
  have c0 := new_cell W #[.int .i64 v, .slice al n c] 24 0
  have c1 := new_cell W #[.int .i64 v, .slice al n c] 24 1
  have hlt : W.heap.size < (W.alloc (.cells #[.int .i64 v, .slice al n c] 24)).heap.size := by simp
  have HBW := Lib.hid (bel_alloc (Below.refl W.heap.size W) (.cells #[.int .i64 v, .slice al n c] 24))
  generalize W.alloc (.cells #[.int .i64 v, .slice al n c] 24) = U at *
  have c0 : U.cell? ⟨W.heap.size, 0, none⟩ = some (.int .i64 v) := c0
  have c1 : U.cell? ⟨W.heap.size, 1, none⟩ = some (.slice al n c) := c1
  have HX0 := Lib.hid c0
  have HX1 := Lib.hid c1
  have HB0 := Lib.hid (Below.refl U.heap.size U)
  refine (great_bel (HC.out.keep (bel_call HBW.out HB0.out)) HN.out HOK.out (HP.out.keep (bel_call HBW.out HB0.out)) HPN.out HOKP.out).mono ?_
  rintro e w1 ⟨rfl, hb⟩
  rw [HG.out]
  have HB1 := Lib.hid (bel_call HB0.out hb)
  clear hb
  clear c0 c1
  have c0 := (HB1.out.cell (p := ⟨W.heap.size, 0, none⟩) hlt).trans HX0.out
  have c1 := (HB1.out.cell (p := ⟨W.heap.size, 1, none⟩) hlt).trans HX1.out
  go_wp2_with fail
  refine (HA.out.check _ _ _ _ C g P _ n c gn gc pn pc (HC.out.keep (bel_call HBW.out HB1.out)) HN.out HOK.out HNC.out (HGI.out.keep (bel_call HBW.out HB1.out)) HGN.out HGI6.out (HP.out.keep (bel_call HBW.out HB1.out)) HPN.out HOKP.out (by have := HSZ.out; omega) (by have := HSZ.out; omega) (by have := HSZ.out; omega)).mono ?_
  rintro e w2 ⟨rfl, hb⟩
  rw [HF.out]
  have HB2 := Lib.hid (bel_call HB1.out hb)
  clear hb
  clear c0 c1
  have c0 := (HB2.out.cell (p := ⟨W.heap.size, 0, none⟩) hlt).trans HX0.out
  have c1 := (HB2.out.cell (p := ⟨W.heap.size, 1, none⟩) hlt).trans HX1.out
  obtain ⟨wA, hwA⟩ : ∃ wA, wA = w2 := ⟨_, rfl⟩
  subst hwA
  go_upto_region 4 with fail
  change Code.wp _ _ _ _ (wA.alloc (.cells #[.int .i64 v, .slice none 0 0] 24))
  have HD2 := Lib.hid (ResAt.new (W := wA) (v := v) (s := .slice none 0 0))
  have HBu := Lib.hid (bel_alloc HB2.out (.cells #[.int .i64 v, .slice none 0 0] 24))
  have hlt2 : wA.heap.size < (wA.alloc (.cells #[.int .i64 v, .slice none 0 0] 24)).heap.size := by simp
  generalize wA.alloc (.cells #[.int .i64 v, .slice none 0 0] 24) = u2 at HBu HD2 hlt2 ⊢
  have d0 := HD2.out.c0
  have d1 := HD2.out.c1
  have df := HD2.out.fr 1
  clear c0 c1
  have c1 : u2.cell? ⟨W.heap.size, 1, none⟩ = some (.slice al n c) := (HBu.out.cell (p := ⟨W.heap.size, 1, none⟩) hlt).trans HX1.out
  have hcl : C.length ≤ 100 := by have := HSZ.out; omega
  have hnn := HN.out
  have htt := HTN.out
  subst hnn
  subst htt
  go_upto_region 5 with (at_builtin; go_must (refine wpList_all (B := u2.heap.size) rfl (.tmp 39) (.tmp 41) rfl rfl HC.out HNC.out (bel_call HBW.out HBu.out) (Nat.le_refl _) rfl (by omega) ?_; intro va vc w3 hd3 hg3; have HR3 := Lib.hid hd3; have HG3 := Lib.hid hg3; have HD3 := Lib.hid (HD2.out.grown hg3 (fun e => by cases e)); have x0 := HD3.out.c0; have x1 := HD3.out.c1; have xf := HD3.out.fr 1; clear hd3 hg3))
  have HB3 := Lib.hid (bel_grown HBu.out HG3.out (fun i hi => by cases hi))
  have HB4 := Lib.hid (HB3.out.setCell (p := ⟨wA.heap.size, 1, none⟩) HB2.out.size (.slice va C.length vc))
  have HD4 := Lib.hid (HD3.out.put (u := .slice va C.length vc))
  have HR4 := Lib.hid (HR3.out.setCell (p := ⟨wA.heap.size, 1, none⟩) (u := .slice va C.length vc) hlt2)
  have HS4 : Hid (u2.heap.size ≤ (w3.setCell ⟨wA.heap.size, 1, none⟩ (.slice va C.length vc)).heap.size) := by
    show _ ≤ _
    have := HG3.out.size
    simpa [World.setCell] using this
  clear d0 d1 df x0 x1 xf c1 HG3 HD3 HR3 HB3 HD2
  generalize w3.setCell ⟨wA.heap.size, 1, none⟩ (.slice va C.length vc) = w4 at HB4 HD4 HR4 HS4 ⊢
  have d1 := HD4.out.c1
  have HB4' := Lib.hid (bel_alloc HB4.out (.cells #[.slice kl T.length tc] 25))
  have HD4' := Lib.hid (HD4.out.call (bel_alloc (Below.refl w4.heap.size w4) (.cells #[.slice kl T.length tc] 25)))
  have d2 := HD4'.out.c1
  have df := HD4'.out.fr 1
  go_upto_region 6 with (at_builtin; go_must (refine wpList_one (w0 := w4) (W := W) (B := u2.heap.size) (k := T) (kal := kl) (kc := tc) rfl (.tmp 45) (.tmp 47) rfl rfl HR4.out HS4.out HT.out rfl rfl (by omega) ?_; intro xa xc w5 hd5 hg5; have HR5 := Lib.hid hd5; have HG5 := Lib.hid hg5; have HD5 := Lib.hid (HD4'.out.grown hg5 (fun e => by have := HR4.out.blk e.symm; omega)); have x0 := HD5.out.c0; have x1 := HD5.out.c1; have xf := HD5.out.fr 1; clear hd5 hg5))
  have HB5 := Lib.hid (bel_grown HB4'.out HG5.out (fun q e => by have := HR4.out.blk e; have := HBu.out.size; omega))
  have HB6 := Lib.hid (HB5.out.setCell (p := ⟨wA.heap.size, 1, none⟩) HB2.out.size (.slice xa (C.length + 1) xc))
  have HD6 := Lib.hid (HD5.out.put (u := .slice xa (C.length + 1) xc))
  have HR6 := Lib.hid (HR5.out.setCell (p := ⟨wA.heap.size, 1, none⟩) (u := .slice xa (C.length + 1) xc) hlt2)
  clear d1 d2 df x0 x1 xf HG5 HD5 HR5 HB5 HD4 HD4' HB4' HR4
  generalize w5.setCell ⟨wA.heap.size, 1, none⟩ (.slice xa (C.length + 1) xc) = w6 at HB6 HD6 HR6 ⊢
  have d0 := HD6.out.c0
  have d1 := HD6.out.c1
  have HOD : Hid (OkC (C ++ [T])) := Lib.hid (okC_app HOK.out (okC_one (by have := HSZ.out; omega) HTI.out) (by show C.length + 1 ≤ _; omega))
  go_wp2_with fail
  refine (rmay_n (v := v) (HR6.out.cls (bel_call HBW.out HB6.out)) (by simp) HOD.out).mono ?_
  rintro e w7 ⟨rfl, hb⟩
  rw [HM.out]
  have HD7 := Lib.hid (HD6.out.call hb)
  have HR7 := Lib.hid (HR6.out.call hb)
  have HB7 := Lib.hid (bel_call HB6.out hb)
  clear hb d0 d1
  have d0 := HD7.out.c0
  have d1 := HD7.out.c1
  clear d0 d1
  obtain ⟨wB, hwB⟩ : ∃ wB, wB = w7 := ⟨_, rfl⟩
  subst hwB
  have c0 := (HB7.out.cell (p := ⟨W.heap.size, 0, none⟩) hlt).trans HX0.out
  have c1 := (HB7.out.cell (p := ⟨W.heap.size, 1, none⟩) hlt).trans HX1.out
  have hgb : gn ≤ 30 := by have := HSZ.out; omega
  go_upto_region 9 with fail
  go_upto_region 10 with (at_builtin; go_must (refine grow_all (W := wB) rfl (.tmp 59) (.tmp 60) rfl rfl (HGI.out.keep (bel_call HBW.out HB7.out)) HGN.out HGC.out (Below.refl _ _) rfl (by omega) ?_; intro ga gcc w10 hg10; have HG10 := Lib.hid hg10; clear hg10))
  have hgl : g.length ≤ 30 := by have := HGN.out; omega
  go_upto_region 11 with (at_builtin; go_must (refine wpList_grow (W := wB) (w0 := w10) (T := g) (z := z) rfl (.tmp 62) (.tmp 64) rfl rfl HG10.out rfl rfl (by omega) ?_; intro ga2 gc2 w11 hg11; have HG11 := Lib.hid hg11; clear hg11))
  have HB11 := Lib.hid (bel_call HB7.out HG11.out.bel)
  clear c0 c1
  have c0 := (HB11.out.cell (p := ⟨W.heap.size, 0, none⟩) hlt).trans HX0.out
  have c1 := (HB11.out.cell (p := ⟨W.heap.size, 1, none⟩) hlt).trans HX1.out
  go_wp2_with fail
  refine (ris_any HV.out.1 HV.out.2).mono ?_
  rintro e w12 ⟨rfl, rfl⟩
  rw [HIS.out]
  go_wp2_with fail
  refine (HA.out.check _ _ _ _ C (g ++ [z]) P v _ c _ _ pn pc (HC.out.keep (bel_call HBW.out HB11.out)) rfl HOK.out HNC.out HG11.out.ints (by simp) (fun l hl => by
    rcases List.mem_append.1 hl with hl | hl
    · exact HGI6.out l hl
    · simp at hl; subst hl; exact HZ.out) (HP.out.keep (bel_call HBW.out HB11.out)) HPN.out HOKP.out (by have := HSZ.out; omega) (by have := HSZ.out; omega) (by omega)).mono ?_
  rintro e w13 ⟨rfl, hb⟩
  rw [HE2.out]
  have HB13 := Lib.hid (bel_call HB11.out hb)
  clear hb
  clear c0 c1
  have c0 := (HB13.out.cell (p := ⟨W.heap.size, 0, none⟩) hlt).trans HX0.out
  have c1 := (HB13.out.cell (p := ⟨W.heap.size, 1, none⟩) hlt).trans HX1.out
  obtain ⟨wC, hwC⟩ : ∃ wC, wC = w13 := ⟨_, rfl⟩
  subst hwC
  obtain ⟨k, hk⟩ : ∃ k, C[0]? = some k := ⟨_, List.getElem?_eq_getElem HNE.out⟩
  have HK := Lib.hid hk
  obtain ⟨cb, co, kal, kc, rfl, hbl, hc, hki⟩ := cls_at HC.out hk
  have HKI := Lib.hid hki
  have hc' : W.cell? ⟨cb, co, none⟩ = some (.slice kal k.length kc) := by simpa using hc
  have hkk := ((HB13.out.cell (p := ⟨cb, co, none⟩) (Nat.lt_of_lt_of_le hbl HBW.out.size)).trans ((HBW.out.cell (p := ⟨cb, co, none⟩) hbl).trans hc'))
  have HCC := Lib.hid hkk
  have HBL0 := Lib.hid hbl
  have hpb : pn ≤ 100 := by have := HSZ.out; have := HPN.out; omega
  have hpn := HPN.out
  subst hpn
  clear hk hki hc hc' hkk hbl
  have g10 : (((C.length : Nat) : Int) == 0) = false := by have := HNE.out; rw [beq_eq_false_iff_ne]; omega
  have g8 : ¬ ((C.length : Nat) : Int) = 0 := by have := HNE.out; omega
  go_upto_region 16 with fail
  go_upto_region 17 with (at_builtin; go_must (refine wpList_all (W := W) (B := wC.heap.size) (C := P) rfl (.tmp 82) (.tmp 83) rfl rfl HP.out HPC.out (bel_call HBW.out HB13.out) (Nat.le_refl _) rfl (by omega) ?_; intro pa pcc w16 hd16 hg16; have HR16 := Lib.hid hd16; have HG16 := Lib.hid hg16; clear hd16 hg16))
  have HB16 := Lib.hid (bel_grown HB13.out HG16.out (fun i hi => by cases hi))
  have hkk : w16.cell? ⟨cb, co, none⟩ = some (.slice kal k.length kc) := (World.cell?_of_block (a := ⟨cb, co, none⟩) (HG16.out.block cb (Nat.lt_of_lt_of_le (Nat.lt_of_lt_of_le HBL0.out HBW.out.size) HB13.out.size) (by simp))).trans HCC.out
  clear c0 c1
  have c0 := (HB16.out.cell (p := ⟨W.heap.size, 0, none⟩) hlt).trans HX0.out
  have c1 := (HB16.out.cell (p := ⟨W.heap.size, 1, none⟩) hlt).trans HX1.out
  have HB16' := Lib.hid (bel_alloc HB16.out (.cells #[.slice kal k.length kc] 25))
  have hs16 : wC.heap.size ≤ w16.heap.size := HG16.out.size
  have hne0 : 0 < C.length := HNE.out
  go_upto_region 18 with (at_builtin; go_must (refine wpList_one (w0 := w16) (W := W) (B := wC.heap.size) (k := k) (kal := kal) (kc := kc) rfl (.tmp 85) (.tmp 90) rfl rfl HR16.out hs16 HKI.out rfl rfl (by omega) ?_; intro qa qc w17 hd17 hg17; have HR17 := Lib.hid hd17; have HG17 := Lib.hid hg17; clear hd17 hg17))
  have HB17 := Lib.hid (bel_grown HB16'.out HG17.out (fun q e => by have := HR16.out.blk e; have := HB13.out.size; omega))
  have HKM := Lib.hid (List.mem_of_getElem? HK.out)
  have HKL : Hid (k.length ≤ 300) := Lib.hid (by
    have h1 := flat_take HK.out
    have h2 := flat_le C (0 + 1)
    have h3 := HSZ.out
    omega)
  clear c0 c1
  have c0 := (HB17.out.cell (p := ⟨W.heap.size, 0, none⟩) hlt).trans HX0.out
  have c1 := (HB17.out.cell (p := ⟨W.heap.size, 1, none⟩) hlt).trans HX1.out
  go_wp2_with fail
  refine (HA.out.check _ _ _ _ C g (P ++ [k]) v _ c gn gc _ _ (HC.out.keep (bel_call HBW.out HB17.out)) rfl HOK.out HNC.out (HGI.out.keep (bel_call HBW.out HB17.out)) HGN.out HGI6.out (HR17.out.cls (bel_call HBW.out HB17.out)) (by simp) (okC_app HOKP.out (okC_one (HOK.out.k k HKM.out) (HOK.out.l k HKM.out)) (by show P.length + 1 ≤ _; omega)) (by have := HSZ.out; have := HKL.out; rw [flat_snoc]; omega) (by have := HSZ.out; rw [List.length_append]; show C.length + (P.length + 1) ≤ _; omega) (by have := HSZ.out; omega)).mono ?_
  rintro e w18 ⟨rfl, hb⟩
  rw [check_step HF.out HKM.out]
  have HB18 := Lib.hid (bel_call HB17.out hb)
  clear hb
  go_wp2_with fail
  refine (lives_any HA.out _).mono ?_
  rintro e w9 ⟨rfl, hb⟩
  have HBL := Lib.hid (bel_call HB18.out hb)
  clear hb
  go_wp2_with fail
  go_ret
  exact ⟨rfl, bel_call HBW.out HBL.out⟩
theorem mor_nie (A : Api) {W : World} {al gl pl kl : Option Addr} {C : Cl} {g : List Int} {P : Cl} {T : List Int} {v z : Int} {n c gn gc pn pc tn tc : Nat} (h : ClsAt W al C) (hn : n = C.length) (hok : OkC C) (hnc : al = none → c = 0) (hgi : IntsAt W gl g) (hgn : gn = g.length) (hgI : ∀ l ∈ g, I64 l) (hgc : gl = none → gc = 0) (hP : ClsAt W pl P) (hpn : pn = P.length) (hokP : OkC P) (hpc : pl = none → pc = 0) (hT : IntsAt W kl T) (htn : tn = T.length) (hTI : ∀ l ∈ T, I64 l) (hz : I64 z) (hg : greatR C P = false) (hl : gn ≤ 30) (hl2 : tn ≤ 20) (hf : checkP v C g P = 0) (hm : mayC v (C ++ [T]) = false) (hi : isL z v = true) (he : C.length = 0) :
    Calls Try.prog 6 #[.agg #[.int .i64 v, .slice al n c], .slice gl gn gc, .slice pl pn pc, .slice kl tn tc, .int .i64 z] W fun e w => e = .returned (.bool true) ∧ Below W.heap.size W w := by
  have HA := Lib.hid A
  have HC := Lib.hid h
  have HN := Lib.hid hn
  have HOK := Lib.hid hok
  have HNC := Lib.hid hnc
  have HGI := Lib.hid hgi
  have HGN := Lib.hid hgn
  have HGI6 := Lib.hid hgI
  have HGC := Lib.hid hgc
  have HP := Lib.hid hP
  have HPN := Lib.hid hpn
  have HOKP := Lib.hid hokP
  have HPC := Lib.hid hpc
  have HT := Lib.hid hT
  have HTN := Lib.hid htn
  have HTI := Lib.hid hTI
  have HZ := Lib.hid hz
  have g1 : decide (30 < ((gn : Nat) : Int)) = false := decide_eq_false (by omega)
  have g2 : ¬ 30 < ((gn : Nat) : Int) := by omega
  have g3 : decide (20 < ((tn : Nat) : Int)) = false := decide_eq_false (by omega)
  have g4 : ¬ 20 < ((tn : Nat) : Int) := by omega
  have HG := Lib.hid hg
  have HSZ : Hid (C.flatten.length + P.flatten.length ≤ 300 ∧ C.length + P.length ≤ 100 ∧ gn ≤ 30 ∧ tn ≤ 20) := Lib.hid (by have := greatR_no hg; omega)
  have HF := Lib.hid hf
  have HV := Lib.hid (may_v (check_parts hf).1)
  have HM : Hid (mayC v (C ++ [T]) = false) := Lib.hid hm
  have HIS : Hid (isL z v = true) := Lib.hid hi
  have HE2 := Lib.hid (check_assume hf hi)
  have HE0 : Hid (C.length = 0) := Lib.hid he
  clear A h hn hok hnc hgi hgn hgI hgc hP hpn hokP hpc hT htn hTI hz hg hl hl2 hf hm hi he
  have hbt := build_v
  go_enter Try.func6, Try.ntmps6
  go_wp2_with fail
  have c0 := new_cell W #[.int .i64 v, .slice al n c] 24 0
  have c1 := new_cell W #[.int .i64 v, .slice al n c] 24 1
  have hlt : W.heap.size < (W.alloc (.cells #[.int .i64 v, .slice al n c] 24)).heap.size := by simp
  have HBW := Lib.hid (bel_alloc (Below.refl W.heap.size W) (.cells #[.int .i64 v, .slice al n c] 24))
  generalize W.alloc (.cells #[.int .i64 v, .slice al n c] 24) = U at *
  have c0 : U.cell? ⟨W.heap.size, 0, none⟩ = some (.int .i64 v) := c0
  have c1 : U.cell? ⟨W.heap.size, 1, none⟩ = some (.slice al n c) := c1
  have HX0 := Lib.hid c0
  have HX1 := Lib.hid c1
  have HB0 := Lib.hid (Below.refl U.heap.size U)
  refine (great_bel (HC.out.keep (bel_call HBW.out HB0.out)) HN.out HOK.out (HP.out.keep (bel_call HBW.out HB0.out)) HPN.out HOKP.out).mono ?_
  rintro e w1 ⟨rfl, hb⟩
  rw [HG.out]
  have HB1 := Lib.hid (bel_call HB0.out hb)
  clear hb
  clear c0 c1
  have c0 := (HB1.out.cell (p := ⟨W.heap.size, 0, none⟩) hlt).trans HX0.out
  have c1 := (HB1.out.cell (p := ⟨W.heap.size, 1, none⟩) hlt).trans HX1.out
  go_wp2_with fail
  refine (HA.out.check _ _ _ _ C g P _ n c gn gc pn pc (HC.out.keep (bel_call HBW.out HB1.out)) HN.out HOK.out HNC.out (HGI.out.keep (bel_call HBW.out HB1.out)) HGN.out HGI6.out (HP.out.keep (bel_call HBW.out HB1.out)) HPN.out HOKP.out (by have := HSZ.out; omega) (by have := HSZ.out; omega) (by have := HSZ.out; omega)).mono ?_
  rintro e w2 ⟨rfl, hb⟩
  rw [HF.out]
  have HB2 := Lib.hid (bel_call HB1.out hb)
  clear hb
  clear c0 c1
  have c0 := (HB2.out.cell (p := ⟨W.heap.size, 0, none⟩) hlt).trans HX0.out
  have c1 := (HB2.out.cell (p := ⟨W.heap.size, 1, none⟩) hlt).trans HX1.out
  obtain ⟨wA, hwA⟩ : ∃ wA, wA = w2 := ⟨_, rfl⟩
  subst hwA
  go_upto_region 4 with fail
  change Code.wp _ _ _ _ (wA.alloc (.cells #[.int .i64 v, .slice none 0 0] 24))
  have HD2 := Lib.hid (ResAt.new (W := wA) (v := v) (s := .slice none 0 0))
  have HBu := Lib.hid (bel_alloc HB2.out (.cells #[.int .i64 v, .slice none 0 0] 24))
  have hlt2 : wA.heap.size < (wA.alloc (.cells #[.int .i64 v, .slice none 0 0] 24)).heap.size := by simp
  generalize wA.alloc (.cells #[.int .i64 v, .slice none 0 0] 24) = u2 at HBu HD2 hlt2 ⊢
  have d0 := HD2.out.c0
  have d1 := HD2.out.c1
  have df := HD2.out.fr 1
  clear c0 c1
  have c1 : u2.cell? ⟨W.heap.size, 1, none⟩ = some (.slice al n c) := (HBu.out.cell (p := ⟨W.heap.size, 1, none⟩) hlt).trans HX1.out
  have hcl : C.length ≤ 100 := by have := HSZ.out; omega
  have hnn := HN.out
  have htt := HTN.out
  subst hnn
  subst htt
  go_upto_region 5 with (at_builtin; go_must (refine wpList_all (B := u2.heap.size) rfl (.tmp 39) (.tmp 41) rfl rfl HC.out HNC.out (bel_call HBW.out HBu.out) (Nat.le_refl _) rfl (by omega) ?_; intro va vc w3 hd3 hg3; have HR3 := Lib.hid hd3; have HG3 := Lib.hid hg3; have HD3 := Lib.hid (HD2.out.grown hg3 (fun e => by cases e)); have x0 := HD3.out.c0; have x1 := HD3.out.c1; have xf := HD3.out.fr 1; clear hd3 hg3))
  have HB3 := Lib.hid (bel_grown HBu.out HG3.out (fun i hi => by cases hi))
  have HB4 := Lib.hid (HB3.out.setCell (p := ⟨wA.heap.size, 1, none⟩) HB2.out.size (.slice va C.length vc))
  have HD4 := Lib.hid (HD3.out.put (u := .slice va C.length vc))
  have HR4 := Lib.hid (HR3.out.setCell (p := ⟨wA.heap.size, 1, none⟩) (u := .slice va C.length vc) hlt2)
  have HS4 : Hid (u2.heap.size ≤ (w3.setCell ⟨wA.heap.size, 1, none⟩ (.slice va C.length vc)).heap.size) := by
    show _ ≤ _
    have := HG3.out.size
    simpa [World.setCell] using this
  clear d0 d1 df x0 x1 xf c1 HG3 HD3 HR3 HB3 HD2
  generalize w3.setCell ⟨wA.heap.size, 1, none⟩ (.slice va C.length vc) = w4 at HB4 HD4 HR4 HS4 ⊢
  have d1 := HD4.out.c1
  have HB4' := Lib.hid (bel_alloc HB4.out (.cells #[.slice kl T.length tc] 25))
  have HD4' := Lib.hid (HD4.out.call (bel_alloc (Below.refl w4.heap.size w4) (.cells #[.slice kl T.length tc] 25)))
  have d2 := HD4'.out.c1
  have df := HD4'.out.fr 1
  go_upto_region 6 with (at_builtin; go_must (refine wpList_one (w0 := w4) (W := W) (B := u2.heap.size) (k := T) (kal := kl) (kc := tc) rfl (.tmp 45) (.tmp 47) rfl rfl HR4.out HS4.out HT.out rfl rfl (by omega) ?_; intro xa xc w5 hd5 hg5; have HR5 := Lib.hid hd5; have HG5 := Lib.hid hg5; have HD5 := Lib.hid (HD4'.out.grown hg5 (fun e => by have := HR4.out.blk e.symm; omega)); have x0 := HD5.out.c0; have x1 := HD5.out.c1; have xf := HD5.out.fr 1; clear hd5 hg5))
  have HB5 := Lib.hid (bel_grown HB4'.out HG5.out (fun q e => by have := HR4.out.blk e; have := HBu.out.size; omega))
  have HB6 := Lib.hid (HB5.out.setCell (p := ⟨wA.heap.size, 1, none⟩) HB2.out.size (.slice xa (C.length + 1) xc))
  have HD6 := Lib.hid (HD5.out.put (u := .slice xa (C.length + 1) xc))
  have HR6 := Lib.hid (HR5.out.setCell (p := ⟨wA.heap.size, 1, none⟩) (u := .slice xa (C.length + 1) xc) hlt2)
  clear d1 d2 df x0 x1 xf HG5 HD5 HR5 HB5 HD4 HD4' HB4' HR4
  generalize w5.setCell ⟨wA.heap.size, 1, none⟩ (.slice xa (C.length + 1) xc) = w6 at HB6 HD6 HR6 ⊢
  have d0 := HD6.out.c0
  have d1 := HD6.out.c1
  have HOD : Hid (OkC (C ++ [T])) := Lib.hid (okC_app HOK.out (okC_one (by have := HSZ.out; omega) HTI.out) (by show C.length + 1 ≤ _; omega))
  go_wp2_with fail
  refine (rmay_n (v := v) (HR6.out.cls (bel_call HBW.out HB6.out)) (by simp) HOD.out).mono ?_
  rintro e w7 ⟨rfl, hb⟩
  rw [HM.out]
  have HD7 := Lib.hid (HD6.out.call hb)
  have HR7 := Lib.hid (HR6.out.call hb)
  have HB7 := Lib.hid (bel_call HB6.out hb)
  clear hb d0 d1
  have d0 := HD7.out.c0
  have d1 := HD7.out.c1
  clear d0 d1
  obtain ⟨wB, hwB⟩ : ∃ wB, wB = w7 := ⟨_, rfl⟩
  subst hwB
  have c0 := (HB7.out.cell (p := ⟨W.heap.size, 0, none⟩) hlt).trans HX0.out
  have c1 := (HB7.out.cell (p := ⟨W.heap.size, 1, none⟩) hlt).trans HX1.out
  have hgb : gn ≤ 30 := by have := HSZ.out; omega
  go_upto_region 9 with fail
  go_upto_region 10 with (at_builtin; go_must (refine grow_all (W := wB) rfl (.tmp 59) (.tmp 60) rfl rfl (HGI.out.keep (bel_call HBW.out HB7.out)) HGN.out HGC.out (Below.refl _ _) rfl (by omega) ?_; intro ga gcc w10 hg10; have HG10 := Lib.hid hg10; clear hg10))
  have hgl : g.length ≤ 30 := by have := HGN.out; omega
  go_upto_region 11 with (at_builtin; go_must (refine wpList_grow (W := wB) (w0 := w10) (T := g) (z := z) rfl (.tmp 62) (.tmp 64) rfl rfl HG10.out rfl rfl (by omega) ?_; intro ga2 gc2 w11 hg11; have HG11 := Lib.hid hg11; clear hg11))
  have HB11 := Lib.hid (bel_call HB7.out HG11.out.bel)
  clear c0 c1
  have c0 := (HB11.out.cell (p := ⟨W.heap.size, 0, none⟩) hlt).trans HX0.out
  have c1 := (HB11.out.cell (p := ⟨W.heap.size, 1, none⟩) hlt).trans HX1.out
  go_wp2_with fail
  refine (ris_any HV.out.1 HV.out.2).mono ?_
  rintro e w12 ⟨rfl, rfl⟩
  rw [HIS.out]
  go_wp2_with fail
  refine (HA.out.check _ _ _ _ C (g ++ [z]) P v _ c _ _ pn pc (HC.out.keep (bel_call HBW.out HB11.out)) rfl HOK.out HNC.out HG11.out.ints (by simp) (fun l hl => by
    rcases List.mem_append.1 hl with hl | hl
    · exact HGI6.out l hl
    · simp at hl; subst hl; exact HZ.out) (HP.out.keep (bel_call HBW.out HB11.out)) HPN.out HOKP.out (by have := HSZ.out; omega) (by have := HSZ.out; omega) (by omega)).mono ?_
  rintro e w13 ⟨rfl, hb⟩
  rw [HE2.out]
  have HB13 := Lib.hid (bel_call HB11.out hb)
  clear hb
  clear c0 c1
  have c0 := (HB13.out.cell (p := ⟨W.heap.size, 0, none⟩) hlt).trans HX0.out
  have c1 := (HB13.out.cell (p := ⟨W.heap.size, 1, none⟩) hlt).trans HX1.out
  have g10 : (((C.length : Nat) : Int) == 0) = true := by have := HE0.out; rw [beq_iff_eq]; omega
  go_wp2_with fail
  refine (lives_any HA.out _).mono ?_
  rintro e w9 ⟨rfl, hb⟩
  have HBL := Lib.hid (bel_call HB13.out hb)
  clear hb
  go_wp2_with fail
  go_ret
  exact ⟨rfl, bel_call HBW.out HBL.out⟩
end Rp
end Go.Proofs.Ytmgkgbhkaoflhaa
