/-
One step to a simpler term, of a store that was made: a fact on one call.
Plain facts for layer text: a node's text; a text read as nodes; nodes that were read, made one by one.
-/
import Derived.Test.YtkiegiofholofaaGreatDoorPt22
import Derived.Deep.LoopGhost
import Derived.Test.YtkiegiofholofaaGreatDoorPt01
import Derived.Lib.ItoaNum
import Derived.Lib.ParseIntB
namespace Go.Proofs.YtkiegiofholofaaGreatDoor
open Go.RowKit Go.Maps Bv Tm Kn
namespace Ru
set_option maxHeartbeats 8000000
set_option maxRecDepth 100000

theorem rules_none {W : World} {q p k : Nat} {x y0 y1 y2 : Nd} (s : SiteAt W q p k x y0 y1 y2) (h1 : 1 ≤ x.o) (h2 : x.o ≤ 25) (hk : kc x.o = 0) :
    Calls Tryz.prog 19 #[.pointer (some ⟨q, 0, none⟩)] W fun e W' => e = .returned (.slice none 0 0) ∧ W = W' := by
  have HKC : Hid (∀ w : World, Calls Tryz.prog 35 #[.int .u8 ((x.o : Nat) : Int)] w fun e w' => e = .returned (.int .i64 0) ∧ w = w') := Lib.hid (fun w => by have h := rkids_any h2 (by omega) w; rw [hk] at h; exact h)
  have lq := s.1
  have c2 := s.2 2 _ rfl
  clear s h1 h2 hk
  go_enter Tryz.func19, Tryz.ntmps19
  go_wp2_with (go_at_call 35; with_reducible refine (HKC.out _).mono ?_; rintro e w1 ⟨rfl, rfl⟩)
  go_ret
  exact ⟨rfl, rfl⟩

/-- What a call of Step has done. -/
def StepD (B p m : Nat) (sv : Value) (L : List Nd) (k : Nat) (W : World) (e : Ending) (W' : World) : Prop :=
  e = .returned (.tuple #[.int .i64 (((stp L k).2.1 : Nat) : Int), .int .i64 (((stp L k).2.2.1 : Nat) : Int), .int .i64 (((stp L k).2.2.2 : Nat) : Int)]) ∧
    ∃ v, StoreAt B W' p m v (stp L k).1 ∧ Kept (foot p m sv) W W' ∧ (v.ownBlock = sv.ownBlock ∨ ∃ g, W.heap.size ≤ g ∧ v.ownBlock = some g)

theorem step_end {B p m k i : Nat} {sv : Value} {L : List Nd} {x : Nd} {W w W' : World} {er : Int} {v : Value} (hx : L[k]? = some x) (hkc : ¬ kc x.o = 0) (hi : i < 9) (hno : ∀ r, 1 ≤ r → r ≤ i → ou L k x r = .no) (hO : ou L k x (i + 1) ≠ .no)
    (her : er = (((outL L (ou L k x (i + 1))).2.2 : Nat) : Int)) (hb : Below W.heap.size W w) (S' : StoreAt B W' p m v (outL L (ou L k x (i + 1))).1) (K : Kept (foot p m sv) w W') (ho : v.ownBlock = sv.ownBlock ∨ ∃ g, w.heap.size ≤ g ∧ v.ownBlock = some g) :
    StepD B p m sv L k W (.returned (.tuple #[.int .i64 (if er = 0 then (((outL L (ou L k x (i + 1))).2.1 : Nat) : Int) else 0), .int .i64 (if er = 0 then (((i + 1 : Nat) : Nat) : Int) else 0), .int .i64 er])) W' := by
  have hf : firstR L k x 1 9 = some (i + 1) := firstR_some hO (by omega) (by omega) (fun r a b => hno r a (by omega))
  have hs : stp L k = if (outL L (ou L k x (i + 1))).2.2 = 0 then ((outL L (ou L k x (i + 1))).1, (outL L (ou L k x (i + 1))).2.1, i + 1, 0) else ((outL L (ou L k x (i + 1))).1, 0, 0, (outL L (ou L k x (i + 1))).2.2) := by
    unfold stp
    rw [hx]
    simp only
    rw [if_neg hkc, hf]
  have ho' : v.ownBlock = sv.ownBlock ∨ ∃ g, W.heap.size ≤ g ∧ v.ownBlock = some g := by
    rcases ho with ho | ⟨g, hg, ho⟩
    · exact .inl ho
    · exact .inr ⟨g, Nat.le_trans hb.size hg, ho⟩
  have KK := (Kept.ofBelow hb (foot p m sv)).trans K
  by_cases h0 : (outL L (ou L k x (i + 1))).2.2 = 0
  · have e0 : er = 0 := by rw [her, h0]; rfl
    rw [if_pos h0] at hs
    unfold StepD
    rw [hs, if_pos e0, if_pos e0, e0]
    exact ⟨rfl, v, S', KK, ho'⟩
  · have e0 : ¬ er = 0 := by rw [her]; omega
    rw [if_neg h0] at hs
    unfold StepD
    rw [hs, if_neg e0, if_neg e0, her]
    exact ⟨rfl, v, S', KK, ho'⟩

theorem step_fits {B p m k : Nat} {sv : Value} {L : List Nd} {x : Nd} {W : World} (S : StoreAt B W p m sv L) (hB : B ≤ W.heap.size) (hM : MayL L) (hx : L[k]? = some x) (hkc : ¬ kc x.o = 0) :
    Calls Tryz.prog 8 #[.pointer (some ⟨p, 0, none⟩), .int .i64 ((k : Nat) : Int)] W (StepD B p m sv L k W) := by
  have hop := mayN_op (hM k x hx)
  have HS := Lib.hid S
  have HX := Lib.hid hx
  have HOP := Lib.hid hop
  have HKC := Lib.hid hkc
  have HCLO : Hid (∀ r, 1 ≤ r → r ≤ 9 → ∀ (w : World) (b q : Nat), Below W.heap.size W w → W.heap.size ≤ b → W.heap.size ≤ q → ClosAt w b q p k x (kd L x 0) (kd L x 1) (kd L x 2) → Calls Tryz.prog (fnOf r) #[.pointer (some ⟨b, 0, none⟩)] w (Did B p m sv L (ou L k x r) w)) :=
    Lib.hid (fun r h1 h9 w b q hb lb lq C => clos_any (S.call hb) (Nat.le_trans hB hb.size) hM hx hkc ⟨fun c => by have := foot_lt S c; omega, fun c => by have := foot_lt S c; omega⟩ C h1 h9)
  clear S hx hop hkc hM
  go_enter Tryz.func8, Tryz.ntmps8
  go_wp2_with fail
  refine (node_yes HS.out HX.out).mono ?_
  rintro e w1 ⟨rfl, hb1⟩
  have HB1 := Lib.hid hb1
  clear hb1
  have HSITE : Hid (∀ w, Below W.heap.size W w → Calls Tryz.prog 20 #[.pointer (some ⟨p, 0, none⟩), .int .i64 ((k : Nat) : Int), x.val] w fun e W' => ∃ q, e = .returned (.pointer (some ⟨q, 0, none⟩)) ∧ w.heap.size ≤ q ∧ SiteAt W' q p k x (kd L x 0) (kd L x 1) (kd L x 2) ∧ Below w.heap.size w W') := Lib.hid (fun w hb => site_of (HS.out.call hb) HX.out HOP.out.1 HOP.out.2)
  unfold Nd.val at HSITE
  unfold Nd.val
  go_wp2_with (go_at_call 20; with_reducible refine (HSITE.out _ (by repeat (first | exact HB1.out | (refine bel_alloc ?_ _) | (refine Below.drew ?_)))).mono ?_; rintro e w2 ⟨q, rfl, hq, hs, hb2⟩; have HB2 := Lib.hid (bel_call (show Below W.heap.size W _ from (by repeat (first | exact HB1.out | (refine bel_alloc ?_ _) | (refine Below.drew ?_)))) hb2); have HQ := Lib.hid (Nat.le_trans (Below.size (show Below W.heap.size W _ from (by repeat (first | exact HB1.out | (refine bel_alloc ?_ _) | (refine Below.drew ?_))))) hq); have HSI := Lib.hid hs; clear hq hs hb2)
  refine (rules_of HSI.out HOP.out.1 HOP.out.2 HKC.out).mono ?_
  rintro e w3 ⟨g, bf, rfl, hg, lg, hb3, hc⟩
  have HB3 := Lib.hid (bel_call HB2.out hb3)
  have HSI3 := Lib.hid (HSI.out.keep hb3)
  have HG := Lib.hid (Nat.le_trans HB2.out.size hg)
  have HC3 := Lib.hid hc
  have HZ := Lib.hid (Nat.le_trans HB2.out.size (Nat.le_refl w2.heap.size))
  clear hb3 hc hg
  go_wp2_with fail
  go_loopg [25] 9 (fun gk u25 wr => ∃ i : Nat, u25 = .int .i64 ((i : Nat) : Int) ∧ i + gk = 9 ∧ (∀ r, 1 ≤ r → r ≤ i → ou L k x r = .no) ∧ Below w3.heap.size w3 wr)
  case atStart => exact ⟨0, rfl, by omega, fun r a b => by omega, by repeat (first | exact Below.refl _ _ | (refine bel_alloc ?_ _) | (refine Below.drew ?_))⟩
  case round =>
    obtain ⟨i, rfl, hgk, hno, hbr⟩ := hrel
    have HGK := Lib.hid hgk
    have HNO := Lib.hid hno
    have HBR := Lib.hid hbr
    have HBW := Lib.hid (bel_call HB3.out hbr)
    clear hgk hno hbr
    by_cases hi : i < 9
    case pos =>
      have hi9 : i = 0 ∨ i = 1 ∨ i = 2 ∨ i = 3 ∨ i = 4 ∨ i = 5 ∨ i = 6 ∨ i = 7 ∨ i = 8 := by omega
      rcases hi9 with rfl | rfl | rfl | rfl | rfl | rfl | rfl | rfl | rfl
      · have hc := HC3.out 0 (by decide)
        have cg := (HBR.out.cell (p := ⟨g, 0, none⟩) lg).trans hc.2.2
        have cb := (HBR.out.cell (p := ⟨bf 0, 0, none⟩) (World.block_lt_of_cell? w3 _ hc.2.1)).trans hc.2.1
        have HD := Lib.hid (HCLO.out 1 (by decide) (by decide) wr (bf 0) q HBW.out (Nat.le_trans HZ.out hc.1) HQ.out ⟨cb, HSI3.out.keep HBR.out⟩)
        simp only [fnOf] at HD cg
        clear hc hi cb
        by_cases hO : ou L k x 1 = .no
        · rw [hO] at HD
          have HD2 := Lib.hid (HD.out.mono (fun e w' (h : Did B p m sv L .no wr e w') => h))
          go_wp2_with fail
          refine HD.out.mono ?_
          rintro e w5 ⟨rfl, hb5⟩
          have HB5 := Lib.hid (bel_call HBR.out hb5)
          clear hb5 HD2
          go_wp2_with fail
          go_roundg (gk - 1)
          case rel => exact ⟨1, rfl, by have := HGK.out; omega, fun r a b => by
            by_cases e : r = 1
            · subst e; exact hO
            · exact HNO.out r a (by omega), by repeat (first | exact HB5.out | (refine bel_alloc ?_ _) | (refine Below.drew ?_))⟩
          case measure => have := HGK.out; omega
        · go_wp2_with fail
          refine HD.out.mono ?_
          intro e w5 hd
          obtain ⟨a, er, rfl, her, ha, v, S5, K5, o5⟩ := did_fits (HS.out.call HBW.out) hO (fun j hj => ou_num HS.out.good HX.out hj) hd
          have hfin := step_end (i := 0) HX.out HKC.out (by decide) HNO.out hO her HBW.out S5 K5 o5
          have HF := Lib.hid hfin
          clear hd S5 K5 o5 hfin
          by_cases h0 : er = 0
          · have ha' := ha h0
            have hane : ¬ a = -1 := by omega
            have HA := Lib.hid ha'
            have H0 := Lib.hid h0
            clear ha' ha her
            subst h0
            go_wp2_with fail
            have hF := HF.out
            (try simp only [↓reduceIte] at hF)
            exact bodyPost_ret (v := .tuple #[.int .i64 a, .int .i64 1, .int .i64 0]) (by simp [results, Tryz.results8, go_sem]) rfl (by rw [HA.out]; exact hF)
          · clear ha her
            go_wp2_with fail
            have hF := HF.out
            rw [if_neg h0, if_neg h0] at hF
            exact bodyPost_ret (v := .tuple #[.int .i64 0, .int .i64 0, .int .i64 er]) (by simp [results, Tryz.results8, go_sem]) rfl hF
      · have hc := HC3.out 1 (by decide)
        have cg := (HBR.out.cell (p := ⟨g, 1, none⟩) lg).trans hc.2.2
        have cb := (HBR.out.cell (p := ⟨bf 1, 0, none⟩) (World.block_lt_of_cell? w3 _ hc.2.1)).trans hc.2.1
        have HD := Lib.hid (HCLO.out 2 (by decide) (by decide) wr (bf 1) q HBW.out (Nat.le_trans HZ.out hc.1) HQ.out ⟨cb, HSI3.out.keep HBR.out⟩)
        simp only [fnOf] at HD cg
        clear hc hi cb
        by_cases hO : ou L k x 2 = .no
        · rw [hO] at HD
          have HD2 := Lib.hid (HD.out.mono (fun e w' (h : Did B p m sv L .no wr e w') => h))
          go_wp2_with fail
          refine HD.out.mono ?_
          rintro e w5 ⟨rfl, hb5⟩
          have HB5 := Lib.hid (bel_call HBR.out hb5)
          clear hb5 HD2
          go_wp2_with fail
          go_roundg (gk - 1)
          case rel => exact ⟨2, rfl, by have := HGK.out; omega, fun r a b => by
            by_cases e : r = 2
            · subst e; exact hO
            · exact HNO.out r a (by omega), by repeat (first | exact HB5.out | (refine bel_alloc ?_ _) | (refine Below.drew ?_))⟩
          case measure => have := HGK.out; omega
        · go_wp2_with fail
          refine HD.out.mono ?_
          intro e w5 hd
          obtain ⟨a, er, rfl, her, ha, v, S5, K5, o5⟩ := did_fits (HS.out.call HBW.out) hO (fun j hj => ou_num HS.out.good HX.out hj) hd
          have hfin := step_end (i := 1) HX.out HKC.out (by decide) HNO.out hO her HBW.out S5 K5 o5
          have HF := Lib.hid hfin
          clear hd S5 K5 o5 hfin
          by_cases h0 : er = 0
          · have ha' := ha h0
            have hane : ¬ a = -1 := by omega
            have HA := Lib.hid ha'
            have H0 := Lib.hid h0
            clear ha' ha her
            subst h0
            go_wp2_with fail
            have hF := HF.out
            (try simp only [↓reduceIte] at hF)
            exact bodyPost_ret (v := .tuple #[.int .i64 a, .int .i64 2, .int .i64 0]) (by simp [results, Tryz.results8, go_sem]) rfl (by rw [HA.out]; exact hF)
          · clear ha her
            go_wp2_with fail
            have hF := HF.out
            rw [if_neg h0, if_neg h0] at hF
            exact bodyPost_ret (v := .tuple #[.int .i64 0, .int .i64 0, .int .i64 er]) (by simp [results, Tryz.results8, go_sem]) rfl hF
      · have hc := HC3.out 2 (by decide)
        have cg := (HBR.out.cell (p := ⟨g, 2, none⟩) lg).trans hc.2.2
        have cb := (HBR.out.cell (p := ⟨bf 2, 0, none⟩) (World.block_lt_of_cell? w3 _ hc.2.1)).trans hc.2.1
        have HD := Lib.hid (HCLO.out 3 (by decide) (by decide) wr (bf 2) q HBW.out (Nat.le_trans HZ.out hc.1) HQ.out ⟨cb, HSI3.out.keep HBR.out⟩)
        simp only [fnOf] at HD cg
        clear hc hi cb
        by_cases hO : ou L k x 3 = .no
        · rw [hO] at HD
          have HD2 := Lib.hid (HD.out.mono (fun e w' (h : Did B p m sv L .no wr e w') => h))
          go_wp2_with fail
          refine HD.out.mono ?_
          rintro e w5 ⟨rfl, hb5⟩
          have HB5 := Lib.hid (bel_call HBR.out hb5)
          clear hb5 HD2
          go_wp2_with fail
          go_roundg (gk - 1)
          case rel => exact ⟨3, rfl, by have := HGK.out; omega, fun r a b => by
            by_cases e : r = 3
            · subst e; exact hO
            · exact HNO.out r a (by omega), by repeat (first | exact HB5.out | (refine bel_alloc ?_ _) | (refine Below.drew ?_))⟩
          case measure => have := HGK.out; omega
        · go_wp2_with fail
          refine HD.out.mono ?_
          intro e w5 hd
          obtain ⟨a, er, rfl, her, ha, v, S5, K5, o5⟩ := did_fits (HS.out.call HBW.out) hO (fun j hj => ou_num HS.out.good HX.out hj) hd
          have hfin := step_end (i := 2) HX.out HKC.out (by decide) HNO.out hO her HBW.out S5 K5 o5
          have HF := Lib.hid hfin
          clear hd S5 K5 o5 hfin
          by_cases h0 : er = 0
          · have ha' := ha h0
            have hane : ¬ a = -1 := by omega
            have HA := Lib.hid ha'
            have H0 := Lib.hid h0
            clear ha' ha her
            subst h0
            go_wp2_with fail
            have hF := HF.out
            (try simp only [↓reduceIte] at hF)
            exact bodyPost_ret (v := .tuple #[.int .i64 a, .int .i64 3, .int .i64 0]) (by simp [results, Tryz.results8, go_sem]) rfl (by rw [HA.out]; exact hF)
          · clear ha her
            go_wp2_with fail
            have hF := HF.out
            rw [if_neg h0, if_neg h0] at hF
            exact bodyPost_ret (v := .tuple #[.int .i64 0, .int .i64 0, .int .i64 er]) (by simp [results, Tryz.results8, go_sem]) rfl hF
      · have hc := HC3.out 3 (by decide)
        have cg := (HBR.out.cell (p := ⟨g, 3, none⟩) lg).trans hc.2.2
        have cb := (HBR.out.cell (p := ⟨bf 3, 0, none⟩) (World.block_lt_of_cell? w3 _ hc.2.1)).trans hc.2.1
        have HD := Lib.hid (HCLO.out 4 (by decide) (by decide) wr (bf 3) q HBW.out (Nat.le_trans HZ.out hc.1) HQ.out ⟨cb, HSI3.out.keep HBR.out⟩)
        simp only [fnOf] at HD cg
        clear hc hi cb
        by_cases hO : ou L k x 4 = .no
        · rw [hO] at HD
          have HD2 := Lib.hid (HD.out.mono (fun e w' (h : Did B p m sv L .no wr e w') => h))
          go_wp2_with fail
          refine HD.out.mono ?_
          rintro e w5 ⟨rfl, hb5⟩
          have HB5 := Lib.hid (bel_call HBR.out hb5)
          clear hb5 HD2
          go_wp2_with fail
          go_roundg (gk - 1)
          case rel => exact ⟨4, rfl, by have := HGK.out; omega, fun r a b => by
            by_cases e : r = 4
            · subst e; exact hO
            · exact HNO.out r a (by omega), by repeat (first | exact HB5.out | (refine bel_alloc ?_ _) | (refine Below.drew ?_))⟩
          case measure => have := HGK.out; omega
        · go_wp2_with fail
          refine HD.out.mono ?_
          intro e w5 hd
          obtain ⟨a, er, rfl, her, ha, v, S5, K5, o5⟩ := did_fits (HS.out.call HBW.out) hO (fun j hj => ou_num HS.out.good HX.out hj) hd
          have hfin := step_end (i := 3) HX.out HKC.out (by decide) HNO.out hO her HBW.out S5 K5 o5
          have HF := Lib.hid hfin
          clear hd S5 K5 o5 hfin
          by_cases h0 : er = 0
          · have ha' := ha h0
            have hane : ¬ a = -1 := by omega
            have HA := Lib.hid ha'
            have H0 := Lib.hid h0
            clear ha' ha her
            subst h0
            go_wp2_with fail
            have hF := HF.out
            (try simp only [↓reduceIte] at hF)
            exact bodyPost_ret (v := .tuple #[.int .i64 a, .int .i64 4, .int .i64 0]) (by simp [results, Tryz.results8, go_sem]) rfl (by rw [HA.out]; exact hF)
          · clear ha her
            go_wp2_with fail
            have hF := HF.out
            rw [if_neg h0, if_neg h0] at hF
            exact bodyPost_ret (v := .tuple #[.int .i64 0, .int .i64 0, .int .i64 er]) (by simp [results, Tryz.results8, go_sem]) rfl hF
      · have hc := HC3.out 4 (by decide)
        have cg := (HBR.out.cell (p := ⟨g, 4, none⟩) lg).trans hc.2.2
        have cb := (HBR.out.cell (p := ⟨bf 4, 0, none⟩) (World.block_lt_of_cell? w3 _ hc.2.1)).trans hc.2.1
        have HD := Lib.hid (HCLO.out 5 (by decide) (by decide) wr (bf 4) q HBW.out (Nat.le_trans HZ.out hc.1) HQ.out ⟨cb, HSI3.out.keep HBR.out⟩)
        simp only [fnOf] at HD cg
        clear hc hi cb
        by_cases hO : ou L k x 5 = .no
        · rw [hO] at HD
          have HD2 := Lib.hid (HD.out.mono (fun e w' (h : Did B p m sv L .no wr e w') => h))
          go_wp2_with fail
          refine HD.out.mono ?_
          rintro e w5 ⟨rfl, hb5⟩
          have HB5 := Lib.hid (bel_call HBR.out hb5)
          clear hb5 HD2
          go_wp2_with fail
          go_roundg (gk - 1)
          case rel => exact ⟨5, rfl, by have := HGK.out; omega, fun r a b => by
            by_cases e : r = 5
            · subst e; exact hO
            · exact HNO.out r a (by omega), by repeat (first | exact HB5.out | (refine bel_alloc ?_ _) | (refine Below.drew ?_))⟩
          case measure => have := HGK.out; omega
        · go_wp2_with fail
          refine HD.out.mono ?_
          intro e w5 hd
          obtain ⟨a, er, rfl, her, ha, v, S5, K5, o5⟩ := did_fits (HS.out.call HBW.out) hO (fun j hj => ou_num HS.out.good HX.out hj) hd
          have hfin := step_end (i := 4) HX.out HKC.out (by decide) HNO.out hO her HBW.out S5 K5 o5
          have HF := Lib.hid hfin
          clear hd S5 K5 o5 hfin
          by_cases h0 : er = 0
          · have ha' := ha h0
            have hane : ¬ a = -1 := by omega
            have HA := Lib.hid ha'
            have H0 := Lib.hid h0
            clear ha' ha her
            subst h0
            go_wp2_with fail
            have hF := HF.out
            (try simp only [↓reduceIte] at hF)
            exact bodyPost_ret (v := .tuple #[.int .i64 a, .int .i64 5, .int .i64 0]) (by simp [results, Tryz.results8, go_sem]) rfl (by rw [HA.out]; exact hF)
          · clear ha her
            go_wp2_with fail
            have hF := HF.out
            rw [if_neg h0, if_neg h0] at hF
            exact bodyPost_ret (v := .tuple #[.int .i64 0, .int .i64 0, .int .i64 er]) (by simp [results, Tryz.results8, go_sem]) rfl hF
      · have hc := HC3.out 5 (by decide)
        have cg := (HBR.out.cell (p := ⟨g, 5, none⟩) lg).trans hc.2.2
        have cb := (HBR.out.cell (p := ⟨bf 5, 0, none⟩) (World.block_lt_of_cell? w3 _ hc.2.1)).trans hc.2.1
        have HD := Lib.hid (HCLO.out 6 (by decide) (by decide) wr (bf 5) q HBW.out (Nat.le_trans HZ.out hc.1) HQ.out ⟨cb, HSI3.out.keep HBR.out⟩)
        simp only [fnOf] at HD cg
        clear hc hi cb
        by_cases hO : ou L k x 6 = .no
        · rw [hO] at HD
          have HD2 := Lib.hid (HD.out.mono (fun e w' (h : Did B p m sv L .no wr e w') => h))
          go_wp2_with fail
          refine HD.out.mono ?_
          rintro e w5 ⟨rfl, hb5⟩
          have HB5 := Lib.hid (bel_call HBR.out hb5)
          clear hb5 HD2
          go_wp2_with fail
          go_roundg (gk - 1)
          case rel => exact ⟨6, rfl, by have := HGK.out; omega, fun r a b => by
            by_cases e : r = 6
            · subst e; exact hO
            · exact HNO.out r a (by omega), by repeat (first | exact HB5.out | (refine bel_alloc ?_ _) | (refine Below.drew ?_))⟩
          case measure => have := HGK.out; omega
        · go_wp2_with fail
          refine HD.out.mono ?_
          intro e w5 hd
          obtain ⟨a, er, rfl, her, ha, v, S5, K5, o5⟩ := did_fits (HS.out.call HBW.out) hO (fun j hj => ou_num HS.out.good HX.out hj) hd
          have hfin := step_end (i := 5) HX.out HKC.out (by decide) HNO.out hO her HBW.out S5 K5 o5
          have HF := Lib.hid hfin
          clear hd S5 K5 o5 hfin
          by_cases h0 : er = 0
          · have ha' := ha h0
            have hane : ¬ a = -1 := by omega
            have HA := Lib.hid ha'
            have H0 := Lib.hid h0
            clear ha' ha her
            subst h0
            go_wp2_with fail
            have hF := HF.out
            (try simp only [↓reduceIte] at hF)
            exact bodyPost_ret (v := .tuple #[.int .i64 a, .int .i64 6, .int .i64 0]) (by simp [results, Tryz.results8, go_sem]) rfl (by rw [HA.out]; exact hF)
          · clear ha her
            go_wp2_with fail
            have hF := HF.out
            rw [if_neg h0, if_neg h0] at hF
            exact bodyPost_ret (v := .tuple #[.int .i64 0, .int .i64 0, .int .i64 er]) (by simp [results, Tryz.results8, go_sem]) rfl hF
      · have hc := HC3.out 6 (by decide)
        have cg := (HBR.out.cell (p := ⟨g, 6, none⟩) lg).trans hc.2.2
        have cb := (HBR.out.cell (p := ⟨bf 6, 0, none⟩) (World.block_lt_of_cell? w3 _ hc.2.1)).trans hc.2.1
        have HD := Lib.hid (HCLO.out 7 (by decide) (by decide) wr (bf 6) q HBW.out (Nat.le_trans HZ.out hc.1) HQ.out ⟨cb, HSI3.out.keep HBR.out⟩)
        simp only [fnOf] at HD cg
        clear hc hi cb
        by_cases hO : ou L k x 7 = .no
        · rw [hO] at HD
          have HD2 := Lib.hid (HD.out.mono (fun e w' (h : Did B p m sv L .no wr e w') => h))
          go_wp2_with fail
          refine HD.out.mono ?_
          rintro e w5 ⟨rfl, hb5⟩
          have HB5 := Lib.hid (bel_call HBR.out hb5)
          clear hb5 HD2
          go_wp2_with fail
          go_roundg (gk - 1)
          case rel => exact ⟨7, rfl, by have := HGK.out; omega, fun r a b => by
            by_cases e : r = 7
            · subst e; exact hO
            · exact HNO.out r a (by omega), by repeat (first | exact HB5.out | (refine bel_alloc ?_ _) | (refine Below.drew ?_))⟩
          case measure => have := HGK.out; omega
        · go_wp2_with fail
          refine HD.out.mono ?_
          intro e w5 hd
          obtain ⟨a, er, rfl, her, ha, v, S5, K5, o5⟩ := did_fits (HS.out.call HBW.out) hO (fun j hj => ou_num HS.out.good HX.out hj) hd
          have hfin := step_end (i := 6) HX.out HKC.out (by decide) HNO.out hO her HBW.out S5 K5 o5
          have HF := Lib.hid hfin
          clear hd S5 K5 o5 hfin
          by_cases h0 : er = 0
          · have ha' := ha h0
            have hane : ¬ a = -1 := by omega
            have HA := Lib.hid ha'
            have H0 := Lib.hid h0
            clear ha' ha her
            subst h0
            go_wp2_with fail
            have hF := HF.out
            (try simp only [↓reduceIte] at hF)
            exact bodyPost_ret (v := .tuple #[.int .i64 a, .int .i64 7, .int .i64 0]) (by simp [results, Tryz.results8, go_sem]) rfl (by rw [HA.out]; exact hF)
          · clear ha her
            go_wp2_with fail
            have hF := HF.out
            rw [if_neg h0, if_neg h0] at hF
            exact bodyPost_ret (v := .tuple #[.int .i64 0, .int .i64 0, .int .i64 er]) (by simp [results, Tryz.results8, go_sem]) rfl hF
      · have hc := HC3.out 7 (by decide)
        have cg := (HBR.out.cell (p := ⟨g, 7, none⟩) lg).trans hc.2.2
        have cb := (HBR.out.cell (p := ⟨bf 7, 0, none⟩) (World.block_lt_of_cell? w3 _ hc.2.1)).trans hc.2.1
        have HD := Lib.hid (HCLO.out 8 (by decide) (by decide) wr (bf 7) q HBW.out (Nat.le_trans HZ.out hc.1) HQ.out ⟨cb, HSI3.out.keep HBR.out⟩)
        simp only [fnOf] at HD cg
        clear hc hi cb
        by_cases hO : ou L k x 8 = .no
        · rw [hO] at HD
          have HD2 := Lib.hid (HD.out.mono (fun e w' (h : Did B p m sv L .no wr e w') => h))
          go_wp2_with fail
          refine HD.out.mono ?_
          rintro e w5 ⟨rfl, hb5⟩
          have HB5 := Lib.hid (bel_call HBR.out hb5)
          clear hb5 HD2
          go_wp2_with fail
          go_roundg (gk - 1)
          case rel => exact ⟨8, rfl, by have := HGK.out; omega, fun r a b => by
            by_cases e : r = 8
            · subst e; exact hO
            · exact HNO.out r a (by omega), by repeat (first | exact HB5.out | (refine bel_alloc ?_ _) | (refine Below.drew ?_))⟩
          case measure => have := HGK.out; omega
        · go_wp2_with fail
          refine HD.out.mono ?_
          intro e w5 hd
          obtain ⟨a, er, rfl, her, ha, v, S5, K5, o5⟩ := did_fits (HS.out.call HBW.out) hO (fun j hj => ou_num HS.out.good HX.out hj) hd
          have hfin := step_end (i := 7) HX.out HKC.out (by decide) HNO.out hO her HBW.out S5 K5 o5
          have HF := Lib.hid hfin
          clear hd S5 K5 o5 hfin
          by_cases h0 : er = 0
          · have ha' := ha h0
            have hane : ¬ a = -1 := by omega
            have HA := Lib.hid ha'
            have H0 := Lib.hid h0
            clear ha' ha her
            subst h0
            go_wp2_with fail
            have hF := HF.out
            (try simp only [↓reduceIte] at hF)
            exact bodyPost_ret (v := .tuple #[.int .i64 a, .int .i64 8, .int .i64 0]) (by simp [results, Tryz.results8, go_sem]) rfl (by rw [HA.out]; exact hF)
          · clear ha her
            go_wp2_with fail
            have hF := HF.out
            rw [if_neg h0, if_neg h0] at hF
            exact bodyPost_ret (v := .tuple #[.int .i64 0, .int .i64 0, .int .i64 er]) (by simp [results, Tryz.results8, go_sem]) rfl hF
      · have hc := HC3.out 8 (by decide)
        have cg := (HBR.out.cell (p := ⟨g, 8, none⟩) lg).trans hc.2.2
        have cb := (HBR.out.cell (p := ⟨bf 8, 0, none⟩) (World.block_lt_of_cell? w3 _ hc.2.1)).trans hc.2.1
        have HD := Lib.hid (HCLO.out 9 (by decide) (by decide) wr (bf 8) q HBW.out (Nat.le_trans HZ.out hc.1) HQ.out ⟨cb, HSI3.out.keep HBR.out⟩)
        simp only [fnOf] at HD cg
        clear hc hi cb
        by_cases hO : ou L k x 9 = .no
        · rw [hO] at HD
          have HD2 := Lib.hid (HD.out.mono (fun e w' (h : Did B p m sv L .no wr e w') => h))
          go_wp2_with fail
          refine HD.out.mono ?_
          rintro e w5 ⟨rfl, hb5⟩
          have HB5 := Lib.hid (bel_call HBR.out hb5)
          clear hb5 HD2
          go_wp2_with fail
          go_roundg (gk - 1)
          case rel => exact ⟨9, rfl, by have := HGK.out; omega, fun r a b => by
            by_cases e : r = 9
            · subst e; exact hO
            · exact HNO.out r a (by omega), by repeat (first | exact HB5.out | (refine bel_alloc ?_ _) | (refine Below.drew ?_))⟩
          case measure => have := HGK.out; omega
        · go_wp2_with fail
          refine HD.out.mono ?_
          intro e w5 hd
          obtain ⟨a, er, rfl, her, ha, v, S5, K5, o5⟩ := did_fits (HS.out.call HBW.out) hO (fun j hj => ou_num HS.out.good HX.out hj) hd
          have hfin := step_end (i := 8) HX.out HKC.out (by decide) HNO.out hO her HBW.out S5 K5 o5
          have HF := Lib.hid hfin
          clear hd S5 K5 o5 hfin
          by_cases h0 : er = 0
          · have ha' := ha h0
            have hane : ¬ a = -1 := by omega
            have HA := Lib.hid ha'
            have H0 := Lib.hid h0
            clear ha' ha her
            subst h0
            go_wp2_with fail
            have hF := HF.out
            (try simp only [↓reduceIte] at hF)
            exact bodyPost_ret (v := .tuple #[.int .i64 a, .int .i64 9, .int .i64 0]) (by simp [results, Tryz.results8, go_sem]) rfl (by rw [HA.out]; exact hF)
          · clear ha her
            go_wp2_with fail
            have hF := HF.out
            rw [if_neg h0, if_neg h0] at hF
            exact bodyPost_ret (v := .tuple #[.int .i64 0, .int .i64 0, .int .i64 er]) (by simp [results, Tryz.results8, go_sem]) rfl hF
    case neg =>
      have hi9 : i = 9 := by have := HGK.out; omega
      subst hi9
      go_wp2_with fail
      have hs : stp L k = (L, k, 0, 0) := by
        unfold stp
        rw [HX.out]
        simp only
        rw [if_neg HKC.out, firstR_none (fun j a b => HNO.out j a (by omega))]
      exact bodyPost_ret (v := .tuple #[.int .i64 ((k : Nat) : Int), .int .i64 0, .int .i64 0]) (by simp [results, Tryz.results8, go_sem]) rfl (by unfold StepD; rw [hs]; exact ⟨rfl, sv, HS.out.call HBW.out, Kept.ofBelow HBW.out _, .inl rfl⟩)
end Ru
end Go.Proofs.YtkiegiofholofaaGreatDoor

namespace Go.Proofs.YtkiegiofholofaaGreatDoor
open Bv Tm
namespace Tx
set_option maxHeartbeats 400000

abbrev By := List UInt8
/-- The operators' names. -/
def nameL : List By := [[], [], [], [110, 111, 116], [110, 101, 103], [97, 110, 100], [111, 114], [120, 111, 114], [97, 100, 100], [115, 117, 98], [109, 117, 108], [117, 100, 105, 118], [117, 114, 101, 109], [115, 100, 105, 118], [115, 114, 101, 109], [115, 104, 108], [108, 115, 104, 114], [97, 115, 104, 114], [101, 113], [117, 108, 116], [115, 108, 116], [99, 111, 110, 99, 97, 116], [101, 120, 116, 114, 97, 99, 116], [122, 101, 120, 116], [115, 101, 120, 116], [105, 116, 101]]
def nm (o : Nat) : By := nameL.getD o []
def dec (n : Nat) : By := Lib.decDigits n

/-! ### a text that is put -/
/-- What stands ahead of the kids. -/
def hd (x : Nd) : By := 40 :: (nm x.o ++ ((if x.o = 22 then 32 :: dec x.l else []) ++ (if x.o = 22 ∨ x.o = 23 ∨ x.o = 24 then 32 :: dec x.w else [])))
/-- The first i kids. -/
def kidsT (T : Nat → By) (x : Nd) : Nat → By
  | 0 => []
  | i + 1 => kidsT T x i ++ 32 :: T (x.kid i).toNat
def bodyT (T : Nat → By) (x : Nd) : By :=
  if x.o = 1 then 35 :: (dec x.w ++ 58 :: dec x.n)
  else if x.o = 2 then 118 :: (dec x.n ++ 58 :: dec x.w)
  else hd x ++ (kidsT T x (kc x.o) ++ [41])
def txtF (L : List Nd) : Nat → Nat → By
  | 0, _ => []
  | f + 1, k => match L[k]? with
    | none => []
    | some x => bodyT (txtF L f) x
/-- The text of the node k. -/
def txt (L : List Nd) (k : Nat) : By := txtF L (k + 1) k

theorem kidsT_congr {T T' : Nat → By} {x : Nd} : ∀ {i : Nat}, (∀ j, j < i → T (x.kid j).toNat = T' (x.kid j).toNat) → kidsT T x i = kidsT T' x i
  | 0, _ => rfl
  | i + 1, h => by
    simp only [kidsT]
    rw [kidsT_congr (fun j hj => h j (by omega)), h i (by omega)]
theorem kidsT_le {T : Nat → By} {x : Nd} {i c : Nat} (h : i < c) : (kidsT T x (i + 1)).length ≤ (kidsT T x c).length := by
  induction c with
  | zero => omega
  | succ c ih =>
    by_cases e : i = c
    · subst e; exact Nat.le_refl _
    · have := ih (by omega)
      simp only [kidsT, List.length_append] at *
      omega
theorem bodyT_congr {T T' : Nat → By} {x : Nd} (h : ∀ j, j < kc x.o → T (x.kid j).toNat = T' (x.kid j).toNat) : bodyT T x = bodyT T' x := by
  unfold bodyT
  rw [kidsT_congr h]
theorem txtF_eq {L : List Nd} (g : Gd L) : ∀ (f k : Nat), k < f → txtF L f k = txt L k := by
  intro f
  induction f using Nat.strongRecOn with
  | _ f ih =>
    intro k hk
    cases f with
    | zero => omega
    | succ f =>
      unfold txt
      simp only [txtF]
      cases hx : L[k]? with
      | none => rfl
      | some x =>
        refine bodyT_congr fun j hj => ?_
        have hkid := g.kid k x hx j hj
        rw [ih f (by omega) _ (by omega)]
        by_cases e : k = f
        · subst e
          exact (ih k (by omega) _ (by omega)).symm
        · exact (ih k (by omega) _ (by omega)).symm
theorem txt_is {L : List Nd} (g : Gd L) {k : Nat} {x : Nd} (hx : L[k]? = some x) : txt L k = bodyT (txt L) x := by
  rw [← txtF_eq g (k + 1) k (by omega)]
  simp only [txtF, hx]
  refine bodyT_congr fun j hj => ?_
  have hkid := g.kid k x hx j hj
  exact txtF_eq g k _ (by omega)

/-! ### a text that is read -/
/-- The byte that has to come next. -/
def need (c : UInt8) : By → Option By
  | [] => none
  | d :: r => if d = c then some r else none
def inR (a b : Int) (c : UInt8) : Bool := decide (a ≤ (c.toNat : Int)) && decide ((c.toNat : Int) ≤ b)
/-- A number. -/
def num (s : By) : Option (Nat × By) :=
  let d := s.takeWhile (inR 48 57)
  match Lib.parseUintB 64 d with
  | .ok n => if 1 < d.length ∧ d.getD 0 0 = 48 then none else some (n, s.dropWhile (inR 48 57))
  | _ => none
def sho (s : By) : Option (Nat × By) := (num s).map fun p => (min p.1 255, p.2)
/-- The operator of a name. -/
def opN (s : By) : Nat := if s = [] then 0 else let i := nameL.findIdx (fun y => decide (y = s)); if i < 26 then i else 0
def headP (s : By) : Option (Nd × By) :=
  let o := opN (s.takeWhile (inR 97 122))
  let r := s.dropWhile (inR 97 122)
  if o = 0 then none
  else if o = 22 then
    (need 32 r).bind fun r => (sho r).bind fun p => (need 32 p.2).bind fun r => (sho r).map fun q => (⟨o, q.1, 0, 0, 0, 0, p.1⟩, q.2)
  else if o = 23 ∨ o = 24 then
    (need 32 r).bind fun r => (sho r).map fun q => (⟨o, q.1, 0, 0, 0, 0, 0⟩, q.2)
  else some (⟨o, 0, 0, 0, 0, 0, 0⟩, r)
def setKid (x : Nd) (i : Nat) (v : Int) : Nd := match i with | 0 => { x with k0 := v } | 1 => { x with k1 := v } | _ => { x with k2 := v }
/-- The kids, from i on; c of them. -/
def kidsP (rec : By → List Nd → Option (By × List Nd)) : Nat → Nat → Nd → By → List Nd → Option (Nd × By × List Nd)
  | 0, _, x, s, ns => some (x, s, ns)
  | c + 1, i, x, s, ns => (need 32 s).bind fun r => (rec r ns).bind fun p => kidsP rec c (i + 1) (setKid x i (((p.2.length - 1 : Nat) : Nat) : Int)) p.1 p.2
def nodeP : Nat → By → List Nd → Option (By × List Nd)
  | 0, _, _ => none
  | f + 1, s, ns =>
    match s with
    | [] => none
    | c :: r =>
      if c = 35 then (sho r).bind fun p => (need 58 p.2).bind fun r => (num r).map fun q => (q.2, ns ++ [⟨1, p.1, 0, 0, 0, q.1, 0⟩])
      else if c = 118 then (num r).bind fun p => (need 58 p.2).bind fun r => (sho r).map fun q => (q.2, ns ++ [⟨2, q.1, 0, 0, 0, p.1, 0⟩])
      else if c = 40 then (headP r).bind fun h => (kidsP (nodeP f) (kc h.1.o) 0 h.1 h.2 ns).bind fun p => (need 41 p.2.1).map fun r => (r, p.2.2 ++ [p.1])
      else none
def wholeP (s : By) : Option (List Nd) :=
  if 10000 < s.length then none
  else (nodeP (s.length + 1) s []).bind fun p => if p.1 = [] then some p.2 else none

/-! ### nodes that were read are made -/
/-- The width that a node has to have. -/
def widB (L : List Nd) (x : Nd) : Nat :=
  if x.o = 1 ∨ x.o = 2 ∨ x.o = 22 ∨ x.o = 23 ∨ x.o = 24 then x.w
  else if x.o = 18 ∨ x.o = 19 ∨ x.o = 20 then 1
  else if x.o = 21 then (widAt L x.k0 + widAt L x.k1) % 256
  else if x.o = 25 then widAt L x.k1
  else widAt L x.k0
/-- The first c kids' places, as numbers of nodes. -/
def subK (ids : List Nat) (x : Nd) : Nat → Nd
  | 0 => x
  | c + 1 => setKid (subK ids x c) c (((ids.getD (x.kid c).toNat 0 : Nat) : Nat) : Int)
def nodeB (L : List Nd) (ids : List Nat) (x : Nd) : Nd := let y := subK ids x (kc x.o); { y with w := widB L y }
/-- The nodes left, what was made, the nodes behind it, the number, the error. -/
def bd : List Nd → List Nat → List Nd → Nat → List Nd × Nat × Nat
  | [], _, L, last => (L, last, 0)
  | x :: r, ids, L, _ =>
    let p := mk L (nodeB L ids x)
    if p.2.2 = 0 then bd r (ids ++ [p.2.1]) p.1 p.2.1 else (p.1, 0, p.2.2)
/-- What Get does. -/
def getP (L : List Nd) (s : By) : List Nd × Nat × Nat :=
  match wholeP s with
  | none => (L, 0, 5)
  | some ns => bd ns [] L 0

end Tx
end Go.Proofs.YtkiegiofholofaaGreatDoor
