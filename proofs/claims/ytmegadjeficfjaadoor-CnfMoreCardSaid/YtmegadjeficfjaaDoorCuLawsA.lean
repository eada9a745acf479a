/-
  The statements CnfPuts and CnfUnits, as facts on one call.
-/
import Derived.Test.YtmegadjeficfjaaDoorCuLives
namespace Go.Proofs.YtmegadjeficfjaaDoor
open Go.RowKit
namespace Cf
set_option maxHeartbeats 3200000
set_option maxRecDepth 100000

theorem great_bel {W : World} {al : Option Addr} {C : Cl} {v : Int} {c : Nat} {b : Bool} (h : ClsAt W al C) (hok : OkC C) (hb : greatC C = b) :
    Calls Tryd.prog 8 #[.agg #[.int .i64 v, .slice al C.length c]] W fun e w => e = .returned (.bool b) ∧ Below W.heap.size W w :=
  (great_any h hok).mono fun e w ⟨he, hw⟩ => ⟨by rw [he, hb], by rw [← hw]; exact bel_alloc (Below.refl _ _) _⟩

theorem lputs_any {W : World} {al : Option Addr} {C : Cl} {v : Int} {c : Nat} (hT : Tens W) (h : ClsAt W al C) (hok : OkC C) :
    Calls Tryd.prog 3 #[.agg #[.int .i64 v, .slice al C.length c]] W fun e w => e = .returned (.bool true) ∧ Below W.heap.size W w := by
  have HB0 := Lib.hid (bel_alloc (Below.refl W.heap.size W) (.cells #[.int .i64 v, .slice al C.length c] 24))
  have HX0 := Lib.hid (BoxAt.new (W := W) (v := v) (s := .slice al C.length c))
  have HT := Lib.hid hT
  clear hT
  cases hg : greatC C with
  | true =>
    have HG := Lib.hid (fun (w : World) (hb : Below W.heap.size W w) => great_bel (W := w) (v := v) (c := c) (h.keep hb) hok hg)
    clear h hok hg
    go_enter Tryd.func3, Tryd.ntmps3
    go_wp2_with fail
    refine (HG.out _ HB0.out).mono ?_
    rintro e w1 ⟨rfl, hb1⟩
    have HB1 := Lib.hid (bel_call HB0.out hb1)
    clear hb1
    go_wp2_with fail
    refine (lives_any _ (HT.out.keep HB1.out)).mono ?_
    rintro e w2 ⟨rfl, hb2⟩
    go_wp2_with fail
    go_ret
    exact ⟨rfl, bel_call HB1.out hb2⟩
  | false =>
    have HG := Lib.hid (fun (w : World) (hb : Below W.heap.size W w) => great_bel (W := w) (v := v) (c := c) (h.keep hb) hok hg)
    obtain ⟨hl1, hl2⟩ := greatC_no hg
    have hsz : C.length + C.flatten.length ≤ 1000000 := by omega
    have HP : Hid (∃ (S : ByteArray) (z : Int), ∀ (w : World), Below W.heap.size W w → (Calls Tryd.prog 10 #[.agg #[.int .i64 v, .slice al C.length c]] w fun e w' => e = .returned (.tuple #[.string S, .int .i64 z]) ∧ Below w.heap.size w w') ∧
        (Calls Tryd.prog 11 #[.agg #[.int .i64 v, .slice al C.length c]] w fun e w' => e = .returned (.tuple #[.string S, .int .i64 z]) ∧ Below w.heap.size w w')) := by
      show ∃ _ _, _
      cases hm : mayC v C with
      | true => exact ⟨_, _, fun w hb => ⟨cput_yes (HT.out.keep hb) (h.keep hb) hok hm hsz, rput_yes (h.keep hb) hok hm hsz⟩⟩
      | false => exact ⟨_, _, fun w hb => ⟨cput_no (h.keep hb) hok hm, rput_no (h.keep hb) hok hm⟩⟩
    obtain ⟨S, z, hP⟩ := HP.out
    have HPP := Lib.hid hP
    clear h hok hg hsz HP hP hl1 hl2
    go_enter Tryd.func3, Tryd.ntmps3
    go_wp2_with fail
    refine (HG.out _ HB0.out).mono ?_
    rintro e w1 ⟨rfl, hb1⟩
    have HB1 := Lib.hid (bel_call HB0.out hb1)
    have HX1 := Lib.hid (HX0.out.call hb1)
    have c0 := HX1.out.c0
    have c1 := HX1.out.c1
    have lb := HX1.out.lt
    clear hb1 HG
    go_wp2_with fail
    refine (HPP.out _ HB1.out).1.mono ?_
    rintro e w2 ⟨rfl, hb2⟩
    have HB2 := Lib.hid (bel_call HB1.out hb2)
    have HX2 := Lib.hid (HX1.out.call hb2)
    have c0 := HX2.out.c0
    have c1 := HX2.out.c1
    have lb := HX2.out.lt
    clear hb2
    go_wp2_with fail
    refine (HPP.out _ HB2.out).2.mono ?_
    rintro e w3 ⟨rfl, hb3⟩
    have HB3 := Lib.hid (bel_call HB2.out hb3)
    have d1 : (S.toList == S.toList) = true := by simp
    have d2 : (z == z) = true := by simp
    clear hb3 HPP c0 c1 lb
    go_wp2_with fail
    refine (lives_any _ (HT.out.keep HB3.out)).mono ?_
    rintro e w4 ⟨rfl, hb4⟩
    go_wp2_with fail
    go_ret
    exact ⟨rfl, bel_call HB3.out hb4⟩

theorem givenG_len (v : Int) : ∀ (g came : List Int), (givenG v came g).1.length ≤ came.length + g.length
  | [], came => by simp [givenG]
  | l :: r, came => by
    unfold givenG
    split
    · have := givenG_len v r came
      simp; omega
    · split
      · simp
      · have := givenG_len v r (came ++ [l])
        simp at this ⊢; omega
theorem stepsG_len (C : Cl) : ∀ (f : Nat) (came : List Int), (stepsG C f came).1.length ≤ came.length + f
  | 0, came => by simp [stepsG]
  | f + 1, came => by
    unfold stepsG
    split
    · simp
    · split
      · simp
      · rename_i n _ _
        have := stepsG_len C f (came ++ [n])
        simp at this; omega
theorem units_len (v : Int) (C : Cl) (g : List Int) : (unitsC v C g).1.length ≤ g.length + C.flatten.length + 1 := by
  unfold unitsC
  have h1 := givenG_len v g []
  split
  · cases hgv : givenG v [] g with
    | mk came o =>
      rw [hgv] at h1
      cases o with
      | true =>
        have h2 := stepsG_len C (openN C came + 1) came
        have h3 := openN_le C came
        simp only [List.length_nil] at h1
        show (stepsG C (openN C came + 1) came).1.length ≤ _
        omega
      | false => simp at h1 ⊢; omega
  · simp
theorem lunits_any {W : World} {al gl : Option Addr} {C : Cl} {g : List Int} {v : Int} {c gc : Nat} (hT : Tens W) (h : ClsAt W al C) (hok : OkC C) (hgi : IntsAt W gl g) (hgl : g.length < 4611686018427387904) :
    Calls Tryd.prog 5 #[.agg #[.int .i64 v, .slice al C.length c], .slice gl g.length gc] W fun e w => e = .returned (.bool true) ∧ Below W.heap.size W w := by
  have HB0 := Lib.hid (bel_alloc (Below.refl W.heap.size W) (.cells #[.int .i64 v, .slice al C.length c] 24))
  have HX0 := Lib.hid (BoxAt.new (W := W) (v := v) (s := .slice al C.length c))
  have HT := Lib.hid hT
  clear hT
  by_cases hgr : greatC C = true ∨ 60 < g.length
  · obtain ⟨b, hb⟩ : ∃ b, greatC C = b := ⟨_, rfl⟩
    have HG := Lib.hid (fun (w : World) (hbw : Below W.heap.size W w) => great_bel (W := w) (v := v) (c := c) (h.keep hbw) hok hb)
    have hq : b = true ∨ (b = false ∧ (60 : Int) < ((g.length : Nat) : Int)) := by
      cases b with
      | true => exact .inl rfl
      | false =>
        rcases hgr with h1 | h1
        · rw [hb] at h1; cases h1
        · exact .inr ⟨rfl, by omega⟩
    clear h hok hgi hgr hb
    rcases hq with rfl | ⟨rfl, q6⟩
    · go_enter Tryd.func5, Tryd.ntmps5
      go_wp2_with fail
      refine (HG.out _ HB0.out).mono ?_
      rintro e w1 ⟨rfl, hb1⟩
      have HB1 := Lib.hid (bel_call HB0.out hb1)
      clear hb1
      go_wp2_with fail
      refine (lives_any _ (HT.out.keep HB1.out)).mono ?_
      rintro e w2 ⟨rfl, hb2⟩
      go_wp2_with fail
      go_ret
      exact ⟨rfl, bel_call HB1.out hb2⟩
    · go_enter Tryd.func5, Tryd.ntmps5
      go_wp2_with fail
      refine (HG.out _ HB0.out).mono ?_
      rintro e w1 ⟨rfl, hb1⟩
      have HB1 := Lib.hid (bel_call HB0.out hb1)
      clear hb1
      go_wp2_with fail
      refine (lives_any _ (HT.out.keep HB1.out)).mono ?_
      rintro e w2 ⟨rfl, hb2⟩
      go_wp2_with fail
      go_ret
      exact ⟨rfl, bel_call HB1.out hb2⟩
  · have hgf : greatC C = false := by
      cases hc : greatC C with
      | false => rfl
      | true => exact absurd (.inl hc) hgr
    have HG := Lib.hid (fun (w : World) (hbw : Below W.heap.size W w) => great_bel (W := w) (v := v) (c := c) (h.keep hbw) hok hgf)
    obtain ⟨hl1, hl2⟩ := greatC_no hgf
    have hg60 : g.length ≤ 60 := by
      have : ¬ 60 < g.length := fun e => hgr (.inr e)
      omega
    have hsz : C.length + C.flatten.length ≤ 1000000 := by omega
    have hlen : (unitsC v C g).1.length < 4611686018427387904 := by
      have := units_len v C g
      omega
    obtain ⟨T, b, hT⟩ : ∃ T b, unitsC v C g = (T, b) := ⟨_, _, rfl⟩
    have HP : Hid (∀ (w : World), Below W.heap.size W w → (Calls Tryd.prog 15 #[.agg #[.int .i64 v, .slice al C.length c], .slice gl g.length gc] w fun e w' => ∃ a c, e = .returned (.tuple #[.slice a T.length c, .bool b]) ∧ IntsAt w' a T ∧ Below w.heap.size w w') ∧
        (Calls Tryd.prog 16 #[.agg #[.int .i64 v, .slice al C.length c], .slice gl g.length gc] w fun e w' => ∃ a c, e = .returned (.tuple #[.slice a T.length c, .bool b]) ∧ IntsAt w' a T ∧ Below w.heap.size w w')) := by
      show ∀ _, _ → _
      intro w hb
      cases hm : mayC v C with
      | true =>
        obtain ⟨vn, rfl⟩ : ∃ vn : Nat, v = ((vn : Nat) : Int) := by
          obtain ⟨hmv, _⟩ := mayC_parts hm
          have hv : 0 ≤ v ∧ v ≤ 1000000 := by unfold mayV at hmv; simpa using hmv
          exact ⟨v.toNat, by omega⟩
        have h1 := cunits_yes (c := c) (gc := gc) (h.keep hb) hok (hgi.keep hb) hm (by omega)
        have h2 := runits_yes (c := c) (gc := gc) (h.keep hb) hok (hgi.keep hb) hm (by omega)
        rw [hT] at h1 h2
        exact ⟨h1, h2.mono fun e w' he => listE_int he⟩
      | false =>
        have e0 : unitsC v C g = ([], false) := by unfold unitsC; rw [hm]; rfl
        rw [e0] at hT
        injection hT with t1 t2
        subst t1 t2
        exact ⟨(cunits_no (h.keep hb) hok hm).mono fun e w' he => ⟨none, 0, he.1, .inl rfl, he.2⟩, (runits_no (h.keep hb) hok hm).mono fun e w' he => ⟨none, 0, he.1, .inl rfl, he.2⟩⟩
    rw [hT] at hlen
    have q6 : decide ((60 : Int) < ((g.length : Nat) : Int)) = false := decide_eq_false (by omega)
    have HLEN := Lib.hid hlen
    clear h hok hgi hgr hgf hT hsz hl1 hl2 hlen
    go_enter Tryd.func5, Tryd.ntmps5
    go_wp2_with fail
    refine (HG.out _ HB0.out).mono ?_
    rintro e w1 ⟨rfl, hb1⟩
    have HB1 := Lib.hid (bel_call HB0.out hb1)
    have HX1 := Lib.hid (HX0.out.call hb1)
    have c0 := HX1.out.c0
    have c1 := HX1.out.c1
    have lb := HX1.out.lt
    clear hb1 HG
    go_wp2_with fail
    refine (HP.out _ HB1.out).1.mono ?_
    rintro e w2 ⟨a2, cc2, rfl, hi2, hb2⟩
    have HB2 := Lib.hid (bel_call HB1.out hb2)
    have HX2 := Lib.hid (HX1.out.call hb2)
    have HI2 := Lib.hid hi2
    have c0 := HX2.out.c0
    have c1 := HX2.out.c1
    have lb := HX2.out.lt
    clear hb2 hi2
    go_wp2_with fail
    refine (HP.out _ HB2.out).2.mono ?_
    rintro e w3 ⟨a3, cc3, rfl, hi3, hb3⟩
    have HB3 := Lib.hid (bel_call HB2.out hb3)
    have HINT := Lib.hid (ints_any (c := cc2) (cc := cc3) (HI2.out.keep hb3) hi3 HLEN.out HLEN.out)
    rw [decide_eq_true (rfl : T = T)] at HINT
    have d1 : (b == b) = true := by simp
    clear hb3 hi3 HP c0 c1 lb
    go_wp2_with fail
    refine HINT.out.mono ?_
    rintro e w4 ⟨rfl, q, rfl⟩
    go_wp2_with fail
    refine (lives_any _ (HT.out.keep (bel_drewN HB3.out q))).mono ?_
    rintro e w5 ⟨rfl, hb5⟩
    go_wp2_with fail
    go_ret
    exact ⟨rfl, bel_call (bel_drewN HB3.out q) hb5⟩
end Cf
end Go.Proofs.YtmegadjeficfjaaDoor
