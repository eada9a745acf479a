/-
  The statements CnfGets, CnfBack, as facts on one call over what landed.
-/
import Derived.Test.YtcpehdeddgfpmaaDoorCuGt
import Derived.Test.YtcpehdeddgfpmaaDoorCuLives
import Derived.Test.YtcpehdeddgfpmaaDoorCfSame
import Derived.Test.YtcpehdeddgfpmaaDoorCfGreat
namespace Go.Proofs.YtcpehdeddgfpmaaDoor
open Go.RowKit
namespace Cf
set_option maxHeartbeats 3200000
set_option maxRecDepth 100000

theorem great_bel {W : World} {al : Option Addr} {C : Cl} {v : Int} {c : Nat} {b : Bool} (h : ClsAt W al C) (hok : OkC C) (hb : greatC C = b) :
    Calls Tryd.prog 9 #[.agg #[.int .i64 v, .slice al C.length c]] W fun e w => e = .returned (.bool b) ∧ Below W.heap.size W w :=
  (great_any h hok).mono fun e w ⟨he, hw⟩ => ⟨by rw [he, hb], by rw [← hw]; exact bel_alloc (Below.refl _ _) _⟩
theorem cget_any {s : ByteArray} {W : World} (hE : Sees W) (hs : s.size ≤ 20000) :
    Calls Tryd.prog 6 #[.string s] W (GetE W (getB s.data.toList)) := by
  rw [← getP_is (show s.data.toList.length ≤ 100000 by rw [← bsize]; omega)]
  cases h : getP s.data.toList with
  | none => exact (cget_no hE (by omega) h).mono fun e w h => ⟨h.2, h.1⟩
  | some x =>
    obtain ⟨v, C⟩ := x
    exact cget_yes hE (by omega) h

def gV : Option (Int × Cl) → Int
  | none => 0
  | some x => x.1
def gC : Option (Int × Cl) → Cl
  | none => []
  | some x => x.2
def gE : Option (Int × Cl) → Int
  | none => 5
  | some _ => 0
theorem getE_all {W w : World} {G : Option (Int × Cl)} {e : Ending} (h : GetE W G e w) : ∃ a c, e = .returned (.tuple #[.agg #[.int .i64 (gV G), .slice a (gC G).length c], .int .i64 (gE G)]) ∧ ClsAt w a (gC G) ∧ Below W.heap.size W w := by
  obtain ⟨hb, h⟩ := h
  cases G with
  | none => exact ⟨none, 0, h, .inl rfl, hb⟩
  | some x =>
    obtain ⟨v, C⟩ := x
    obtain ⟨a, c, he, hc⟩ := h
    exact ⟨a, c, he, hc, hb⟩
theorem mapM_len {α β : Type} {f : α → Option β} : ∀ {l : List α} {r : List β}, l.mapM f = some r → r.length = l.length ∧ ∀ y ∈ r, ∃ x ∈ l, f x = some y
  | [], r, h => by
    have : r = [] := by simpa using h.symm
    subst this; simp
  | x :: l, r, h => by
    rw [List.mapM_cons] at h
    cases hx : f x with
    | none => rw [hx] at h; cases h
    | some y =>
      rw [hx] at h
      cases hl : l.mapM f with
      | none => rw [hl] at h; cases h
      | some ys =>
        rw [hl] at h
        have e : r = y :: ys := by
          have : some (y :: ys) = some r := h
          injection this with this; exact this.symm
        subst e
        obtain ⟨a, b⟩ := mapM_len hl
        refine ⟨by simp [a], fun z hz => ?_⟩
        rcases List.mem_cons.1 hz with c | c
        · subst c; exact ⟨x, by simp, hx⟩
        · obtain ⟨q, q1, q2⟩ := b z c
          exact ⟨q, by simp [q1], q2⟩
theorem line_ok {v : Int} {s : By} {k : List Int} (h : lineC v s = some k) : k.length ≤ s.length + 1 ∧ ∀ l ∈ k, isL l v = true := by
  unfold lineC at h
  simp only at h
  split at h
  · obtain ⟨a, b⟩ := mapM_len h
    refine ⟨by rw [a, List.length_dropLast]; have := split_len 32 s; omega, fun l hl => ?_⟩
    obtain ⟨x, _, hx⟩ := b l hl
    split at hx
    · rename_i z _
      by_cases hz : isL z v = true
      · rw [if_pos hz] at hx; injection hx with hx; rw [← hx]; exact hz
      · rw [if_neg hz] at hx; cases hx
    · cases hx
  · cases h
theorem getB_ok {S : By} (hS : S.length ≤ 20000) : OkC (gC (getB S)) := by
  cases h : getB S with
  | none => exact ⟨by simp [gC], by simp [gC], by simp [gC]⟩
  | some x =>
    obtain ⟨v, C⟩ := x
    show OkC C
    unfold getB at h
    simp only at h
    split at h
    · cases h
    · split at h
      · cases h
      · split at h
        · split at h
          · rename_i hv
            split at h
            · rename_i C' hm
              injection h with h
              injection h with h1 h2
              subst h1 h2
              obtain ⟨a, b⟩ := mapM_len hm
              have hk : ∀ k ∈ C', k.length < 4611686018427387904 ∧ ∀ l ∈ k, I64 l := fun k hk => by
                obtain ⟨x, hx, hl⟩ := b k hk
                obtain ⟨c1, c2⟩ := line_ok hl
                have hxs := split_le 10 (List.mem_of_mem_tail (List.dropLast_subset _ hx))
                refine ⟨by omega, fun l hl' => ?_⟩
                have := isL_ne (c2 l hl')
                exact ⟨by omega, by omega⟩
              refine ⟨?_, fun k hk' => (hk k hk').1, fun k hk' => (hk k hk').2⟩
              rw [a, List.length_dropLast, List.length_tail]
              have := split_len 10 S
              omega
            · cases h
          · cases h
        · cases h

theorem lgets_any {W : World} {s : ByteArray} (hE : Sees W) : Calls Tryd.prog 3 #[.string s] W fun e w => e = .returned (.bool true) ∧ Below W.heap.size W w := by
  have HE := Lib.hid hE
  clear hE
  by_cases hs : 20000 < s.size
  · have q1 : (20000 : Int) < ((s.size : Nat) : Int) := by omega
    clear hs
    go_enter Tryd.func3, Tryd.ntmps3
    go_wp2_with fail
    refine (lives_any _ HE.out.tens).mono ?_
    rintro e w2 ⟨rfl, hb2⟩
    go_wp2_with fail
    go_ret
    exact ⟨rfl, hb2⟩
  · have q1 : decide ((20000 : Int) < ((s.size : Nat) : Int)) = false := decide_eq_false (by omega)
    have HA := Lib.hid (fun (w : World) (hb : Below W.heap.size W w) => cget_any (s := s) (W := w) (HE.out.keep hb) (by omega))
    have HB := Lib.hid (fun (w : World) => rget_any (s := s) (W := w) (by omega))
    have HOK := Lib.hid (getB_ok (S := s.data.toList) (by rw [← bsize]; omega))
    generalize getB s.data.toList = G at HA HB HOK
    obtain ⟨v, hv⟩ : ∃ v, v = gV G := ⟨_, rfl⟩
    obtain ⟨C, hC⟩ : ∃ C, C = gC G := ⟨_, rfl⟩
    obtain ⟨er, her⟩ : ∃ e, e = gE G := ⟨_, rfl⟩
    have HV := Lib.hid (And.intro hv (And.intro hC her))
    rw [← hC] at HOK
    clear hs hv hC her
    go_enter Tryd.func3, Tryd.ntmps3
    go_wp2_with fail
    refine (HA.out _ (Below.refl _ _)).mono ?_
    intro e w1 hg
    obtain ⟨a1, c1, rfl, hc1, hb1⟩ := getE_all hg
    rw [← HV.out.1, ← HV.out.2.1, ← HV.out.2.2]
    rw [← HV.out.2.1] at hc1
    have HC1 := Lib.hid hc1
    have HB1 := Lib.hid hb1
    clear hg hc1 hb1 HA
    go_upto_region 4 with fail
    change Code.wp _ _ _ _ (w1.alloc (.cells #[.int .i64 v, .slice a1 C.length c1] 25))
    have HX2 := Lib.hid (BoxAt.new (W := w1) (v := v) (s := .slice a1 C.length c1))
    have HB2 := Lib.hid (bel_alloc HB1.out (.cells #[.int .i64 v, .slice a1 C.length c1] 25))
    have HC2 := Lib.hid (HC1.out.keep (bel_alloc (Below.refl _ _) (.cells #[.int .i64 v, .slice a1 C.length c1] 25)))
    generalize w1.alloc (.cells #[.int .i64 v, .slice a1 C.length c1] 25) = w2 at HX2 HB2 HC2 ⊢
    go_wp2_with fail
    refine (HB.out _).mono ?_
    intro e w3 hg
    obtain ⟨a3, c3, rfl, hc3, hb3⟩ := getE_all hg
    rw [← HV.out.1, ← HV.out.2.1, ← HV.out.2.2]
    rw [← HV.out.2.1] at hc3
    have HC3 := Lib.hid hc3
    have HB3 := Lib.hid (bel_call HB2.out hb3)
    have HX3 := Lib.hid (HX2.out.call hb3)
    have HD3 := Lib.hid (HC2.out.keep hb3)
    clear hg hc3 hb3 HB
    go_upto_region 5 with fail
    change Code.wp _ _ _ _ (w3.alloc (.cells #[.int .i64 v, .slice a3 C.length c3] 25))
    have HY4 := Lib.hid (BoxAt.new (W := w3) (v := v) (s := .slice a3 C.length c3))
    have HB4 := Lib.hid (bel_alloc HB3.out (.cells #[.int .i64 v, .slice a3 C.length c3] 25))
    have HX4 := Lib.hid (HX3.out.call (bel_alloc (Below.refl _ _) (.cells #[.int .i64 v, .slice a3 C.length c3] 25)))
    have HC4 := Lib.hid (HC3.out.keep (bel_alloc (Below.refl _ _) (.cells #[.int .i64 v, .slice a3 C.length c3] 25)))
    have HD4 := Lib.hid (HD3.out.keep (bel_alloc (Below.refl _ _) (.cells #[.int .i64 v, .slice a3 C.length c3] 25)))
    generalize w3.alloc (.cells #[.int .i64 v, .slice a3 C.length c3] 25) = w4 at HY4 HB4 HX4 HC4 HD4 ⊢
    have x0 := HX4.out.c0
    have x1 := HX4.out.c1
    have xl := HX4.out.lt
    have y0 := HY4.out.c0
    have y1 := HY4.out.c1
    have yl := HY4.out.lt
    have HS := Lib.hid (rsame_any (v := v) (u := v) (c := c1) (d := c3) HD4.out HOK.out HC4.out HOK.out)
    rw [decide_eq_true (show v = v ∧ C = C from ⟨rfl, rfl⟩)] at HS
    have d1 : (er == er) = true := by simp
    go_wp2_with fail
    refine HS.out.mono ?_
    rintro e w5 ⟨rfl, hb5⟩
    have HB5 := Lib.hid (bel_call HB4.out hb5)
    clear hb5 x0 x1 xl y0 y1 yl
    go_wp2_with fail
    refine (lives_any _ (HE.out.keep HB5.out).tens).mono ?_
    rintro e w6 ⟨rfl, hb6⟩
    go_wp2_with fail
    go_ret
    exact ⟨rfl, bel_call HB5.out hb6⟩

theorem lback_any {W : World} {al : Option Addr} {C : Cl} {v : Int} {c : Nat} (hE : Sees W) (h : ClsAt W al C) (hok : OkC C) :
    Calls Tryd.prog 4 #[.agg #[.int .i64 v, .slice al C.length c]] W fun e w => e = .returned (.bool true) ∧ Below W.heap.size W w := by
  have HE := Lib.hid hE
  clear hE
  have HB0 := Lib.hid (bel_alloc (Below.refl W.heap.size W) (.cells #[.int .i64 v, .slice al C.length c] 25))
  have HX0 := Lib.hid (BoxAt.new (W := W) (v := v) (s := .slice al C.length c))
  cases hg : greatC C with
  | true =>
    have HG := Lib.hid (fun (w : World) (hb : Below W.heap.size W w) => great_bel (W := w) (v := v) (c := c) (h.keep hb) hok hg)
    clear h hok hg
    go_enter Tryd.func4, Tryd.ntmps4
    go_wp2_with fail
    refine (HG.out _ HB0.out).mono ?_
    rintro e w1 ⟨rfl, hb1⟩
    have HB1 := Lib.hid (bel_call HB0.out hb1)
    clear hb1
    go_wp2_with fail
    refine (lives_any _ (HE.out.keep HB1.out).tens).mono ?_
    rintro e w2 ⟨rfl, hb2⟩
    go_wp2_with fail
    go_ret
    exact ⟨rfl, bel_call HB1.out hb2⟩
  | false =>
    have HG := Lib.hid (fun (w : World) (hb : Below W.heap.size W w) => great_bel (W := w) (v := v) (c := c) (h.keep hb) hok hg)
    obtain ⟨hl1, hl2⟩ := greatC_no hg
    have hsz : C.length + C.flatten.length ≤ 1000000 := by omega
    cases hm : mayC v C with
    | false =>
      have HP := Lib.hid (fun (w : World) (hb : Below W.heap.size W w) => cput_no (c := c) (h.keep hb) hok hm)
      have HM := Lib.hid (fun (w : World) (hb : Below W.heap.size W w) => cmay_any (v := v) (c := c) (h.keep hb) hok)
      rw [hm] at HM
      clear h hok hg hsz hl1 hl2 hm
      go_enter Tryd.func4, Tryd.ntmps4
      go_wp2_with fail
      refine (HG.out _ HB0.out).mono ?_
      rintro e w1 ⟨rfl, hb1⟩
      have HB1 := Lib.hid (bel_call HB0.out hb1)
      have HX1 := Lib.hid (HX0.out.call hb1)
      have c0 := HX1.out.c0
      have c1 := HX1.out.c1
      have lb := HX1.out.lt
      clear hb1 HG
      go_wp2_with fail
      refine (HP.out _ HB1.out).mono ?_
      rintro e w2 ⟨rfl, hb2⟩
      have HB2 := Lib.hid (bel_call HB1.out hb2)
      have HX2 := Lib.hid (HX1.out.call hb2)
      have c0 := HX2.out.c0
      have c1 := HX2.out.c1
      have lb := HX2.out.lt
      clear hb2
      go_wp2_with fail
      refine (HM.out _ HB2.out).mono ?_
      rintro e w3 ⟨rfl, hb3⟩
      have HB3 := Lib.hid (bel_call HB2.out hb3)
      clear hb3 c0 c1 lb
      go_wp2_with fail
      refine (lives_any _ (HE.out.keep HB3.out).tens).mono ?_
      rintro e w4 ⟨rfl, hb4⟩
      go_wp2_with fail
      go_ret
      exact ⟨rfl, bel_call HB3.out hb4⟩
    | true =>
      have HP := Lib.hid (fun (w : World) (hb : Below W.heap.size W w) => cput_yes (c := c) (HE.out.keep hb).tens (h.keep hb) hok hm hsz)
      obtain ⟨S, hS⟩ : ∃ S : ByteArray, S = ⟨(putB v C).toArray⟩ := ⟨_, rfl⟩
      rw [← hS] at HP
      have hSl : S.data.toList = putB v C := by rw [hS]
      obtain ⟨hmv, hlit⟩ := mayC_parts hm
      have hvv : 0 ≤ v ∧ v ≤ 1000000 := by unfold mayV at hmv; simpa using hmv
      have hSz : S.size ≤ 20000 := by
        rw [bsize, hSl, putB_is]
        have := restB_len hok.l
        have a := decI_len (z := v) (by omega) (by omega)
        have b := decI_len (z := ((C.length : Nat) : Int)) (by omega) (by omega)
        simp only [List.length_append, List.length_cons, List.length_nil]
        omega
      have HA := Lib.hid (fun (w : World) (hb : Below W.heap.size W w) => cget_any (s := S) (W := w) (HE.out.keep hb) hSz)
      rw [hSl, get_put hm (by omega)] at HA
      have HCL := Lib.hid h
      have HOK := Lib.hid hok
      clear h hok hg hsz hl1 hl2 hm hS hSl hSz hmv hlit hvv
      go_enter Tryd.func4, Tryd.ntmps4
      go_wp2_with fail
      refine (HG.out _ HB0.out).mono ?_
      rintro e w1 ⟨rfl, hb1⟩
      have HB1 := Lib.hid (bel_call HB0.out hb1)
      have HX1 := Lib.hid (HX0.out.call hb1)
      have c0 := HX1.out.c0
      have c1 := HX1.out.c1
      have lb := HX1.out.lt
      clear hb1 HG
      go_wp2_with fail
      refine (HP.out _ HB1.out).mono ?_
      rintro e w2 ⟨rfl, hb2⟩
      have HB2 := Lib.hid (bel_call HB1.out hb2)
      have HX2 := Lib.hid (HX1.out.call hb2)
      clear hb2 c0 c1 lb
      go_wp2_with fail
      refine (HA.out _ HB2.out).mono ?_
      intro e w3 hg
      obtain ⟨hb3, a3, c3, rfl, hc3⟩ := hg
      have HC3 := Lib.hid hc3
      have HB3 := Lib.hid (bel_call HB2.out hb3)
      have HX3 := Lib.hid (HX2.out.call hb3)
      clear hc3 hb3 HA HP
      go_upto_region 7 with fail
      change Code.wp _ _ _ _ (w3.alloc (.cells #[.int .i64 v, .slice a3 C.length c3] 25))
      have HY4 := Lib.hid (BoxAt.new (W := w3) (v := v) (s := .slice a3 C.length c3))
      have HB4 := Lib.hid (bel_alloc HB3.out (.cells #[.int .i64 v, .slice a3 C.length c3] 25))
      have HX4 := Lib.hid (HX3.out.call (bel_alloc (Below.refl _ _) (.cells #[.int .i64 v, .slice a3 C.length c3] 25)))
      have HC4 := Lib.hid (HC3.out.keep (bel_alloc (Below.refl _ _) (.cells #[.int .i64 v, .slice a3 C.length c3] 25)))
      generalize w3.alloc (.cells #[.int .i64 v, .slice a3 C.length c3] 25) = w4 at HY4 HB4 HX4 HC4 ⊢
      have x0 := HX4.out.c0
      have x1 := HX4.out.c1
      have xl := HX4.out.lt
      have y0 := HY4.out.c0
      have y1 := HY4.out.c1
      have yl := HY4.out.lt
      have HS := Lib.hid (rsame_any (v := v) (u := v) (c := c) (d := c3) (HCL.out.keep HB4.out) HOK.out HC4.out HOK.out)
      rw [decide_eq_true (show v = v ∧ C = C from ⟨rfl, rfl⟩)] at HS
      go_wp2_with fail
      refine HS.out.mono ?_
      rintro e w5 ⟨rfl, hb5⟩
      have HB5 := Lib.hid (bel_call HB4.out hb5)
      clear hb5 x0 x1 xl y0 y1 yl
      go_wp2_with fail
      refine (lives_any _ (HE.out.keep HB5.out).tens).mono ?_
      rintro e w6 ⟨rfl, hb6⟩
      go_wp2_with fail
      go_ret
      exact ⟨rfl, bel_call HB5.out hb6⟩
end Cf
end Go.Proofs.YtcpehdeddgfpmaaDoor
