/-
  The program's give, walked: the given literals come.
-/
import Derived.Test.YtcpehdeddgfpmaaDoorCuFollow
import Derived.Test.YtcpehdeddgfpmaaDoorCfUnits
namespace Go.Proofs.YtcpehdeddgfpmaaDoor
open Go.RowKit Go.Maps
namespace Cf
set_option maxHeartbeats 4000000
set_option maxRecDepth 100000

def HeldI (B : Nat) (w : World) (al : Option Addr) (T : List Int) : Prop := ∃ W0 : World, W0.heap.size ≤ B ∧ Below W0.heap.size W0 w ∧ IntsAt W0 al T
theorem HeldI.at' {B : Nat} {w w' : World} {al : Option Addr} {T : List Int} (h : HeldI B w al T) (k : Below B w w') : IntsAt w' al T := by
  obtain ⟨W0, h1, h2, h3⟩ := h
  exact h3.keep (h2.trans (k.mono h1))
theorem agree_nil : Agree [] := fun l h => by simp at h
theorem Agree.add {T : List Int} {l : Int} (h : Agree T) (h0 : l ≠ 0) (h1 : T.elem (-l) = false) : Agree (T ++ [l]) := by
  intro x hx
  rw [elem_app] at hx ⊢
  rw [Bool.or_eq_true] at hx
  rcases hx with hx | hx
  · rw [h x hx, Bool.false_or]
    simp only [beq_eq_false_iff_ne, ne_eq]
    intro c
    have : x = -l := by omega
    rw [this, h1] at hx
    cases hx
  · have hxl : x = l := by simpa using hx
    rw [hxl, h1, Bool.false_or]
    simp only [beq_eq_false_iff_ne, ne_eq]
    omega
/-- What give leaves. -/
def GiveE (B : Nat) (u : Nat) (al : Option Addr) (n c vn : Nat) (lf nw : List Int) (R : List Int × Bool) (len : Nat) (w : World) (e : Ending) (w' : World) : Prop :=
  e = .returned (.bool R.2) ∧ (∃ L', UAt B w' u al n c vn L' ⟨R.1, lf, [], nw, [], false⟩) ∧ Agree R.1 ∧ R.1.length ≤ len ∧ Below B w w'
theorem givenG_pass {v : Int} {T g : List Int} {l : Int} (h : isL l v = false ∨ T.elem l = true) : givenG v T (l :: g) = givenG v T g := by
  rw [givenG, if_pos (by rcases h with h | h <;> rw [h] <;> simp)]
theorem givenG_stop {v : Int} {T g : List Int} {l : Int} (h1 : isL l v = true) (h2 : T.elem l = false) (h3 : T.elem (-l) = true) : givenG v T (l :: g) = (T, false) := by
  rw [givenG, if_neg (by rw [h1, h2]; simp), if_pos h3]
theorem givenG_add {v : Int} {T g : List Int} {l : Int} (h1 : isL l v = true) (h2 : T.elem l = false) (h3 : T.elem (-l) = false) : givenG v T (l :: g) = givenG v (T ++ [l]) g := by
  rw [givenG, if_neg (by rw [h1, h2]; simp), if_neg (by rw [h3]; simp)]
theorem dec_is {T : List Int} {l : Int} (_h0 : l ≠ 0) (hA : Agree T) (h : T.elem l = true) : decT T (vr l) = l := by
  unfold decT vr
  by_cases hl : 0 < l
  · rw [if_pos hl, h]; simp
  · rw [if_neg hl, hA l h, Int.neg_neg, h]; simp

theorem give_any {B : Nat} {w : World} {u : Nat} {al gl : Option Addr} {n c vn gc : Nat} {L : Lay} {lf nw g : List Int} (h : UAt B w u al n c vn L ⟨[], lf, [], nw, [], false⟩) (hB : B ≤ w.heap.size) (hv : vn ≤ 1000000) (hg : HeldI B w gl g) (hnw : ∀ i, i < 2 * vn + 1 → nw[i]? = some 0) (hgl : g.length ≤ 1000000) (hnn : n ≤ 1000000) :
    Calls Tryd.prog 28 #[.pointer (some ⟨u, 0, none⟩), .slice gl g.length gc] w (GiveE B u al n c vn lf nw (givenG vn [] g) g.length w) := by
  obtain ⟨R, hR⟩ : ∃ R, R = givenG vn [] g := ⟨_, rfl⟩
  rw [← hR]
  have HR := Lib.hid hR
  have HU := Lib.hid h
  have HB := Lib.hid hB
  have HG := Lib.hid hg
  have HNW := Lib.hid hnw
  have hvv : (0 : Int) ≤ ((vn : Nat) : Int) ∧ ((vn : Nat) : Int) ≤ 1000000 := by omega
  clear h hB hg hnw hR
  obtain ⟨kn, hkn⟩ : ∃ kn, kn = g.length := ⟨_, rfl⟩
  have HKN := Lib.hid hkn
  rw [← hkn] at hgl ⊢
  clear hkn
  go_enter Tryd.func28, Tryd.ntmps28
  go_wp2_with fail
  go_loopg [9] kn (fun gk v9 wr => ∃ (j : Nat) (T : List Int), v9 = .int .i64 ((j : Nat) : Int) ∧ j + gk = kn ∧ (∃ L', UAt B wr u al n c vn L' ⟨T, lf, [], nw, [], false⟩) ∧ Below B w wr ∧ Hid (R = givenG vn T (g.drop j)) ∧ Agree T ∧ T.length ≤ j)
  case atStart => exact ⟨0, [], rfl, by omega, ⟨_, HU.out⟩, Below.refl _ _, HR.out, agree_nil, by simp⟩
  case round =>
    obtain ⟨j, T, rfl, hj, ⟨Lc, hu⟩, hbw, HRT, hA, hTj⟩ := hrel
    have HJ := Lib.hid hj
    have HUU := Lib.hid hu
    have HBW := Lib.hid hbw
    have hBr : B ≤ wr.heap.size := Nat.le_trans HB.out hbw.size
    have HBR := Lib.hid hBr
    have HA := Lib.hid hA
    have HTJ := Lib.hid hTj
    by_cases hlt : j < kn
    · obtain ⟨l, hl⟩ : ∃ l, g[j]? = some l := ⟨_, List.getElem?_eq_getElem (by rw [← HKN.out]; exact hlt)⟩
      obtain ⟨kb, ko, hkal, hkb, hce⟩ := ints_at (HG.out.at' hbw) hl
      have hlt2 : ((j : Nat) : Int) < ((kn : Nat) : Int) := by omega
      have HS := Lib.hid (step_i (j := j) (by omega))
      have hdr := drop_at hl
      have c1 : wr.cell? ⟨u, 1, none⟩ = some (.int .i64 vn) := hu.cells.1 1
      have c3 : wr.cell? ⟨u, 3, none⟩ = some (.map (some Lc.m)) := hu.cells.1 3
      have HIS := Lib.hid (fun (w : World) => lit_any (l := l) (W := w) hvv.1 hvv.2)
      have HRT2 : Hid (R = givenG vn T (l :: g.drop (j + 1))) := by show _ = _; rw [← hdr]; exact HRT.out
      cases hil : isL l vn with
      | false =>
        rw [hil] at HIS
        have HE : Hid (R = givenG vn T (g.drop (j + 1))) := by show _ = _; rw [HRT2.out, givenG_pass (.inl hil)]
        clear hu hbw hj hl hA hTj hil hdr
        subst hkal
        go_wp2_with (go_at_call 27; refine (HIS.out _).mono ?_; rintro e w' ⟨rfl, rfl⟩)
        go_roundg (gk - 1)
        case measure => have := HJ.out; omega
        case rel => exact ⟨j + 1, T, by first | rfl | (rw [HS.out.1]) | (congr 1; exact HS.out.1), by have := HJ.out; omega, ⟨Lc, HUU.out⟩, HBW.out, HE, HA.out, by have := HTJ.out; omega⟩
      | true =>
        rw [hil] at HIS
        have hlb : l ≠ 0 ∧ -((vn : Nat) : Int) ≤ l ∧ l ≤ ((vn : Nat) : Int) := by unfold isL at hil; simpa using hil
        obtain ⟨hl0, hl1, hl2⟩ := hlb
        have hvi : I64 (vr l) := by unfold I64 vr; split <;> omega
        have hv0 : 0 < vr l := by unfold vr; split <;> omega
        have hlook := fun q => (hu.drewN q).look hvi hv0
        simp only at hlook
        have HVR := Lib.hid (fun W => var_any (l := l) (W := W) (by omega) (by omega))
        obtain ⟨n1, n2⟩ := neg_i (x := l) (by omega) (by omega)
        cases e1 : T.elem l with
        | true =>
          have hd := dec_is hl0 hA e1
          have d0 : (l == 0) = false := by simpa using hl0
          have d1 : (l == -l) = false := by simp; omega
          have HE : Hid (R = givenG vn T (g.drop (j + 1))) := by show _ = _; rw [HRT2.out, givenG_pass (.inr e1)]
          rw [hd] at hlook
          clear hu hbw hj hl hA hTj hil hdr hvi hv0 hd e1 hl0 hl1 hl2
          subst hkal
          go_wp2_with (go_at_call 27; refine (HIS.out _).mono ?_; rintro e w' ⟨rfl, rfl⟩)
          go_quiet (first | (go_at_call 44; exact quiet_left (HVR.out _)))
          go_wp2_with fail
          go_roundg (gk - 1)
          case measure => have := HJ.out; omega
          case rel => exact ⟨j + 1, T, by first | rfl | (rw [HS.out.1]) | (congr 1; exact HS.out.1), by have := HJ.out; omega, ⟨Lc, HUU.out.drewN _⟩, bel_drewN2 HBW.out _, HE, HA.out, by have := HTJ.out; omega⟩
        | false =>
          cases e2 : T.elem (-l) with
          | true =>
            have hd := (dec_neg hl0 hA).2 e2
            have d0 : (-l == 0) = false := by simp; omega
            have HE : Hid (R = (T, false)) := by show _ = _; rw [HRT2.out, givenG_stop hil e1 e2]
            rw [hd] at hlook
            clear hu hbw hj hl hA hTj hil hdr hvi hv0 hd e1 e2 hl0 hl1 hl2
            subst hkal
            go_wp2_with (go_at_call 27; refine (HIS.out _).mono ?_; rintro e w' ⟨rfl, rfl⟩)
            go_quiet (first | (go_at_call 44; exact quiet_left (HVR.out _)))
            go_wp2_with fail
            go_ret
            show GiveE B u al n c vn lf nw R kn w _ _
            rw [show R = (T, false) from HE.out]
            exact ⟨rfl, ⟨Lc, HUU.out.drewN _⟩, HA.out, by have := HTJ.out; simp only; omega, bel_drewN2 HBW.out _⟩
          | false =>
            have hd := (dec_zero hl0).2 ⟨e1, e2⟩
            rw [hd] at hlook
            obtain ⟨i, hi⟩ : ∃ i : Nat, ((vn : Nat) : Int) - l = ((i : Nat) : Int) := ⟨(((vn : Nat) : Int) - l).toNat, by omega⟩
            have HCM := Lib.hid (fun q => come_any (hu.drewN q) hBr hv hi (by omega) hl0 e1 e2 (by simp; omega) (a := 0) (HNW.out i (by omega)) (ch := []) rfl ⟨List.nodup_nil, fun k hk => by simp at hk⟩ heap_nil (by simp) (by simp) (by omega))
            have HE : Hid (R = givenG vn (T ++ [l]) (g.drop (j + 1))) := by show _ = _; rw [HRT2.out, givenG_add hil e1 e2]
            have HAA := Lib.hid (hA.add hl0 e2)
            clear hu hbw hj hl hA hTj hil hdr hvi hv0 hd e1 e2 hl0 hl1 hl2 hi
            subst hkal
            go_wp2_with (go_at_call 27; refine (HIS.out _).mono ?_; rintro e w' ⟨rfl, rfl⟩)
            go_quiet (first | (go_at_call 44; exact quiet_left (HVR.out _)))
            go_wp2_with fail
            refine (HCM.out _).mono ?_
            rintro e w5 ⟨rfl, lf', q', br', ⟨L5, hu5⟩, hd5, hh5, hb5⟩
            have hd6 : (lf', q', br') = (lf, ([] : List Int), false) := hd5
            simp only [Prod.mk.injEq] at hd6
            obtain ⟨rfl, rfl, rfl⟩ := hd6
            have HU5 := Lib.hid hu5
            have HB5 := Lib.hid ((bel_drewN2 HBW.out nq).trans hb5)
            clear hu5 hb5 hd5 hh5 HCM
            go_wp2_with fail
            go_roundg (gk - 1)
            case measure => have := HJ.out; omega
            case rel => exact ⟨j + 1, T ++ [l], by first | rfl | (rw [HS.out.1]) | (congr 1; exact HS.out.1), by have := HJ.out; omega, ⟨L5, HU5.out⟩, HB5.out, HE, HAA.out, by have := HTJ.out; simp; omega⟩
    · have hlt2 : ¬ ((j : Nat) : Int) < ((kn : Nat) : Int) := by omega
      have HE : Hid (R = (T, true)) := by
        show _ = _
        rw [HRT.out, List.drop_eq_nil_of_le (by have := HKN.out; omega)]
        rfl
      clear hu hbw hj
      go_wp2_with fail
      go_ret
      show GiveE B u al n c vn lf nw R kn w _ _
      rw [show R = (T, true) from HE.out]
      exact ⟨rfl, ⟨Lc, HUU.out⟩, HA.out, by have := HTJ.out; have := HJ.out; simp only; omega, HBW.out⟩
end Cf
end Go.Proofs.YtcpehdeddgfpmaaDoor
