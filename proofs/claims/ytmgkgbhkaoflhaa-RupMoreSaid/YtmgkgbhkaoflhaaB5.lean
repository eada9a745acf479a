/-
The program's follow, walked: the one literal of a clause comes.
The program's give, walked: the given literals come.
-/
import Derived.Test.YtmgkgbhkaoflhaaB3
import Derived.Test.YtmgkgbhkaoflhaaCfUnits
namespace Go.Proofs.Ytmgkgbhkaoflhaa
open Go.RowKit Go.Maps
namespace Cf
set_option maxHeartbeats 4000000
set_option maxRecDepth 100000

theorem occ_len {C : Cl} {T : List Int} {l : Int} : ∀ {m : Nat}, (occ C T l m).length ≤ m
  | 0 => by simp [occ]
  | m + 1 => by
    have := occ_len (C := C) (T := T) (l := l) (m := m)
    unfold occ
    split
    · simp only [List.length_cons]; omega
    · omega
/-- What follow leaves. -/
def FollowE (B : Nat) (u : Nat) (al : Option Addr) (c vn : Nat) (C : Cl) (T0 : List Int) (S : St) (w w' : World) : Prop :=
  ∃ T' lf' q' br', (∃ L', UAt B w' u al C.length c vn L' ⟨T', lf', S.P, S.nw, q', br'⟩) ∧ Inv C vn T0 T' lf' S.P S.nw q' br' Never ∧ HeapL q' ∧ q'.length + cnt2 lf' = S.q.length + cnt2 S.lf ∧ restU C S.T = restU C T' ∧ T'.length ≤ S.T.length + 1 ∧ Below B w w'
theorem follow_any {B : Nat} {w : World} {u : Nat} {al : Option Addr} {c vn x : Nat} {L : Lay} {S : St} {C : Cl} {T0 : List Int} (h : UAt B w u al C.length c vn L S) (hB : B ≤ w.heap.size) (hv : vn ≤ 1000000) (hcl : Held B w al C)
    (hlit : ∀ k ∈ C, ∀ l ∈ k, l ≠ 0 ∧ -((vn : Nat) : Int) ≤ l ∧ l ≤ ((vn : Nat) : Int)) (hkl : ∀ k ∈ C, k.length ≤ 1000000) (hm : x < C.length) (hI : Inv C vn T0 S.T S.lf S.P S.nw S.q false (· = x)) (hbr : S.br = false) (hh : HeapL S.q) (hq : S.q.length ≤ 10000000) (hP : S.P.length ≤ 1000000) (hT : S.T.length ≤ 100000000) (hnn : C.length ≤ 1000000)
    (hnext : ∀ l ∈ C.getD x [], S.T.elem l = false → S.T.elem (-l) = false → restU C S.T = restU C (S.T ++ [l])) :
    Calls Try.prog 37 #[.pointer (some ⟨u, 0, none⟩), .int .i64 x] w fun e w' => e = .returned (.tuple #[]) ∧ FollowE B u al c vn C T0 S w w' := by
  obtain ⟨K, hK⟩ : ∃ K, K = C.getD x [] := ⟨_, rfl⟩
  have hKm : C[x]? = some K := by rw [hK, List.getD_eq_getElem?_getD, List.getElem?_eq_getElem hm]; rfl
  have hKC : K ∈ C := List.mem_of_getElem? hKm
  have hkk := hkl K hKC
  rw [← hK] at hnext
  have HK := Lib.hid hK
  have HU := Lib.hid h
  have HB := Lib.hid hB
  have HLIT := Lib.hid (hlit K hKC)
  have HKL := Lib.hid (fun k hk => Nat.lt_of_le_of_lt (hkl k hk) (show 1000000 < 1000000000 by decide))
  have HI := Lib.hid hI
  have HH := Lib.hid hh
  have HNEXT := Lib.hid hnext
  have HBR := Lib.hid hbr
  have HM := Lib.hid hm
  have c0 : w.cell? ⟨u, 0, none⟩ = some (.slice al C.length c) := h.cells.1 0
  obtain ⟨bl, ol, kal, kc, rfl, hcells, hik⟩ := hcl.clause hKm
  have hck := hcells w (Below.refl _ _)
  have HIK := Lib.hid hik
  clear h hB hcl hlit hK hKm hKC hcells hik hI hh hnext hbr hkl
  obtain ⟨kn, hkn⟩ : ∃ kn, kn = K.length := ⟨_, rfl⟩
  have HKN := Lib.hid hkn
  rw [← hkn] at hck hkk
  clear hkn
  go_enter Try.func37, Try.ntmps37
  go_wp2_with fail
  go_loopg [14] kn (fun gk v14 wr => ∃ (j q : Nat), v14 = .int .i64 ((j : Nat) : Int) ∧ j + gk = kn ∧ wr = w.drewN q ∧ Hid (∀ l ∈ K.take j, S.T.elem l = true ∨ S.T.elem (-l) = true))
  case atStart => exact ⟨0, 0, rfl, by omega, rfl, by intro l hl; simp at hl⟩
  case round =>
    obtain ⟨j, q0, rfl, hj, rfl, HD⟩ := hrel
    have HJ := Lib.hid hj
    by_cases hlt : j < kn
    · obtain ⟨l, hl⟩ : ∃ l, K[j]? = some l := ⟨_, List.getElem?_eq_getElem (by rw [← HKN.out]; exact hlt)⟩
      obtain ⟨kb, ko, hkal, hkb, hce⟩ := ints_at (HIK.out w (Below.refl _ _)) hl
      have hlm : l ∈ K := List.mem_of_getElem? hl
      obtain ⟨hl0, hl1, hl2⟩ := HLIT.out l hlm
      have c3 : w.cell? ⟨u, 3, none⟩ = some (.map (some L.m)) := HU.out.cells.1 3
      have hvi : I64 (vr l) := by unfold I64 vr; split <;> omega
      have hv0 : 0 < vr l := by unfold vr; split <;> omega
      have hlook := fun q => (HU.out.drewN q).look hvi hv0
      have hdz := dec_zero (T := S.T) hl0
      have HVR := Lib.hid (fun W => var_any (l := l) (W := W) (by omega) (by omega))
      have hlt2 : ((j : Nat) : Int) < ((kn : Nat) : Int) := by omega
      have HS := Lib.hid (step_i (j := j) (by omega))
      have HTK := Lib.hid (take_succ hl)
      by_cases hd : decT S.T (vr l) = 0
      · obtain ⟨e1, e2⟩ := hdz.1 hd
        rw [hd] at hlook
        obtain ⟨i, hi⟩ : ∃ i : Nat, ((vn : Nat) : Int) - l = ((i : Nat) : Int) := ⟨(((vn : Nat) : Int) - l).toNat, by omega⟩
        obtain ⟨a, hna, hch⟩ := HI.out.chain i (by omega)
        have ei : (i : Int) - (vn : Int) = -l := by omega
        rw [ei] at hch
        have hol := occ_len (C := C) (T := T0) (l := -l) (m := C.length)
        have HCM := Lib.hid (fun q => come_any (HU.out.drewN q) HB.out hv hi (by omega) hl0 e1 e2 (by omega) hna hch (HI.out.fine HKL.out e1) HH.out (by omega) (by omega) (by omega))
        have HCOME := Lib.hid (fun lf' q' br' (hd : DropR (occ C T0 (-l) C.length) (S.lf, S.q, false) (lf', q', br')) => HI.out.come HKL.out e1 e2 hl0 hd)
        have HNX := Lib.hid (HNEXT.out l hlm e1 e2)
        have HLK : Hid (l ∈ C.getD x []) := by show _ ∈ _; rw [← HK.out]; exact hlm
        clear hj hdz hd hl hlm hvi hv0 hl0 hna hch ei hi hol e1 e2
        subst hkal
        go_wp2_with fail
        go_quiet (first | (go_at_call 50; exact quiet_add_left (HVR.out _)))
        go_wp2_with fail
        refine (HCM.out _).mono ?_
        rintro e w5 ⟨rfl, lf', q', br', hu5, hd5, hh5, hb5⟩
        have HP5 : Hid (FollowE B u (some ⟨bl, ol, none⟩) c vn C T0 S w w5) := by
          rw [HBR.out] at hd5
          obtain ⟨hi5, hmu⟩ := HCOME.out _ _ _ hd5
          refine ⟨S.T ++ [l], lf', q', br', hu5, hi5.done (.inl ⟨l, HLK.out, by rw [elem_app]; simp⟩), hh5, hmu, HNX.out, by simp, ?_⟩
          exact Below.trans (b := w.drewN (q0 + nq)) ⟨rfl, rfl, rfl, Nat.le_refl _, fun _ _ => rfl⟩ hb5
        clear hu5 hd5 hh5 hb5 HCM HCOME
        go_wp2_with fail
        (try simp only [Exit.inBlock, Exit.then]); refine bodyPost_ret (results_none rfl _ _ _) rfl ?_
        exact ⟨rfl, HP5.out⟩
      · have hdb : (decT S.T (vr l) == 0) = false := by simpa using hd
        have HDL : Hid (S.T.elem l = true ∨ S.T.elem (-l) = true) := by
          show _ ∨ _
          cases e1 : S.T.elem l with
          | true => exact .inl rfl
          | false =>
            cases e2 : S.T.elem (-l) with
            | true => exact .inr rfl
            | false => exact absurd (hdz.2 ⟨e1, e2⟩) hd
        generalize decT S.T (vr l) = d at hlook hdb hd
        clear hj hdz hl hlm hvi hv0 hl0
        subst hkal
        go_wp2_with fail
        go_quiet (first | (go_at_call 50; exact quiet_add_left (HVR.out _)))
        go_wp2_with fail
        go_roundg (gk - 1)
        case measure => have := HJ.out; omega
        case rel => exact ⟨j + 1, _, by first | rfl | (rw [HS.out.1]) | (congr 1; exact HS.out.1), by have := HJ.out; omega, rfl, (show Hid _ from by
          show ∀ l ∈ K.take (j + 1), _
          rw [HTK.out]
          intro y hy
          rcases List.mem_append.1 hy with e | e
          · exact HD.out y e
          · rw [List.mem_singleton.1 e]; exact HDL.out)⟩
    · have hlt2 : ¬ ((j : Nat) : Int) < ((kn : Nat) : Int) := by omega
      have hjk : j = K.length := by have := HKN.out; omega
      have HP5 : Hid (FollowE B u (some ⟨bl, ol, none⟩) c vn C T0 S w (w.drewN q0)) := by
        refine ⟨S.T, S.lf, S.q, S.br, ⟨L, HU.out.drewN _⟩, ?_, HH.out, rfl, rfl, by omega, ⟨rfl, rfl, rfl, Nat.le_refl _, fun _ _ => rfl⟩⟩
        rw [HBR.out]
        refine HI.out.done (.inr ?_)
        have := HD.out
        rw [hjk, List.take_length, HK.out] at this
        exact this
      clear hj
      go_wp2_with fail
      go_end0
      exact ⟨rfl, HP5.out⟩
end Cf
end Go.Proofs.Ytmgkgbhkaoflhaa

namespace Go.Proofs.Ytmgkgbhkaoflhaa
open Go.RowKit Go.Maps
namespace Cf
set_option maxHeartbeats 4000000
set_option maxRecDepth 100000

def HeldI (B : Nat) (w : World) (al : Option Addr) (T : List Int) : Prop := ∃ W0 : World, W0.heap.size ≤ B ∧ Below W0.heap.size W0 w ∧ IntsAt W0 al T
theorem HeldI.at' {B : Nat} {w w' : World} {al : Option Addr} {T : List Int} (h : HeldI B w al T) (k : Below B w w') : IntsAt w' al T := by
  obtain ⟨W0, h1, h2, h3⟩ := h
  exact h3.keep (h2.trans (k.mono h1))
theorem agree_nil : Agree [] := fun l h => by simp at h
theorem Agree.add {T : List Int} {l : Int} (h : Agree T) (h0 : l ≠ 0) (h1 : T.elem (-l) = false) : Agree (T ++ [l]) := by
  intro x hx
  rw [elem_app] at hx ⊢
  rw [Bool.or_eq_true] at hx
  rcases hx with hx | hx
  · rw [h x hx, Bool.false_or]
    simp only [beq_eq_false_iff_ne, ne_eq]
    intro c
    have : x = -l := by omega
    rw [this, h1] at hx
    cases hx
  · have hxl : x = l := by simpa using hx
    rw [hxl, h1, Bool.false_or]
    simp only [beq_eq_false_iff_ne, ne_eq]
    omega
/-- What give leaves. -/
def GiveE (B : Nat) (u : Nat) (al : Option Addr) (n c vn : Nat) (lf nw : List Int) (R : List Int × Bool) (len : Nat) (w : World) (e : Ending) (w' : World) : Prop :=
  e = .returned (.bool R.2) ∧ (∃ L', UAt B w' u al n c vn L' ⟨R.1, lf, [], nw, [], false⟩) ∧ Agree R.1 ∧ R.1.length ≤ len ∧ Below B w w'
theorem givenG_pass {v : Int} {T g : List Int} {l : Int} (h : isL l v = false ∨ T.elem l = true) : givenG v T (l :: g) = givenG v T g := by
  rw [givenG, if_pos (by rcases h with h | h <;> rw [h] <;> simp)]
theorem givenG_stop {v : Int} {T g : List Int} {l : Int} (h1 : isL l v = true) (h2 : T.elem l = false) (h3 : T.elem (-l) = true) : givenG v T (l :: g) = (T, false) := by
  rw [givenG, if_neg (by rw [h1, h2]; simp), if_pos h3]
theorem givenG_add {v : Int} {T g : List Int} {l : Int} (h1 : isL l v = true) (h2 : T.elem l = false) (h3 : T.elem (-l) = false) : givenG v T (l :: g) = givenG v (T ++ [l]) g := by
  rw [givenG, if_neg (by rw [h1, h2]; simp), if_neg (by rw [h3]; simp)]
theorem dec_is {T : List Int} {l : Int} (_h0 : l ≠ 0) (hA : Agree T) (h : T.elem l = true) : decT T (vr l) = l := by
  unfold decT vr
  by_cases hl : 0 < l
  · rw [if_pos hl, h]; simp
  · rw [if_neg hl, hA l h, Int.neg_neg, h]; simp

theorem give_any {B : Nat} {w : World} {u : Nat} {al gl : Option Addr} {n c vn gc : Nat} {L : Lay} {lf nw g : List Int} (h : UAt B w u al n c vn L ⟨[], lf, [], nw, [], false⟩) (hB : B ≤ w.heap.size) (hv : vn ≤ 1000000) (hg : HeldI B w gl g) (hnw : ∀ i, i < 2 * vn + 1 → nw[i]? = some 0) (hgl : g.length ≤ 1000000) (hnn : n ≤ 1000000) :
    Calls Try.prog 34 #[.pointer (some ⟨u, 0, none⟩), .slice gl g.length gc] w (GiveE B u al n c vn lf nw (givenG vn [] g) g.length w) := by
  obtain ⟨R, hR⟩ : ∃ R, R = givenG vn [] g := ⟨_, rfl⟩
  rw [← hR]
  have HR := Lib.hid hR
  have HU := Lib.hid h
  have HB := Lib.hid hB
  have HG := Lib.hid hg
  have HNW := Lib.hid hnw
  have hvv : (0 : Int) ≤ ((vn : Nat) : Int) ∧ ((vn : Nat) : Int) ≤ 1000000 := by omega
  clear h hB hg hnw hR
  obtain ⟨kn, hkn⟩ : ∃ kn, kn = g.length := ⟨_, rfl⟩
  have HKN := Lib.hid hkn
  rw [← hkn] at hgl ⊢
  clear hkn
  go_enter Try.func34, Try.ntmps34
  go_wp2_with fail
  go_loopg [9] kn (fun gk v9 wr => ∃ (j : Nat) (T : List Int), v9 = .int .i64 ((j : Nat) : Int) ∧ j + gk = kn ∧ (∃ L', UAt B wr u al n c vn L' ⟨T, lf, [], nw, [], false⟩) ∧ Below B w wr ∧ Hid (R = givenG vn T (g.drop j)) ∧ Agree T ∧ T.length ≤ j)
  case atStart => exact ⟨0, [], rfl, by omega, ⟨_, HU.out⟩, Below.refl _ _, HR.out, agree_nil, by simp⟩
  case round =>
    obtain ⟨j, T, rfl, hj, ⟨Lc, hu⟩, hbw, HRT, hA, hTj⟩ := hrel
    have HJ := Lib.hid hj
    have HUU := Lib.hid hu
    have HBW := Lib.hid hbw
    have hBr : B ≤ wr.heap.size := Nat.le_trans HB.out hbw.size
    have HBR := Lib.hid hBr
    have HA := Lib.hid hA
    have HTJ := Lib.hid hTj
    by_cases hlt : j < kn
    · obtain ⟨l, hl⟩ : ∃ l, g[j]? = some l := ⟨_, List.getElem?_eq_getElem (by rw [← HKN.out]; exact hlt)⟩
      obtain ⟨kb, ko, hkal, hkb, hce⟩ := ints_at (HG.out.at' hbw) hl
      have hlt2 : ((j : Nat) : Int) < ((kn : Nat) : Int) := by omega
      have HS := Lib.hid (step_i (j := j) (by omega))
      have hdr := drop_at hl
      have c1 : wr.cell? ⟨u, 1, none⟩ = some (.int .i64 vn) := hu.cells.1 1
      have c3 : wr.cell? ⟨u, 3, none⟩ = some (.map (some Lc.m)) := hu.cells.1 3
      have HIS := Lib.hid (fun (w : World) => lit_any (l := l) (W := w) hvv.1 hvv.2)
      have HRT2 : Hid (R = givenG vn T (l :: g.drop (j + 1))) := by show _ = _; rw [← hdr]; exact HRT.out
      cases hil : isL l vn with
      | false =>
        rw [hil] at HIS
        have HE : Hid (R = givenG vn T (g.drop (j + 1))) := by show _ = _; rw [HRT2.out, givenG_pass (.inl hil)]
        clear hu hbw hj hl hA hTj hil hdr
        subst hkal
        go_wp2_with (go_at_call 26; refine (HIS.out _).mono ?_; rintro e w' ⟨rfl, rfl⟩)
        go_roundg (gk - 1)
        case measure => have := HJ.out; omega
        case rel => exact ⟨j + 1, T, by first | rfl | (rw [HS.out.1]) | (congr 1; exact HS.out.1), by have := HJ.out; omega, ⟨Lc, HUU.out⟩, HBW.out, HE, HA.out, by have := HTJ.out; omega⟩
      | true =>
        rw [hil] at HIS
        have hlb : l ≠ 0 ∧ -((vn : Nat) : Int) ≤ l ∧ l ≤ ((vn : Nat) : Int) := by unfold isL at hil; simpa using hil
        obtain ⟨hl0, hl1, hl2⟩ := hlb
        have hvi : I64 (vr l) := by unfold I64 vr; split <;> omega
        have hv0 : 0 < vr l := by unfold vr; split <;> omega
        have hlook := fun q => (hu.drewN q).look hvi hv0
        simp only at hlook
        have HVR := Lib.hid (fun W => var_any (l := l) (W := W) (by omega) (by omega))
        obtain ⟨n1, n2⟩ := neg_i (x := l) (by omega) (by omega)
        cases e1 : T.elem l with
        | true =>
          have hd := dec_is hl0 hA e1
          have d0 : (l == 0) = false := by simpa using hl0
          have d1 : (l == -l) = false := by simp; omega
          have HE : Hid (R = givenG vn T (g.drop (j + 1))) := by show _ = _; rw [HRT2.out, givenG_pass (.inr e1)]
          rw [hd] at hlook
          clear hu hbw hj hl hA hTj hil hdr hvi hv0 hd e1 hl0 hl1 hl2
          subst hkal
          go_wp2_with (go_at_call 26; refine (HIS.out _).mono ?_; rintro e w' ⟨rfl, rfl⟩)
          go_quiet (first | (go_at_call 50; exact quiet_left (HVR.out _)))
          go_wp2_with fail
          go_roundg (gk - 1)
          case measure => have := HJ.out; omega
          case rel => exact ⟨j + 1, T, by first | rfl | (rw [HS.out.1]) | (congr 1; exact HS.out.1), by have := HJ.out; omega, ⟨Lc, HUU.out.drewN _⟩, bel_drewN2 HBW.out _, HE, HA.out, by have := HTJ.out; omega⟩
        | false =>
          cases e2 : T.elem (-l) with
          | true =>
            have hd := (dec_neg hl0 hA).2 e2
            have d0 : (-l == 0) = false := by simp; omega
            have HE : Hid (R = (T, false)) := by show _ = _; rw [HRT2.out, givenG_stop hil e1 e2]
            rw [hd] at hlook
            clear hu hbw hj hl hA hTj hil hdr hvi hv0 hd e1 e2 hl0 hl1 hl2
            subst hkal
            go_wp2_with (go_at_call 26; refine (HIS.out _).mono ?_; rintro e w' ⟨rfl, rfl⟩)
            go_quiet (first | (go_at_call 50; exact quiet_left (HVR.out _)))
            go_wp2_with fail
            go_ret
            show GiveE B u al n c vn lf nw R kn w _ _
            rw [show R = (T, false) from HE.out]
            exact ⟨rfl, ⟨Lc, HUU.out.drewN _⟩, HA.out, by have := HTJ.out; simp only; omega, bel_drewN2 HBW.out _⟩
          | false =>
            have hd := (dec_zero hl0).2 ⟨e1, e2⟩
            rw [hd] at hlook
            obtain ⟨i, hi⟩ : ∃ i : Nat, ((vn : Nat) : Int) - l = ((i : Nat) : Int) := ⟨(((vn : Nat) : Int) - l).toNat, by omega⟩
            have HCM := Lib.hid (fun q => come_any (hu.drewN q) hBr hv hi (by omega) hl0 e1 e2 (by simp; omega) (a := 0) (HNW.out i (by omega)) (ch := []) rfl ⟨List.nodup_nil, fun k hk => by simp at hk⟩ heap_nil (by simp) (by simp) (by omega))
            have HE : Hid (R = givenG vn (T ++ [l]) (g.drop (j + 1))) := by show _ = _; rw [HRT2.out, givenG_add hil e1 e2]
            have HAA := Lib.hid (hA.add hl0 e2)
            clear hu hbw hj hl hA hTj hil hdr hvi hv0 hd e1 e2 hl0 hl1 hl2 hi
            subst hkal
            go_wp2_with (go_at_call 26; refine (HIS.out _).mono ?_; rintro e w' ⟨rfl, rfl⟩)
            go_quiet (first | (go_at_call 50; exact quiet_left (HVR.out _)))
            go_wp2_with fail
            refine (HCM.out _).mono ?_
            rintro e w5 ⟨rfl, lf', q', br', ⟨L5, hu5⟩, hd5, hh5, hb5⟩
            have hd6 : (lf', q', br') = (lf, ([] : List Int), false) := hd5
            simp only [Prod.mk.injEq] at hd6
            obtain ⟨rfl, rfl, rfl⟩ := hd6
            have HU5 := Lib.hid hu5
            have HB5 := Lib.hid ((bel_drewN2 HBW.out nq).trans hb5)
            clear hu5 hb5 hd5 hh5 HCM
            go_wp2_with fail
            go_roundg (gk - 1)
            case measure => have := HJ.out; omega
            case rel => exact ⟨j + 1, T ++ [l], by first | rfl | (rw [HS.out.1]) | (congr 1; exact HS.out.1), by have := HJ.out; omega, ⟨L5, HU5.out⟩, HB5.out, HE, HAA.out, by have := HTJ.out; simp; omega⟩
    · have hlt2 : ¬ ((j : Nat) : Int) < ((kn : Nat) : Int) := by omega
      have HE : Hid (R = (T, true)) := by
        show _ = _
        rw [HRT.out, List.drop_eq_nil_of_le (by have := HKN.out; omega)]
        rfl
      clear hu hbw hj
      go_wp2_with fail
      go_ret
      show GiveE B u al n c vn lf nw R kn w _ _
      rw [show R = (T, true) from HE.out]
      exact ⟨rfl, ⟨Lc, HUU.out⟩, HA.out, by have := HTJ.out; have := HJ.out; simp only; omega, HBW.out⟩
end Cf
end Go.Proofs.Ytmgkgbhkaoflhaa
