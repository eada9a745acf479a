/-
  The program's follow, walked: the one literal of a clause comes.
-/
import Derived.Test.YtcpehdeddgfpmaaDoorCuLayW
namespace Go.Proofs.YtcpehdeddgfpmaaDoor
open Go.RowKit Go.Maps
namespace Cf
set_option maxHeartbeats 4000000
set_option maxRecDepth 100000

theorem occ_len {C : Cl} {T : List Int} {l : Int} : ∀ {m : Nat}, (occ C T l m).length ≤ m
  | 0 => by simp [occ]
  | m + 1 => by
    have := occ_len (C := C) (T := T) (l := l) (m := m)
    unfold occ
    split
    · simp only [List.length_cons]; omega
    · omega
/-- What follow leaves. -/
def FollowE (B : Nat) (u : Nat) (al : Option Addr) (c vn : Nat) (C : Cl) (T0 : List Int) (S : St) (w w' : World) : Prop :=
  ∃ T' lf' q' br', (∃ L', UAt B w' u al C.length c vn L' ⟨T', lf', S.P, S.nw, q', br'⟩) ∧ Inv C vn T0 T' lf' S.P S.nw q' br' Never ∧ HeapL q' ∧ q'.length + cnt2 lf' = S.q.length + cnt2 S.lf ∧ restU C S.T = restU C T' ∧ T'.length ≤ S.T.length + 1 ∧ Below B w w'
theorem follow_any {B : Nat} {w : World} {u : Nat} {al : Option Addr} {c vn x : Nat} {L : Lay} {S : St} {C : Cl} {T0 : List Int} (h : UAt B w u al C.length c vn L S) (hB : B ≤ w.heap.size) (hv : vn ≤ 1000000) (hcl : Held B w al C)
    (hlit : ∀ k ∈ C, ∀ l ∈ k, l ≠ 0 ∧ -((vn : Nat) : Int) ≤ l ∧ l ≤ ((vn : Nat) : Int)) (hkl : ∀ k ∈ C, k.length ≤ 1000000) (hm : x < C.length) (hI : Inv C vn T0 S.T S.lf S.P S.nw S.q false (· = x)) (hbr : S.br = false) (hh : HeapL S.q) (hq : S.q.length ≤ 10000000) (hP : S.P.length ≤ 1000000) (hT : S.T.length ≤ 100000000) (hnn : C.length ≤ 1000000)
    (hnext : ∀ l ∈ C.getD x [], S.T.elem l = false → S.T.elem (-l) = false → restU C S.T = restU C (S.T ++ [l])) :
    Calls Tryd.prog 31 #[.pointer (some ⟨u, 0, none⟩), .int .i64 x] w fun e w' => e = .returned (.tuple #[]) ∧ FollowE B u al c vn C T0 S w w' := by
  obtain ⟨K, hK⟩ : ∃ K, K = C.getD x [] := ⟨_, rfl⟩
  have hKm : C[x]? = some K := by rw [hK, List.getD_eq_getElem?_getD, List.getElem?_eq_getElem hm]; rfl
  have hKC : K ∈ C := List.mem_of_getElem? hKm
  have hkk := hkl K hKC
  rw [← hK] at hnext
  have HK := Lib.hid hK
  have HU := Lib.hid h
  have HB := Lib.hid hB
  have HLIT := Lib.hid (hlit K hKC)
  have HKL := Lib.hid (fun k hk => Nat.lt_of_le_of_lt (hkl k hk) (show 1000000 < 1000000000 by decide))
  have HI := Lib.hid hI
  have HH := Lib.hid hh
  have HNEXT := Lib.hid hnext
  have HBR := Lib.hid hbr
  have HM := Lib.hid hm
  have c0 : w.cell? ⟨u, 0, none⟩ = some (.slice al C.length c) := h.cells.1 0
  obtain ⟨bl, ol, kal, kc, rfl, hcells, hik⟩ := hcl.clause hKm
  have hck := hcells w (Below.refl _ _)
  have HIK := Lib.hid hik
  clear h hB hcl hlit hK hKm hKC hcells hik hI hh hnext hbr hkl
  obtain ⟨kn, hkn⟩ : ∃ kn, kn = K.length := ⟨_, rfl⟩
  have HKN := Lib.hid hkn
  rw [← hkn] at hck hkk
  clear hkn
  go_enter Tryd.func31, Tryd.ntmps31
  go_wp2_with fail
  go_loopg [14] kn (fun gk v14 wr => ∃ (j q : Nat), v14 = .int .i64 ((j : Nat) : Int) ∧ j + gk = kn ∧ wr = w.drewN q ∧ Hid (∀ l ∈ K.take j, S.T.elem l = true ∨ S.T.elem (-l) = true))
  case atStart => exact ⟨0, 0, rfl, by omega, rfl, by intro l hl; simp at hl⟩
  case round =>
    obtain ⟨j, q0, rfl, hj, rfl, HD⟩ := hrel
    have HJ := Lib.hid hj
    by_cases hlt : j < kn
    · obtain ⟨l, hl⟩ : ∃ l, K[j]? = some l := ⟨_, List.getElem?_eq_getElem (by rw [← HKN.out]; exact hlt)⟩
      obtain ⟨kb, ko, hkal, hkb, hce⟩ := ints_at (HIK.out w (Below.refl _ _)) hl
      have hlm : l ∈ K := List.mem_of_getElem? hl
      obtain ⟨hl0, hl1, hl2⟩ := HLIT.out l hlm
      have c3 : w.cell? ⟨u, 3, none⟩ = some (.map (some L.m)) := HU.out.cells.1 3
      have hvi : I64 (vr l) := by unfold I64 vr; split <;> omega
      have hv0 : 0 < vr l := by unfold vr; split <;> omega
      have hlook := fun q => (HU.out.drewN q).look hvi hv0
      have hdz := dec_zero (T := S.T) hl0
      have HVR := Lib.hid (fun W => var_any (l := l) (W := W) (by omega) (by omega))
      have hlt2 : ((j : Nat) : Int) < ((kn : Nat) : Int) := by omega
      have HS := Lib.hid (step_i (j := j) (by omega))
      have HTK := Lib.hid (take_succ hl)
      by_cases hd : decT S.T (vr l) = 0
      · obtain ⟨e1, e2⟩ := hdz.1 hd
        rw [hd] at hlook
        obtain ⟨i, hi⟩ : ∃ i : Nat, ((vn : Nat) : Int) - l = ((i : Nat) : Int) := ⟨(((vn : Nat) : Int) - l).toNat, by omega⟩
        obtain ⟨a, hna, hch⟩ := HI.out.chain i (by omega)
        have ei : (i : Int) - (vn : Int) = -l := by omega
        rw [ei] at hch
        have hol := occ_len (C := C) (T := T0) (l := -l) (m := C.length)
        have HCM := Lib.hid (fun q => come_any (HU.out.drewN q) HB.out hv hi (by omega) hl0 e1 e2 (by omega) hna hch (HI.out.fine HKL.out e1) HH.out (by omega) (by omega) (by omega))
        have HCOME := Lib.hid (fun lf' q' br' (hd : DropR (occ C T0 (-l) C.length) (S.lf, S.q, false) (lf', q', br')) => HI.out.come HKL.out e1 e2 hl0 hd)
        have HNX := Lib.hid (HNEXT.out l hlm e1 e2)
        have HLK : Hid (l ∈ C.getD x []) := by show _ ∈ _; rw [← HK.out]; exact hlm
        clear hj hdz hd hl hlm hvi hv0 hl0 hna hch ei hi hol e1 e2
        subst hkal
        go_wp2_with fail
        go_quiet (first | (go_at_call 44; exact quiet_add_left (HVR.out _)))
        go_wp2_with fail
        refine (HCM.out _).mono ?_
        rintro e w5 ⟨rfl, lf', q', br', hu5, hd5, hh5, hb5⟩
        have HP5 : Hid (FollowE B u (some ⟨bl, ol, none⟩) c vn C T0 S w w5) := by
          rw [HBR.out] at hd5
          obtain ⟨hi5, hmu⟩ := HCOME.out _ _ _ hd5
          refine ⟨S.T ++ [l], lf', q', br', hu5, hi5.done (.inl ⟨l, HLK.out, by rw [elem_app]; simp⟩), hh5, hmu, HNX.out, by simp, ?_⟩
          exact Below.trans (b := w.drewN (q0 + nq)) ⟨rfl, rfl, rfl, Nat.le_refl _, fun _ _ => rfl⟩ hb5
        clear hu5 hd5 hh5 hb5 HCM HCOME
        go_wp2_with fail
        (try simp only [Exit.inBlock, Exit.then]); refine bodyPost_ret (results_none rfl _ _ _) rfl ?_
        exact ⟨rfl, HP5.out⟩
      · have hdb : (decT S.T (vr l) == 0) = false := by simpa using hd
        have HDL : Hid (S.T.elem l = true ∨ S.T.elem (-l) = true) := by
          show _ ∨ _
          cases e1 : S.T.elem l with
          | true => exact .inl rfl
          | false =>
            cases e2 : S.T.elem (-l) with
            | true => exact .inr rfl
            | false => exact absurd (hdz.2 ⟨e1, e2⟩) hd
        generalize decT S.T (vr l) = d at hlook hdb hd
        clear hj hdz hl hlm hvi hv0 hl0
        subst hkal
        go_wp2_with fail
        go_quiet (first | (go_at_call 44; exact quiet_add_left (HVR.out _)))
        go_wp2_with fail
        go_roundg (gk - 1)
        case measure => have := HJ.out; omega
        case rel => exact ⟨j + 1, _, by first | rfl | (rw [HS.out.1]) | (congr 1; exact HS.out.1), by have := HJ.out; omega, rfl, (show Hid _ from by
          show ∀ l ∈ K.take (j + 1), _
          rw [HTK.out]
          intro y hy
          rcases List.mem_append.1 hy with e | e
          · exact HD.out y e
          · rw [List.mem_singleton.1 e]; exact HDL.out)⟩
    · have hlt2 : ¬ ((j : Nat) : Int) < ((kn : Nat) : Int) := by omega
      have hjk : j = K.length := by have := HKN.out; omega
      have HP5 : Hid (FollowE B u (some ⟨bl, ol, none⟩) c vn C T0 S w (w.drewN q0)) := by
        refine ⟨S.T, S.lf, S.q, S.br, ⟨L, HU.out.drewN _⟩, ?_, HH.out, rfl, rfl, by omega, ⟨rfl, rfl, rfl, Nat.le_refl _, fun _ _ => rfl⟩⟩
        rw [HBR.out]
        refine HI.out.done (.inr ?_)
        have := HD.out
        rw [hjk, List.take_length, HK.out] at this
        exact this
      clear hj
      go_wp2_with fail
      go_end0
      exact ⟨rfl, HP5.out⟩
end Cf
end Go.Proofs.YtcpehdeddgfpmaaDoor
