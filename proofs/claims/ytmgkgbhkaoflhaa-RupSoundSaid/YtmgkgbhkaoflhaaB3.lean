/-
The program's lay: a clause's literals are noted.
The program's lay, walked.
-/
import Derived.Test.YtmgkgbhkaoflhaaCuInv
import Derived.Test.YtmgkgbhkaoflhaaA3
namespace Go.Proofs.Ytmgkgbhkaoflhaa
open Go.RowKit Go.Maps
namespace Cf
set_option maxHeartbeats 4000000
set_option maxRecDepth 100000

theorem dec_neg {T : List Int} {l : Int} (h0 : l ≠ 0) (hA : Agree T) : decT T (vr l) = -l ↔ T.elem (-l) = true := by
  unfold decT vr
  by_cases hl : 0 < l
  · rw [if_pos hl]
    cases h1 : T.elem l with
    | true =>
      rw [hA l h1]
      simp
      omega
    | false =>
      cases h2 : T.elem (-l) with
      | true => simp
      | false => simp; omega
  · rw [if_neg hl]
    cases h2 : T.elem (-l) with
    | true => simp
    | false =>
      rw [Int.neg_neg]
      cases h1 : T.elem l with
      | true => simp; omega
      | false => simp; omega
theorem dec_zero {T : List Int} {l : Int} (h0 : l ≠ 0) : decT T (vr l) = 0 ↔ T.elem l = false ∧ T.elem (-l) = false := by
  unfold decT vr
  by_cases hl : 0 < l
  · rw [if_pos hl]
    cases h1 : T.elem l with
    | true => simp; omega
    | false =>
      cases h2 : T.elem (-l) with
      | true => simp; omega
      | false => simp
  · rw [if_neg hl, Int.neg_neg]
    cases h2 : T.elem (-l) with
    | true => simp; omega
    | false =>
      cases h1 : T.elem l with
      | true => simp; omega
      | false => simp
theorem Chain.more {P : List (Int × Int)} {x : Int × Int} : ∀ {ch : List Nat} {a : Nat}, Chain P a ch → Chain (P ++ [x]) a ch
  | [], _, h => h
  | k :: r, a, h => by
    obtain ⟨b, o, e, hp, hc⟩ := h
    exact ⟨b, o, e, by rw [List.getElem?_append_left (List.getElem?_eq_some_iff.1 hp).1]; exact hp, hc.more⟩
theorem Chain.le {P : List (Int × Int)} : ∀ {ch : List Nat} {a : Nat}, Chain P a ch → a ≤ P.length
  | [], a, h => by
    have : a = 0 := h
    omega
  | k :: r, a, h => by
    obtain ⟨b, o, e, hp, hc⟩ := h
    have := (List.getElem?_eq_some_iff.1 hp).1
    omega
/-- The clauses below m are laid, and the literals pre of the clause m. -/
structure Laid (C : Cl) (T : List Int) (v m : Nat) (pre : List Int) (lf : List Int) (P : List (Int × Int)) (nw : List Int) : Prop where
  left : ∀ k, k < m → lf[k]? = some ((cnt T [] (C.getD k []) : Nat) : Int)
  here : m < C.length → lf[m]? = some ((cnt T [] pre : Nat) : Int)
  rest : ∀ k, m < k → k < C.length → lf[k]? = some 0
  chain : ∀ i : Nat, i < 2 * v + 1 → ∃ a : Nat, nw[i]? = some ((a : Nat) : Int) ∧ Chain P a ((if pre.elem ((i : Int) - (v : Int)) && !T.elem (-((i : Int) - (v : Int))) then [m] else []) ++ occ C T ((i : Int) - (v : Int)) m)
section
variable {C : Cl} {T : List Int} {v m : Nat} {pre : List Int} {lf : List Int} {P : List (Int × Int)} {nw : List Int}
/-- A literal that is noted already, or whose not came. -/
theorem Laid.pass (h : Laid C T v m pre lf P nw) {l : Int} (hl : pre.elem l = true ∨ T.elem (-l) = true) : Laid C T v m (pre ++ [l]) lf P nw := by
  refine ⟨h.left, fun hm => ?_, h.rest, fun i hi => ?_⟩
  · rw [h.here hm, cnt_app]
    rcases hl with e | e
    · rw [e]; simp
    · rw [e]; simp
  · obtain ⟨a, h1, h2⟩ := h.chain i hi
    refine ⟨a, h1, ?_⟩
    have e : ((pre ++ [l]).elem ((i : Int) - (v : Int)) && !T.elem (-((i : Int) - (v : Int)))) = (pre.elem ((i : Int) - (v : Int)) && !T.elem (-((i : Int) - (v : Int)))) := by
      rw [elem_app]
      by_cases c : ((i : Int) - (v : Int)) = l
      · rw [c]
        rcases hl with e | e
        · rw [e]; simp
        · rw [e]; simp
      · have : (((i : Int) - (v : Int)) == l) = false := by simpa using c
        rw [this, Bool.or_false]
    rw [e]
    exact h2
/-- What stands in a literal's newest place. -/
theorem Laid.at' (h : Laid C T v m pre lf P nw) {l : Int} {i : Nat} (hi : ((v : Nat) : Int) + l = ((i : Nat) : Int)) (hi2 : i < 2 * v + 1) (ht : T.elem (-l) = false) : ∃ a : Nat, nw[i]? = some ((a : Nat) : Int) ∧ a ≤ P.length ∧
    ((pre.elem l = true ∧ ∃ b x, a = b + 1 ∧ P[b]? = some x ∧ x.1 = ((m : Nat) : Int)) ∨ (pre.elem l = false ∧ Other P a m ∧ Chain P a (occ C T l m))) := by
  obtain ⟨a, h1, h2⟩ := h.chain i hi2
  have el : (i : Int) - (v : Int) = l := by omega
  rw [el, ht] at h2
  refine ⟨a, h1, h2.le, ?_⟩
  cases hp : pre.elem l with
  | true =>
    rw [hp] at h2
    simp only [Bool.not_false, Bool.and_self, if_true, List.cons_append, List.nil_append] at h2
    obtain ⟨b, o, e, hb, _⟩ := h2
    exact .inl ⟨rfl, b, _, e, hb, rfl⟩
  | false =>
    rw [hp] at h2
    simp only [Bool.false_and, Bool.false_eq_true, if_false, List.nil_append] at h2
    refine .inr ⟨rfl, ?_, h2⟩
    cases ho : occ C T l m with
    | nil =>
      rw [ho] at h2
      exact .inl h2
    | cons k r =>
      rw [ho] at h2
      obtain ⟨b, o, e, hb, _⟩ := h2
      have hk : k < m := (occ_mem.1 (by rw [ho]; simp : k ∈ occ C T l m)).1
      exact .inr ⟨b, _, e, hb, by simp; omega⟩
/-- A literal that is noted. -/
theorem Laid.note (h : Laid C T v m pre lf P nw) (hm : m < C.length) {l : Int} {i a : Nat} (hi : ((v : Nat) : Int) + l = ((i : Nat) : Int)) (hn : nw[i]? = some ((a : Nat) : Int)) (ht : T.elem (-l) = false) (hp : pre.elem l = false) (hc : Chain P a (occ C T l m)) :
    Laid C T v m (pre ++ [l]) (lf.set m (((cnt T [] pre : Nat) : Int) + 1)) (P ++ [(((m : Nat) : Int), ((a : Nat) : Int))]) (nw.set i (((P.length : Nat) : Int) + 1)) := by
  have hml : m < lf.length := (List.getElem?_eq_some_iff.1 (h.here hm)).1
  have hil : i < nw.length := (List.getElem?_eq_some_iff.1 hn).1
  refine ⟨fun k hk => ?_, fun _ => ?_, fun k hk hkn => ?_, fun j hj => ?_⟩
  · rw [List.getElem?_set_ne (by omega)]; exact h.left k hk
  · rw [List.getElem?_set_self hml, cnt_app, hp, ht]
    simp
  · rw [List.getElem?_set_ne (by omega)]; exact h.rest k hk hkn
  · by_cases e : j = i
    · subst e
      have el : (j : Int) - (v : Int) = l := by omega
      rw [el, List.getElem?_set_self hil, ht]
      refine ⟨P.length + 1, by simp, ?_⟩
      have e1 : ((pre ++ [l]).elem l && !false) = true := by rw [elem_app]; simp
      rw [e1]
      simp only [if_true, List.cons_append, List.nil_append]
      exact ⟨P.length, a, rfl, by simp, hc.more⟩
    · rw [List.getElem?_set_ne (fun c => e c.symm)]
      obtain ⟨b, h1, h2⟩ := h.chain j hj
      refine ⟨b, h1, ?_⟩
      have e2 : ((pre ++ [l]).elem ((j : Int) - (v : Int))) = pre.elem ((j : Int) - (v : Int)) := by
        rw [elem_app]
        have : (((j : Int) - (v : Int)) == l) = false := by simp; omega
        rw [this, Bool.or_false]
      rw [e2]
      exact h2.more
/-- The clause is laid: the next one. -/
theorem Laid.next (h : Laid C T v m (C.getD m []) lf P nw) (hm : m < C.length) : Laid C T v (m + 1) [] lf P nw := by
  refine ⟨fun k hk => ?_, fun hm1 => ?_, fun k hk hkn => h.rest k (by omega) hkn, fun i hi => ?_⟩
  · by_cases e : k = m
    · subst e; exact h.here hm
    · exact h.left k (by omega)
  · rw [h.rest (m + 1) (by omega) hm1]; rfl
  · obtain ⟨a, h1, h2⟩ := h.chain i hi
    refine ⟨a, h1, ?_⟩
    simp only [List.elem_nil, Bool.false_and, Bool.false_eq_true, if_false, List.nil_append]
    unfold occ
    by_cases c : ((C.getD m []).elem ((i : Int) - (v : Int)) && !T.elem (-((i : Int) - (v : Int)))) = true
    · rw [if_pos c] at h2 ⊢
      exact h2
    · rw [if_neg c] at h2 ⊢
      exact h2
end
/-- What the queue and 'broken' are, of the clauses below m. -/
structure Queued (C : Cl) (T : List Int) (m : Nat) (q : List Int) (br : Bool) : Prop where
  heap : HeapL q
  len : q.length ≤ m
  br : br = true ↔ ∃ k, k < m ∧ cnt T [] (C.getD k []) = 0
  qin : ∀ y ∈ q, ∃ k : Nat, k < m ∧ y = (k : Int) ∧ cnt T [] (C.getD k []) ≤ 1
  unit : ∀ k, k < m → cnt T [] (C.getD k []) = 1 → ((k : Nat) : Int) ∈ q
theorem heap_nil : HeapL [] := fun k _ h => by simp at h
theorem Queued.next {C : Cl} {T : List Int} {m : Nat} {q q' : List Int} {br : Bool} (h : Queued C T m q br) (hl : LookR q ((cnt T [] (C.getD m []) : Nat) : Int) m q') : Queued C T (m + 1) q' (br || (((cnt T [] (C.getD m []) : Nat) : Int) == 0)) := by
  obtain ⟨h1, h2⟩ := hl.heap h.heap
  have hm := hl.mem
  refine ⟨h1, by have := h.len; omega, ?_, fun y hy => ?_, fun k hk hc => ?_⟩
  · rw [Bool.or_eq_true, h.br, beq_iff_eq]
    constructor
    · rintro (⟨k, hk, h0⟩ | h0)
      · exact ⟨k, by omega, h0⟩
      · exact ⟨m, by omega, by omega⟩
    · rintro ⟨k, hk, h0⟩
      by_cases e : k = m
      · subst e; exact .inr (by omega)
      · exact .inl ⟨k, by omega, h0⟩
  · rcases (hm y).1 hy with h0 | ⟨h0, h3⟩
    · obtain ⟨k, hk, e, hc⟩ := h.qin y h0
      exact ⟨k, by omega, e, hc⟩
    · exact ⟨m, by omega, h0, by omega⟩
  · by_cases e : k = m
    · subst e; exact (hm _).2 (.inr ⟨rfl, by omega⟩)
    · exact (hm _).2 (.inl (h.unit k (by omega) hc))
/-- All are laid. -/
theorem inv_of {C : Cl} {T : List Int} {v : Nat} {lf : List Int} {P : List (Int × Int)} {nw q : List Int} {br : Bool} (h : Laid C T v C.length [] lf P nw) (hq : Queued C T C.length q br) (hA : Agree T) : Inv C v T T lf P nw q br Never := by
  refine ⟨h.left, fun i hi => ?_, hq.br, hq.qin, fun k hk hc => .inr (.inl (hq.unit k hk hc)), fun _ hx => hx, hA⟩
  obtain ⟨a, h1, h2⟩ := h.chain i hi
  simp only [List.elem_nil, Bool.false_and, Bool.false_eq_true, if_false, List.nil_append] at h2
  exact ⟨a, h1, h2⟩
end Cf
end Go.Proofs.Ytmgkgbhkaoflhaa

namespace Go.Proofs.Ytmgkgbhkaoflhaa
open Go.RowKit Go.Maps
namespace Cf
set_option maxHeartbeats 4000000
set_option maxRecDepth 100000

theorem bel_drewN2 {B : Nat} {w w' : World} (h : Below B w w') (q : Nat) : Below B w (w'.drewN q) := h.trans ⟨rfl, rfl, rfl, Nat.le_refl _, fun _ _ => rfl⟩
theorem take_succ {K : List Int} {j : Nat} {l : Int} (h : K[j]? = some l) : K.take (j + 1) = K.take j ++ [l] := by
  rw [List.take_add_one, h]; rfl
/-- The clauses that were handed in lie below B. -/
def Held (B : Nat) (w : World) (al : Option Addr) (C : Cl) : Prop := ∃ W0 : World, W0.heap.size ≤ B ∧ Below W0.heap.size W0 w ∧ ClsAt W0 al C
theorem Held.keep {B : Nat} {w w' : World} {al : Option Addr} {C : Cl} (h : Held B w al C) (k : Below B w w') : Held B w' al C := by
  obtain ⟨W0, h1, h2, h3⟩ := h
  exact ⟨W0, h1, h2.trans (k.mono h1), h3⟩
/-- A clause of theirs, in whatever world behind. -/
theorem Held.clause {B : Nat} {w : World} {al : Option Addr} {C : Cl} (h : Held B w al C) {m : Nat} {K : List Int} (hm : C[m]? = some K) : ∃ bl ol kal kc, al = some ⟨bl, ol, none⟩ ∧ (∀ w', Below B w w' → w'.cell? ⟨bl, ol + m, none⟩ = some (.slice kal K.length kc)) ∧ ∀ w', Below B w w' → IntsAt w' kal K := by
  obtain ⟨W0, h1, h2, h3⟩ := h
  obtain ⟨bl, ol, kal, kc, e, hb, hc, hi⟩ := cls_at h3 hm
  refine ⟨bl, ol, kal, kc, e, fun w' k => ?_, fun w' k => hi.keep (h2.trans (k.mono h1))⟩
  exact ((h2.trans (k.mono h1)).cell (p := ⟨bl, ol + m, none⟩) hb).trans hc
theorem lay_any {B : Nat} {w : World} {u : Nat} {al : Option Addr} {n c vn m : Nat} {L : Lay} {S : St} {C : Cl} (h : UAt B w u al n c vn L S) (hB : B ≤ w.heap.size) (hv : vn ≤ 1000000) (hn : n = C.length) (hcl : Held B w al C) (_hok : OkC C)
    (hlit : ∀ k ∈ C, ∀ l ∈ k, l ≠ 0 ∧ -((vn : Nat) : Int) ≤ l ∧ l ≤ ((vn : Nat) : Int)) (hA : Agree S.T) (hm : m < C.length) (hld : Laid C S.T vn m [] S.lf S.P S.nw) (hqd : Queued C S.T m S.q S.br) (hP : S.P.length + (C.getD m []).length ≤ 1000000) (hnn : n ≤ 1000000) :
    Calls Try.prog 35 #[.pointer (some ⟨u, 0, none⟩), .int .i64 m] w fun e w' => e = .returned (.tuple #[]) ∧ ∃ lf' P' nw' q' br', (∃ L', UAt B w' u al n c vn L' ⟨S.T, lf', P', nw', q', br'⟩) ∧ Laid C S.T vn (m + 1) [] lf' P' nw' ∧ Queued C S.T (m + 1) q' br' ∧ P'.length ≤ S.P.length + (C.getD m []).length ∧ Below B w w' := by
  obtain ⟨K, hK⟩ : ∃ K, K = C.getD m [] := ⟨_, rfl⟩
  have hKm : C[m]? = some K := by rw [hK, List.getD_eq_getElem?_getD, List.getElem?_eq_getElem hm]; rfl
  have hKC : K ∈ C := List.mem_of_getElem? hKm
  rw [← hK] at hP ⊢
  have HK := Lib.hid hK
  have HU := Lib.hid h
  have HB := Lib.hid hB
  have HLIT := Lib.hid (hlit K hKC)
  have HLD := Lib.hid hld
  have HQD := Lib.hid hqd
  have HA := Lib.hid hA
  have HP := Lib.hid hP
  have hkl : K.length ≤ 1000000 := by omega
  have hmn : m < n := by omega
  have HM := Lib.hid hm
  have c0 : w.cell? ⟨u, 0, none⟩ = some (.slice al n c) := h.cells.1 0
  obtain ⟨bl, ol, kal, kc, rfl, hcells, hik⟩ := hcl.clause hKm
  have hck := hcells w (Below.refl _ _)
  have HIK := Lib.hid hik
  subst hn
  clear h hB hcl hlit hld hqd hA hP hK hKm hKC hcells hik _hok
  obtain ⟨kn, hkn⟩ : ∃ kn, kn = K.length := ⟨_, rfl⟩
  have HKN := Lib.hid hkn
  rw [← hkn] at hck hkl
  clear hkn
  go_enter Try.func35, Try.ntmps35
  go_wp2_with fail
  go_loopg [14] kn (fun gk v14 wr => ∃ (j : Nat) (lf : List Int) (P : List (Int × Int)) (nw : List Int), v14 = .int .i64 ((j : Nat) : Int) ∧ j + gk = kn ∧ (∃ L', UAt B wr u (some ⟨bl, ol, none⟩) C.length c vn L' ⟨S.T, lf, P, nw, S.q, S.br⟩) ∧ Below B w wr ∧ Hid (Laid C S.T vn m (K.take j) lf P nw) ∧ P.length ≤ S.P.length + j)
  case atStart => exact ⟨0, S.lf, S.P, S.nw, rfl, by omega, ⟨_, HU.out⟩, Below.refl _ _, HLD.out, by omega⟩
  case round =>
    obtain ⟨j, lf, P, nw, rfl, hj, ⟨Lc, hu⟩, hbw, HLd, hPl⟩ := hrel
    have HJ := Lib.hid hj
    have HUU := Lib.hid hu
    have HBW := Lib.hid hbw
    have hBr : B ≤ wr.heap.size := Nat.le_trans HB.out hbw.size
    have HBR := Lib.hid hBr
    by_cases hlt : j < kn
    · obtain ⟨l, hl⟩ : ∃ l, K[j]? = some l := ⟨_, List.getElem?_eq_getElem (by rw [← HKN.out]; exact hlt)⟩
      obtain ⟨kb, ko, hkal, hkb, hce⟩ := ints_at (HIK.out wr hbw) hl
      have hlm : l ∈ K := List.mem_of_getElem? hl
      obtain ⟨hl0, hl1, hl2⟩ := HLIT.out l hlm
      have c3 : wr.cell? ⟨u, 3, none⟩ = some (.map (some Lc.m)) := hu.cells.1 3
      have hvi : I64 (vr l) := by unfold I64 vr; split <;> omega
      have hv0 : 0 < vr l := by unfold vr; split <;> omega
      have hlook := fun q => (hu.drewN q).look hvi hv0
      simp only at hlook
      have hdn := dec_neg hl0 HA.out
      have HVR := Lib.hid (fun W => var_any (l := l) (W := W) (by omega) (by omega))
      obtain ⟨n1, n2⟩ := neg_i (x := l) (by omega) (by omega)
      have hlt2 : ((j : Nat) : Int) < ((kn : Nat) : Int) := by omega
      have HS := Lib.hid (step_i (j := j) (by omega))
      have HTK := Lib.hid (take_succ hl)
      have HPL := Lib.hid hPl
      cases hte : S.T.elem (-l) with
      | true =>
        have hd : decT S.T (vr l) = -l := hdn.2 hte
        have HTE := Lib.hid hte
        rw [hd] at hlook
        clear hu hbw hj hdn hte hd hl hlm hPl hvi hv0 hl0
        subst hkal
        go_wp2_with fail
        go_quiet (first | (go_at_call 50; exact quiet_left (HVR.out _)))
        go_wp2_with fail
        go_roundg (gk - 1)
        case measure => have := HJ.out; omega
        case rel => exact ⟨j + 1, lf, P, nw, by first | rfl | (rw [HS.out.1]) | (congr 1; exact HS.out.1), by have := HJ.out; omega, ⟨Lc, HUU.out.drewN _⟩, bel_drewN2 HBW.out _, (show Hid _ from by rw [HTK.out]; exact HLd.out.pass (.inr HTE.out)), by have := HPL.out; omega⟩
      | false =>
        have hd : ¬ decT S.T (vr l) = -l := fun e => by rw [hdn.1 e] at hte; cases hte
        obtain ⟨d, hdd⟩ : ∃ d, d = decT S.T (vr l) := ⟨_, rfl⟩
        rw [← hdd] at hlook hd
        have hdb : (d == -l) = false := by simpa using hd
        have hdb2 : (d != -l) = true := by simpa using hd
        obtain ⟨i, hi⟩ : ∃ i : Nat, ((vn : Nat) : Int) + l = ((i : Nat) : Int) := ⟨(((vn : Nat) : Int) + l).toNat, by omega⟩
        obtain ⟨a, hna, haP, hcase⟩ := HLd.out.at' hi (by omega) hte
        have hPz : P.length < 1000000000 := by have := HP.out; have := HKN.out; omega
        have HTE := Lib.hid hte
        cases hpe : (K.take j).elem l with
        | true =>
          rcases hcase with ⟨_, b, x, rfl, hpb, hx⟩ | ⟨hpf, _⟩
          · have HST := Lib.hid (fun q => stand_no (hu.drewN q) hv hi hna hpb hx hPz)
            have HPE := Lib.hid hpe
            clear hu hbw hj hdn hte hl hlm hPl hvi hv0 hl0 hna haP hpb hx hpe hPz hi hdd
            subst hkal
            go_wp2_with fail
            go_quiet (first | (go_at_call 50; exact quiet_left (HVR.out _)))
            go_wp2_with fail
            refine (HST.out _).mono ?_
            rintro e w5 ⟨rfl, q5, rfl⟩
            go_wp2_with fail
            go_roundg (gk - 1)
            case measure => have := HJ.out; omega
            case rel => exact ⟨j + 1, lf, P, nw, by first | rfl | (rw [HS.out.1]) | (congr 1; exact HS.out.1), by have := HJ.out; omega, ⟨Lc, HUU.out.drewN _⟩, bel_drewN2 HBW.out _, (show Hid _ from by rw [HTK.out]; exact HLd.out.pass (.inl HPE.out)), by have := HPL.out; omega⟩
          · rw [hpf] at hpe; cases hpe
        | false =>
          rcases hcase with ⟨hpt, _⟩ | ⟨_, hoth, hch⟩
          · rw [hpt] at hpe; cases hpe
          · have hle := cnt_le (T := S.T) (k := K.take j) (seen := [])
            have hlt3 : (K.take j).length ≤ 1000000 := by rw [List.length_take]; omega
            have HST := Lib.hid (fun q => stand_yes (hu.drewN q) hBr hv hi hna hoth hPz (HLd.out.here HM.out) (by omega) (by omega) (by omega))
            have HPE := Lib.hid hpe
            have HLN := Lib.hid (HLd.out.note HM.out hi hna hte hpe hch)
            clear hu hbw hj hdn hte hl hlm hPl hvi hv0 hl0 hna haP hoth hch hpe hPz hi hdd hle hlt3
            subst hkal
            go_wp2_with fail
            go_quiet (first | (go_at_call 50; exact quiet_left (HVR.out _)))
            go_wp2_with fail
            refine (HST.out _).mono ?_
            rintro e w5 ⟨rfl, ⟨L5, hu5⟩, hb5⟩
            have HU5 := Lib.hid hu5
            have HB5 := Lib.hid ((bel_drewN2 HBW.out nq).trans hb5)
            clear hu5 hb5 HST
            go_wp2_with fail
            go_roundg (gk - 1)
            case measure => have := HJ.out; omega
            case rel => exact ⟨j + 1, _, _, _, by first | rfl | (rw [HS.out.1]) | (congr 1; exact HS.out.1), by have := HJ.out; omega, ⟨L5, HU5.out⟩, HB5.out, (show Hid _ from by rw [HTK.out]; exact HLN.out), by have := HPL.out; simp; omega⟩
    · have hlt2 : ¬ ((j : Nat) : Int) < ((kn : Nat) : Int) := by omega
      have hjk : j = K.length := by have := HKN.out; omega
      have htk : K.take j = K := by rw [hjk]; exact List.take_length
      rw [htk] at HLd
      have HHERE := Lib.hid (HLd.out.here HM.out)
      have hql : S.q.length < 100000000 := by have := HQD.out.len; omega
      have HLK := Lib.hid (look_unit hu hBr hql HQD.out.heap (k := m) (HLd.out.here HM.out) (by omega))
      clear hu hbw hj hjk htk
      go_wp2_with fail
      refine HLK.out.mono ?_
      rintro e w5 ⟨rfl, L5, q5, hu5, hl5, hb5⟩
      have HU5 := Lib.hid hu5
      have HB5 := Lib.hid (HBW.out.trans hb5)
      have HL5 := Lib.hid hl5
      clear hu5 hb5 hl5 HLK
      go_wp2_with fail
      go_end0
      have hKm := HK.out
      refine ⟨rfl, _, _, _, q5, _, ⟨L5, HU5.out⟩, ?_, ?_, by have := HKN.out; have := HJ.out; omega, HB5.out⟩
      · have := HLd.out
        rw [hKm] at this
        exact this.next HM.out
      · have := HL5.out
        rw [hKm] at this ⊢
        exact HQD.out.next this
end Cf
end Go.Proofs.Ytmgkgbhkaoflhaa
