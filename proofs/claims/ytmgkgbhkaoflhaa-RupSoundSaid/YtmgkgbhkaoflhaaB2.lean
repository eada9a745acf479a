/-
The clauses of a proof are gone through; what is given is refuted.
What is given is refuted, or not.
-/
import Derived.Test.YtmgkgbhkaoflhaaRwMake
import Derived.WalkMore
namespace Go.Proofs.Ytmgkgbhkaoflhaa
open Go.RowKit
namespace Rw
open Cf Rp
set_option maxHeartbeats 6400000
set_option maxRecDepth 100000

theorem CI.setT {v : Nat} {C : Cl} {s : PS} (h : CI v C s) (T : List Int) : CI v C { s with T := T } := ⟨h.wi.same rfl rfl rfl rfl, h.bad, h.i0, h.cons, h.entS, h.snd, h.cmp⟩
theorem CI.of {v : Nat} {C : Cl} {g : List Int} {s s' : PS} {Pr : Nat → Int → Prop} (h : CI v C s) (hb : s.br = false) (hl : Like s s') (hr : RI v C g s' Pr) : CI v C s' := by
  have ls : ∀ x, s'.S x = true → s'.hol x = true := fun x hx => by unfold PS.hol; rw [hx]; rfl
  have hb' : s'.br = false := hl.br.trans hb
  refine ⟨hr.wi, fun e => absurd (hb'.symm.trans e) (by decide), fun _ => hr.i0, fun _ x hx => ?_, fun _ => hr.entS, fun _ => hr.snd, fun _ k hk => ?_⟩
  · have := hr.cons x (ls x hx)
    unfold PS.hol at this
    simp only [Bool.or_eq_false_iff] at this
    exact this.1
  · rcases h.cmp hb k hk with e | ⟨x, e1, e2⟩ | ⟨id, e1, e2⟩
    · exact .inl e
    · exact .inr (.inl ⟨x, e1, by rw [hl.S]; exact e2⟩)
    · exact .inr (.inr ⟨id, by rw [hl.ids]; exact e1, fun x hx => e2 x ((hl.perm id e1).mem_iff.1 hx)⟩)
theorem bad_follows {v : Int} {C : Cl} {q : List Int} (hm : mayC v C = true) (hq : areL v q = true) (h : Bad C (negs q)) : followsP v C q = true := by
  have hn : areL v (negs q) = true := List.all_eq_true.2 fun x hx => by
    obtain ⟨y, hy, rfl⟩ := List.mem_map.1 hx
    exact isL_neg (List.all_eq_true.1 hq y hy)
  unfold followsP
  rw [hm, hq, bad_units hm hn h]; rfl
theorem shut_follows {v : Int} {C : Cl} {q : List Int} {A : Int → Prop} (hm : mayC v C = true) (hs : Shut C A) (hg : ∀ l ∈ negs q, A l) : followsP v C q = false := by
  cases hf : followsP v C q with
  | false => rfl
  | true =>
    unfold followsP at hf
    simp only [Bool.and_eq_true, Bool.not_eq_true'] at hf
    exact (units_bad hm hf.2 A hs hg).elim
theorem run_stop {v : Int} : ∀ {p C D : Cl} {q : List Int} {r : Cl}, runP v C p = some D → followsP v D q = false → runP v C (p ++ q :: r) = none
  | [], C, D, q, r, h, hf => by
    injection h with h
    subst h
    show runP v C (q :: r) = none
    rw [runP, hf]; rfl
  | x :: p, C, D, q, r, h, hf => by
    rw [runP] at h
    show runP v C (x :: (p ++ q :: r)) = none
    rw [runP]
    cases hx : followsP v C x with
    | false => rfl
    | true =>
      rw [hx, if_pos rfl] at h
      rw [if_pos rfl]
      exact run_stop h hf
theorem take_split {α : Type} {l : List α} {i : Nat} {x : α} (h : l[i]? = some x) : l = l.take i ++ x :: l.drop (i + 1) := by
  have hl := (List.getElem?_eq_some_iff.1 h).1
  have e : l.drop i = x :: l.drop (i + 1) := by
    rw [List.drop_eq_getElem_cons hl]
    congr 1
    exact (List.getElem?_eq_some_iff.1 h).2
  rw [← e, List.take_append_drop]
/-- While the literals of a clause are gone through. -/
structure LitI (v : Nat) (C : Cl) (q : List Int) (s sc : PS) (j : Nat) : Prop where
  same : sc = { s with T := sc.T }
  all : ∀ l ∈ q.take j, sc.hol (-l) = true
  neg : ∀ x ∈ sc.T, ∃ l ∈ q, x = -l
  len : sc.T.length ≤ j
  ri : s.br = false → RI v C (negs q) sc (fun _ z => sc.S z = true)
theorem LitI.zero {v : Nat} {C : Cl} {q : List Int} {s : PS} (h : CI v C s) (hT : s.T = []) : LitI v C q s s 0 := by
  refine ⟨rfl, fun l hl => by simp at hl, fun x hx => (by rw [hT] at hx; cases hx), (by rw [hT]; exact Nat.le_refl _), fun hb => h.ri hb (fun k hk => hk) hT⟩
theorem LitI.next {v : Nat} {C : Cl} {q : List Int} {s sc : PS} {j : Nat} {l : Int} (h : LitI v C q s sc j) (hq : areL v q = true) (hl : q[j]? = some l) (hn : sc.hol l = false) : LitI v C q s (sc.come (-l)) (j + 1) := by
  have hm := List.mem_of_getElem? hl
  have hll := List.all_eq_true.1 hq l hm
  obtain ⟨q1, q2, q3, q4, q5, q6⟩ := come_parts (s := sc) (x := -l)
  refine ⟨?_, fun y hy => ?_, fun y hy => ?_, ?_, fun hb => ?_⟩
  · have e := h.same
    unfold PS.come
    split
    · exact e
    · rw [e]
  · rw [List.take_add_one, hl] at hy
    rw [hol_come]
    rcases List.mem_append.1 hy with hy | hy
    · rw [h.all y hy]; rfl
    · simp at hy; rw [hy]; simp
  · unfold PS.come at hy
    split at hy
    · exact h.neg y hy
    · rcases List.mem_append.1 hy with hy | hy
      · exact h.neg y hy
      · simp at hy; exact ⟨l, hm, hy⟩
  · unfold PS.come
    split
    · have := h.len; omega
    · show (sc.T ++ [-l]).length ≤ _
      have := h.len; simp; omega
  · have := (h.ri hb).come (x := -l) (fun A _ hg => hg _ (List.mem_map.2 ⟨l, hm, rfl⟩)) (by rw [Int.neg_neg]; exact hn) (isL_neg hll)
    rw [q5]; exact this
/-- It is sure, or its not stands in the clause too. -/
theorem LitI.skip {v : Nat} {C : Cl} {q : List Int} {s sc : PS} {j : Nat} {l : Int} (h : LitI v C q s sc j) (hci : CI v C s) (hm : mayC v C = true) (hq : areL v q = true) (hl : q[j]? = some l) (hh : sc.hol l = true) : CI v (C ++ [q]) sc ∧ followsP v C q = true := by
  have hml := List.mem_of_getElem? hl
  have hS : sc.S = s.S := by rw [h.same]
  have hB : sc.br = s.br := by rw [h.same]
  have hcs : CI v C sc := by rw [h.same]; exact hci.setT _
  have hor : (∃ x ∈ q, x ≠ 0 ∧ -x ∈ q) ∨ ∃ x ∈ q, sc.S x = true := by
    unfold PS.hol at hh
    cases hs : sc.S l with
    | true => exact .inr ⟨l, hml, hs⟩
    | false =>
      rw [hs, Bool.false_or] at hh
      obtain ⟨y, h1, h2⟩ := h.neg l (by simpa using hh)
      exact .inl ⟨y, h1, (isL_ne (List.all_eq_true.1 hq y h1)).1, by rw [← h2]; exact hml⟩
  refine ⟨hcs.skip fun _ => hor, bad_follows hm hq ?_⟩
  cases hb : s.br with
  | true => exact (hci.bad hb).more fun k hk => hk
  | false =>
    intro A hA hg
    have hin : ∀ y ∈ q, A (-y) := fun y hy => hg _ (List.mem_map.2 ⟨y, hy, rfl⟩)
    rcases hor with ⟨y, h1, _, h3⟩ | ⟨y, h1, h2⟩
    · have := hin (-y) h3
      rw [Int.neg_neg] at this
      exact hA.one y this (hin y h1)
    · rw [hS] at h2
      exact hA.one y (hci.entS hb y h2 A hA fun l hl => by cases hl) (hin y h1)
/-- What 'goThrough' has done. -/
def ThruE (B v : Nat) (C P : Cl) (W : World) (k : Nat) (s : PS) (e : Ending) (w : World) : Prop := Below B W w ∧
  ((e = .returned (.bool false) ∧ runP v C P = none) ∨ (e = .returned (.bool true) ∧ ∃ (D : Cl) (L : Lay) (s' : PS), runP v C P = some D ∧ KAt B v w k L s' (s'.T.elem ·) none ∧ CI v D s' ∧ s'.ids.length ≤ s.ids.length + P.length ∧ ∀ c ∈ s'.ids, (s'.lit c).length ≤ 1000000))
/-- What holds between two clauses. -/
structure ThruI (B v : Nat) (C P : Cl) (W : World) (k : Nat) (s : PS) (i : Nat) (D : Cl) (L : Lay) (sc : PS) (wr : World) : Prop where
  ka : KAt B v wr k L sc (sc.T.elem ·) none
  bel : Below B W wr
  run : runP v C (P.take i) = some D
  may : mayC v D = true
  ci : CI v D sc
  ids : sc.ids.length ≤ s.ids.length + i
  lits : ∀ c ∈ sc.ids, (sc.lit c).length ≤ 1000000
theorem ThruI.step {B v : Nat} {C P : Cl} {W : World} {k : Nat} {s : PS} {i : Nat} {D : Cl} {L L' : Lay} {sc sc' : PS} {wr w : World} {q : List Int} (h : ThruI B v C P W k s i D L sc wr) (hq : P[i]? = some q) (hl : areL v q = true) (hf : followsP v D q = true) (hk : KAt B v w k L' sc' (sc'.T.elem ·) none) (hb : Below B W w) (hc : CI v (D ++ [q]) sc') (hi : sc'.ids.length ≤ sc.ids.length + 1) (hls : ∀ c ∈ sc'.ids, (sc'.lit c).length ≤ 1000000) : ThruI B v C P W k s (i + 1) (D ++ [q]) L' sc' w := by
  refine ⟨hk, hb, ?_, mayC_snoc h.may hl, hc, by have := h.ids; omega, hls⟩
  rw [List.take_add_one, hq]
  show runP v C (P.take i ++ [q]) = _
  rw [run_app h.run, hf, if_pos rfl]
theorem thru_any {B v : Nat} {C P : Cl} {W0 W : World} {k : Nat} {L : Lay} {s : PS} {pl : Option Addr} {n cap : Nat} (h : KAt B v W k L s (s.T.elem ·) none) (hv : v ≤ 1000000) (hB : B = W0.heap.size) (hb0 : Below B W0 W) (hm : mayC v C = true) (hci : CI v C s) (hP : ClsAt W0 pl P) (hn : n = P.length) (hpl : ∀ q ∈ P, areL v q = true) (hps : ∀ q ∈ P, q.length ≤ 1000000) (hsz : s.ids.length + n ≤ 900000) (hls : ∀ c ∈ s.ids, (s.lit c).length ≤ 1000000) :
    Calls Try.prog 19 #[.pointer (some ⟨k, 0, none⟩), .slice pl n cap] W (ThruE B v C P W k s) := by
  have H0 : Hid (ThruI B v C P W k s 0 C L s W) := Lib.hid ⟨h, Below.refl _ _, rfl, hm, hci, by omega, hls⟩
  have HB := Lib.hid (And.intro hB hb0)
  have HP := Lib.hid hP
  have HN := Lib.hid hn
  have HPL := Lib.hid hpl
  have HPS := Lib.hid hps
  have HSZ := Lib.hid hsz
  clear h hB hb0 hm hci hP hpl hps hls
  have hn9 : n ≤ 900000 := by omega
  clear hn hsz
  go_enter Try.func19, Try.ntmps19
  go_wp2_with fail
  go_step3
  go_wp2_with fail
  go_step3
  go_wp2_with fail
  go_loopg [11] n (fun gk v11 wr => ∃ (i : Nat) (D : Cl) (Lc : Lay) (sc : PS), v11 = .int .i64 ((i : Nat) : Int) ∧ i + gk = n ∧ ThruI B v C P W k s i D Lc sc wr)
  case atStart => exact ⟨0, C, L, s, rfl, by omega, H0.out⟩
  case round =>
    obtain ⟨i, D, Lc, sc, rfl, hi, hI⟩ := hrel
    clear H0
    obtain ⟨gO, hgO⟩ : ∃ gO, gO = gk := ⟨_, rfl⟩
    subst hgO
    have HI := Lib.hid hi
    have i0 : (0 : Int) ≤ ((i : Nat) : Int) := by omega
    have HTI := Lib.hid hI
    clear hI
    by_cases hlt : i < n
    · have q1 : ((i : Nat) : Int) < ((n : Nat) : Int) := by omega
      obtain ⟨q, hq⟩ : ∃ q, P[i]? = some q := ⟨_, List.getElem?_eq_getElem (by have := HN.out; omega)⟩
      obtain ⟨bl, ol, kal, kc, rfl, hbl, hcell, hIn⟩ := cls_at HP.out hq
      have hqm := List.mem_of_getElem? hq
      have hcell : wr.cell? ⟨bl, ol + i, none⟩ = some (.slice kal q.length kc) := ((HB.out.2.trans HTI.out.bel).cell (p := ⟨bl, ol + i, none⟩) (by have := HB.out.1; show bl < B; omega)).trans hcell
      have HIN := Lib.hid hIn
      have HQ := Lib.hid (And.intro hq (And.intro (HPL.out q hqm) (HPS.out q hqm)))
      have HFG := Lib.hid (forget_any HTI.out.ka)
      have hq9 := HPS.out q hqm
      obtain ⟨m, hm⟩ : ∃ m, m = q.length := ⟨_, rfl⟩
      rw [← hm] at hcell hq9
      have HM := Lib.hid hm
      clear hi hq hIn hqm hm
      go_wp2_with fail
      refine HFG.out.mono ?_
      rintro e w1 ⟨rfl, L1, hk1, hp1⟩
      have HK1 : Hid (KAt B v w1 k L1 { sc with T := [] } (fun _ => false) none ∧ Below B W w1 ∧ CI v D { sc with T := [] }) := Lib.hid ⟨hk1, HTI.out.bel.trans (Kept.belowB HTI.out.ka (by have := HB.out.2.size; have := HTI.out.bel.size; have := HB.out.1; omega) hp1), HTI.out.ci.clear⟩
      clear hk1 hp1 HFG hcell
      go_wp2_with fail
      go_loopg [19] m (fun gk v19 wr => ∃ (j : Nat) (Lj : Lay) (sj : PS), v19 = .int .i64 ((j : Nat) : Int) ∧ j + gk = m ∧ KAt B v wr k Lj sj (sj.T.elem ·) none ∧ Below B W wr ∧ LitI v D q { sc with T := [] } sj j)
      case atStart => exact ⟨0, L1, { sc with T := [] }, rfl, by omega, HK1.out.1, HK1.out.2.1, LitI.zero HK1.out.2.2 rfl⟩
      case round =>
        obtain ⟨j, Lj, sj, rfl, hj, hkj, hbj, hlj⟩ := hrel
        have HJ := Lib.hid hj
        have j0 : (0 : Int) ≤ ((j : Nat) : Int) := by omega
        have HKJ := Lib.hid (And.intro hkj (And.intro hbj hlj))
        clear hkj hbj hlj
        by_cases hlt2 : j < m
        · have q2 : ((j : Nat) : Int) < ((m : Nat) : Int) := by omega
          obtain ⟨l, hl⟩ : ∃ l, q[j]? = some l := ⟨_, List.getElem?_eq_getElem (by have := HM.out; omega)⟩
          obtain ⟨kb, ko, rfl, hkb, hlc⟩ := ints_at HIN.out hl
          have hlc : wr.cell? ⟨kb, ko + j, none⟩ = some (.int .i64 l) := ((HB.out.2.trans HKJ.out.2.1).cell (p := ⟨kb, ko + j, none⟩) (by have := HB.out.1; show kb < B; omega)).trans hlc
          have hll := List.all_eq_true.1 HQ.out.2.1 l (List.mem_of_getElem? hl)
          have HH := Lib.hid (holds_any HKJ.out.1 hv hll)
          have l1 := isL_ne hll
          have l2 : wrap64 (-l) = -l := by unfold wrap64; omega
          have HLL := Lib.hid (And.intro hl hll)
          clear hj hl hll hkb
          cases hol : sj.hol l with
          | true =>
            rw [hol] at HH
            have HSK := Lib.hid (HKJ.out.2.2.skip HK1.out.2.2 HTI.out.may HQ.out.2.1 HLL.out.1 hol)
            clear hol
            go_wp2_with fail
            refine HH.out.mono ?_
            rintro e w2 ⟨rfl, rfl⟩
            clear HH hlc
            go_wp2_with fail
            have hsm := HKJ.out.2.2.same
            have hid : sj.ids = sc.ids := by rw [hsm]
            have hlt9 : sj.lit = sc.lit := by rw [hsm]
            have HST := Lib.hid (HTI.out.step HQ.out.1 HQ.out.2.1 HSK.out.2 HKJ.out.1 HKJ.out.2.1 HSK.out.1 (by rw [hid]; omega) (fun c hc => by rw [hid] at hc; rw [hlt9]; exact HTI.out.lits c hc))
            clear hsm hid hlt9 HSK HKJ
            go_roundg (gO - 1)
            case measure => have := HI.out; omega
            case rel => exact ⟨i + 1, D ++ [q], Lj, sj, rfl, by have := HI.out; omega, HST.out⟩
          | false =>
            rw [hol] at HH
            have HCM := Lib.hid (come_any HKJ.out.1 hv (Nat.le_trans (Nat.le_of_eq HB.out.1) (HB.out.2.trans HKJ.out.2.1).size) (isL_neg HLL.out.2) (by have := HKJ.out.2.2.len; omega))
            have HNX := Lib.hid (HKJ.out.2.2.next HQ.out.2.1 HLL.out.1 hol)
            clear hol
            go_wp2_with fail
            refine HH.out.mono ?_
            rintro e w2 ⟨rfl, rfl⟩
            clear HH hlc
            go_wp2_with fail
            refine HCM.out.mono ?_
            rintro e w3 ⟨rfl, L3, hk3, hp3⟩
            have H3 : Hid (KAt B v w3 k L3 (sj.come (-l)) ((sj.come (-l)).T.elem ·) none ∧ Below B W w3) := Lib.hid ⟨hk3, HKJ.out.2.1.trans (Kept.belowB HKJ.out.1 (Nat.le_trans (Nat.le_of_eq HB.out.1) (HB.out.2.trans HKJ.out.2.1).size) hp3)⟩
            clear hk3 hp3 HCM
            go_wp2_with fail
            go_roundg (gk - 1)
            case measure => have := HJ.out; omega
            case rel => exact ⟨j + 1, L3, sj.come (-l), rfl, by have := HJ.out; omega, H3.out.1, H3.out.2, HNX.out⟩
        · obtain rfl : j = m := by omega
          have q2 : decide (((j : Nat) : Int) < ((j : Nat) : Int)) = false := decide_eq_false (by omega)
          have hBs : B ≤ wr.heap.size := Nat.le_trans (Nat.le_of_eq HB.out.1) (HB.out.2.trans HKJ.out.2.1).size
          have HF : Hid (Calls Try.prog 31 #[.pointer (some ⟨k, 0, none⟩)] wr fun e w => Below B W w ∧ ((e = .returned (.bool true) ∧ runP v C P = none) ∨ (e = .returned (.bool false) ∧ ∃ (L2 : Lay) (s2 : PS), KAt B v w k L2 s2 (s2.T.elem ·) none ∧ CI v D s2 ∧ followsP v D q = true ∧ s2.ids = sc.ids ∧ ∀ c ∈ sc.ids, (s2.lit c).length = (sc.lit c).length))) := by
            show Calls _ _ _ _ _
            have hsm := HKJ.out.2.2.same
            have hid : sj.ids = sc.ids := by rw [hsm]
            have hlt9 : sj.lit = sc.lit := by rw [hsm]
            have hbr : sj.br = sc.br := by rw [hsm]
            have hcj : CI v D sj := by rw [hsm]; exact HTI.out.ci.setT _
            have hin : ∀ l ∈ negs q, sj.hol l = true := fun l hl => by
              obtain ⟨y, hy, rfl⟩ := List.mem_map.1 hl
              exact HKJ.out.2.2.all y (by rw [List.take_of_length_le (by have := HM.out; omega)]; exact hy)
            cases hb : sc.br with
            | true =>
              refine (follow_broken HKJ.out.1 (hbr.trans hb)).mono ?_
              rintro e w ⟨rfl, rfl⟩
              exact ⟨HKJ.out.2.1, .inr ⟨rfl, Lj, sj, HKJ.out.1, hcj, bad_follows HTI.out.may HQ.out.2.1 ((HTI.out.ci.bad hb).more fun k hk => hk), hid, fun c _ => by rw [hlt9]⟩⟩
            | false =>
              refine (follow_any HKJ.out.1 hv hBs (hbr.trans hb) (HKJ.out.2.2.ri hb) (by rw [hid]; have := HTI.out.ids; have := HSZ.out; omega) (fun c hc => by rw [hid] at hc; rw [hlt9]; exact HTI.out.lits c hc)).mono ?_
              rintro e w ⟨b, L2, s2, rfl, hk2, hp2, hl2, hr2, ht2, hf2⟩
              have hbw := HKJ.out.2.1.trans (Kept.belowB HKJ.out.1 hBs hp2)
              have hc2 := hcj.of (hbr.trans hb) hl2 hr2
              cases b with
              | true =>
                refine ⟨hbw, .inl ⟨rfl, ?_⟩⟩
                have hsh := hr2.shut (ht2 rfl) (hc2.cmp (hl2.br.trans (hbr.trans hb))).all
                have := shut_follows HTI.out.may hsh (q := q) (fun l hl => hl2.hol (hin l hl))
                rw [take_split HQ.out.1]
                exact run_stop HTI.out.run this
              | false => exact ⟨hbw, .inr ⟨rfl, L2, s2, hk2, hc2, bad_follows HTI.out.may HQ.out.2.1 (hf2 rfl), hl2.ids.trans hid, fun c hc => by rw [hl2.len (by rw [hid]; exact hc), hlt9]⟩⟩
          clear hj
          go_wp2_with fail
          refine HF.out.mono ?_
          rintro e w2 ⟨hb2, ⟨rfl, hno⟩ | ⟨rfl, L2, s2, hk2, hc2, hf2, hi2, hl2⟩⟩
          · have HNO := Lib.hid (And.intro hb2 hno)
            clear hb2 hno HF
            go_wp2_with fail
            try rw [Exit.noGoto_ret]
            go_ret
            exact ⟨HNO.out.1, .inl ⟨rfl, HNO.out.2⟩⟩
          · have hB2 : B ≤ w2.heap.size := by have := hb2.size; have := HB.out.2.size; have := HB.out.1; omega
            have HFG := Lib.hid (forget_any hk2)
            have H2 := Lib.hid (And.intro hk2 (And.intro hc2 (And.intro hf2 (And.intro hi2 (And.intro hl2 (And.intro hb2 hB2))))))
            clear hb2 hk2 hc2 hf2 hi2 hl2 hB2 HF HKJ HK1
            go_wp2_with fail
            refine HFG.out.mono ?_
            rintro e w3 ⟨rfl, L3, hk3, hp3⟩
            have hb3 := H2.out.2.2.2.2.2.1.trans (Kept.belowB H2.out.1 H2.out.2.2.2.2.2.2 hp3)
            have HAD := Lib.hid (add_any (C := D) (s := { s2 with T := [] }) (L := L3) (W := w3) (al := kal) (q := q) (len := j) (cap := kc) hk3 hv (Nat.le_trans H2.out.2.2.2.2.2.2 hp3.size) rfl H2.out.2.1.clear HQ.out.2.1 (HIN.out.keep (by rw [← HB.out.1]; exact HB.out.2.trans hb3)) HM.out (by have := HQ.out.2.2; have := HM.out; omega) (by show s2.ids.length ≤ _; rw [H2.out.2.2.2.1]; have := HTI.out.ids; have := HSZ.out; omega) (fun c hc => by
              have hc : c ∈ sc.ids := by rw [← H2.out.2.2.2.1]; exact hc
              show (s2.lit c).length ≤ _
              rw [H2.out.2.2.2.2.1 c hc]
              exact HTI.out.lits c hc))
            have HB3 := Lib.hid (And.intro hb3 (And.intro hk3 (Nat.le_trans H2.out.2.2.2.2.2.2 hp3.size)))
            clear hk3 hp3 hb3 HFG
            go_wp2_with fail
            refine HAD.out.mono ?_
            rintro e w4 ⟨rfl, L4, s4, hk4, hp4, hT4, hc4, hi4, hl4⟩
            have HST := Lib.hid (HTI.out.step HQ.out.1 HQ.out.2.1 H2.out.2.2.1 hk4 (HB3.out.1.trans (Kept.belowB HB3.out.2.1 HB3.out.2.2 hp4)) hc4 (by
              have hi4 : s4.ids.length ≤ s2.ids.length + 1 := hi4
              rw [H2.out.2.2.2.1] at hi4; exact hi4) hl4)
            clear hk4 hp4 hT4 hc4 hi4 hl4 HAD HB3 H2
            go_wp2_with fail
            go_roundg (gO - 1)
            case measure => have := HI.out; omega
            case rel => exact ⟨i + 1, D ++ [q], L4, s4, rfl, by have := HI.out; omega, HST.out⟩
    · obtain rfl : i = n := by omega
      have q1 : decide (((i : Nat) : Int) < ((i : Nat) : Int)) = false := decide_eq_false (by omega)
      clear hi
      go_wp2_with fail
      try rw [Exit.noGoto_ret]
      go_ret
      have hr := HTI.out.run
      rw [List.take_of_length_le (by have := HN.out; omega)] at hr
      exact ⟨HTI.out.bel, .inr ⟨rfl, D, Lc, sc, hr, HTI.out.ka, HTI.out.ci, by have := HTI.out.ids; have := HN.out; omega, HTI.out.lits⟩⟩
end Rw
end Go.Proofs.Ytmgkgbhkaoflhaa

namespace Go.Proofs.Ytmgkgbhkaoflhaa
open Go.RowKit
namespace Rw
open Cf Rp
set_option maxHeartbeats 6400000
set_option maxRecDepth 100000

/-- While the given literals are gone through. -/
structure GivI (v : Nat) (C : Cl) (g : List Int) (s sc : PS) (j : Nat) : Prop where
  same : sc = { s with T := sc.T }
  all : ∀ l ∈ g.take j, sc.hol l = true
  neg : ∀ x ∈ sc.T, x ∈ g
  len : sc.T.length ≤ j
  ri : s.br = false → RI v C g sc (fun _ z => sc.S z = true)
theorem GivI.zero {v : Nat} {C : Cl} {g : List Int} {s : PS} (h : CI v C s) (hT : s.T = []) : GivI v C g s s 0 := by
  refine ⟨rfl, fun l hl => by simp at hl, fun x hx => (by rw [hT] at hx; cases hx), (by rw [hT]; exact Nat.le_refl _), fun hb => h.ri hb (fun k hk => hk) hT⟩
theorem GivI.next {v : Nat} {C : Cl} {g : List Int} {s sc : PS} {j : Nat} {l : Int} (h : GivI v C g s sc j) (hq : areL v g = true) (hl : g[j]? = some l) (hn : sc.hol (-l) = false) : GivI v C g s (sc.come l) (j + 1) := by
  have hm := List.mem_of_getElem? hl
  have hll := List.all_eq_true.1 hq l hm
  obtain ⟨q1, q2, q3, q4, q5, q6⟩ := come_parts (s := sc) (x := l)
  refine ⟨?_, fun y hy => ?_, fun y hy => ?_, ?_, fun hb => ?_⟩
  · have e := h.same
    unfold PS.come
    split
    · exact e
    · rw [e]
  · rw [List.take_add_one, hl] at hy
    rw [hol_come]
    rcases List.mem_append.1 hy with hy | hy
    · rw [h.all y hy]; rfl
    · simp at hy; rw [hy]; simp
  · unfold PS.come at hy
    split at hy
    · exact h.neg y hy
    · rcases List.mem_append.1 hy with hy | hy
      · exact h.neg y hy
      · simp at hy; rw [hy]; exact hm
  · unfold PS.come
    split
    · have := h.len; omega
    · show (sc.T ++ [l]).length ≤ _
      have := h.len; simp; omega
  · have := (h.ri hb).come (x := l) (fun A _ hg => hg _ hm) hn hll
    rw [q5]; exact this
theorem GivI.no {v : Nat} {C : Cl} {g : List Int} {s sc : PS} {j : Nat} {l : Int} (h : GivI v C g s sc j) (hci : CI v C s) (hl : g[j]? = some l) (hh : sc.hol (-l) = true) : Bad C g := by
  have hml := List.mem_of_getElem? hl
  cases hb : s.br with
  | true => exact (hci.bad hb).more fun k hk => hk
  | false =>
    intro A hA hg
    have := (h.ri hb).so hh A hA hg
    exact hA.one l (hg l hml) this
theorem shut_units {v : Int} {C : Cl} {g : List Int} {A : Int → Prop} (hm : mayC v C = true) (hs : Shut C A) (hg : ∀ l ∈ g, A l) : (unitsC v C g).2 = true := by
  cases hu : (unitsC v C g).2 with
  | true => rfl
  | false => exact (units_bad hm hu A hs hg).elim
theorem refu_any {B v : Nat} {D : Cl} {W0 W : World} {k : Nat} {L : Lay} {s : PS} {gl : Option Addr} {g : List Int} {n cap : Nat} (h : KAt B v W k L s (s.T.elem ·) none) (hv : v ≤ 1000000) (hB : B = W0.heap.size) (hb0 : Below B W0 W) (hm : mayC v D = true) (hci : CI v D s) (hG : IntsAt W0 gl g) (hn : n = g.length) (hgl : areL v g = true) (hgn : n ≤ 1000000) (hsz : s.ids.length ≤ 1000000) (hls : ∀ c ∈ s.ids, (s.lit c).length ≤ 1000000) :
    Calls Try.prog 20 #[.pointer (some ⟨k, 0, none⟩), .slice gl n cap] W fun e w => e = .returned (.bool (!(unitsC v D g).2)) ∧ Below B W w := by
  have HB := Lib.hid (And.intro hB hb0)
  have HG := Lib.hid hG
  have HN := Lib.hid hn
  have HGL := Lib.hid hgl
  have HM := Lib.hid (And.intro hm hci)
  have HLS := Lib.hid (And.intro hsz hls)
  have HFG := Lib.hid (forget_any h)
  have HK := Lib.hid h
  clear h hB hb0 hm hci hG hgl hls hn hsz
  go_enter Try.func20, Try.ntmps20
  go_wp2_with fail
  refine HFG.out.mono ?_
  rintro e w1 ⟨rfl, L1, hk1, hp1⟩
  have HK1 : Hid (KAt B v w1 k L1 { s with T := [] } (fun _ => false) none ∧ Below B W w1 ∧ CI v D { s with T := [] }) := Lib.hid ⟨hk1, Kept.belowB HK.out (by have := HB.out.2.size; have := HB.out.1; omega) hp1, HM.out.2.clear⟩
  clear hk1 hp1 HFG HK
  go_wp2_with fail
  go_loopg [11] n (fun gk v11 wr => ∃ (j : Nat) (Lj : Lay) (sj : PS), v11 = .int .i64 ((j : Nat) : Int) ∧ j + gk = n ∧ KAt B v wr k Lj sj (sj.T.elem ·) none ∧ Below B W wr ∧ GivI v D g { s with T := [] } sj j)
  case atStart => exact ⟨0, L1, { s with T := [] }, rfl, by omega, HK1.out.1, HK1.out.2.1, GivI.zero HK1.out.2.2 rfl⟩
  case round =>
    obtain ⟨j, Lj, sj, rfl, hj, hkj, hbj, hlj⟩ := hrel
    have HJ := Lib.hid hj
    have j0 : (0 : Int) ≤ ((j : Nat) : Int) := by omega
    have HKJ := Lib.hid (And.intro hkj (And.intro hbj hlj))
    have hBs : B ≤ wr.heap.size := Nat.le_trans (Nat.le_of_eq HB.out.1) (HB.out.2.trans hbj).size
    clear hkj hbj hlj
    by_cases hlt2 : j < n
    · have q2 : ((j : Nat) : Int) < ((n : Nat) : Int) := by omega
      obtain ⟨l, hl⟩ : ∃ l, g[j]? = some l := ⟨_, List.getElem?_eq_getElem (by have := HN.out; omega)⟩
      obtain ⟨kb, ko, rfl, hkb, hlc⟩ := ints_at HG.out hl
      have hlc : wr.cell? ⟨kb, ko + j, none⟩ = some (.int .i64 l) := ((HB.out.2.trans HKJ.out.2.1).cell (p := ⟨kb, ko + j, none⟩) (by have := HB.out.1; show kb < B; omega)).trans hlc
      have hll := List.all_eq_true.1 HGL.out l (List.mem_of_getElem? hl)
      have HH := Lib.hid (holds_any HKJ.out.1 hv (isL_neg hll))
      have l1 := isL_ne hll
      have l2 : wrap64 (-l) = -l := by unfold wrap64; omega
      have HLL := Lib.hid (And.intro hl hll)
      clear hj hl hll hkb
      cases hol : sj.hol (-l) with
      | true =>
        rw [hol] at HH
        have HU := Lib.hid (bad_units HM.out.1 HGL.out (HKJ.out.2.2.no HK1.out.2.2 HLL.out.1 hol))
        clear hol
        go_wp2_with fail
        refine HH.out.mono ?_
        rintro e w2 ⟨rfl, rfl⟩
        clear HH hlc
        go_wp2_with fail
        go_ret
        exact ⟨by rw [HU.out]; rfl, HKJ.out.2.1⟩
      | false =>
        rw [hol] at HH
        have HCM := Lib.hid (come_any HKJ.out.1 hv hBs HLL.out.2 (by have := HKJ.out.2.2.len; omega))
        have HNX := Lib.hid (HKJ.out.2.2.next HGL.out HLL.out.1 hol)
        clear hol
        go_wp2_with fail
        refine HH.out.mono ?_
        rintro e w2 ⟨rfl, rfl⟩
        clear HH hlc
        go_wp2_with fail
        refine HCM.out.mono ?_
        rintro e w3 ⟨rfl, L3, hk3, hp3⟩
        have H3 : Hid (KAt B v w3 k L3 (sj.come l) ((sj.come l).T.elem ·) none ∧ Below B W w3) := Lib.hid ⟨hk3, HKJ.out.2.1.trans (Kept.belowB HKJ.out.1 hBs hp3)⟩
        clear hk3 hp3 HCM
        go_wp2_with fail
        go_roundg (gk - 1)
        case measure => have := HJ.out; omega
        case rel => exact ⟨j + 1, L3, sj.come l, rfl, by have := HJ.out; omega, H3.out.1, H3.out.2, HNX.out⟩
    · obtain rfl : j = n := by omega
      have q2 : decide (((j : Nat) : Int) < ((j : Nat) : Int)) = false := decide_eq_false (by omega)
      have HF : Hid (Calls Try.prog 31 #[.pointer (some ⟨k, 0, none⟩)] wr fun e w => e = .returned (.bool (unitsC v D g).2) ∧ Below B W w) := by
        show Calls _ _ _ _ _
        have hsm := HKJ.out.2.2.same
        have hid : sj.ids = s.ids := by rw [hsm]
        have hlt9 : sj.lit = s.lit := by rw [hsm]
        have hbr : sj.br = s.br := by rw [hsm]
        have hcj : CI v D sj := by rw [hsm]; exact HM.out.2.setT _
        have hin : ∀ l ∈ g, sj.hol l = true := fun l hl => HKJ.out.2.2.all l (by rw [List.take_of_length_le (by have := HN.out; omega)]; exact hl)
        cases hb : s.br with
        | true =>
          refine (follow_broken HKJ.out.1 (hbr.trans hb)).mono ?_
          rintro e w ⟨rfl, rfl⟩
          exact ⟨by rw [bad_units HM.out.1 HGL.out ((HM.out.2.bad hb).more fun k hk => hk)], HKJ.out.2.1⟩
        | false =>
          refine (follow_any HKJ.out.1 hv hBs (hbr.trans hb) (HKJ.out.2.2.ri hb) (by rw [hid]; exact HLS.out.1) (fun c hc => by rw [hid] at hc; rw [hlt9]; exact HLS.out.2 c hc)).mono ?_
          rintro e w ⟨b, L2, s2, rfl, hk2, hp2, hl2, hr2, ht2, hf2⟩
          have hbw := HKJ.out.2.1.trans (Kept.belowB HKJ.out.1 hBs hp2)
          have hc2 := hcj.of (hbr.trans hb) hl2 hr2
          cases b with
          | true => exact ⟨by rw [shut_units HM.out.1 (hr2.shut (ht2 rfl) (hc2.cmp (hl2.br.trans (hbr.trans hb))).all) (fun l hl => hl2.hol (hin l hl))], hbw⟩
          | false => exact ⟨by rw [bad_units HM.out.1 HGL.out (hf2 rfl)], hbw⟩
      clear hj
      go_wp2_with fail
      refine HF.out.mono ?_
      rintro e w2 ⟨rfl, hb2⟩
      have H2 := Lib.hid hb2
      clear hb2 HF
      go_wp2_with fail
      go_ret
      exact ⟨rfl, H2.out⟩
end Rw
end Go.Proofs.Ytmgkgbhkaoflhaa
