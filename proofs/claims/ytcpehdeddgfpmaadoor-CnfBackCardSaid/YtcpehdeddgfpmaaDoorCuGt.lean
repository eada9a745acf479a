/-
What the program's Get makes of a text, and that it is what the document makes of it. Plain facts.
What the program makes of a text is what the document makes of it. Plain facts.
The program's Get, whatever the text: what is refused.
The program's Get, whatever the text: what is got.
The program's Get, whatever the text: the walk of a text that is one.
-/
import Derived.Test.YtcpehdeddgfpmaaDoorCuHead
import Derived.Test.YtcpehdeddgfpmaaDoorCuAre
import Derived.Test.YtcpehdeddgfpmaaDoorCuLits
namespace Go.Proofs.YtcpehdeddgfpmaaDoor
open Go.RowKit
namespace Cf
set_option maxHeartbeats 1600000

def getP (t : By) : Option (Int × Cl) := match headP (cutA 10 t) with
  | none => none
  | some (v, c) => if areP v (cutB 10 t) c = true ∧ Lib.hasSuffix t [10] = true then some (v, (linesL (cutB 10 t)).map fun x => litsP (splitB 32 x)) else none

theorem snocL {p : List By → Prop} (h0 : p []) (h1 : ∀ s c, p s → p (s ++ [c])) (l : List By) : p l := by
  rw [← List.reverse_reverse l]
  induction l.reverse with
  | nil => exact h0
  | cons c t ih => rw [List.reverse_cons]; exact h1 _ _ ih
/-! ### words -/
theorem decI_not {z : Int} {c : UInt8} (hc : digB c = false) (h45 : c ≠ 45) : c ∉ decI z := by
  unfold decI
  intro h
  split at h
  · rcases List.mem_cons.1 h with h | h
    · exact h45 h
    · have := dec_digits _ _ h; rw [hc] at this; cases this
  · have := dec_digits _ _ h; rw [hc] at this; cases this
theorem rdN_dec {s : By} {z : Int} (h : rdN s = some z) : decI z = s := by
  unfold rdN at h
  split at h
  · split at h
    · injection h with h; subst h; assumption
    · cases h
  · cases h
theorem rdN_no {s : By} {c : UInt8} (hc : digB c = false) (h45 : c ≠ 45) (h : c ∈ s) : rdN s = none := by
  cases hr : rdN s with
  | none => rfl
  | some z => rw [← rdN_dec hr] at h; exact absurd h (decI_not hc h45)
theorem dec0 : decI 0 = [48] := by simp [decI, dec_small (show 0 < 10 by decide)]
theorem rdN_zero {w : By} : rdN w = some 0 ↔ w = [48] := by
  constructor
  · intro h
    have := rdN_dec h
    rw [dec0] at this
    exact this.symm
  · intro h
    subst h
    exact rdN_read (z := 0) (by
      have := read_dec (z := 0) (by decide) (by decide)
      rw [dec0] at this
      exact this)
theorem isL_small {z v : Int} (hv : v ≤ 1000000) (h : isL z v = true) : -1000000000 < z ∧ z < 1000000000 ∧ z ≠ 0 := by
  unfold isL at h
  simp at h
  omega
def litD (v : Int) (w : By) : Option Int := match readB w with
  | some z => if isL z v then some z else none
  | none => none
theorem litD_is {v : Int} (hv : v ≤ 1000000) (w : By) : litD v w = match rdN w with
    | some z => if isL z v then some z else none
    | none => none := by
  unfold litD
  cases hr : readB w with
  | some z => rw [rdN_read hr]
  | none =>
    cases hn : rdN w with
    | none => rfl
    | some z =>
      by_cases hz : isL z v = true
      · obtain ⟨a, b, _⟩ := isL_small hv hz
        rw [read_rdN hn a b] at hr
        cases hr
      · simp [hz]
theorem mapM_all {β : Type} (f : By → Option β) : ∀ l : List By, l.mapM f = if l.all (fun x => (f x).isSome) = true then some (l.filterMap f) else none
  | [] => by simp
  | w :: r => by
    rw [List.mapM_cons, mapM_all f r]
    cases h : f w with
    | none => simp [h]
    | some z =>
      by_cases hr : r.all (fun x => (f x).isSome) = true
      · rw [if_pos hr, if_pos (by simp only [List.all_cons, h, hr]; rfl)]
        simp [h]
      · rw [if_neg hr, if_neg (by simp only [List.all_cons, h, Bool.and_eq_true]; exact fun e => hr e.2)]
        rfl

/-! ### one line -/
theorem runC_false {v : Int} (hv : v ≤ 1000000) : ∀ ws : List By, runC v ws = some false ↔ ws.all (fun x => (litD v x).isSome) = true := by
  intro ws
  refine snocL (p := fun ws => runC v ws = some false ↔ ws.all (fun x => (litD v x).isSome) = true) ?_ ?_ ws
  · simp [runC]
  · intro s w ih
    rw [runC_snoc, List.all_append, Bool.and_eq_true, ← ih]
    simp only [List.all_cons, List.all_nil, Bool.and_true]
    rw [litD_is hv]
    cases hs : runC v s with
    | none => simp [stepC]
    | some en =>
      cases en with
      | true =>
        cases hr : rdN w <;> simp [stepC, hr]
      | false =>
        cases hr : rdN w with
        | none => simp [stepC, hr]
        | some z =>
          by_cases hz : z = 0
          · subst hz
            have : isL 0 v = false := by simp [isL]
            simp [stepC, hr, this]
          · cases hl : isL z v with
            | true => simp [stepC, hr, hl, hz]
            | false => simp [stepC, hr, hl, hz]
theorem runC_true {v : Int} (ws : List By) (w : By) : runC v (ws ++ [w]) = some true ↔ runC v ws = some false ∧ w = [48] := by
  rw [runC_snoc, ← rdN_zero]
  cases hs : runC v ws with
  | none => simp [stepC]
  | some en =>
    cases en with
    | true => cases hr : rdN w <;> simp [stepC, hr]
    | false =>
      cases hr : rdN w with
      | none => simp [stepC, hr]
      | some z =>
        by_cases hz : z = 0
        · subst hz; simp [stepC, hr]
        · cases hl : isL z v with
          | true => simp [stepC, hr, hl, hz]
          | false => simp [stepC, hr, hl, hz]
theorem lits_good {v : Int} (hv : v ≤ 1000000) {ws : List By} (h : ws.all (fun x => (litD v x).isSome) = true) : litsP ws = ws.filterMap (litD v) := by
  unfold litsP
  induction ws with
  | nil => rfl
  | cons w r ih =>
    rw [List.all_cons, Bool.and_eq_true] at h
    have e : litO w = litD v w := by
      have h1 := h.1
      rw [litD_is hv] at h1 ⊢
      unfold litO
      cases hr : rdN w with
      | none => rfl
      | some z =>
        rw [hr] at h1
        by_cases hl : isL z v = true
        · have := (isL_small hv hl).2.2
          simp [hl, this]
        · simp [hl] at h1
    rw [List.filterMap_cons, List.filterMap_cons, e, ih h.2]
theorem split_snoc (c d : UInt8) (hd : d ≠ c) : ∀ s : By, ∃ ws w, splitB c s = ws ++ [w] ∧ splitB c (s ++ [d]) = ws ++ [w ++ [d]]
  | [] => ⟨[], [], rfl, by simp [splitB, hd]⟩
  | b :: r => by
    obtain ⟨ws, w, h1, h2⟩ := split_snoc c d hd r
    by_cases hb : b = c
    · refine ⟨[] :: ws, w, ?_, ?_⟩
      · rw [splitB, if_pos hb, h1]; rfl
      · rw [List.cons_append, splitB, if_pos hb, h2]; rfl
    · cases ws with
      | nil =>
        refine ⟨[], b :: w, ?_, ?_⟩
        · rw [splitB, if_neg hb, h1]; rfl
        · rw [List.cons_append, splitB, if_neg hb, h2]; rfl
      | cons x t =>
        refine ⟨(b :: x) :: t, w, ?_, ?_⟩
        · rw [splitB, if_neg hb, h1]; rfl
        · rw [List.cons_append, splitB, if_neg hb, h2]; rfl
theorem lineC_is {v : Int} (hv : v ≤ 1000000) (x : By) : lineC v x = if clP v x = true then some (litsP (splitB 32 (x ++ [10]))) else none := by
  obtain ⟨ws, w, h1, h2⟩ := split_snoc 32 10 (by decide) x
  have hl : litsP (splitB 32 (x ++ [10])) = litsP ws := by
    rw [h2]
    unfold litsP
    rw [List.filterMap_append]
    have : litO (w ++ [10]) = none := by
      unfold litO
      rw [rdN_no (c := 10) (by decide) (by decide) (by simp)]
    simp [this]
  rw [hl]
  have hcl : clP v x = true ↔ ws.all (fun x => (litD v x).isSome) = true ∧ w = [48] := by
    unfold clP
    rw [decide_eq_true_iff, h1, runC_true, runC_false hv]
  have hd : lineC v x = if (ws ++ [w]).getLast? = some [48] then ((ws ++ [w]).dropLast).mapM (litD v) else none := by
    unfold lineC
    rw [h1]
    rfl
  rw [hd, List.getLast?_concat, List.dropLast_concat, mapM_all]
  by_cases h48 : w = [48]
  · subst h48
    rw [if_pos rfl]
    by_cases ha : ws.all (fun x => (litD v x).isSome) = true
    · rw [if_pos ha, if_pos (hcl.2 ⟨ha, rfl⟩), lits_good hv ha]
    · rw [if_neg ha, if_neg (fun h => ha (hcl.1 h).1)]
  · rw [if_neg (by simpa using h48), if_neg (fun h => h48 (hcl.1 h).2)]
end Cf
end Go.Proofs.YtcpehdeddgfpmaaDoor

namespace Go.Proofs.YtcpehdeddgfpmaaDoor
open Go.RowKit
namespace Cf
set_option maxHeartbeats 1600000

theorem suffix_snoc (s : By) (d : UInt8) : Lib.hasSuffix (s ++ [d]) [10] = (d == 10) := by
  unfold Lib.hasSuffix
  rw [Bool.eq_iff_iff, List.isSuffixOf_iff_suffix, beq_iff_eq]
  constructor
  · rintro ⟨t, ht⟩
    have := congrArg List.getLast? ht
    simpa using this.symm
  · intro h
    subst h
    exact ⟨s, rfl⟩
theorem split_end (c : UInt8) : ∀ s : By, splitB c (s ++ [c]) = splitB c s ++ [[]]
  | [] => by simp [splitB]
  | b :: r => by
    have ih := split_end c r
    by_cases hb : b = c
    · rw [List.cons_append, splitB, if_pos hb, ih, splitB, if_pos hb]; rfl
    · rw [List.cons_append, splitB, if_neg hb, ih]
      conv => rhs; rw [splitB, if_neg hb]
      cases h : splitB c r with
      | nil => exact absurd h (split_ne c r)
      | cons x t => rfl
theorem last_suffix {t : By} (h0 : t ≠ []) : (splitB 10 t).getLast? = some [] ↔ Lib.hasSuffix t [10] = true := by
  obtain ⟨s, d, rfl⟩ : ∃ s d, t = s ++ [d] := ⟨t.dropLast, t.getLast h0, (List.dropLast_concat_getLast h0).symm⟩
  rw [suffix_snoc]
  by_cases hd : d = 10
  · subst hd
    rw [split_end]
    simp
  · obtain ⟨ws, w, _, h2⟩ := split_snoc 10 d hd s
    rw [h2]
    simp [hd]
theorem join_end : ∀ m : List By, joinL (m ++ [[]]) = m.map (· ++ [10])
  | [] => rfl
  | x :: t => by
    have ih := join_end t
    cases h : t ++ [[]] with
    | nil => simp at h
    | cons y z =>
      rw [List.cons_append, h]
      rw [h] at ih
      simp only [joinL, List.map_cons, ih]
theorem trim_end (x : By) : trimN (x ++ [10]) = x := by
  unfold trimN Lib.trimSuffix
  rw [suffix_snoc]
  simp
theorem cut_join {c : UInt8} {l : By} (h : ¬ Lib.indexByte l c = -1) : l = cutA c l ++ c :: cutB c l := by
  have hge := Lib.indexByte_ge l c
  obtain ⟨i, hi⟩ : ∃ i : Nat, Lib.indexByte l c = (i : Int) := ⟨(Lib.indexByte l c).toNat, by omega⟩
  have hs := (Lib.indexByte_some hi).1
  unfold cutA cutB
  rw [if_neg h, if_neg h, hi, Int.toNat_natCast]
  obtain ⟨hil, hv⟩ := List.getElem?_eq_some_iff.1 hs
  rw [← hv, ← List.drop_eq_getElem_cons hil, List.take_append_drop]
theorem index_no {c : UInt8} {l : By} (h : Lib.indexByte l c = -1) : c ∉ l := fun hm => by
  obtain ⟨k, hk⟩ := List.getElem?_of_mem hm
  exact Lib.indexByte_none h k hk
theorem index_yes {c : UInt8} {l : By} (h : ¬ Lib.indexByte l c = -1) : c ∈ l := by
  rw [cut_join h]; simp
theorem rdN_nil : rdN [] = none := rfl
theorem read_none {s : By} (h : rdN s = none) : readB s = none := by
  cases hr : readB s with
  | none => rfl
  | some z => rw [rdN_read hr] at h; cases h

/-- The document's first line. -/
def headD (h : By) (n : Int) : Option Int :=
  let w := splitB 32 h
  if w.length ≠ 4 ∨ w[0]? ≠ some [112] ∨ w[1]? ≠ some [99, 110, 102] then none else
  match readB (w.getD 2 []), readB (w.getD 3 []) with
  | some v, some c => if 0 ≤ v ∧ v ≤ 1000000 ∧ c = n then some v else none
  | _, _ => none
theorem head_is {h : By} {n : Int} (hn0 : 0 ≤ n) (hn1 : n ≤ 1000000) : headD h n = match headP h with
    | some (v, c) => if c = n then some v else none
    | none => none := by
  by_cases hp : Lib.hasPrefix h [112, 32, 99, 110, 102, 32] = true
  · obtain ⟨q, hq⟩ : ∃ q, h = [112, 32, 99, 110, 102, 32] ++ q := by
      unfold Lib.hasPrefix at hp
      rw [List.isPrefixOf_iff_prefix] at hp
      obtain ⟨q, hq⟩ := hp
      exact ⟨q, hq.symm⟩
    have hd : h.drop 6 = q := by rw [hq]; rfl
    have hs : splitB 32 h = [112] :: [99, 110, 102] :: splitB 32 q := by
      rw [hq]
      simp [splitB]
    have hP : headP h = match rdN (cutA 32 q), rdN (cutB 32 q) with
        | some v, some c => if 0 ≤ v ∧ v ≤ 1000000 then some (v, c) else none
        | _, _ => none := by
      unfold headP
      rw [if_pos hp, hd]
      cases rdN (cutA 32 q) <;> cases rdN (cutB 32 q) <;> rfl
    rw [hP]
    unfold headD
    rw [hs]
    by_cases hi : Lib.indexByte q 32 = -1
    · have hb : cutB 32 q = [] := by unfold cutB; rw [if_pos hi]
      rw [split_no hi, hb, rdN_nil]
      simp only [List.length_cons, List.length_nil]
      rw [if_pos (.inl (by decide))]
      cases rdN (cutA 32 q) <;> rfl
    · have hsq : splitB 32 q = cutA 32 q :: splitB 32 (cutB 32 q) := by rw [split_cut, if_neg hi]
      rw [hsq]
      by_cases hj : Lib.indexByte (cutB 32 q) 32 = -1
      · rw [split_no hj]
        generalize cutA 32 q = a
        generalize cutB 32 q = b
        simp only [List.length_cons, List.length_nil]
        rw [if_neg (by simp)]
        simp only [List.getD_cons_succ, List.getD_cons_zero]
        cases ha : rdN a with
        | none => rw [read_none ha]
        | some v =>
          cases hb : rdN b with
          | none => rw [read_none hb]; cases readB a <;> rfl
          | some c =>
            by_cases hv : 0 ≤ v ∧ v ≤ 1000000
            · rw [read_rdN ha (by omega) (by omega)]
              by_cases hc : c = n
              · rw [read_rdN hb (by omega) (by omega)]
                simp [hv, hc]
              · cases hbr : readB b with
                | none => simp [hv, hc]
                | some c' =>
                  have := rdN_read hbr
                  rw [hb] at this
                  injection this with this
                  subst this
                  simp [hv, hc]
            · cases har : readB a with
              | none => simp [hv]
              | some v' =>
                have := rdN_read har
                rw [ha] at this
                injection this with this
                subst this
                cases readB b with
                | none => simp [hv]
                | some c' =>
                  have : ¬ (0 ≤ v ∧ v ≤ 1000000 ∧ c' = n) := fun e => hv ⟨e.1, e.2.1⟩
                  simp only [if_neg this, if_neg hv]
      · rw [rdN_no (c := 32) (by decide) (by decide) (index_yes hj)]
        have hl : 2 ≤ (splitB 32 (cutB 32 q)).length := by
          rw [split_cut, if_neg hj]
          have := split_ne 32 (cutB 32 (cutB 32 q))
          cases h9 : splitB 32 (cutB 32 (cutB 32 q)) with
          | nil => exact absurd h9 this
          | cons _ _ => simp
        rw [if_pos (.inl (by simp only [List.length_cons]; omega))]
        cases rdN (cutA 32 q) <;> rfl
  · have hP : headP h = none := by unfold headP; rw [if_neg hp]
    rw [hP]
    unfold headD
    simp only
    rw [if_pos]
    by_cases hi : Lib.indexByte h 32 = -1
    · left; rw [split_no hi]; simp
    · rw [split_cut, if_neg hi]
      by_cases h1 : cutA 32 h = [112]
      · by_cases hj : Lib.indexByte (cutB 32 h) 32 = -1
        · left; rw [split_no hj]; simp
        · rw [split_cut, if_neg hj]
          by_cases h2 : cutA 32 (cutB 32 h) = [99, 110, 102]
          · exfalso
            apply hp
            have e1 := cut_join hi
            have e2 := cut_join hj
            rw [h1] at e1
            rw [h2] at e2
            rw [e1, e2]
            rfl
          · right; right; simpa using h2
      · right; left; simpa using h1

theorem headP_small {h : By} {v c : Int} (hh : headP h = some (v, c)) : 0 ≤ v ∧ v ≤ 1000000 := by
  unfold headP at hh
  split at hh
  · split at hh
    · split at hh
      · rename_i hv
        simp only [Option.some.injEq, Prod.mk.injEq] at hh
        rw [← hh.1]; exact hv
      · cases hh
    · cases hh
  · cases hh
theorem getB_is (t : By) : getB t = (let l := splitB 10 t
    if l.length < 2 ∨ l.getLast? ≠ some [] then none else
    match headD (l.headD []) ((l.length : Int) - 2) with
    | some v => match (l.tail.dropLast).mapM (lineC v) with
      | some C => some (v, C)
      | none => none
    | none => none) := by
  unfold getB headD
  simp only
  split
  · rfl
  · split
    · rfl
    · cases readB ((splitB 32 ((splitB 10 t).headD [])).getD 2 []) with
      | none => rfl
      | some v =>
        cases readB ((splitB 32 ((splitB 10 t).headD [])).getD 3 []) with
        | none => rfl
        | some n =>
          by_cases hv : 0 ≤ v ∧ v ≤ 1000000 ∧ n = ((splitB 10 t).length : Int) - 2
          · simp only [if_pos hv]
            cases List.mapM (lineC v) (splitB 10 t).tail.dropLast <;> rfl
          · simp only [if_neg hv]
theorem getP_is {t : By} (ht : t.length ≤ 100000) : getP t = getB t := by
  rw [getB_is]
  simp only
  by_cases hi : Lib.indexByte t 10 = -1
  · rw [if_pos (.inl (by rw [split_no hi]; simp))]
    have hs : Lib.hasSuffix t [10] = false := by
      cases h : Lib.hasSuffix t [10] with
      | false => rfl
      | true =>
        exfalso
        unfold Lib.hasSuffix at h
        rw [List.isSuffixOf_iff_suffix] at h
        exact index_no hi (h.subset (by simp))
    unfold getP
    cases headP (cutA 10 t) with
    | none => rfl
    | some x => simp [hs]
  · have hl : splitB 10 t = cutA 10 t :: splitB 10 (cutB 10 t) := by rw [split_cut, if_neg hi]
    have h0 : t ≠ [] := fun e => by subst e; exact hi rfl
    have hm := split_ne 10 (cutB 10 t)
    by_cases hs : Lib.hasSuffix t [10] = true
    · have hlast := (last_suffix h0).2 hs
      have hlm : (splitB 10 (cutB 10 t)).getLast? = some [] := by
        rw [hl] at hlast
        cases h9 : splitB 10 (cutB 10 t) with
        | nil => exact absurd h9 hm
        | cons y z => rw [h9] at hlast; simpa using hlast
      obtain ⟨m, hmm⟩ : ∃ m, splitB 10 (cutB 10 t) = m ++ [[]] := ⟨(splitB 10 (cutB 10 t)).dropLast, by
        have h1 := List.dropLast_concat_getLast hm
        have h2 : (splitB 10 (cutB 10 t)).getLast hm = [] := by
          have := List.getLast?_eq_some_getLast hm
          rw [hlm] at this
          injection this with this
          exact this.symm
        rw [h2] at h1
        exact h1.symm⟩
      rw [if_neg (by rw [hl, hmm]; rw [hl, hmm] at hlast; simp only [List.length_cons, List.length_append, List.length_nil, hlast]; simp)]
      rw [hl, hmm]
      have hml : m.length ≤ 100001 := by
        have h1 := split_len 10 (cutB 10 t)
        have h2 := cutB_len 10 t
        rw [hmm, List.length_append] at h1
        omega
      have hn : (((cutA 10 t :: (m ++ [[]])).length : Nat) : Int) - 2 = (m.length : Int) := by simp; omega
      have htl : (cutA 10 t :: (m ++ [[]])).tail.dropLast = m := by simp
      have hhd : (cutA 10 t :: (m ++ [[]])).headD [] = cutA 10 t := rfl
      rw [hn, htl, hhd, head_is (by omega) (by omega)]
      have hlines : linesL (cutB 10 t) = m.map (· ++ [10]) := by unfold linesL; rw [hmm, join_end]
      unfold getP
      cases hh : headP (cutA 10 t) with
      | none => rfl
      | some x =>
        obtain ⟨v, c⟩ := x
        have hv := headP_small hh
        have har : areP v (cutB 10 t) c = (m.all (clP v) && ((m.length : Int) == c)) := by
          unfold areP
          rw [hlines, List.all_map, List.length_map]
          congr 2
          funext x
          simp only [Function.comp]
          unfold okN
          rw [trim_end]
        simp only [har, hs, and_true]
        by_cases hc : c = (m.length : Int)
        · subst hc
          have hall : m.all (fun x => (lineC v x).isSome) = m.all (clP v) := by
            congr 1
            funext x
            rw [lineC_is hv.2]
            cases clP v x <;> rfl
          rw [if_pos rfl]
          simp only
          rw [mapM_all, hall]
          cases ha : m.all (clP v) with
          | false => simp
          | true =>
            have hfm : m.filterMap (lineC v) = m.map (fun x => litsP (splitB 32 (x ++ [10]))) := by
              rw [List.all_eq_true] at ha
              clear hall har hlines htl hhd hn hml hmm hlast hl hh
              induction m with
              | nil => rfl
              | cons a r ih =>
                rw [List.filterMap_cons, lineC_is hv.2, if_pos (ha a (by simp))]
                simp only [List.map_cons]
                rw [ih (fun x hx => ha x (by simp [hx]))]
            rw [hlines, hfm]
            simp
        · have hc2 : ((m.length : Int) == c) = false := by simpa using fun e : (m.length : Int) = c => hc e.symm
          simp [hc2, hc]
    · have hlast : ¬ (splitB 10 t).getLast? = some [] := fun e => hs ((last_suffix h0).1 e)
      rw [if_pos (.inr hlast)]
      unfold getP
      cases headP (cutA 10 t) with
      | none => rfl
      | some x => simp [hs]
end Cf
end Go.Proofs.YtcpehdeddgfpmaaDoor

namespace Go.Proofs.YtcpehdeddgfpmaaDoor
open Go.RowKit Go.Shelf
namespace Cf
set_option maxHeartbeats 3200000
set_option maxRecDepth 100000

theorem getP_none {t : By} (h : getP t = none) : headP (cutA 10 t) = none ∨ ∃ v c, headP (cutA 10 t) = some (v, c) ∧ (areP v (cutB 10 t) c = false ∨ Lib.hasSuffix t [10] = false) := by
  unfold getP at h
  cases hh : headP (cutA 10 t) with
  | none => exact .inl rfl
  | some x =>
    obtain ⟨v, c⟩ := x
    rw [hh] at h
    simp only at h
    refine .inr ⟨v, c, rfl, ?_⟩
    cases ha : areP v (cutB 10 t) c with
    | false => exact .inl rfl
    | true =>
      cases hb : Lib.hasSuffix t [10] with
      | false => exact .inr rfl
      | true => rw [ha, hb] at h; simp at h
theorem cget_no {s : ByteArray} {W : World} (hE : Sees W) (hs : s.size ≤ 100000) (hG : getP s.data.toList = none) :
    Calls Tryd.prog 6 #[.string s] W fun e w => e = .returned (.tuple #[.agg #[.int .i64 0, .slice none 0 0], .int .i64 5]) ∧ Below W.heap.size W w := by
  obtain ⟨t, ht⟩ : ∃ t, t = s.data.toList := ⟨_, rfl⟩
  have htl : t.length ≤ 100000 := by rw [ht]; exact hs
  have hA := cutA_len 10 t
  have hBl := cutB_len 10 t
  have HC := Lib.hid (fun w : World => scut_all s 10 w (by omega))
  rw [← ht] at HC hG
  have HHD := Lib.hid (fun (w : World) (hb : Below W.heap.size W w) => heading_any (s := ⟨(cutA 10 t).toArray⟩) (hE.keep hb) (show (cutA 10 t).length ≤ _ by omega))
  have HAR := Lib.hid (fun (v c : Int) (hv : 0 ≤ v ∧ v ≤ 1000000) (w : World) (hb : Below W.heap.size W w) => areclauses_any (v := v) (c := c) (s := ⟨(cutB 10 t).toArray⟩) (hE.keep hb) (show (cutB 10 t).length ≤ _ by omega) hv.1 hv.2)
  have HSU : Hid (∀ w, Calls Tryd.prog 17 #[.string s, .string ⟨#[10]⟩] w fun e w' => e = .returned (.bool (Lib.hasSuffix t [10])) ∧ w' = w) := Lib.hid (fun w => by
    have := Tryd.strings_HasSuffix s ⟨#[10]⟩ w (by omega)
    rw [ht]
    exact this)
  have HG := Lib.hid (getP_none hG)
  clear hE ht htl hA hBl hG
  go_enter Tryd.func6, Tryd.ntmps6
  go_wp2_with fail
  refine (HC.out _).mono ?_
  rintro e w ⟨b0, rfl, hb⟩
  have HR : Hid (ResAt W.heap.size 0 (.slice none 0 0) w) := Lib.hid ((ResAt.new).call hb)
  have HB := Lib.hid (bel_call (bel_alloc (Below.refl W.heap.size W) (.cells #[.int .i64 0, .slice none 0 0] 25)) hb)
  clear hb
  go_wp2_with fail
  refine (HHD.out _ HB.out).mono ?_
  rintro e w2 ⟨hb2, v, c, b, rfl, t1, t2⟩
  have HB2 := Lib.hid (bel_call HB.out hb2)
  have HR2 := Lib.hid (HR.out.call hb2)
  have HT := Lib.hid (And.intro t1 t2)
  clear hb2 HR t1 t2
  have hz : ∀ w : World, (Instr.build 25 #[]).run Tryd.prog w = .ok (.agg #[.int .i64 0, .slice none 0 0]) w := build_zero
  cases b with
  | false =>
    have c0 := HR2.out.c0
    have c1 := HR2.out.c1
    have lb := HR2.out.lt
    have f0 := HR2.out.fr 0
    have f1 := HR2.out.fr 1
    go_wp2_with fail
    obtain ⟨p0, p1⟩ := two_put (v := 0) (u := .slice none 0 0) HR2.out
    exact bodyPost_ret (v := .tuple #[.agg #[.int .i64 0, .slice none 0 0], .int .i64 5]) (by simp [results, Tryd.results6, go_sem, p0, p1]) rfl ⟨rfl, by repeat (first | exact HB2.out | (refine Below.setCell ?_ (by simp) _))⟩
  | true =>
    have hh := HT.out.1 rfl
    have HV := Lib.hid (headP_small hh)
    have HX : Hid (areP v (cutB 10 t) c = false ∨ Lib.hasSuffix t [10] = false) := Lib.hid (by
      rcases HG.out with h | ⟨v', c', h, h2⟩
      · have h0 : headP (cutA 10 t) = some (v, c) := hh
        rw [h] at h0; cases h0
      · have h0 : headP (cutA 10 t) = some (v, c) := hh
        rw [h] at h0
        injection h0 with h0
        injection h0 with h1 h3
        subst h1 h3
        exact h2)
    clear hh
    go_wp2_with fail
    refine (HAR.out v c HV.out _ HB2.out).mono ?_
    rintro e w3 ⟨rfl, hb3⟩
    have HB3 := Lib.hid (bel_call HB2.out hb3)
    have HR3 := Lib.hid (HR2.out.call hb3)
    clear hb3
    have c0 := HR3.out.c0
    have c1 := HR3.out.c1
    have lb := HR3.out.lt
    have f0 := HR3.out.fr 0
    have f1 := HR3.out.fr 1
    cases ha : areP v (cutB 10 t) c with
    | false =>
      clear ha
      go_wp2_with fail
      obtain ⟨p0, p1⟩ := two_put (v := 0) (u := .slice none 0 0) HR3.out
      exact bodyPost_ret (v := .tuple #[.agg #[.int .i64 0, .slice none 0 0], .int .i64 5]) (by simp [results, Tryd.results6, go_sem, p0, p1]) rfl ⟨rfl, by repeat (first | exact HB3.out | (refine Below.setCell ?_ (by simp) _))⟩
    | true =>
      have hsf : Lib.hasSuffix t [10] = false := HX.out.resolve_left (by rw [ha]; simp)
      rw [hsf] at HSU
      clear ha hsf
      go_wp2_with (go_at_call 17; refine (HSU.out _).mono ?_; rintro e w4 ⟨rfl, rfl⟩)
      obtain ⟨p0, p1⟩ := two_put (v := 0) (u := .slice none 0 0) HR3.out
      exact bodyPost_ret (v := .tuple #[.agg #[.int .i64 0, .slice none 0 0], .int .i64 5]) (by simp [results, Tryd.results6, go_sem, p0, p1]) rfl ⟨rfl, by repeat (first | exact HB3.out | (refine Below.setCell ?_ (by simp) _))⟩
end Cf
end Go.Proofs.YtcpehdeddgfpmaaDoor

namespace Go.Proofs.YtcpehdeddgfpmaaDoor
open Go.RowKit Go.Shelf
namespace Cf
set_option maxHeartbeats 4000000
set_option maxRecDepth 100000

theorem row_noncell {V V' : World} {b size n : Nat} {e : TypeId} {v : Value} {xs : List Value} {row : Option Nat} (h : V.ownsRow b e size v n xs) (hg : V.grownBy V' row) (hr : ∀ r, row = some r → ∃ o : Obj, V.heap[r]? = some o ∧ o.isCells = false) : V'.ownsRow b e size v n xs := by
  rcases h with ⟨hl, h5 | ⟨g, cap, cur, hv, hbg, hh, r⟩⟩
  · exact ⟨hl, .inl h5⟩
  · refine ⟨hl, .inr ⟨g, cap, cur, hv, hbg, (hg.block g (Array.getElem?_eq_some_iff.1 hh).1 (fun e => ?_)).trans hh, r⟩⟩
    obtain ⟨o, ho, hc⟩ := hr g e.symm
    rw [hh] at ho; cases ho; cases hc
theorem ClsOwn.noncell {B : Nat} {cv : Value} {C : Cl} {V V' : World} {row : Option Nat} (h : ClsOwn B cv C V) (hg : V.grownBy V' row) (hr : ∀ r, row = some r → ∃ o : Obj, V.heap[r]? = some o ∧ o.isCells = false) : ClsOwn B cv C V' := by
  obtain ⟨xs, h1, h2⟩ := h.row
  refine ⟨xs, row_noncell h1 hg hr, fun i k hk => ?_⟩
  obtain ⟨al, c, q1, q2, q3⟩ := h2 i k hk
  refine ⟨al, c, q1, q2.size hg.size (.inl rfl), ?_⟩
  rcases q3 with h | ⟨bl, ol, ha, hl, hc⟩
  · exact .inl h
  · exact .inr ⟨bl, ol, ha, Nat.lt_of_lt_of_le hl hg.size, fun j v hj => cell_kept (hc j v hj) hg hr⟩

/-- 'c.Clauses = append(c.Clauses, k)', the append alone. -/
theorem cls_run {B : Nat} {w0 : World} {cv : Value} {C : Cl} {k : List Int} {kal : Option Addr} {kc : Nat} (h : ClsOwn B cv C w0) (hB : B ≤ w0.heap.size) (hI : IntsAt w0 kal k) (hin : InAt B cv k kal w0) (hl : C.length + 1 ≤ 1000000) :
    ∃ a' c' w', (Builtin.append_ #[23, 23] 23 #[cv, .slice (some ⟨w0.heap.size, 0, none⟩) 1 1]).run Tryd.prog (w0.alloc (.cells #[.slice kal k.length kc] 34)) = .ok (.slice a' (C.length + 1) c') w' ∧
      ClsOwn B (.slice a' (C.length + 1) c') (C ++ [k]) w' ∧ (w0.alloc (.cells #[.slice kal k.length kc] 34)).grownBy w' cv.ownBlock := by
  obtain ⟨i0, hinfo, hi0, hi1, hi2⟩ := infos info_ints
  have ka := bel_alloc (Below.refl w0.heap.size w0) (.cells #[.slice kal k.length kc] 34)
  obtain ⟨xs, hr, hxs⟩ := h.row
  have hsz : (w0.alloc (.cells #[.slice kal k.length kc] 34)).heap.size = w0.heap.size + 1 := by simp
  obtain ⟨v', w2, hrun, hrow, hgr, _, hloc⟩ := run_append_own_at (P := Tryd.prog) (w0.alloc (.cells #[.slice kal k.length kc] 34)) B 23 23 34 i0 (.slice none 0 0) 1 24 Tryd.underlying23 hinfo hi0 hi1 hi2 rfl (by decide) cv C.length xs (row_bel hr ka) ⟨w0.heap.size, 0, none⟩ 1 1 [.slice kal k.length kc] rfl (cell_one_new w0 _ 34) (by intro u hu; simp at hu; subst hu; rfl) (by unfold maxLen; omega) (by omega) (by omega)
  have hloc' : v'.ownBlock = cv.ownBlock ∨ ∃ g, v'.ownBlock = some g ∧ w0.heap.size ≤ g := hloc.imp id (fun e => ⟨_, e, by omega⟩)
  have hsz2 : w0.heap.size ≤ w2.heap.size := by have := hgr.size; omega
  have hbk : ∀ bl, B ≤ bl → bl < w0.heap.size → some bl ≠ cv.ownBlock → w2.heap[bl]? = w0.heap[bl]? := fun bl _ h2 h3 => (hgr.block bl (by omega) h3).trans (ka.block bl h2)
  have e1 : (C ++ [k]).length = C.length + 1 := by simp
  have hlen : xs.length = C.length := by
    rcases hr with ⟨hl, _⟩
    simpa using hl
  have hG : ClsOwn B v' (C ++ [k]) w2 := by
    refine ⟨xs ++ [.slice kal k.length kc], by rw [e1]; exact hrow, fun i k' hk => ?_⟩
    by_cases hi : i < C.length
    · rw [List.getElem?_append_left hi] at hk
      obtain ⟨al, c, q1, q2, q3⟩ := hxs i k' hk
      exact ⟨al, c, by rw [List.getElem?_append_left (by omega)]; exact q1, q2.size hsz2 hloc', in_block q2 q3 hbk hsz2⟩
    · rw [List.getElem?_append_right (by omega)] at hk
      have hi0 : i - C.length = 0 := by
        have := (List.getElem?_eq_some_iff.1 hk).1
        simp at this
        omega
      rw [hi0] at hk
      obtain rfl : k = k' := by simpa using hk
      exact ⟨kal, kc, by rw [List.getElem?_append_right (by omega), hlen, hi0]; rfl, hin.size hsz2 hloc', in_block hin hI hbk hsz2⟩
  obtain ⟨a', c', rfl⟩ := hG.shape
  rw [e1] at hG hrun
  exact ⟨a', c', w2, hrun, hG, hgr⟩

/-- Between two lines. -/
def GtI (W : World) (v : Int) (bc : Nat) (Cs : Cl) (k : Nat) (V : World) : Prop :=
  ResAt W.heap.size 0 (.slice none 0 0) V ∧ (∃ cv, ResAt bc v cv V ∧ ClsOwn (bc + 2) cv (Cs.take k) V) ∧ Below W.heap.size W V ∧ bc + 2 ≤ V.heap.size
theorem GtI.kept {W : World} {v : Int} {bc : Nat} {Cs : Cl} {k : Nat} {V V' : World} {row : Option Nat} (hbc : W.heap.size < bc) (h : GtI W v bc Cs k V) (hg : V.grownBy V' row) (hr : ∀ r, row = some r → bc + 2 ≤ r ∧ ∃ o : Obj, V.heap[r]? = some o ∧ o.isCells = false) : GtI W v bc Cs k V' := by
  obtain ⟨h1, ⟨cv, h2, h3⟩, h4, h5⟩ := h
  exact ⟨h1.grown hg (fun e => by have := (hr _ e.symm).1; omega), ⟨cv, h2.grown hg (fun e => by have := (hr _ e.symm).1; omega), h3.noncell hg (fun r e => (hr r e).2)⟩, h4.grown hg (by omega) (fun r e => by have := (hr r e).1; omega), Nat.le_trans h5 hg.size⟩
theorem GtI.set {W : World} {v : Int} {bc : Nat} {Cs : Cl} {k : Nat} {V : World} (hbc : W.heap.size < bc) (h : GtI W v bc Cs k V) (u : Value) : GtI W v bc Cs k (V.setCell ⟨bc + 1, 0, none⟩ u) := by
  obtain ⟨h1, ⟨cv, h2, h3⟩, h4, h5⟩ := h
  exact ⟨h1.other (show bc + 1 ≠ W.heap.size by omega), ⟨cv, h2.other (show bc + 1 ≠ bc by omega), h3.setCell (show bc + 1 < bc + 2 by omega)⟩, h4.setCell (show W.heap.size ≤ bc + 1 by omega) u, by simpa [World.setCell] using h5⟩
theorem GtI.call {W : World} {v : Int} {bc : Nat} {Cs : Cl} {k : Nat} {V V' : World} (hbc : W.heap.size < bc) (h : GtI W v bc Cs k V) (hb : Below V.heap.size V V') : GtI W v bc Cs k V' := by
  obtain ⟨h1, ⟨cv, h2, h3⟩, h4, h5⟩ := h
  exact ⟨h1.call hb, ⟨cv, h2.call hb, h3.call hb⟩, h4.trans (hb.mono (by omega)), Nat.le_trans h5 hb.size⟩
end Cf
end Go.Proofs.YtcpehdeddgfpmaaDoor

namespace Go.Proofs.YtcpehdeddgfpmaaDoor
open Go.RowKit Go.Shelf
namespace Cf
set_option maxHeartbeats 6400000
set_option maxRecDepth 100000

theorem getP_some {t : By} {v : Int} {C : Cl} (h : getP t = some (v, C)) : ∃ c, headP (cutA 10 t) = some (v, c) ∧ areP v (cutB 10 t) c = true ∧ Lib.hasSuffix t [10] = true ∧ C = (linesL (cutB 10 t)).map fun x => litsP (splitB 32 x) := by
  unfold getP at h
  cases hh : headP (cutA 10 t) with
  | none => rw [hh] at h; cases h
  | some x =>
    obtain ⟨v', c⟩ := x
    rw [hh] at h
    simp only at h
    by_cases hc : areP v' (cutB 10 t) c = true ∧ Lib.hasSuffix t [10] = true
    · rw [if_pos hc] at h
      injection h with h
      injection h with h1 h2
      subst h1
      exact ⟨c, rfl, hc.1, hc.2, h2.symm⟩
    · rw [if_neg hc] at h; cases h
theorem areP_count {v c : Int} {t : By} (h : areP v t c = true) : c = ((linesL t).length : Int) := by
  unfold areP at h
  rw [Bool.and_eq_true] at h
  exact (beq_iff_eq.1 h.2).symm

theorem wpIn_append_run {F : Fence} {n : Nat} {P : Program} {o : Oper} {a : Act} {w w' : World} {K : Act → World → Prop} {Q : Exit → Act → World → Prop} {sv xv v' : Value} (s x : Operand) (t : TypeId) (ho : o.op = .call { callee := .builtin .append, args := #[s, x], argTypes := #[t, t] }) (ht : o.type = t)
    (hs : a.eval s = sv) (hx : a.eval x = xv) (hr : (Builtin.append_ #[t, t] t #[sv, xv]).run P w = .ok v' w') (h : K (a.put o.dst v') w') : Oper.wpIn F n P o a w K Q := by
  unfold Oper.wpIn
  refine ⟨by simp [Oper.about, ho, resolve, Target.leads, Sem.run_pure], ?_⟩
  rw [Oper.semAt_plain F _ _ (by rw [ho]; intro c hc'; cases hc')]
  simp [execOp, ho, ht, resolve, invoke, builtin, hs, hx, hr, Result.andThen]
  exact h
theorem own_ints {B n c : Nat} {a : Option Addr} {T : List Int} {w : World} (h : w.ownsRow B 3 1 (.slice a n c) T.length (intV T)) : IntsAt w a T := by
  have hr := h
  rcases h with ⟨_, ⟨h1, h2⟩ | ⟨g, cap, cur, hv, hb, hh, _⟩⟩
  · left; exact List.length_eq_zero_iff.1 h2
  · right
    injection hv with e1 e2 e3
    subst e1
    refine ⟨g, 0, rfl, (Array.getElem?_eq_some_iff.1 hh).1, fun j v hj => ?_⟩
    have := hr.cells (g := g) rfl j (.int .i64 v) (by simp [intV, hj])
    have e : (⟨g, 0, none⟩ : Addr).add j = ⟨g, 0 + j, none⟩ := by
      unfold Addr.add
      split <;> simp_all
    rw [e] at this
    exact this
theorem own_in {B B' c : Nat} {a : Option Addr} {T : List Int} {w : World} {cv : Value} (h : w.ownsRow B' 3 1 (.slice a T.length c) T.length (intV T)) (hB : B ≤ B') (hcv : ∀ g, cv.ownBlock = some g → g < B') : InAt B cv T a w := by
  rcases h with ⟨_, ⟨h1, h2⟩ | ⟨g, cap, cur, hv, hb, hh, _⟩⟩
  · left; exact List.length_eq_zero_iff.1 h2
  · right
    injection hv with e1 e2 e3
    subst e1
    exact ⟨g, 0, rfl, by omega, (Array.getElem?_eq_some_iff.1 hh).1, fun e => by have := hcv g e.symm; omega⟩
theorem gt_step {W V V1 w' : World} {v : Int} {bc k : Nat} {Cs : Cl} {kk : List Int} {cv nv : Value} {o : Obj} (hbc : W.heap.size < bc) (h1 : ResAt W.heap.size 0 (.slice none 0 0) V) (h2 : ResAt bc v cv V) (h3 : ClsOwn (bc + 2) cv (Cs.take k) V) (h4 : Below W.heap.size W V) (h5 : bc + 2 ≤ V.heap.size) (hb : Below V.heap.size V V1)
    (hk : Cs[k]? = some kk) (ho : ClsOwn (bc + 2) nv (Cs.take k ++ [kk]) w') (hg : (V1.alloc o).grownBy w' cv.ownBlock) :
    KeepsOthers V (w'.setCell ⟨bc, 1, none⟩ nv) ∧ Same [bc + 1] V (w'.setCell ⟨bc, 1, none⟩ nv) ∧ GtI W v bc Cs (k + 1) (w'.setCell ⟨bc, 1, none⟩ nv) := by
  have ha : Below V1.heap.size V1 (V1.alloc o) := bel_alloc (Below.refl _ _) o
  have hva : Below V.heap.size V (V1.alloc o) := hb.trans (ha.mono hb.size)
  have hsz : (V1.alloc o).heap.size = V1.heap.size + 1 := by simp
  have hob : ∀ g, cv.ownBlock = some g → bc + 2 ≤ g := fun g e => (h3.blk e).1
  have h3a := h3.call hva
  have hne : ∀ b, b < bc + 2 → some b ≠ cv.ownBlock := fun b hb e => by have := hob b e.symm; omega
  refine ⟨((kothers hb).trans (KeepsOthers.alloc V1 o)).trans ((KeepsOthers.of_grownBy hg (fun j ob e hj => ?_)).trans (KeepsOthers.setCell _ _ _)), ?_, ?_⟩
  · obtain ⟨xs, ⟨_, ⟨q1, q2⟩ | ⟨g', cap, cur, hv, hbb, hh, _⟩⟩, _⟩ := h3a.row
    · rw [q1] at e; cases e
    · rw [hv] at e
      injection e with e
      subst e
      rw [hh] at hj
      cases hj; rfl
  · intro c hc
    have hc : c = bc + 1 := by simpa using hc
    subst hc
    have hh : w'.heap[bc + 1]? = V.heap[bc + 1]? := (hg.block _ (by have := hb.size; omega) (hne _ (by omega))).trans (hva.block _ (by omega))
    exact ⟨(World.cell?_setCell_other _ _ _ _ (by simp)).trans (World.cell?_of_block hh), by rw [World.frozen?_setCell]; exact World.frozen?_of_block hh⟩
  · refine ⟨((h1.call hva).grown hg (hne _ (by omega))).other (show bc ≠ W.heap.size by omega), ⟨nv, ((h2.call hva).grown hg (hne _ (by omega))).put, ?_⟩, ?_, ?_⟩
    · have e : Cs.take (k + 1) = Cs.take k ++ [kk] := by rw [List.take_add_one, hk]; rfl
      rw [e]
      exact ho.setCell (show bc < bc + 2 by omega)
    · exact (((h4.trans (hva.mono h4.size)).grown hg (by have := h4.size; have := hb.size; omega) (fun r e => by have := hob r e; omega))).setCell (show W.heap.size ≤ bc by omega) _
    · have := hb.size; have := hg.size
      simp only [World.setCell, Array.size_modify]
      omega

theorem cget_yes {s : ByteArray} {W : World} {v : Int} {C : Cl} (hE : Sees W) (hs : s.size ≤ 50000) (hG : getP s.data.toList = some (v, C)) :
    Calls Tryd.prog 6 #[.string s] W (GetE W (some (v, C))) := by
  obtain ⟨t, ht⟩ : ∃ t, t = s.data.toList := ⟨_, rfl⟩
  have htl : t.length ≤ 50000 := by rw [ht]; exact hs
  have hBl := cutB_len 10 t
  have hA := cutA_len 10 t
  have HC := Lib.hid (fun w : World => scut_all s 10 w (by omega))
  rw [← ht] at HC hG
  obtain ⟨c, hh, har, hsu, hCe⟩ := getP_some hG
  obtain ⟨hv0, hv1⟩ := headP_small hh
  obtain ⟨ls, hls⟩ : ∃ ls, ls = linesL (cutB 10 t) := ⟨_, rfl⟩
  have hcn := areP_count har
  rw [← hls] at hcn hCe
  have hmany : ls.length ≤ 50001 := by
    have := lines_many (cutB 10 t)
    rw [hls]; omega
  have HHD : Hid (∀ w : World, Below W.heap.size W w → Calls Tryd.prog 15 #[.string ⟨(cutA 10 t).toArray⟩] w fun e w' => e = .returned (.tuple #[.int .i64 v, .int .i64 c, .bool true]) ∧ Below w.heap.size w w') := Lib.hid (fun w hb => (heading_any (s := ⟨(cutA 10 t).toArray⟩) (hE.keep hb) (show (cutA 10 t).length ≤ _ by omega)).mono (fun e w' h => by
    obtain ⟨h1, v', c', b, rfl, h2, h3⟩ := h
    cases b with
    | true =>
      have h4 := h2 rfl
      have h4 : headP (cutA 10 t) = some (v', c') := h4
      rw [hh] at h4
      injection h4 with h4
      injection h4 with h5 h6
      subst h5 h6
      exact ⟨rfl, h1⟩
    | false =>
      have h4 : headP (cutA 10 t) = none := h3 rfl
      rw [hh] at h4; cases h4))
  have HAR : Hid (∀ w : World, Below W.heap.size W w → Calls Tryd.prog 16 #[.string ⟨(cutB 10 t).toArray⟩, .int .i64 v, .int .i64 c] w fun e w' => e = .returned (.bool true) ∧ Below w.heap.size w w') := Lib.hid (fun w hb => (areclauses_any (v := v) (c := c) (s := ⟨(cutB 10 t).toArray⟩) (hE.keep hb) (show (cutB 10 t).length ≤ _ by omega) hv0 hv1).mono (fun e w' h => ⟨by rw [h.1, show (⟨(cutB 10 t).toArray⟩ : ByteArray).data.toList = cutB 10 t from rfl, har], h.2⟩))
  have HSU : Hid (∀ w, Calls Tryd.prog 17 #[.string s, .string ⟨#[10]⟩] w fun e w' => e = .returned (.bool true) ∧ w' = w) := Lib.hid (fun w => by
    have := Tryd.strings_HasSuffix s ⟨#[10]⟩ w (by omega)
    rw [ht] at hsu
    rw [← hsu]
    exact this)
  have HLS := Lib.hid hls
  have HMANY := Lib.hid hmany
  have HCE := Lib.hid hCe
  have HBL : Hid ((cutB 10 t).length ≤ 1000000000) := Lib.hid (by omega)
  have HBL2 : Hid ((cutB 10 t).length ≤ 60000) := Lib.hid (by omega)
  have HE := Lib.hid hE
  have hclim : decide (100000 < c) = false := decide_eq_false (by omega)
  have hslim : decide ((1000000 : Int) < ((s.size : Nat) : Int)) = false := decide_eq_false (by omega)
  have hbv : ∀ w : World, (Instr.build 25 #[(0, .int .i64 v)]).run Tryd.prog w = .ok (.agg #[.int .i64 v, .slice none 0 0]) w := fun w => build_v w v
  clear hE ht htl hA hBl hG hh har hsu hCe hv0 hv1 hls hcn hmany
  refine (callsIn_wide (n := 3)).1 ?_
  refine callsIn_of_wp_marks Tryd.func6 rfl trivial ?_ rfl
  simp only [Tryd.ntmps6, List.size_toArray, List.length_cons, List.length_nil, Nat.reduceAdd, Nat.reduceSub, Array.replicate_succ, Array.replicate_zero, List.push_toArray, List.append_toArray, List.nil_append, List.cons_append]
  have hun : ∀ b : Bool, ¬ undef = Value.bool b := fun b h => by cases h
  gi_wp2_with (refine ⟨trivial, ?_⟩; gi_at_call 14; refine (callsIn_wide.2 (HC.out _)).mono ?_; rintro e w ⟨b0, rfl, hb⟩; have HR : Hid (ResAt W.heap.size 0 (.slice none 0 0) w) := Lib.hid ((ResAt.new).call hb); have HB := Lib.hid (bel_call (bel_alloc (Below.refl W.heap.size W) (.cells #[.int .i64 0, .slice none 0 0] 25)) hb); clear hb)
  gi_wp2_with (refine ⟨trivial, ?_⟩; gi_at_call 15; refine (callsIn_wide.2 (HHD.out _ HB.out)).mono ?_; rintro e w2 ⟨rfl, hb2⟩; have HB2 := Lib.hid (bel_call HB.out hb2); have HR2 := Lib.hid (HR.out.call hb2); clear hb2)
  gi_wp2_with (refine ⟨trivial, ?_⟩; gi_at_call 16; refine (callsIn_wide.2 (HAR.out _ HB2.out)).mono ?_; rintro e w3 ⟨rfl, hb3⟩; have HB3 := Lib.hid (bel_call HB2.out hb3); have HR3 := Lib.hid (HR2.out.call hb3); clear hb3)
  gi_wp2_with (refine ⟨trivial, ?_⟩; gi_at_call 17; refine (callsIn_wide.2 (HSU.out _)).mono ?_; rintro e w4 ⟨rfl, rfl⟩)
  gi_wp2_with (refine ⟨trivial, ?_⟩; gi_at_call 18; refine (callsIn_wide.2 (slines_any _ _)).mono ?_; rintro e w5 ⟨rfl, rfl⟩)
  have H6 : Hid (GtI W v w4.heap.size C 0 ((w4.alloc (.cells #[.int .i64 v, .slice none 0 0] 25)).alloc (.cells #[.string ⟨(cutB 10 t).toArray⟩] 9)) ∧ LeftC (w4.heap.size + 1) (cutB 10 t) ((w4.alloc (.cells #[.int .i64 v, .slice none 0 0] 25)).alloc (.cells #[.string ⟨(cutB 10 t).toArray⟩] 9)) ∧ ((w4.alloc (.cells #[.int .i64 v, .slice none 0 0] 25)).alloc (.cells #[.string ⟨(cutB 10 t).toArray⟩] 9)).heap.size = w4.heap.size + 2 ∧ W.heap.size < w4.heap.size) := Lib.hid (by
    have b1 := bel_alloc (Below.refl w4.heap.size w4) (.cells #[.int .i64 v, .slice none 0 0] 25)
    have b2 := bel_alloc (Below.refl (w4.alloc (.cells #[.int .i64 v, .slice none 0 0] 25)).heap.size (w4.alloc (.cells #[.int .i64 v, .slice none 0 0] 25))) (.cells #[.string ⟨(cutB 10 t).toArray⟩] 9)
    refine ⟨⟨(HR3.out.call b1).call b2, ⟨.slice none 0 0, ResAt.new.call b2, ClsOwn.zero⟩, bel_call (bel_call HB3.out b1) b2, by simp⟩, ⟨?_, ?_⟩, by simp, HR3.out.lt⟩
    · unfold strW; go_simp
    · go_simp)
  generalize hU : (w4.alloc (.cells #[.int .i64 v, .slice none 0 0] 25)).alloc (.cells #[.string ⟨(cutB 10 t).toArray⟩] 9) = U at H6 ⊢
  clear hU
  have hz6 := H6.out.2.2.1
  have hbc := H6.out.2.2.2
  refine range_cell (n := 3) rfl (by decide) (gf := 39) (b := w4.heap.size + 1) rfl trivial (enters_of Tryd.func39 (by kernel_rfl) rfl)
    (lines_gives (3 - 1) (w4.heap.size + 1) (by decide) (cutB 10 t) HBL.out)
    (by intro c hc; simp at hc; omega) (by simp) H6.out.2.1 (fun V V' k h => h.same k) rfl
    (GtI W v w4.heap.size C) (fun _ => False)
    (fun k V V' row h hg hr => h.kept hbc hg (fun r e => by have := hr r e; rw [hz6] at this; exact this))
    (fun k V u h => h.set hbc u) (fun k V h => h.kept hbc (row := none) (World.grownBy_alloc V (.cells #[] 3) none |> fun _ => ⟨rfl, rfl, rfl, Nat.le_refl _, fun _ _ _ => rfl⟩) (fun r e => by cases e))
    (fun _ _ _ _ h _ _ => h)
    H6.out.1 (fun x => { tmps := #[.string s, undef, .pointer (some ⟨W.heap.size, 0, none⟩), .int .i64 0, .string ⟨(cutA 10 t).toArray⟩, .string ⟨(cutB 10 t).toArray⟩, .bool b0, .int .i64 v, .int .i64 c, .bool true, .pointer (some ⟨w4.heap.size, 0, none⟩), x, .tuple #[.string ⟨(cutA 10 t).toArray⟩, .string ⟨(cutB 10 t).toArray⟩, .bool b0], .string s, .tuple #[.string ⟨(cutA 10 t).toArray⟩, .string ⟨(cutB 10 t).toArray⟩, .bool b0], .string ⟨(cutA 10 t).toArray⟩, .string ⟨(cutB 10 t).toArray⟩, .bool b0, .tuple #[.int .i64 v, .int .i64 c, .bool true], .string ⟨(cutA 10 t).toArray⟩, .tuple #[.int .i64 v, .int .i64 c, .bool true], .int .i64 v, .int .i64 c, .bool true, .bool true, .bool false, .bool false, .string ⟨(cutB 10 t).toArray⟩, .int .i64 v, .int .i64 c, .bool true, .bool false, .bool false, .bool false, .string s, .bool true, .bool false, .bool false, undef, .int .i64 c, .bool false, .bool false, .string s, .int .i64 (s.size : Int), .bool false, .bool false, undef, .int .i64 v, .agg #[.int .i64 v, .slice none 0 0], .string ⟨(cutB 10 t).toArray⟩, .func (.func 39) #[] #[.pointer (some ⟨w4.heap.size + 1, 0, none⟩)], x, undef, undef, undef, undef, undef, undef, undef, undef], defers := [] }) ?assign ?body ?done ?stop
  case assign =>
    intro l x V K hK
    have hsem := @Oper.semAt_some
    gi_wp2
    exact hK
  case stop =>
    intro D V hD hI hK
    exact hI.elim
  case done =>
    intro D V hD hI hK
    obtain ⟨h1, ⟨cv, h2, h3⟩, h4, h5⟩ := hI
    have hN : C.take (List.map strW (linesL (cutB 10 t))).length = C := by
      rw [List.length_map, List.take_of_length_le]
      rw [HCE.out, List.length_map, HLS.out]
      exact Nat.le_refl _
    rw [hN] at h3
    obtain ⟨ca, cc, rfl⟩ := h3.shape
    have c0 := h2.c0
    have c1 := h2.c1
    have lb := h2.lt
    have r0 := h1.c0
    have r1 := h1.c1
    have l1 := h1.lt
    have f0 := h1.fr 0
    have f1 := h1.fr 1
    have HX := Lib.hid (And.intro h1 (And.intro h3 (And.intro h4 h5)))
    have HD := Lib.hid hD
    have HK := Lib.hid hK
    clear hD hK h1 h2 h3 h4 h5
    gi_wp2
    have hR := (HX.out.1.put0 (u := v)).put (u := .slice ca C.length cc)
    have hK2 := ((KeepsOthers.setCell V ⟨W.heap.size, 0, none⟩ (.int .i64 v)).trans (KeepsOthers.setCell _ ⟨W.heap.size, 1, none⟩ (.slice ca C.length cc))).same D _ HK.out rfl
    have hgD := grownBy_putObj' ((V.setCell ⟨W.heap.size, 0, none⟩ (.int .i64 v)).setCell ⟨W.heap.size, 1, none⟩ (.slice ca C.length cc)) D (.deferred none)
    have hDl := HD.out
    have hR2 := hR.grown hgD (by intro e; injection e with e; omega)
    have q0 := hR2.c0
    have q1 := hR2.c1
    have hcl := ((HX.out.2.1.setCell (p := ⟨W.heap.size, 0, none⟩) (u := .int .i64 v) (show W.heap.size < _ by omega)).setCell (p := ⟨W.heap.size, 1, none⟩) (u := .slice ca C.length cc) (show W.heap.size < _ by omega)).noncell hgD (fun r e => by cases e; exact ⟨_, hK2, rfl⟩)
    refine ⟨by simp, .inl ⟨_, _, rfl, run_takeDeferred hK2, ?_⟩⟩
    refine ⟨.tuple #[.agg #[.int .i64 v, .slice ca C.length cc], .int .i64 0], ?res, getE_some (c := cc) rfl ?bel hcl.cls⟩
    case res => simp [results, Tryd.results6, go_sem, q0, q1]
    case bel => exact ((HX.out.2.2.1.setCell (p := ⟨W.heap.size, 0, none⟩) (Nat.le_refl _) _).setCell (p := ⟨W.heap.size, 1, none⟩) (Nat.le_refl _) _).trans (belowK_b (w := W) (Nat.le_refl _) _ D _ _ (by omega) hK2 rfl rfl)
  case body =>
    intro l k x V hx hI
    obtain ⟨w, hw, rfl⟩ : ∃ w, ls[k]? = some w ∧ x = strW w := by
      rw [← HLS.out, List.getElem?_map] at hx
      cases hq : ls[k]? with
      | none => rw [hq] at hx; cases hx
      | some w => rw [hq] at hx; injection hx with hx; exact ⟨w, rfl, hx.symm⟩
    have hwl : w.length ≤ 100000000 := by
      have := lines_le (by rw [HLS.out] at hw; exact List.mem_of_getElem? hw)
      have := HBL2.out
      omega
    obtain ⟨kk, hkk⟩ : ∃ kk, kk = litsP (splitB 32 w) := ⟨_, rfl⟩
    have hCk : C[k]? = some kk := by rw [HCE.out, List.getElem?_map, hw, hkk]; rfl
    have hkl : k ≤ 50001 := by have := (List.getElem?_eq_some_iff.1 hw).1; have := HMANY.out; omega
    obtain ⟨h1, ⟨cv, h2, h3⟩, h4, h5⟩ := hI
    have HLI : Hid (∀ V2, Below V.heap.size V V2 → Calls Tryd.prog 19 #[.string ⟨w.toArray⟩] V2 fun e V3 => ∃ al lc, e = .returned (.slice al kk.length lc) ∧ IntsAt V3 al kk ∧ InAt (w4.heap.size + 2) cv kk al V3 ∧ Below V2.heap.size V2 V3) := Lib.hid (fun V2 hb => (literals_any (s := ⟨w.toArray⟩) (HE.out.keep (h4.trans (hb.mono h4.size))) hwl).mono (fun e V3 h => by
      obtain ⟨lv, rfl, hr, hb3⟩ := h
      have hr : V3.ownsRow V2.heap.size 3 1 lv (litsP (splitB 32 w)).length (intV (litsP (splitB 32 w))) := hr
      rw [← hkk] at hr
      obtain ⟨al, lc, rfl⟩ := row_shape hr
      exact ⟨al, lc, rfl, own_ints hr, own_in hr (by have := hb.size; omega) (fun g e => by have := (h3.blk e).2; have := hb.size; omega), hb3⟩))
    have HA : Hid (∀ (V1 : World) (al : Option Addr) (lc : Nat), Below V.heap.size V V1 → IntsAt V1 al kk → InAt (w4.heap.size + 2) cv kk al V1 → ∃ a' nl c' w', (Builtin.append_ #[23, 23] 23 #[cv, .slice (some ⟨V1.heap.size, 0, none⟩) 1 1]).run Tryd.prog (V1.alloc (.cells #[.slice al kk.length lc] 34)) = .ok (.slice a' nl c') w' ∧ ((V1.cell? ⟨w4.heap.size, 1, none⟩ = some cv ∧ (V1.alloc (.cells #[.slice al kk.length lc] 34)).cell? ⟨w4.heap.size, 1, none⟩ = some cv) ∧ w'.cell? ⟨w4.heap.size, 1, none⟩ = some cv ∧ w'.frozen? ⟨w4.heap.size, 1, none⟩ = false) ∧ Hid (KeepsOthers V (w'.setCell ⟨w4.heap.size, 1, none⟩ (.slice a' nl c')) ∧ Same [w4.heap.size + 1] V (w'.setCell ⟨w4.heap.size, 1, none⟩ (.slice a' nl c')) ∧ GtI W v w4.heap.size C (k + 1) (w'.setCell ⟨w4.heap.size, 1, none⟩ (.slice a' nl c')))) := Lib.hid (fun V1 al lc hb hia hin => by
      obtain ⟨a', c', w', hr, ho, hg⟩ := cls_run (kc := lc) (h3.call hb) (by have := hb.size; omega) hia hin (by rw [List.length_take]; omega)
      have ha : Below V1.heap.size V1 (V1.alloc (.cells #[.slice al kk.length lc] 34)) := bel_alloc (Below.refl _ _) _
      have hne : some w4.heap.size ≠ cv.ownBlock := fun e => by have := (h3.blk e.symm).1; omega
      have r1 := h2.call hb
      have r2 := r1.call ha
      have r3 := r2.grown hg hne
      exact ⟨a', _, c', w', hr, ⟨⟨r1.c1, r2.c1⟩, r3.c1, r3.fr 1⟩, Lib.hid (gt_step hbc h1 h2 h3 h4 h5 hb hCk ho hg)⟩)
    have c1 := h2.c1
    have hsem := @Oper.semAt_some
    have hun : ∀ b : Bool, ¬ undef = Value.bool b := fun b h => by cases h
    have hmx : Tryd.prog.follows .mixedOrders = true := by kernel_rfl
    clear hw hx hwl h1 h2 h3 h4 h5 hkk hCk hkl
    unfold strW
    gi_wp2
    refine wpIn_region_any (by assumption) ?_
    change wpAnyIn _ _ _ _ _ _ _ _ _ (World.drew _)
    refine wpAnyIn_ready (rs := [0, 2]) (by kernel_rfl) (by simp) ?_
    refine AllReadyIn.cons rfl (fun K hK => ?_) ?_
    · go_simp
      refine hK _ _ ?_
      clear hK K
      refine wpAnyIn_ready (rs := [1, 2]) (by kernel_rfl) (by simp) ?_
      refine AllReadyIn.cons rfl (fun K hK => ?_) ?_
      · go_simp
        refine hK _ _ ?_
        clear hK K
        refine wpAnyIn_ready (rs := [2]) (by kernel_rfl) (by simp) ?_
        refine AllReadyIn.cons rfl (fun K hK => ?_) ?_
        · go_simp
          refine hK _ _ ?_
          clear hK K
          refine wpAnyIn_ready (rs := [3]) (by kernel_rfl) (by simp) ?_
          refine AllReadyIn.cons rfl (fun K hK => ?_) ?_
          · go_simp
            refine ⟨trivial, ?_⟩; refine (callsIn_wide.2 (HLI.out _ ((Below.refl _ _).drew))).mono ?_; rintro e V1 ⟨al, lc, rfl, hia, hin, hb1⟩; obtain ⟨a', nl, c', w', hrun, ⟨⟨g1, g2⟩, g3, g4⟩, HG⟩ := HA.out V1 al lc (((Below.refl V.heap.size V).drew).trans hb1) hia hin; clear hia hin hb1
            refine hK _ _ ?_
            clear hK K
            refine wpAnyIn_ready (rs := [4]) (by kernel_rfl) (by simp) ?_
            refine AllReadyIn.cons rfl (fun K hK => ?_) ?_
            · go_simp
              refine hK _ _ ?_
              clear hK K
              refine wpAnyIn_ready (rs := [5]) (by kernel_rfl) (by simp) ?_
              refine AllReadyIn.cons rfl (fun K hK => ?_) ?_
              · refine (if_pos (by rfl)).mpr ?_
                refine wpIn_append_run (.tmp 53) (.tmp 56) 23 rfl rfl rfl rfl hrun ?_
                refine hK _ _ ?_
                clear hK K
                refine wpAnyIn_ready (rs := [6]) (by kernel_rfl) (by simp) ?_
                refine AllReadyIn.cons rfl (fun K hK => ?_) ?_
                · go_simp
                  refine hK _ _ ?_
                  clear hK K
                  refine wpAnyIn_ready (rs := [7]) (by kernel_rfl) (by simp) ?_
                  refine AllReadyIn.cons rfl (fun K hK => ?_) ?_
                  · go_simp
                    refine hK _ _ ?_
                    clear hK K
                    refine wpAnyIn_done (by kernel_rfl) ?_ _
                    gi_wp2
                    exact HG.out
                  exact AllReadyIn.nil
                exact AllReadyIn.nil
              exact AllReadyIn.nil
            exact AllReadyIn.nil
          exact AllReadyIn.nil
        exact AllReadyIn.nil
      refine AllReadyIn.cons rfl (fun K hK => ?_) ?_
      · go_simp
        refine hK _ _ ?_
        clear hK K
        refine wpAnyIn_ready (rs := [1, 3]) (by kernel_rfl) (by simp) ?_
        refine AllReadyIn.cons rfl (fun K hK => ?_) ?_
        · go_simp
          refine hK _ _ ?_
          clear hK K
          refine wpAnyIn_ready (rs := [3]) (by kernel_rfl) (by simp) ?_
          refine AllReadyIn.cons rfl (fun K hK => ?_) ?_
          · go_simp
            refine ⟨trivial, ?_⟩; refine (callsIn_wide.2 (HLI.out _ ((Below.refl _ _).drew))).mono ?_; rintro e V1 ⟨al, lc, rfl, hia, hin, hb1⟩; obtain ⟨a', nl, c', w', hrun, ⟨⟨g1, g2⟩, g3, g4⟩, HG⟩ := HA.out V1 al lc (((Below.refl V.heap.size V).drew).trans hb1) hia hin; clear hia hin hb1
            refine hK _ _ ?_
            clear hK K
            refine wpAnyIn_ready (rs := [4]) (by kernel_rfl) (by simp) ?_
            refine AllReadyIn.cons rfl (fun K hK => ?_) ?_
            · go_simp
              refine hK _ _ ?_
              clear hK K
              refine wpAnyIn_ready (rs := [5]) (by kernel_rfl) (by simp) ?_
              refine AllReadyIn.cons rfl (fun K hK => ?_) ?_
              · refine (if_pos (by rfl)).mpr ?_
                refine wpIn_append_run (.tmp 53) (.tmp 56) 23 rfl rfl rfl rfl hrun ?_
                refine hK _ _ ?_
                clear hK K
                refine wpAnyIn_ready (rs := [6]) (by kernel_rfl) (by simp) ?_
                refine AllReadyIn.cons rfl (fun K hK => ?_) ?_
                · go_simp
                  refine hK _ _ ?_
                  clear hK K
                  refine wpAnyIn_ready (rs := [7]) (by kernel_rfl) (by simp) ?_
                  refine AllReadyIn.cons rfl (fun K hK => ?_) ?_
                  · go_simp
                    refine hK _ _ ?_
                    clear hK K
                    refine wpAnyIn_done (by kernel_rfl) ?_ _
                    gi_wp2
                    exact HG.out
                  exact AllReadyIn.nil
                exact AllReadyIn.nil
              exact AllReadyIn.nil
            exact AllReadyIn.nil
          exact AllReadyIn.nil
        refine AllReadyIn.cons rfl (fun K hK => ?_) ?_
        · go_simp
          refine ⟨trivial, ?_⟩; refine (callsIn_wide.2 (HLI.out _ ((Below.refl _ _).drew))).mono ?_; rintro e V1 ⟨al, lc, rfl, hia, hin, hb1⟩; obtain ⟨a', nl, c', w', hrun, ⟨⟨g1, g2⟩, g3, g4⟩, HG⟩ := HA.out V1 al lc (((Below.refl V.heap.size V).drew).trans hb1) hia hin; clear hia hin hb1
          refine hK _ _ ?_
          clear hK K
          refine wpAnyIn_ready (rs := [1, 4]) (by kernel_rfl) (by simp) ?_
          refine AllReadyIn.cons rfl (fun K hK => ?_) ?_
          · go_simp
            refine hK _ _ ?_
            clear hK K
            refine wpAnyIn_ready (rs := [4]) (by kernel_rfl) (by simp) ?_
            refine AllReadyIn.cons rfl (fun K hK => ?_) ?_
            · go_simp
              refine hK _ _ ?_
              clear hK K
              refine wpAnyIn_ready (rs := [5]) (by kernel_rfl) (by simp) ?_
              refine AllReadyIn.cons rfl (fun K hK => ?_) ?_
              · refine (if_pos (by rfl)).mpr ?_
                refine wpIn_append_run (.tmp 53) (.tmp 56) 23 rfl rfl rfl rfl hrun ?_
                refine hK _ _ ?_
                clear hK K
                refine wpAnyIn_ready (rs := [6]) (by kernel_rfl) (by simp) ?_
                refine AllReadyIn.cons rfl (fun K hK => ?_) ?_
                · go_simp
                  refine hK _ _ ?_
                  clear hK K
                  refine wpAnyIn_ready (rs := [7]) (by kernel_rfl) (by simp) ?_
                  refine AllReadyIn.cons rfl (fun K hK => ?_) ?_
                  · go_simp
                    refine hK _ _ ?_
                    clear hK K
                    refine wpAnyIn_done (by kernel_rfl) ?_ _
                    gi_wp2
                    exact HG.out
                  exact AllReadyIn.nil
                exact AllReadyIn.nil
              exact AllReadyIn.nil
            exact AllReadyIn.nil
          refine AllReadyIn.cons rfl (fun K hK => ?_) ?_
          · go_simp
            refine hK _ _ ?_
            clear hK K
            refine wpAnyIn_ready (rs := [1]) (by kernel_rfl) (by simp) ?_
            refine AllReadyIn.cons rfl (fun K hK => ?_) ?_
            · go_simp
              refine hK _ _ ?_
              clear hK K
              refine wpAnyIn_ready (rs := [5]) (by kernel_rfl) (by simp) ?_
              refine AllReadyIn.cons rfl (fun K hK => ?_) ?_
              · refine (if_pos (by rfl)).mpr ?_
                refine wpIn_append_run (.tmp 53) (.tmp 56) 23 rfl rfl rfl rfl hrun ?_
                refine hK _ _ ?_
                clear hK K
                refine wpAnyIn_ready (rs := [6]) (by kernel_rfl) (by simp) ?_
                refine AllReadyIn.cons rfl (fun K hK => ?_) ?_
                · go_simp
                  refine hK _ _ ?_
                  clear hK K
                  refine wpAnyIn_ready (rs := [7]) (by kernel_rfl) (by simp) ?_
                  refine AllReadyIn.cons rfl (fun K hK => ?_) ?_
                  · go_simp
                    refine hK _ _ ?_
                    clear hK K
                    refine wpAnyIn_done (by kernel_rfl) ?_ _
                    gi_wp2
                    exact HG.out
                  exact AllReadyIn.nil
                exact AllReadyIn.nil
              exact AllReadyIn.nil
            exact AllReadyIn.nil
          exact AllReadyIn.nil
        exact AllReadyIn.nil
      exact AllReadyIn.nil
    refine AllReadyIn.cons rfl (fun K hK => ?_) ?_
    · go_simp
      refine hK _ _ ?_
      clear hK K
      refine wpAnyIn_ready (rs := [0, 3]) (by kernel_rfl) (by simp) ?_
      refine AllReadyIn.cons rfl (fun K hK => ?_) ?_
      · go_simp
        refine hK _ _ ?_
        clear hK K
        refine wpAnyIn_ready (rs := [1, 3]) (by kernel_rfl) (by simp) ?_
        refine AllReadyIn.cons rfl (fun K hK => ?_) ?_
        · go_simp
          refine hK _ _ ?_
          clear hK K
          refine wpAnyIn_ready (rs := [3]) (by kernel_rfl) (by simp) ?_
          refine AllReadyIn.cons rfl (fun K hK => ?_) ?_
          · go_simp
            refine ⟨trivial, ?_⟩; refine (callsIn_wide.2 (HLI.out _ ((Below.refl _ _).drew))).mono ?_; rintro e V1 ⟨al, lc, rfl, hia, hin, hb1⟩; obtain ⟨a', nl, c', w', hrun, ⟨⟨g1, g2⟩, g3, g4⟩, HG⟩ := HA.out V1 al lc (((Below.refl V.heap.size V).drew).trans hb1) hia hin; clear hia hin hb1
            refine hK _ _ ?_
            clear hK K
            refine wpAnyIn_ready (rs := [4]) (by kernel_rfl) (by simp) ?_
            refine AllReadyIn.cons rfl (fun K hK => ?_) ?_
            · go_simp
              refine hK _ _ ?_
              clear hK K
              refine wpAnyIn_ready (rs := [5]) (by kernel_rfl) (by simp) ?_
              refine AllReadyIn.cons rfl (fun K hK => ?_) ?_
              · refine (if_pos (by rfl)).mpr ?_
                refine wpIn_append_run (.tmp 53) (.tmp 56) 23 rfl rfl rfl rfl hrun ?_
                refine hK _ _ ?_
                clear hK K
                refine wpAnyIn_ready (rs := [6]) (by kernel_rfl) (by simp) ?_
                refine AllReadyIn.cons rfl (fun K hK => ?_) ?_
                · go_simp
                  refine hK _ _ ?_
                  clear hK K
                  refine wpAnyIn_ready (rs := [7]) (by kernel_rfl) (by simp) ?_
                  refine AllReadyIn.cons rfl (fun K hK => ?_) ?_
                  · go_simp
                    refine hK _ _ ?_
                    clear hK K
                    refine wpAnyIn_done (by kernel_rfl) ?_ _
                    gi_wp2
                    exact HG.out
                  exact AllReadyIn.nil
                exact AllReadyIn.nil
              exact AllReadyIn.nil
            exact AllReadyIn.nil
          exact AllReadyIn.nil
        refine AllReadyIn.cons rfl (fun K hK => ?_) ?_
        · go_simp
          refine ⟨trivial, ?_⟩; refine (callsIn_wide.2 (HLI.out _ ((Below.refl _ _).drew))).mono ?_; rintro e V1 ⟨al, lc, rfl, hia, hin, hb1⟩; obtain ⟨a', nl, c', w', hrun, ⟨⟨g1, g2⟩, g3, g4⟩, HG⟩ := HA.out V1 al lc (((Below.refl V.heap.size V).drew).trans hb1) hia hin; clear hia hin hb1
          refine hK _ _ ?_
          clear hK K
          refine wpAnyIn_ready (rs := [1, 4]) (by kernel_rfl) (by simp) ?_
          refine AllReadyIn.cons rfl (fun K hK => ?_) ?_
          · go_simp
            refine hK _ _ ?_
            clear hK K
            refine wpAnyIn_ready (rs := [4]) (by kernel_rfl) (by simp) ?_
            refine AllReadyIn.cons rfl (fun K hK => ?_) ?_
            · go_simp
              refine hK _ _ ?_
              clear hK K
              refine wpAnyIn_ready (rs := [5]) (by kernel_rfl) (by simp) ?_
              refine AllReadyIn.cons rfl (fun K hK => ?_) ?_
              · refine (if_pos (by rfl)).mpr ?_
                refine wpIn_append_run (.tmp 53) (.tmp 56) 23 rfl rfl rfl rfl hrun ?_
                refine hK _ _ ?_
                clear hK K
                refine wpAnyIn_ready (rs := [6]) (by kernel_rfl) (by simp) ?_
                refine AllReadyIn.cons rfl (fun K hK => ?_) ?_
                · go_simp
                  refine hK _ _ ?_
                  clear hK K
                  refine wpAnyIn_ready (rs := [7]) (by kernel_rfl) (by simp) ?_
                  refine AllReadyIn.cons rfl (fun K hK => ?_) ?_
                  · go_simp
                    refine hK _ _ ?_
                    clear hK K
                    refine wpAnyIn_done (by kernel_rfl) ?_ _
                    gi_wp2
                    exact HG.out
                  exact AllReadyIn.nil
                exact AllReadyIn.nil
              exact AllReadyIn.nil
            exact AllReadyIn.nil
          refine AllReadyIn.cons rfl (fun K hK => ?_) ?_
          · go_simp
            refine hK _ _ ?_
            clear hK K
            refine wpAnyIn_ready (rs := [1]) (by kernel_rfl) (by simp) ?_
            refine AllReadyIn.cons rfl (fun K hK => ?_) ?_
            · go_simp
              refine hK _ _ ?_
              clear hK K
              refine wpAnyIn_ready (rs := [5]) (by kernel_rfl) (by simp) ?_
              refine AllReadyIn.cons rfl (fun K hK => ?_) ?_
              · refine (if_pos (by rfl)).mpr ?_
                refine wpIn_append_run (.tmp 53) (.tmp 56) 23 rfl rfl rfl rfl hrun ?_
                refine hK _ _ ?_
                clear hK K
                refine wpAnyIn_ready (rs := [6]) (by kernel_rfl) (by simp) ?_
                refine AllReadyIn.cons rfl (fun K hK => ?_) ?_
                · go_simp
                  refine hK _ _ ?_
                  clear hK K
                  refine wpAnyIn_ready (rs := [7]) (by kernel_rfl) (by simp) ?_
                  refine AllReadyIn.cons rfl (fun K hK => ?_) ?_
                  · go_simp
                    refine hK _ _ ?_
                    clear hK K
                    refine wpAnyIn_done (by kernel_rfl) ?_ _
                    gi_wp2
                    exact HG.out
                  exact AllReadyIn.nil
                exact AllReadyIn.nil
              exact AllReadyIn.nil
            exact AllReadyIn.nil
          exact AllReadyIn.nil
        exact AllReadyIn.nil
      refine AllReadyIn.cons rfl (fun K hK => ?_) ?_
      · go_simp
        refine ⟨trivial, ?_⟩; refine (callsIn_wide.2 (HLI.out _ ((Below.refl _ _).drew))).mono ?_; rintro e V1 ⟨al, lc, rfl, hia, hin, hb1⟩; obtain ⟨a', nl, c', w', hrun, ⟨⟨g1, g2⟩, g3, g4⟩, HG⟩ := HA.out V1 al lc (((Below.refl V.heap.size V).drew).trans hb1) hia hin; clear hia hin hb1
        refine hK _ _ ?_
        clear hK K
        refine wpAnyIn_ready (rs := [0, 4]) (by kernel_rfl) (by simp) ?_
        refine AllReadyIn.cons rfl (fun K hK => ?_) ?_
        · go_simp
          refine hK _ _ ?_
          clear hK K
          refine wpAnyIn_ready (rs := [1, 4]) (by kernel_rfl) (by simp) ?_
          refine AllReadyIn.cons rfl (fun K hK => ?_) ?_
          · go_simp
            refine hK _ _ ?_
            clear hK K
            refine wpAnyIn_ready (rs := [4]) (by kernel_rfl) (by simp) ?_
            refine AllReadyIn.cons rfl (fun K hK => ?_) ?_
            · go_simp
              refine hK _ _ ?_
              clear hK K
              refine wpAnyIn_ready (rs := [5]) (by kernel_rfl) (by simp) ?_
              refine AllReadyIn.cons rfl (fun K hK => ?_) ?_
              · refine (if_pos (by rfl)).mpr ?_
                refine wpIn_append_run (.tmp 53) (.tmp 56) 23 rfl rfl rfl rfl hrun ?_
                refine hK _ _ ?_
                clear hK K
                refine wpAnyIn_ready (rs := [6]) (by kernel_rfl) (by simp) ?_
                refine AllReadyIn.cons rfl (fun K hK => ?_) ?_
                · go_simp
                  refine hK _ _ ?_
                  clear hK K
                  refine wpAnyIn_ready (rs := [7]) (by kernel_rfl) (by simp) ?_
                  refine AllReadyIn.cons rfl (fun K hK => ?_) ?_
                  · go_simp
                    refine hK _ _ ?_
                    clear hK K
                    refine wpAnyIn_done (by kernel_rfl) ?_ _
                    gi_wp2
                    exact HG.out
                  exact AllReadyIn.nil
                exact AllReadyIn.nil
              exact AllReadyIn.nil
            exact AllReadyIn.nil
          refine AllReadyIn.cons rfl (fun K hK => ?_) ?_
          · go_simp
            refine hK _ _ ?_
            clear hK K
            refine wpAnyIn_ready (rs := [1]) (by kernel_rfl) (by simp) ?_
            refine AllReadyIn.cons rfl (fun K hK => ?_) ?_
            · go_simp
              refine hK _ _ ?_
              clear hK K
              refine wpAnyIn_ready (rs := [5]) (by kernel_rfl) (by simp) ?_
              refine AllReadyIn.cons rfl (fun K hK => ?_) ?_
              · refine (if_pos (by rfl)).mpr ?_
                refine wpIn_append_run (.tmp 53) (.tmp 56) 23 rfl rfl rfl rfl hrun ?_
                refine hK _ _ ?_
                clear hK K
                refine wpAnyIn_ready (rs := [6]) (by kernel_rfl) (by simp) ?_
                refine AllReadyIn.cons rfl (fun K hK => ?_) ?_
                · go_simp
                  refine hK _ _ ?_
                  clear hK K
                  refine wpAnyIn_ready (rs := [7]) (by kernel_rfl) (by simp) ?_
                  refine AllReadyIn.cons rfl (fun K hK => ?_) ?_
                  · go_simp
                    refine hK _ _ ?_
                    clear hK K
                    refine wpAnyIn_done (by kernel_rfl) ?_ _
                    gi_wp2
                    exact HG.out
                  exact AllReadyIn.nil
                exact AllReadyIn.nil
              exact AllReadyIn.nil
            exact AllReadyIn.nil
          exact AllReadyIn.nil
        refine AllReadyIn.cons rfl (fun K hK => ?_) ?_
        · go_simp
          refine hK _ _ ?_
          clear hK K
          refine wpAnyIn_ready (rs := [0]) (by kernel_rfl) (by simp) ?_
          refine AllReadyIn.cons rfl (fun K hK => ?_) ?_
          · go_simp
            refine hK _ _ ?_
            clear hK K
            refine wpAnyIn_ready (rs := [1]) (by kernel_rfl) (by simp) ?_
            refine AllReadyIn.cons rfl (fun K hK => ?_) ?_
            · go_simp
              refine hK _ _ ?_
              clear hK K
              refine wpAnyIn_ready (rs := [5]) (by kernel_rfl) (by simp) ?_
              refine AllReadyIn.cons rfl (fun K hK => ?_) ?_
              · refine (if_pos (by rfl)).mpr ?_
                refine wpIn_append_run (.tmp 53) (.tmp 56) 23 rfl rfl rfl rfl hrun ?_
                refine hK _ _ ?_
                clear hK K
                refine wpAnyIn_ready (rs := [6]) (by kernel_rfl) (by simp) ?_
                refine AllReadyIn.cons rfl (fun K hK => ?_) ?_
                · go_simp
                  refine hK _ _ ?_
                  clear hK K
                  refine wpAnyIn_ready (rs := [7]) (by kernel_rfl) (by simp) ?_
                  refine AllReadyIn.cons rfl (fun K hK => ?_) ?_
                  · go_simp
                    refine hK _ _ ?_
                    clear hK K
                    refine wpAnyIn_done (by kernel_rfl) ?_ _
                    gi_wp2
                    exact HG.out
                  exact AllReadyIn.nil
                exact AllReadyIn.nil
              exact AllReadyIn.nil
            exact AllReadyIn.nil
          exact AllReadyIn.nil
        exact AllReadyIn.nil
      exact AllReadyIn.nil
    exact AllReadyIn.nil
end Cf
end Go.Proofs.YtcpehdeddgfpmaaDoor
