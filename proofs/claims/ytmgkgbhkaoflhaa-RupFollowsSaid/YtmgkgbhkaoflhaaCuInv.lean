/-
  How what Units keeps goes with what came: behind the clauses are laid, and behind each literal that comes.
-/
import Derived.Test.YtmgkgbhkaoflhaaCuPure
namespace Go.Proofs.Ytmgkgbhkaoflhaa
namespace Cf
set_option maxHeartbeats 1000000

/-! ### what a coming literal does -/
/-- How many clauses have two left at least. -/
def cnt2 (lf : List Int) : Nat := (lf.filter fun x => decide (2 ≤ x)).length
theorem cnt2_set : ∀ {lf : List Int} {k : Nat} {x : Nat}, lf[k]? = some ((x : Int) + 1) → cnt2 (lf.set k (x : Int)) + (if x = 1 then 1 else 0) = cnt2 lf
  | [], k, x, h => by simp at h
  | y :: r, 0, x, h => by
    simp at h
    subst h
    simp only [List.set_cons_zero, cnt2, List.filter_cons]
    by_cases h1 : x = 1
    · subst h1; simp
    · by_cases h0 : x = 0
      · subst h0; simp
      · have a : (2 : Int) ≤ (x : Int) := by omega
        have b : (2 : Int) ≤ (x : Int) + 1 := by omega
        simp [a, b, h1]
  | y :: r, k + 1, x, h => by
    have ih := cnt2_set (lf := r) (k := k) (x := x) (by simpa using h)
    simp only [List.set_cons_succ, cnt2, List.filter_cons] at ih ⊢
    split
    · simp only [List.length_cons]; omega
    · exact ih
theorem LookR.mem {q q' : List Int} {x k : Int} (h : LookR q x k q') (y : Int) : y ∈ q' ↔ y ∈ q ∨ (y = k ∧ x = 1) := by
  by_cases e : x = 1
  · have := (h.1 e).2.2 y
    rw [this]
    simp [e]
  · rw [h.2 e]
    simp [e]
theorem LookR.len {q q' : List Int} {x k : Int} (h : LookR q x k q') : q'.length = q.length + (if x = 1 then 1 else 0) := by
  by_cases e : x = 1
  · rw [(h.1 e).1, if_pos e]
  · rw [h.2 e, if_neg e]; rfl
theorem drop_ok : ∀ {ch : List Nat} {s s' : List Int × List Int × Bool}, Fine ch s.1 → DropR ch s s' →
    s'.1.length = s.1.length ∧ (∀ j : Nat, j ∉ ch → s'.1[j]? = s.1[j]?) ∧ (∀ j ∈ ch, ∃ x : Nat, s.1[j]? = some ((x : Int) + 1) ∧ s'.1[j]? = some ((x : Nat) : Int)) ∧
    (s'.2.2 = true ↔ s.2.2 = true ∨ ∃ j ∈ ch, s.1[j]? = some 1) ∧ (∀ y, y ∈ s'.2.1 ↔ y ∈ s.2.1 ∨ ∃ j ∈ ch, y = ((j : Nat) : Int) ∧ s.1[j]? = some 2) ∧ s'.2.1.length + cnt2 s'.1 = s.2.1.length + cnt2 s.1
  | [], s, s', _, h => by
    obtain rfl : s' = s := h
    simp
  | k :: r, s, s', hf, h => by
    obtain ⟨x, q1, hx, hl, hd⟩ := h
    have hn := hf.1
    rw [List.nodup_cons] at hn
    obtain ⟨a, b, c, d, e, f⟩ := drop_ok (ch := r) (s := (s.1.set k ((x : Nat) : Int), q1, s.2.2 || (((x : Nat) : Int) == 0))) hf.next hd
    have hk : k < s.1.length := (List.getElem?_eq_some_iff.1 hx).1
    have hset : ∀ j, j ≠ k → (s.1.set k ((x : Nat) : Int))[j]? = s.1[j]? := fun j hj => List.getElem?_set_ne (fun e => hj e.symm)
    have hne : ∀ j ∈ r, j ≠ k := fun j hj e => hn.1 (e ▸ hj)
    refine ⟨by rw [a]; simp, fun j hj => ?_, fun j hj => ?_, ?_, fun y => ?_, ?_⟩
    · simp only [List.mem_cons, not_or] at hj
      rw [b j hj.2]
      exact hset j hj.1
    · rcases List.mem_cons.1 hj with rfl | hj
      · refine ⟨x, hx, ?_⟩
        rw [b j hn.1]
        exact List.getElem?_set_self hk
      · obtain ⟨z, hz1, hz2⟩ := c j hj
        exact ⟨z, by rw [← hset j (hne j hj)]; exact hz1, hz2⟩
    · rw [d]
      simp only [Bool.or_eq_true, beq_iff_eq]
      constructor
      · rintro ((h | h) | ⟨j, hj, h⟩)
        · exact .inl h
        · exact .inr ⟨k, by simp, by rw [hx]; congr 1; omega⟩
        · exact .inr ⟨j, by simp [hj], by rw [← hset j (hne j hj)]; exact h⟩
      · rintro (h | ⟨j, hj, h⟩)
        · exact .inl (.inl h)
        · rcases List.mem_cons.1 hj with rfl | hj
          · rw [hx] at h
            injection h with h
            exact .inl (.inr (by omega))
          · exact .inr ⟨j, hj, by rw [hset j (hne j hj)]; exact h⟩
    · rw [e, hl.mem]
      constructor
      · rintro ((h | ⟨h1, h2⟩) | ⟨j, hj, h1, h2⟩)
        · exact .inl h
        · exact .inr ⟨k, by simp, h1, by rw [hx]; congr 1; omega⟩
        · exact .inr ⟨j, by simp [hj], h1, by rw [← hset j (hne j hj)]; exact h2⟩
      · rintro (h | ⟨j, hj, h1, h2⟩)
        · exact .inl (.inl h)
        · rcases List.mem_cons.1 hj with rfl | hj
          · rw [hx] at h2
            injection h2 with h2
            exact .inl (.inr ⟨h1, by omega⟩)
          · exact .inr ⟨j, hj, h1, by rw [hset j (hne j hj)]; exact h2⟩
    · have := cnt2_set hx
      have hll := hl.len
      simp only at f
      rw [f, hll]
      by_cases h1 : x = 1
      · subst h1; simp at this ⊢; omega
      · have h2 : ¬ ((x : Nat) : Int) = 1 := by omega
        rw [if_neg h2]; rw [if_neg h1] at this; omega

/-! ### the clauses of a literal -/
/-- The clauses below m in which the literal l stands, if its not did not come; the newest first. -/
def occ (C : Cl) (T : List Int) (l : Int) : Nat → List Nat
  | 0 => []
  | m + 1 => if (C.getD m []).elem l && !T.elem (-l) then m :: occ C T l m else occ C T l m
theorem occ_mem {C : Cl} {T : List Int} {l : Int} : ∀ {m j : Nat}, j ∈ occ C T l m ↔ j < m ∧ (C.getD j []).elem l = true ∧ T.elem (-l) = false
  | 0, j => by simp [occ]
  | m + 1, j => by
    unfold occ
    have ih := occ_mem (C := C) (T := T) (l := l) (m := m) (j := j)
    by_cases h : ((C.getD m []).elem l && !T.elem (-l)) = true
    · rw [if_pos h, List.mem_cons, ih]
      simp only [Bool.and_eq_true, Bool.not_eq_true'] at h
      constructor
      · rintro (rfl | ⟨a, b⟩)
        · exact ⟨by omega, h⟩
        · exact ⟨by omega, b⟩
      · rintro ⟨a, b⟩
        by_cases e : j = m
        · exact .inl e
        · exact .inr ⟨by omega, b⟩
    · rw [if_neg h, ih]
      constructor
      · rintro ⟨a, b⟩; exact ⟨by omega, b⟩
      · rintro ⟨a, b⟩
        refine ⟨?_, b⟩
        have : j ≠ m := fun e => h (by subst e; rw [b.1, b.2]; rfl)
        omega
theorem occ_nodup {C : Cl} {T : List Int} {l : Int} : ∀ {m : Nat}, (occ C T l m).Nodup
  | 0 => by simp [occ]
  | m + 1 => by
    unfold occ
    split
    · exact List.nodup_cons.2 ⟨fun h => by have := (occ_mem.1 h).1; omega, occ_nodup⟩
    · exact occ_nodup
/-- All that is kept, behind all clauses are laid. -/
structure Inv (C : Cl) (v : Nat) (T0 T : List Int) (lf : List Int) (P : List (Int × Int)) (nw : List Int) (q : List Int) (br : Bool) (X : Nat → Prop) : Prop where
  left : ∀ k, k < C.length → lf[k]? = some ((cnt T [] (C.getD k []) : Nat) : Int)
  chain : ∀ i : Nat, i < 2 * v + 1 → ∃ a : Nat, nw[i]? = some ((a : Nat) : Int) ∧ Chain P a (occ C T0 ((i : Int) - (v : Int)) C.length)
  br : br = true ↔ ∃ k, k < C.length ∧ cnt T [] (C.getD k []) = 0
  qin : ∀ y ∈ q, ∃ k : Nat, k < C.length ∧ y = (k : Int) ∧ cnt T [] (C.getD k []) ≤ 1
  unit : ∀ k, k < C.length → cnt T [] (C.getD k []) = 1 → (∃ l ∈ C.getD k [], T.elem l = true) ∨ ((k : Nat) : Int) ∈ q ∨ X k
  more : ∀ l, T0.elem l = true → T.elem l = true
  agree : Agree T
/-- What is left of whatever clause is a small number. -/
theorem cnt_le {T : List Int} : ∀ {k seen : List Int}, cnt T seen k ≤ k.length
  | [], _ => by simp [cnt]
  | x :: r, seen => by
    have := cnt_le (T := T) (k := r) (seen := x :: seen)
    unfold cnt
    simp only [List.length_cons]
    split <;> omega
theorem Inv.fine {C : Cl} {v : Nat} {T0 T lf P nw q br X} (h : Inv C v T0 T lf P nw q br X) (hC : ∀ k ∈ C, k.length < 1000000000) {l : Int} (hl : T.elem l = false) : Fine (occ C T0 (-l) C.length) lf := by
  refine ⟨occ_nodup, fun k hk => ?_⟩
  obtain ⟨h1, h2, _⟩ := occ_mem.1 hk
  have hp : 0 < cnt T [] (C.getD k []) := cnt_pos h2 rfl (by rw [Int.neg_neg]; exact hl)
  have hle := cnt_le (T := T) (k := C.getD k []) (seen := [])
  have hkl : (C.getD k []).length < 1000000000 := by
    rw [List.getD_eq_getElem?_getD, List.getElem?_eq_getElem h1]
    exact hC _ (List.getElem_mem h1)
  refine ⟨cnt T [] (C.getD k []) - 1, ?_, by omega⟩
  rw [h.left k h1]
  congr 1
  omega
/-- Behind a literal that comes. -/
theorem Inv.come {C : Cl} {v : Nat} {T0 T lf P nw q br X} (h : Inv C v T0 T lf P nw q br X) (hC : ∀ k ∈ C, k.length < 1000000000) {l : Int} (hl : T.elem l = false) (hl2 : T.elem (-l) = false) (hl0 : l ≠ 0) {lf' q' br'} (hd : DropR (occ C T0 (-l) C.length) (lf, q, br) (lf', q', br')) :
    Inv C v T0 (T ++ [l]) lf' P nw q' br' X ∧ q'.length + cnt2 lf' = q.length + cnt2 lf := by
  have hF := h.fine hC hl
  obtain ⟨_, b, c, d, e, f⟩ := drop_ok hF hd
  simp only at b c d e f
  have hT0 : T0.elem (- -l) = false := by
    cases hh : T0.elem (- -l) with
    | false => rfl
    | true =>
      have := h.more _ hh
      rw [Int.neg_neg, hl] at this
      cases this
  have hmem : ∀ k, k < C.length → (k ∈ occ C T0 (-l) C.length ↔ (C.getD k []).elem (-l) = true) := fun k hk => by
    rw [occ_mem]
    exact ⟨fun x => x.2.1, fun x => ⟨hk, x, hT0⟩⟩
  have hcnt : ∀ k, cnt T [] (C.getD k []) = cnt (T ++ [l]) [] (C.getD k []) + (if (C.getD k []).elem (-l) then 1 else 0) := fun k => by
    have := cnt_come hl (k := C.getD k []) (seen := [])
    simpa using this
  have hone : ∀ k, k < C.length → (C.getD k []).elem (-l) = true → ∀ z : Nat, lf[k]? = some (((z + 1 : Nat) : Nat) : Int) → cnt (T ++ [l]) [] (C.getD k []) = z := fun k hk hm z hz => by
    have e1 := h.left k hk
    rw [hz] at e1
    injection e1 with e1
    have := hcnt k
    rw [if_pos hm] at this
    omega
  refine ⟨⟨fun k hk => ?_, h.chain, ?_, fun y hy => ?_, fun k hk h1 => ?_, fun x hx => ?_, fun x hx => ?_⟩, f⟩
  · by_cases hm : (C.getD k []).elem (-l) = true
    · obtain ⟨x, hx1, hx2⟩ := c k ((hmem k hk).2 hm)
      rw [hx2, hone k hk hm x hx1]
    · rw [b k (fun x => hm ((hmem k hk).1 x)), h.left k hk, hcnt k, if_neg hm]
      rfl
  · rw [d, h.br]
    constructor
    · rintro (⟨k, hk, h0⟩ | ⟨j, hj, h1⟩)
      · exact ⟨k, hk, by have := hcnt k; omega⟩
      · have hjl := (occ_mem.1 hj).1
        exact ⟨j, hjl, hone j hjl ((hmem j hjl).1 hj) 0 h1⟩
    · rintro ⟨k, hk, h0⟩
      by_cases hm : (C.getD k []).elem (-l) = true
      · right
        refine ⟨k, (hmem k hk).2 hm, ?_⟩
        rw [h.left k hk, hcnt k, if_pos hm, h0]
        rfl
      · left
        exact ⟨k, hk, by have := hcnt k; rw [if_neg hm] at this; omega⟩
  · rw [e] at hy
    rcases hy with hy | ⟨j, hj, rfl, h2⟩
    · obtain ⟨k, hk, rfl, h1⟩ := h.qin y hy
      exact ⟨k, hk, rfl, by have := hcnt k; omega⟩
    · have hjl := (occ_mem.1 hj).1
      exact ⟨j, hjl, rfl, by rw [hone j hjl ((hmem j hjl).1 hj) 1 h2]; exact Nat.le_refl _⟩
  · by_cases hm : (C.getD k []).elem (-l) = true
    · right
      left
      rw [e]
      right
      refine ⟨k, (hmem k hk).2 hm, rfl, ?_⟩
      rw [h.left k hk, hcnt k, if_pos hm, h1]
      rfl
    · have hc := hcnt k
      rw [if_neg hm] at hc
      rcases h.unit k hk (by omega) with ⟨x, hx, ht⟩ | hq | hX
      · exact .inl ⟨x, hx, by rw [elem_app, ht]; rfl⟩
      · exact .inr (.inl ((e _).2 (.inl hq)))
      · exact .inr (.inr hX)
  · rw [elem_app, h.more x hx]; rfl
  · rw [elem_app] at hx ⊢
    rw [Bool.or_eq_true] at hx
    rcases hx with hx | hx
    · rw [h.agree x hx, Bool.false_or]
      simp only [beq_eq_false_iff_ne, ne_eq]
      intro c
      have : x = -l := by omega
      rw [this, hl2] at hx
      cases hx
    · have hxl : x = l := by simpa using hx
      rw [hxl, hl2, Bool.false_or]
      simp only [beq_eq_false_iff_ne, ne_eq]
      omega

/-! ### what follows next -/
theorem nextG_stop {T : List Int} : ∀ {C : Cl} {n : Int}, (∃ k ∈ C, (lookC T k).2 = false) → nextG T n C = none
  | [], _, ⟨k, h, _⟩ => by simp at h
  | x :: r, n, ⟨k, h, hk⟩ => by
    unfold nextG
    by_cases hx : (lookC T x).2 = true
    · rw [if_pos hx]
      refine nextG_stop ?_
      rcases List.mem_cons.1 h with e | e
      · rw [e, hx] at hk; cases hk
      · exact ⟨k, e, hk⟩
    · rw [if_neg hx]
theorem nextG_keep {T : List Int} : ∀ {C : Cl} {n : Int}, (∀ k ∈ C, (lookC T k).2 = true) → n ≠ 0 → nextG T n C = some n
  | [], _, _, _ => rfl
  | x :: r, n, h, hn => by
    unfold nextG
    rw [if_pos (h x (by simp)), if_neg hn]
    exact nextG_keep (fun k hk => h k (by simp [hk])) hn
theorem nextG_first {T : List Int} {m : Int} (hm : m ≠ 0) : ∀ {C : Cl} {x : Nat}, (∀ k ∈ C, (lookC T k).2 = true) → x < C.length → (∀ j, j < x → (lookC T (C.getD j [])).1 = 0) → (lookC T (C.getD x [])).1 = m → nextG T 0 C = some m
  | [], x, _, hx, _, _ => by simp at hx
  | y :: r, 0, h, _, _, hxm => by
    have e : (lookC T y).1 = m := by simpa using hxm
    unfold nextG
    rw [if_pos (h y (by simp)), if_pos rfl, e]
    exact nextG_keep (fun k hk => h k (by simp [hk])) hm
  | y :: r, x + 1, h, hx, h0, hxm => by
    have e : (lookC T y).1 = 0 := by simpa using h0 0 (by omega)
    unfold nextG
    rw [if_pos (h y (by simp)), if_pos rfl, e]
    exact nextG_first hm (x := x) (fun k hk => h k (by simp [hk])) (by simpa using hx) (fun j hj => by have := h0 (j + 1) (by omega); simpa using this) (by simpa using hxm)
theorem nextG_zero {T : List Int} : ∀ {C : Cl}, (∀ k ∈ C, (lookC T k).2 = true) → (∀ k ∈ C, (lookC T k).1 = 0) → nextG T 0 C = some 0
  | [], _, _ => rfl
  | y :: r, h, h0 => by
    unfold nextG
    rw [if_pos (h y (by simp)), if_pos rfl, h0 y (by simp)]
    exact nextG_zero (fun k hk => h k (by simp [hk])) (fun k hk => h0 k (by simp [hk]))
theorem getD_mem {C : Cl} {k : Nat} (h : k < C.length) : C.getD k [] ∈ C := by
  rw [List.getD_eq_getElem?_getD, List.getElem?_eq_getElem h]
  exact List.getElem_mem h
theorem mem_getD {C : Cl} {x : List Int} (h : x ∈ C) : ∃ k, k < C.length ∧ C.getD k [] = x := by
  obtain ⟨k, hk, e⟩ := List.getElem_of_mem h
  exact ⟨k, hk, by rw [List.getD_eq_getElem?_getD, List.getElem?_eq_getElem hk]; exact e⟩
def Never : Nat → Prop := fun _ => False
section
variable {C : Cl} {v : Nat} {T0 T : List Int} {lf : List Int} {P : List (Int × Int)} {nw q : List Int} {br : Bool}
/-- 'broken': nothing follows, and not all can hold. -/
theorem Inv.broken (h : Inv C v T0 T lf P nw q true Never) (hz : ∀ k ∈ C, ∀ l ∈ k, l ≠ 0) : restU C T = (T, false) := by
  obtain ⟨k, hk, h0⟩ := h.br.1 rfl
  exact restU_none (nextG_stop ⟨_, getD_mem hk, (look_cnt_none (hz _ (getD_mem hk)) h.agree).2 h0⟩)
theorem Inv.holds (h : Inv C v T0 T lf P nw q false Never) (hz : ∀ k ∈ C, ∀ l ∈ k, l ≠ 0) : ∀ k ∈ C, (lookC T k).2 = true := fun x hx => by
  obtain ⟨k, hk, rfl⟩ := mem_getD hx
  cases e : (lookC T (C.getD k [])).2 with
  | true => rfl
  | false =>
    have := h.br.2 ⟨k, hk, (look_cnt_none (hz _ hx) h.agree).1 e⟩
    cases this
/-- A clause of which one follows is in the queue. -/
theorem Inv.inq (h : Inv C v T0 T lf P nw q false Never) (hz : ∀ k ∈ C, ∀ l ∈ k, l ≠ 0) {k : Nat} (hk : k < C.length) (h1 : (lookC T (C.getD k [])).1 ≠ 0) : ((k : Nat) : Int) ∈ q := by
  obtain ⟨a, b⟩ := look_cnt_unit (hz _ (getD_mem hk)) h1
  have hp : cnt T [] (C.getD k []) ≠ 0 := fun e => by
    have := h.br.2 ⟨k, hk, e⟩
    cases this
  rcases h.unit k hk (by omega) with ⟨l, hl, ht⟩ | hq | hX
  · rw [b l hl] at ht; cases ht
  · exact hq
  · exact hX.elim
theorem Inv.empty (h : Inv C v T0 T lf P nw [] false Never) (hz : ∀ k ∈ C, ∀ l ∈ k, l ≠ 0) : restU C T = (T, true) := by
  refine restU_zero (nextG_zero (h.holds hz) fun x hx => ?_)
  obtain ⟨k, hk, rfl⟩ := mem_getD hx
  exact Decidable.byContradiction fun c => by
    have := h.inq hz hk c
    simp at this
/-- The one that the queue's first clause has left comes next. -/
theorem Inv.next (h : Inv C v T0 T lf P nw q false Never) (hz : ∀ k ∈ C, ∀ l ∈ k, l ≠ 0) {x : Nat} (hx : x < C.length) (hmin : ∀ y ∈ q, ((x : Nat) : Int) ≤ y) (hin : ((x : Nat) : Int) ∈ q) {l : Int} (hl : l ∈ C.getD x []) (h1 : T.elem l = false) (h2 : T.elem (-l) = false) : restU C T = restU C (T ++ [l]) := by
  obtain ⟨k, hk, e, hc⟩ := h.qin _ hin
  obtain rfl : x = k := by omega
  have hlk := look_unit_is (hz _ (getD_mem hx)) hl h1 h2 hc h.agree
  have hl0 := hz _ (getD_mem hx) l hl
  refine restU_some hz (n := l) (nextG_first hl0 (x := x) (h.holds hz) hx (fun j hj => ?_) (by rw [hlk])) hl0
  exact Decidable.byContradiction fun c => by
    have := hmin _ (h.inq hz (by omega) c)
    omega
/-- The queue without its first. -/
theorem Inv.pop (h : Inv C v T0 T lf P nw q false Never) {x : Nat} {q' : List Int} (hq : ∀ y, y ∈ q ↔ y ∈ q' ∨ y = ((x : Nat) : Int)) : Inv C v T0 T lf P nw q' false (· = x) := by
  refine ⟨h.left, h.chain, h.br, fun y hy => h.qin y ((hq y).2 (.inl hy)), fun k hk h1 => ?_, h.more, h.agree⟩
  rcases h.unit k hk h1 with a | a | a
  · exact .inl a
  · rcases (hq _).1 a with b | b
    · exact .inr (.inl b)
    · exact .inr (.inr (by omega))
  · exact a.elim
/-- One of the clause's holds, or all are decided. -/
theorem Inv.done {x : Nat} (h : Inv C v T0 T lf P nw q br (· = x)) (hd : (∃ l ∈ C.getD x [], T.elem l = true) ∨ ∀ l ∈ C.getD x [], T.elem l = true ∨ T.elem (-l) = true) : Inv C v T0 T lf P nw q br Never := by
  refine ⟨h.left, h.chain, h.br, h.qin, fun k hk h1 => ?_, h.more, h.agree⟩
  rcases h.unit k hk h1 with a | a | rfl
  · exact .inl a
  · exact .inr (.inl a)
  · left
    rcases hd with hd | hd
    · exact hd
    · apply Decidable.byContradiction
      intro c
      have hall : ∀ l ∈ C.getD k [], T.elem (-l) = true := fun l hl => by
        rcases hd l hl with d | d
        · exact absurd ⟨l, hl, d⟩ c
        · exact d
      have : ∀ {kk seen : List Int}, (∀ l ∈ kk, T.elem (-l) = true) → cnt T seen kk = 0 := by
        intro kk
        induction kk with
        | nil => intro _ _; rfl
        | cons x r ih =>
          intro seen h
          unfold cnt
          rw [h x (by simp), ih (fun l hl => h l (by simp [hl]))]
          simp
      rw [this hall] at h1
      cases h1
end
end Cf
end Go.Proofs.Ytmgkgbhkaoflhaa
