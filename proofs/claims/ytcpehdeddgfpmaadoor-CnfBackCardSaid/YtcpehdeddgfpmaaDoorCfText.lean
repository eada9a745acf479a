/-
  Clauses as text, and back: what is put, what is got, and that what is put is got. Plain facts.
-/
import Derived.Lib.ItoaNum
import Derived.Test.YtcpehdeddgfpmaaDoorCfMathB
namespace Go.Proofs.YtcpehdeddgfpmaaDoor
namespace Cf
abbrev By := List UInt8
def dec (n : Nat) : By := Lib.decDigits n
def decI (z : Int) : By := if z < 0 then 45 :: dec (-z).toNat else dec z.toNat
def clauseB (k : List Int) : By := (k.flatMap fun l => decI l ++ [32]) ++ [48]
def headB (v : Int) (n : Nat) : By := [112, 32, 99, 110, 102, 32] ++ decI v ++ [32] ++ decI n
def putB (v : Int) (C : Cl) : By := headB v C.length ++ [10] ++ C.flatMap fun k => clauseB k ++ [10]
/-- What stands between bytes. -/
def splitB (b : UInt8) : By → List By
  | [] => [[]]
  | c :: r => if c = b then [] :: splitB b r else match splitB b r with
    | h :: t => (c :: h) :: t
    | [] => [[c]]
def valB (s : By) : Nat := s.foldl (fun n c => 10 * n + (c.toNat - 48)) 0
def digB (c : UInt8) : Bool := decide (48 ≤ c.toNat) && decide (c.toNat ≤ 57)
def readB (s : By) : Option Int :=
  let m := s.head? == some 45
  let d := if m then s.tail else s
  if d = [] ∨ 9 < d.length ∨ (d.head? = some 48 ∧ (1 < d.length ∨ m = true)) then none
  else if d.all digB then some (if m then -(valB d : Int) else valB d) else none
def lineC (v : Int) (s : By) : Option (List Int) :=
  let w := splitB 32 s
  if w.getLast? = some [48] then (w.dropLast).mapM fun x => match readB x with
    | some z => if isL z v then some z else none
    | none => none
  else none
def getB (t : By) : Option (Int × Cl) :=
  let l := splitB 10 t
  if l.length < 2 ∨ l.getLast? ≠ some [] then none else
  let w := splitB 32 (l.headD [])
  if w.length ≠ 4 ∨ w[0]? ≠ some [112] ∨ w[1]? ≠ some [99, 110, 102] then none else
  match readB (w.getD 2 []), readB (w.getD 3 []) with
  | some v, some n => if 0 ≤ v ∧ v ≤ 1000000 ∧ n = l.length - 2 then
      (match (l.tail.dropLast).mapM (lineC v) with
      | some C => some (v, C)
      | none => none) else none
  | _, _ => none

theorem dig_nat {d : Nat} (h : d < 10) : (UInt8.ofNat (48 + d)).toNat = 48 + d := by
  simp
  omega
theorem dec_small {u : Nat} (h : u < 10) : dec u = [UInt8.ofNat (48 + u)] := Lib.decDigits_one h
theorem dec_big {u : Nat} (h : ¬ u < 10) : dec u = dec (u / 10) ++ [UInt8.ofNat (48 + u % 10)] := by
  unfold dec
  rw [Lib.decDigits, dif_neg h]
theorem dec_digits (u : Nat) : ∀ c ∈ dec u, digB c = true := by
  induction u using Nat.strongRecOn with
  | _ u ih =>
    intro c hc
    by_cases h : u < 10
    · rw [dec_small h] at hc
      simp only [List.mem_singleton] at hc
      subst hc
      unfold digB
      rw [dig_nat h]
      simp
      omega
    · rw [dec_big h, List.mem_append] at hc
      rcases hc with hc | hc
      · exact ih (u / 10) (by omega) c hc
      · simp only [List.mem_singleton] at hc
        subst hc
        unfold digB
        rw [dig_nat (by omega)]
        simp
        omega
theorem dec_ne (u : Nat) : dec u ≠ [] := by
  by_cases h : u < 10
  · rw [dec_small h]; simp
  · rw [dec_big h]; simp
theorem dec_head {u : Nat} (h1 : 1 ≤ u) (r : By) : (dec u ++ r).head? ≠ some 48 := by
  induction u using Nat.strongRecOn generalizing r with
  | _ u ih =>
    by_cases h : u < 10
    · rw [dec_small h]
      intro c
      have hc : UInt8.ofNat (48 + u) = 48 := by simpa using c
      have := congrArg UInt8.toNat hc
      rw [dig_nat h] at this
      simp at this
      omega
    · rw [dec_big h, List.append_assoc]
      exact ih (u / 10) (by omega) (by omega) _
theorem dec_long {u : Nat} (h : 1 < (dec u).length) : 1 ≤ u := by
  by_cases h0 : u < 10
  · rw [dec_small h0] at h; simp at h
  · omega
theorem dec_len {u : Nat} : ∀ {k : Nat}, u < 10 ^ (k + 1) → (dec u).length ≤ k + 1 := by
  induction u using Nat.strongRecOn with
  | _ u ih =>
    intro k hk
    by_cases h : u < 10
    · rw [dec_small h]; simp
    · rw [dec_big h, List.length_append]
      cases k with
      | zero => simp at hk; omega
      | succ k =>
        have h2 : u / 10 < 10 ^ (k + 1) := by
          rw [Nat.div_lt_iff_lt_mul (by decide)]
          rw [Nat.pow_succ] at hk
          exact hk
        have := ih (u / 10) (by omega) h2
        simp only [List.length_singleton]
        omega
theorem val_snoc (s : By) (c : UInt8) : valB (s ++ [c]) = 10 * valB s + (c.toNat - 48) := by simp [valB]
theorem val_dec (u : Nat) : valB (dec u) = u := by
  induction u using Nat.strongRecOn with
  | _ u ih =>
    by_cases h : u < 10
    · rw [dec_small h]
      show 10 * 0 + (_ - 48) = u
      rw [dig_nat h]; omega
    · rw [dec_big h, val_snoc, ih (u / 10) (by omega), dig_nat (by omega)]; omega
theorem digB_not {c d : UInt8} (h : digB c = true) (hd : digB d = false) : c ≠ d := fun e => by rw [e, hd] at h; cases h
theorem read_dec {z : Int} (h1 : -1000000000 < z) (h2 : z < 1000000000) : readB (decI z) = some z := by
  unfold decI
  by_cases h : z < 0
  · rw [if_pos h]
    have hn : 1 ≤ (-z).toNat := by omega
    have hd := dec_head hn []
    rw [List.append_nil] at hd
    have hl := dec_len (u := (-z).toNat) (k := 8) (by omega)
    unfold readB
    simp only [List.head?_cons, beq_self_eq_true, if_true, List.tail_cons]
    rw [if_neg (by rintro (c | c | c); exact dec_ne _ c; omega; exact hd c.1), if_pos (by rw [List.all_eq_true]; exact dec_digits _), val_dec]
    congr 1; omega
  · rw [if_neg h]
    have hne := dec_ne z.toNat
    have hdg := dec_digits z.toNat
    have hm : ((dec z.toNat).head? == some 45) = false := by
      cases hs : dec z.toNat with
      | nil => exact absurd hs hne
      | cons c r =>
        have := hdg c (by rw [hs]; simp)
        have : c ≠ 45 := digB_not this (by decide)
        simpa using this
    have hl := dec_len (u := z.toNat) (k := 8) (by omega)
    unfold readB
    rw [hm]
    simp only [Bool.false_eq_true, if_false, or_false]
    rw [if_neg, if_pos (by rw [List.all_eq_true]; exact hdg), val_dec]
    · congr 1; omega
    · rintro (c | c | c)
      · exact hne c
      · omega
      · have := dec_head (dec_long c.2) []
        rw [List.append_nil] at this
        exact this c.1
theorem split_ne (b : UInt8) : ∀ s : By, splitB b s ≠ []
  | [] => by simp [splitB]
  | c :: r => by
    unfold splitB
    split
    · simp
    · split <;> simp
theorem split_none {b : UInt8} : ∀ {s : By}, b ∉ s → splitB b s = [s]
  | [], _ => rfl
  | c :: r, h => by
    unfold splitB
    rw [if_neg (by intro e; apply h; rw [e]; simp), split_none (fun q => h (by simp [q]))]
theorem split_at {b : UInt8} : ∀ {s r : By}, b ∉ s → splitB b (s ++ b :: r) = s :: splitB b r
  | [], r, _ => by simp [splitB]
  | c :: s, r, h => by
    rw [List.cons_append]
    conv => lhs; unfold splitB
    rw [if_neg (by intro e; apply h; rw [e]; simp), split_at (fun q => h (by simp [q]))]
theorem decI_no {z : Int} {b : UInt8} (h : digB b = false) (h2 : b ≠ 45) : b ∉ decI z := by
  unfold decI
  split
  · intro c
    rcases List.mem_cons.1 c with c | c
    · exact h2 c
    · have := dec_digits _ b c; rw [h] at this; cases this
  · intro c
    have := dec_digits _ b c; rw [h] at this; cases this
theorem split_clause : ∀ k : List Int, splitB 32 (clauseB k) = k.map decI ++ [[48]]
  | [] => by decide
  | l :: r => by
    have : clauseB (l :: r) = decI l ++ 32 :: clauseB r := by simp [clauseB]
    rw [this, split_at (decI_no (by decide) (by decide)), split_clause r]; rfl
theorem clause_no (k : List Int) : (10 : UInt8) ∉ clauseB k := by
  induction k with
  | nil => decide
  | cons l r ih =>
    have : clauseB (l :: r) = decI l ++ 32 :: clauseB r := by simp [clauseB]
    rw [this]
    intro c
    rcases List.mem_append.1 c with c | c
    · exact decI_no (by decide) (by decide) c
    · rcases List.mem_cons.1 c with c | c
      · exact absurd c (by decide)
      · exact ih c
theorem split_lines : ∀ C : Cl, splitB 10 (C.flatMap fun k => clauseB k ++ [10]) = C.map clauseB ++ [[]]
  | [] => rfl
  | k :: r => by
    have : ((k :: r).flatMap fun k => clauseB k ++ [10]) = clauseB k ++ 10 :: (r.flatMap fun k => clauseB k ++ [10]) := by simp
    rw [this, split_at (clause_no k), split_lines r]; rfl
theorem head_no (v : Int) (n : Nat) : (10 : UInt8) ∉ headB v n := by
  unfold headB
  intro c
  simp only [List.mem_append] at c
  rcases c with ((c | c) | c) | c
  · revert c; decide
  · exact decI_no (by decide) (by decide) c
  · revert c; decide
  · exact decI_no (by decide) (by decide) c
theorem split_head (v : Int) (n : Nat) : splitB 32 (headB v n) = [[112], [99, 110, 102], decI v, decI n] := by
  have : headB v n = [112] ++ 32 :: ([99, 110, 102] ++ 32 :: (decI v ++ 32 :: decI n)) := by simp [headB]
  rw [this, split_at (by decide), split_at (by decide), split_at (decI_no (by decide) (by decide)), split_none (decI_no (by decide) (by decide))]
theorem mapM_some {α β : Type} {f : α → Option β} {g : α → β} : ∀ {l : List α}, (∀ x ∈ l, f x = some (g x)) → l.mapM f = some (l.map g)
  | [], _ => rfl
  | x :: r, h => by
    rw [List.mapM_cons, h x (by simp), mapM_some (fun y hy => h y (by simp [hy]))]
    rfl
theorem line_clause {v : Int} {k : List Int} (hv : v ≤ 1000000) (hk : ∀ l ∈ k, isL l v = true) : lineC v (clauseB k) = some k := by
  unfold lineC
  rw [split_clause]
  simp only [List.getLast?_append, List.getLast?_singleton, Option.some_or, if_true, List.dropLast_concat]
  rw [List.mapM_map]
  have := mapM_some (f := fun l => match readB (decI l) with
    | some z => if isL z v = true then some z else none
    | none => none) (g := id) (l := k) (fun l hl => by
      have hi := hk l hl
      obtain ⟨_, a, b⟩ := isL_ne hi
      rw [read_dec (by omega) (by omega)]
      simp [hi])
  simpa [Function.comp_def] using this
theorem get_put {v : Int} {C : Cl} (h : mayC v C = true) (hn : C.length < 1000000000) : getB (putB v C) = some (v, C) := by
  obtain ⟨hv, hk⟩ := mayC_parts h
  unfold mayV at hv
  simp only [Bool.and_eq_true, decide_eq_true_eq] at hv
  have e : splitB 10 (putB v C) = headB v C.length :: (C.map clauseB ++ [[]]) := by
    have : putB v C = headB v C.length ++ 10 :: (C.flatMap fun k => clauseB k ++ [10]) := by simp [putB]
    rw [this, split_at (head_no _ _), split_lines]
  unfold getB
  rw [e]
  simp only [List.headD_cons, split_head]
  rw [if_neg (by rw [show headB v C.length :: (C.map clauseB ++ [[]]) = (headB v C.length :: C.map clauseB) ++ [[]] by simp, List.getLast?_concat]; simp), if_neg (by simp)]
  simp only [List.getD_cons_succ, List.getD_cons_zero]
  rw [read_dec (by omega) (by omega), read_dec (by omega) (by omega)]
  simp only
  rw [if_pos ⟨hv.1, hv.2, by simp; omega⟩]
  simp only [List.tail_cons, List.dropLast_concat]
  rw [List.mapM_map]
  have := mapM_some (f := lineC v ∘ clauseB) (g := id) (l := C) (fun k hk' => line_clause hv.2 (hk k hk'))
  rw [List.map_id] at this
  rw [this]
end Cf
end Go.Proofs.YtcpehdeddgfpmaaDoor
