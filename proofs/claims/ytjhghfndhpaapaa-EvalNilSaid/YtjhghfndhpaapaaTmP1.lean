/-
Plain facts for layer term: a node as seven numbers, which nodes may be, what is made of a list of nodes.
Plain facts for Vars of layer term: what is below a node; what a search that goes by marks and a list of what is still to do keeps.
-/
import Derived.Test.YtjhghfndhpaapaaBvP1
import Derived.Below
import Derived.Laws.AppendOwn
namespace Go.Proofs.Ytjhghfndhpaapaa
open Go.RowKit Bv
namespace Tm
set_option maxHeartbeats 400000

/-- A node: its operator, width, kids, number, low place. -/
structure Nd where
  o : Nat
  w : Nat
  k0 : Int
  k1 : Int
  k2 : Int
  n : Nat
  l : Nat

theorem Nd.same {a b : Nd} (h0 : a.o = b.o) (h1 : a.w = b.w) (h2 : a.k0 = b.k0) (h3 : a.k1 = b.k1) (h4 : a.k2 = b.k2) (h5 : a.n = b.n) (h6 : a.l = b.l) : a = b := by
  cases a; cases b; simp_all
def Nd.eqB (a b : Nd) : Bool := ((a.o : Int) == b.o) && ((a.w : Int) == b.w) && (a.k0 == b.k0) && (a.k1 == b.k1) && (a.k2 == b.k2) && ((a.n : Int) == b.n) && ((a.l : Int) == b.l)
theorem Nd.eqB_iff {a b : Nd} : a.eqB b = true ↔ a = b := by
  constructor
  · intro h
    simp only [Nd.eqB, Bool.and_eq_true, beq_iff_eq, Int.natCast_inj] at h
    exact Nd.same h.1.1.1.1.1.1 h.1.1.1.1.1.2 h.1.1.1.1.2 h.1.1.1.2 h.1.1.2 h.1.2 h.2
  · rintro rfl; simp [Nd.eqB]
instance : DecidableEq Nd := fun a b => if h : a.eqB b = true then isTrue (Nd.eqB_iff.1 h) else isFalse (fun e => h (Nd.eqB_iff.2 e))
theorem Nd.eqB_eq (a b : Nd) : a.eqB b = decide (a = b) := by
  by_cases h : a = b
  · simp [h, Nd.eqB_iff.2 rfl]
  · have : ¬ a.eqB b = true := fun e => h (Nd.eqB_iff.1 e)
    simp [h, this]

/-- A whole number of 64 bits. -/
def I64 (i : Int) : Prop := -9223372036854775808 ≤ i ∧ i < 9223372036854775808
structure Nd.Ok (x : Nd) : Prop where
  o : x.o ≤ 255
  w : x.w ≤ 255
  k0 : I64 x.k0
  k1 : I64 x.k1
  k2 : I64 x.k2
  n : x.n < 18446744073709551616
  l : x.l ≤ 255

def Nd.cells (x : Nd) : Array Value := #[.int .u8 x.o, .int .u8 x.w, .int .i64 x.k0, .int .i64 x.k1, .int .i64 x.k2, .int .u64 x.n, .int .u8 x.l]
def Nd.val (x : Nd) : Value := .agg #[.int .u8 x.o, .int .u8 x.w, .int .i64 x.k0, .int .i64 x.k1, .int .i64 x.k2, .int .u64 x.n, .int .u8 x.l]
theorem Nd.val_inj {x y : Nd} (h : x.val = y.val) : x = y := by
  simp only [Nd.val, Value.agg.injEq, Array.mk.injEq, List.cons.injEq, Value.int.injEq, Int.natCast_inj, true_and, and_true] at h
  exact Nd.same h.1 h.2.1 h.2.2.1 h.2.2.2.1 h.2.2.2.2.1 h.2.2.2.2.2.1 h.2.2.2.2.2.2

/-- How many kids an operator has; 0 of what is none. -/
def kc (o : Nat) : Nat := if o = 3 ∨ o = 4 ∨ o = 22 ∨ o = 23 ∨ o = 24 then 1 else if 5 ≤ o ∧ o ≤ 21 then 2 else if o = 25 then 3 else 0
theorem kc_le (o : Nat) : kc o ≤ 3 := by unfold kc; (repeat' split); all_goals omega

/-- The node with those fields alone that its operator has. -/
def own (x : Nd) : Nd := ⟨x.o, x.w, if 1 ≤ kc x.o then x.k0 else 0, if 2 ≤ kc x.o then x.k1 else 0, if 3 ≤ kc x.o then x.k2 else 0, if x.o = 1 ∨ x.o = 2 then x.n else 0, if x.o = 22 then x.l else 0⟩

/-- The kid's place i. -/
def Nd.kid (x : Nd) (i : Nat) : Int := match i with | 0 => x.k0 | 1 => x.k1 | _ => x.k2

/-- Is it the number of a node of L? -/
def inB (L : List Nd) (k : Int) : Bool := decide (0 ≤ k ∧ k < (L.length : Int))
def kidsB (L : List Nd) (x : Nd) : Bool := decide (∀ i, i < kc x.o → inB L (x.kid i) = true)
/-- The width of the node with the number k; 0 if there is none. -/
def widAt (L : List Nd) (k : Int) : Nat := ((L[k.toNat]?).map Nd.w).getD 0
/-- What stands in the place i of the vectors that an operator is asked of. -/
def wid (L : List Nd) (x : Nd) (i : Nat) : Nat := if i < kc x.o then widAt L (x.kid i) else 0

/-- The width that an operator answers of vectors of the widths a, b, c; 0: it refuses. -/
def vecW (o w l a b c : Nat) : Nat :=
  if o = 3 ∨ o = 4 then (if 1 ≤ a ∧ a ≤ 64 then a else 0)
  else if o = 22 then (if 1 ≤ a ∧ a ≤ 64 ∧ 1 ≤ w ∧ l + w ≤ a then w else 0)
  else if o = 23 ∨ o = 24 then (if 1 ≤ a ∧ a ≤ w ∧ w ≤ 64 then w else 0)
  else if o = 25 then (if a = 1 ∧ b = c ∧ 1 ≤ b ∧ b ≤ 64 then b else 0)
  else (if 1 ≤ a ∧ a ≤ 64 ∧ 1 ≤ b ∧ b ≤ 64 then widthB o a b else 0)

/-- May the node be, behind the nodes L? -/
def mayN (L : List Nd) (x : Nd) : Bool :=
  decide (x = own x) && kidsB L x &&
    (if x.o = 1 then mayB x.w x.n else if x.o = 2 then mayB x.w 0 && decide (x.n < 256)
     else (decide (¬ vecW x.o x.w x.l (wid L x 0) (wid L x 1) (wid L x 2) = 0) && decide (vecW x.o x.w x.l (wid L x 0) (wid L x 1) (wid L x 2) = x.w)))

/-- The number of the node x. -/
def idx (L : List Nd) (x : Nd) : Nat := L.findIdx (fun y => decide (y = x))

/-- The widths of the variables, as L has them. -/
def wdOf (L : List Nd) (v : Nat) : Nat := ((L.find? (fun y => decide (y.o = 2 ∧ y.n = v))).map Nd.w).getD 0

/-- What Make does: the nodes behind it, the number, the error. -/
def mk (L : List Nd) (x : Nd) : List Nd × Nat × Nat :=
  if mayN L x = false then (L, 0, 2)
  else if x.o = 2 ∧ ¬ wdOf L x.n = 0 ∧ ¬ wdOf L x.n = x.w then (L, 0, 7)
  else if x ∈ L then (L, idx L x, 0)
  else if 200000 ≤ L.length then (L, 0, 3)
  else (L ++ [x], L.length, 0)

theorem widthB_le' {o a b : Nat} (ha : a ≤ 64) : widthB o a b ≤ 64 := widthB_le ha
theorem vecW_le {o w l a b c : Nat} : vecW o w l a b c ≤ 64 := by
  unfold vecW
  repeat' split
  all_goals (try omega)
  rename_i h
  exact widthB_le h.2.1

theorem mayN_w {L : List Nd} {x : Nd} (h : mayN L x = true) : 1 ≤ x.w ∧ x.w ≤ 64 := by
  unfold mayN at h
  simp only [Bool.and_eq_true, decide_eq_true_eq] at h
  have h3 := h.2
  split at h3
  · have := mayB_true h3; omega
  · split at h3
    · simp only [Bool.and_eq_true] at h3; have := mayB_true h3.1; omega
    · simp only [Bool.and_eq_true, decide_eq_true_eq] at h3
      have := @vecW_le x.o x.w x.l (wid L x 0) (wid L x 1) (wid L x 2)
      omega
theorem mayN_own {L : List Nd} {x : Nd} (h : mayN L x = true) : x = own x := by
  unfold mayN at h
  simp only [Bool.and_eq_true, decide_eq_true_eq] at h
  exact h.1.1
theorem mayN_kid {L : List Nd} {x : Nd} (h : mayN L x = true) {i : Nat} (hi : i < kc x.o) : 0 ≤ x.kid i ∧ x.kid i < (L.length : Int) := by
  unfold mayN at h
  simp only [Bool.and_eq_true, decide_eq_true_eq, kidsB] at h
  have := h.1.2 i hi
  simpa [inB] using this
theorem mayN_var {L : List Nd} {x : Nd} (h : mayN L x = true) (h2 : x.o = 2) : x.n < 256 := by
  unfold mayN at h
  rw [if_neg (by omega), if_pos h2] at h
  simp only [Bool.and_eq_true, decide_eq_true_eq] at h
  exact h.2.2

/-- What holds of each list that Make makes. -/
structure Gd (L : List Nd) : Prop where
  ok : ∀ x ∈ L, x.Ok
  w : ∀ x ∈ L, 1 ≤ x.w ∧ x.w ≤ 64
  kid : ∀ (i : Nat) (x : Nd), L[i]? = some x → ∀ j, j < kc x.o → 0 ≤ x.kid j ∧ x.kid j < (i : Int)
  var : ∀ x ∈ L, x.o = 2 → x.n < 256
  own : ∀ x ∈ L, x = own x
  nodup : L.Nodup
  wd : ∀ x ∈ L, x.o = 2 → wdOf L x.n = x.w
  len : L.length ≤ 200000

theorem gd_nil : Gd [] := ⟨by simp, by simp, by simp, by simp, by simp, by simp, by simp, by simp⟩

theorem wdOf_append (L : List Nd) (x : Nd) (v : Nat) : wdOf (L ++ [x]) v = if wdOf L v = 0 ∧ x.o = 2 ∧ x.n = v ∧ (∀ y ∈ L, y.o = 2 → y.n = v → 1 ≤ y.w) then x.w else wdOf L v := by
  unfold wdOf
  rw [List.find?_append]
  cases hf : L.find? (fun y => decide (y.o = 2 ∧ y.n = v)) with
  | none =>
    simp only [Option.none_or, List.find?_singleton, Option.map_none, Option.getD_none, true_and]
    by_cases hx : x.o = 2 ∧ x.n = v
    · rw [if_pos (by simpa using hx), if_pos]
      · simp
      · refine ⟨hx.1, hx.2, fun y hy h1 h2 => ?_⟩
        have := List.find?_eq_none.1 hf y hy
        simp [h1, h2] at this
    · rw [if_neg (by simpa using hx), if_neg (fun h => hx ⟨h.1, h.2.1⟩)]
      simp
  | some y =>
    simp only [Option.some_or, Option.map_some, Option.getD_some]
    have hy := List.find?_some hf
    simp only [decide_eq_true_eq] at hy
    rw [if_neg]
    rintro ⟨h0, _, _, h3⟩
    have := h3 y (List.mem_of_find?_eq_some hf) hy.1 hy.2
    omega

theorem Gd.widAt {L : List Nd} (g : Gd L) {k : Int} (h0 : 0 ≤ k) (h1 : k < (L.length : Int)) : 1 ≤ widAt L k ∧ widAt L k ≤ 64 := by
  unfold Tm.widAt
  have hl : k.toNat < L.length := by omega
  rw [List.getElem?_eq_getElem hl]
  exact g.w _ (List.getElem_mem hl)

theorem gd_step {L : List Nd} (g : Gd L) {x : Nd} (hx : x.Ok) : Gd (mk L x).1 := by
  unfold Tm.mk
  split
  · exact g
  rename_i h1
  have hm : mayN L x = true := by simpa using h1
  split
  · exact g
  rename_i h2
  split
  · exact g
  rename_i h3
  split
  · exact g
  rename_i h4
  have hxw := mayN_w hm
  have hall : ∀ v, ∀ y ∈ L, y.o = 2 → y.n = v → 1 ≤ y.w := fun v y hy _ _ => (g.w y hy).1
  refine ⟨?_, ?_, ?_, ?_, ?_, ?_, ?_, ?_⟩
  · intro y hy
    rcases List.mem_append.1 hy with h | h
    · exact g.ok y h
    · simp at h; subst h; exact hx
  · intro y hy
    rcases List.mem_append.1 hy with h | h
    · exact g.w y h
    · simp at h; subst h; exact hxw
  · intro i y hi j hj
    by_cases hlt : i < L.length
    · rw [List.getElem?_append_left hlt] at hi
      exact g.kid i y hi j hj
    · rw [List.getElem?_append_right (by omega)] at hi
      have hi0 : i - L.length = 0 := by
        by_cases h0 : i - L.length = 0
        · exact h0
        · rw [List.getElem?_eq_none (by simp; omega)] at hi; simp at hi
      rw [hi0] at hi
      simp at hi
      subst hi
      have := mayN_kid hm hj
      omega
  · intro y hy ho
    rcases List.mem_append.1 hy with h | h
    · exact g.var y h ho
    · simp at h; subst h; exact mayN_var hm ho
  · intro y hy
    rcases List.mem_append.1 hy with h | h
    · exact g.own y h
    · simp at h; subst h; exact mayN_own hm
  · rw [List.nodup_append]
    refine ⟨g.nodup, by simp, ?_⟩
    intro a ha b hb e
    simp at hb
    subst hb; subst e
    exact h3 ha
  · intro y hy ho
    rw [wdOf_append]
    rcases List.mem_append.1 hy with h | h
    · have hw := g.wd y h ho
      have := g.w y h
      rw [if_neg (fun hc => by have := hc.1; omega)]
      exact hw
    · simp at h; subst h
      by_cases hz : wdOf L y.n = 0
      · rw [if_pos ⟨hz, ho, rfl, hall _⟩]
      · rw [if_neg (fun hc => hz hc.1)]
        by_cases he : wdOf L y.n = y.w
        · exact he
        · exact absurd ⟨ho, hz, he⟩ h2
  · simp; omega

theorem mk_len (L : List Nd) (x : Nd) : L.length ≤ (mk L x).1.length := by
  unfold mk
  repeat' split
  all_goals simp

/-- How many kids the document says. -/
def rk (o : Nat) : Int := if o = 1 ∨ o = 2 then 0 else if o = 3 ∨ o = 4 ∨ o = 22 ∨ o = 23 ∨ o = 24 then 1 else if 5 ≤ o ∧ o ≤ 21 then 2 else if o = 25 then 3 else -1

theorem rk_kc {o : Nat} (h : 1 ≤ o ∧ o ≤ 25) : rk o = ((kc o : Nat) : Int) := by
  have : ∀ o : Fin 26, 1 ≤ o.val → rk o.val = ((kc o.val : Nat) : Int) := by decide
  exact this ⟨o, by omega⟩ h.1

theorem mayN_op {L : List Nd} {x : Nd} (h : mayN L x = true) : 1 ≤ x.o ∧ x.o ≤ 25 := by
  unfold mayN at h
  simp only [Bool.and_eq_true, decide_eq_true_eq] at h
  have h3 := h.2
  split at h3
  · omega
  · split at h3
    · omega
    · simp only [Bool.and_eq_true, decide_eq_true_eq] at h3
      have hv := h3.1
      unfold vecW at hv
      split at hv
      · omega
      split at hv
      · omega
      split at hv
      · omega
      split at hv
      · omega
      split at hv
      · have := widthB_op hv; omega
      · omega

theorem rk_le (o : Nat) : rk o ≤ ((kc o : Nat) : Int) := by
  by_cases h : 1 ≤ o ∧ o ≤ 25
  · rw [rk_kc h]; omega
  · have : rk o = -1 := by unfold rk; rw [if_neg (by omega), if_neg (by omega), if_neg (by omega), if_neg (by omega)]
    omega

theorem nodup_at {L : List Nd} (nd : L.Nodup) {i j : Nat} {x : Nd} (hi : L[i]? = some x) (hj : L[j]? = some x) : i = j := by
  obtain ⟨li, ei⟩ := List.getElem?_eq_some_iff.1 hi
  obtain ⟨lj, ej⟩ := List.getElem?_eq_some_iff.1 hj
  have nd := List.pairwise_iff_getElem.1 nd
  rcases Nat.lt_trichotomy i j with c | c | c
  · exact absurd (ei.trans ej.symm) (nd i j li lj c)
  · exact c
  · exact absurd (ej.trans ei.symm) (nd j i lj li c)

end Tm
end Go.Proofs.Ytjhghfndhpaapaa

namespace Go.Proofs.Ytjhghfndhpaapaa
open Bv
namespace Tm
set_option maxHeartbeats 400000

/-- The numbers of the nodes that are below the node id, itself among them. -/
inductive Reach (L : List Nd) (id : Nat) : Nat → Prop
  | top : Reach L id id
  | kid {i j : Nat} {x : Nd} (h : Reach L id i) (hx : L[i]? = some x) (hj : j < kc x.o) : Reach L id (x.kid j).toNat

theorem Reach.le {L : List Nd} {id : Nat} (g : Gd L) {i : Nat} (h : Reach L id i) : i ≤ id := by
  induction h with
  | top => exact Nat.le_refl _
  | kid h hx hj ih => have := g.kid _ _ hx _ hj; omega

def mark (seen : Nat → Bool) (i : Nat) : Nat → Bool := fun j => if j = i then true else seen j
theorem mark_same (seen : Nat → Bool) (i : Nat) : mark seen i i = true := by simp [mark]
theorem mark_mono {seen : Nat → Bool} {i j : Nat} (h : seen j = true) : mark seen i j = true := by unfold mark; split <;> simp [h]
theorem mark_inv {seen : Nat → Bool} {i j : Nat} (h : mark seen i j = true) : j = i ∨ seen j = true := by
  unfold mark at h
  split at h
  · left; assumption
  · right; exact h

/-- v is a variable's number below id. -/
def Below2 (L : List Nd) (id v : Nat) : Prop := ∃ i x, Reach L id i ∧ L[i]? = some x ∧ x.o = 2 ∧ x.n = v

structure Inv (L : List Nd) (id : Nat) (seen : Nat → Bool) (T vs : List Nat) (k m : Nat) : Prop where
  i0 : seen id = true
  re : ∀ i, seen i = true → Reach L id i
  nd : T.Nodup
  ts : ∀ i ∈ T, seen i = true
  cl : ∀ i x j, seen i = true → ¬ i ∈ T → L[i]? = some x → j < kc x.o → seen (x.kid j).toNat = true ∨ (i = k ∧ m ≤ j)
  vn : vs.Nodup
  vm : ∀ v, v ∈ vs ↔ ∃ i x, seen i = true ∧ ¬ i ∈ T ∧ L[i]? = some x ∧ x.o = 2 ∧ x.n = v

theorem inv_start (L : List Nd) (id : Nat) : Inv L id (mark (fun _ => false) id) [id] [] 0 4 := by
  have h1 : ∀ i, mark (fun _ => false) id i = true → i = id := fun i h => by
    rcases mark_inv h with e | e
    · exact e
    · simp at e
  refine ⟨mark_same _ _, fun i h => by rw [h1 i h]; exact .top, by simp, fun i hi => by simp at hi; subst hi; exact mark_same _ _, ?_, by simp, ?_⟩
  · intro i x j hs hn
    rw [h1 i hs] at hn
    simp at hn
  · intro v
    simp only [List.not_mem_nil, false_iff]
    rintro ⟨i, x, hs, hn, _⟩
    rw [h1 i hs] at hn
    simp at hn

theorem var_eq {L : List Nd} (g : Gd L) {i j : Nat} {x y : Nd} (hx : L[i]? = some x) (hy : L[j]? = some y) (ox : x.o = 2) (oy : y.o = 2) (h : x.n = y.n) : i = j := by
  have mx := List.mem_of_getElem? hx
  have my := List.mem_of_getElem? hy
  have wx := g.wd x mx ox
  have wy := g.wd y my oy
  have e : x = y := by
    rw [g.own x mx, g.own y my]
    have kx : kc x.o = 0 := by rw [ox]; decide
    have ky : kc y.o = 0 := by rw [oy]; decide
    refine Nd.same ?_ ?_ ?_ ?_ ?_ ?_ ?_
    · show x.o = y.o; rw [ox, oy]
    · show x.w = y.w; rw [← wx, ← wy, h]
    · show (if 1 ≤ kc x.o then x.k0 else 0) = (if 1 ≤ kc y.o then y.k0 else 0); rw [kx, ky]; rfl
    · show (if 2 ≤ kc x.o then x.k1 else 0) = (if 2 ≤ kc y.o then y.k1 else 0); rw [kx, ky]; rfl
    · show (if 3 ≤ kc x.o then x.k2 else 0) = (if 3 ≤ kc y.o then y.k2 else 0); rw [kx, ky]; rfl
    · show (if x.o = 1 ∨ x.o = 2 then x.n else 0) = (if y.o = 1 ∨ y.o = 2 then y.n else 0); rw [if_pos (.inr ox), if_pos (.inr oy), h]
    · show (if x.o = 22 then x.l else 0) = (if y.o = 22 then y.l else 0); rw [if_neg (by omega), if_neg (by omega)]
  subst e
  obtain ⟨hi, ei⟩ := List.getElem?_eq_some_iff.1 hx
  obtain ⟨hj, ej⟩ := List.getElem?_eq_some_iff.1 hy
  have nd := List.pairwise_iff_getElem.1 g.nodup
  rcases Nat.lt_trichotomy i j with c | c | c
  · exact absurd (ei.trans ej.symm) (nd i j hi hj c)
  · exact c
  · exact absurd (ej.trans ei.symm) (nd j i hj hi c)

/-- What was last to do is taken off. -/
theorem Inv.pop {L : List Nd} {id : Nat} {seen : Nat → Bool} {T vs : List Nat} {k k' : Nat} (h : Inv L id seen (T ++ [k]) vs k' 4) {x : Nd} (hx : L[k]? = some x) (ho : ¬ x.o = 2) : Inv L id seen T vs k 0 := by
  have nd := h.nd
  rw [List.nodup_append] at nd
  have hkT : ¬ k ∈ T := fun e => nd.2.2 k e k (by simp) rfl
  refine ⟨h.i0, h.re, nd.1, fun i hi => h.ts i (by simp [hi]), ?_, h.vn, ?_⟩
  · intro i y j hs hn hy hj
    by_cases e : i = k
    · right; exact ⟨e, by omega⟩
    · rcases h.cl i y j hs (by simp [hn, e]) hy hj with c | c
      · left; exact c
      · have := kc_le y.o; omega
  · intro v
    rw [h.vm v]
    constructor
    · rintro ⟨i, y, a, b, c, d, e⟩
      exact ⟨i, y, a, fun hc => b (by simp [hc]), c, d, e⟩
    · rintro ⟨i, y, a, b, c, d, e⟩
      refine ⟨i, y, a, fun hc => ?_, c, d, e⟩
      rcases List.mem_append.1 hc with hc | hc
      · exact b hc
      · simp at hc
        subst hc
        rw [hx] at c
        simp at c
        subst c
        exact ho d

theorem Inv.popVar {L : List Nd} {id : Nat} {seen : Nat → Bool} {T vs : List Nat} {k k' : Nat} (g : Gd L) (h : Inv L id seen (T ++ [k]) vs k' 4) {x : Nd} (hx : L[k]? = some x) (ho : x.o = 2) : Inv L id seen T (vs ++ [x.n]) k 0 := by
  have nd := h.nd
  rw [List.nodup_append] at nd
  have hkT : ¬ k ∈ T := fun e => nd.2.2 k e k (by simp) rfl
  have hk := h.ts k (by simp)
  refine ⟨h.i0, h.re, nd.1, fun i hi => h.ts i (by simp [hi]), ?_, ?_, ?_⟩
  · intro i y j hs hn hy hj
    by_cases e : i = k
    · right; exact ⟨e, by omega⟩
    · rcases h.cl i y j hs (by simp [hn, e]) hy hj with c | c
      · left; exact c
      · have := kc_le y.o; omega
  · rw [List.nodup_append]
    refine ⟨h.vn, by simp, ?_⟩
    intro a ha b hb e
    simp at hb
    subst hb; subst e
    obtain ⟨i, y, s, n, hy, oy, ny⟩ := (h.vm _).1 ha
    have := var_eq g hy hx oy ho ny
    subst this
    exact n (by simp)
  · intro v
    rw [List.mem_append, h.vm v]
    constructor
    · rintro (⟨i, y, a, b, c, d, e⟩ | hv)
      · exact ⟨i, y, a, fun hc => b (by simp [hc]), c, d, e⟩
      · simp at hv
        subst hv
        exact ⟨k, x, hk, hkT, hx, ho, rfl⟩
    · rintro ⟨i, y, a, b, c, d, e⟩
      by_cases ek : i = k
      · right
        subst ek
        rw [hx] at c
        simp at c
        subst c
        simp [e]
      · left
        exact ⟨i, y, a, by simp [b, ek], c, d, e⟩

def seen' (seen : Nat → Bool) (i : Nat) : Nat → Bool := if seen i = true then seen else mark seen i
def todo' (seen : Nat → Bool) (T : List Nat) (i : Nat) : List Nat := if seen i = true then T else T ++ [i]

/-- A kid is reached. -/
theorem Inv.reach {L : List Nd} {id : Nat} {seen : Nat → Bool} {T vs : List Nat} {k m : Nat} (h : Inv L id seen T vs k m) {x : Nd} (hx : L[k]? = some x) (hs : seen k = true) (hm : m < kc x.o) :
    Inv L id (seen' seen (x.kid m).toNat) (todo' seen T (x.kid m).toNat) vs k (m + 1) := by
  unfold seen' todo'
  by_cases hi : seen (x.kid m).toNat = true
  · rw [if_pos hi, if_pos hi]
    refine ⟨h.i0, h.re, h.nd, h.ts, ?_, h.vn, h.vm⟩
    intro i y j si ni hy hj
    rcases h.cl i y j si ni hy hj with c | ⟨c, d⟩
    · left; exact c
    · by_cases e : j = m
      · subst c; subst e
        rw [hx] at hy
        simp at hy
        subst hy
        left; exact hi
      · right; exact ⟨c, by omega⟩
  · rw [if_neg hi, if_neg hi]
    have hne : ∀ j, seen j = true → j ≠ (x.kid m).toNat := fun j hj e => hi (e ▸ hj)
    have hnT : ¬ (x.kid m).toNat ∈ T := fun e => hi (h.ts _ e)
    have done : ∀ j, mark seen (x.kid m).toNat j = true → ¬ j ∈ T ++ [(x.kid m).toNat] → seen j = true ∧ ¬ j ∈ T := by
      intro j a b
      rw [List.mem_append] at b
      rcases mark_inv a with c | c
      · subst c; exact absurd (.inr (by simp)) b
      · exact ⟨c, fun e => b (.inl e)⟩
    refine ⟨mark_mono h.i0, ?_, ?_, ?_, ?_, h.vn, ?_⟩
    · intro i hs'
      rcases mark_inv hs' with c | c
      · rw [c]; exact .kid (h.re k hs) hx hm
      · exact h.re i c
    · rw [List.nodup_append]
      exact ⟨h.nd, by simp, fun a ha b hb e => by simp at hb; subst hb; subst e; exact hnT ha⟩
    · intro i hi'
      rcases List.mem_append.1 hi' with c | c
      · exact mark_mono (h.ts i c)
      · simp at c; subst c; exact mark_same _ _
    · intro i y j si ni hy hj
      obtain ⟨a, b⟩ := done i si ni
      rcases h.cl i y j a b hy hj with c | ⟨c, d⟩
      · left; exact mark_mono c
      · by_cases e : j = m
        · subst c; subst e
          rw [hx] at hy
          simp at hy
          subst hy
          left; exact mark_same _ _
        · right; exact ⟨c, by omega⟩
    · intro v
      rw [h.vm v]
      constructor
      · rintro ⟨i, y, a, b, c⟩
        refine ⟨i, y, mark_mono a, ?_, c⟩
        rw [List.mem_append]
        rintro (d | d)
        · exact b d
        · simp at d; exact hne i a d
      · rintro ⟨i, y, a, b, c⟩
        obtain ⟨d, e⟩ := done i a b
        exact ⟨i, y, d, e, c⟩

theorem Inv.closed {L : List Nd} {id : Nat} {seen : Nat → Bool} {T vs : List Nat} {k m : Nat} (h : Inv L id seen T vs k m) {x : Nd} (hx : L[k]? = some x) (hm : kc x.o ≤ m) : Inv L id seen T vs k 4 := by
  refine ⟨h.i0, h.re, h.nd, h.ts, ?_, h.vn, h.vm⟩
  intro i y j si ni hy hj
  rcases h.cl i y j si ni hy hj with c | ⟨c, d⟩
  · left; exact c
  · subst c
    rw [hx] at hy
    simp at hy
    subst hy
    omega

theorem Inv.done {L : List Nd} {id : Nat} {seen : Nat → Bool} {vs : List Nat} {k : Nat} (h : Inv L id seen [] vs k 4) : vs.Nodup ∧ ∀ v, v ∈ vs ↔ Below2 L id v := by
  have hr : ∀ i, Reach L id i → seen i = true := by
    intro i hi
    induction hi with
    | top => exact h.i0
    | @kid i j x hi hx hj ih =>
      rcases h.cl i x j ih (by simp) hx hj with c | c
      · exact c
      · have := kc_le x.o; omega
  refine ⟨h.vn, fun v => ?_⟩
  rw [h.vm v]
  constructor
  · rintro ⟨i, x, a, _, c⟩; exact ⟨i, x, h.re i a, c⟩
  · rintro ⟨i, x, a, c⟩; exact ⟨i, x, hr i a, by simp, c⟩

/-! ### how many rounds -/
def unseen (id : Nat) (seen : Nat → Bool) : Nat := ((List.range (id + 1)).filter (fun i => !seen i)).length
theorem filter_mark (seen : Nat → Bool) (i : Nat) (hn : seen i = false) : ∀ l : List Nat, l.Nodup → i ∈ l → (l.filter (fun j => !mark seen i j)).length + 1 = (l.filter (fun j => !seen j)).length
  | [], _, h => by simp at h
  | a :: l, hd, h => by
    rw [List.nodup_cons] at hd
    by_cases e : a = i
    · subst e
      have : l.filter (fun j => !mark seen a j) = l.filter (fun j => !seen j) := by
        apply List.filter_congr
        intro j hj
        have : ¬ j = a := fun e => hd.1 (e ▸ hj)
        simp [mark, this]
      rw [List.filter_cons, List.filter_cons, this]
      simp [mark_same, hn]
    · have hm : i ∈ l := by simpa [Ne.symm e] using h
      have ih := filter_mark seen i hn l hd.2 hm
      have ea : mark seen i a = seen a := by simp [mark, e]
      rw [List.filter_cons, List.filter_cons, ea]
      cases seen a <;> simp <;> omega
theorem unseen_mark {id i : Nat} {seen : Nat → Bool} (hn : seen i = false) (hi : i < id + 1) : unseen id (mark seen i) + 1 = unseen id seen :=
  filter_mark seen i hn _ List.nodup_range (by simp; omega)
def meas (id : Nat) (seen : Nat → Bool) (T : List Nat) : Nat := 2 * unseen id seen + T.length
theorem meas_reach {id i : Nat} {seen : Nat → Bool} {T : List Nat} (hi : i < id + 1) : meas id (seen' seen i) (todo' seen T i) ≤ meas id seen T := by
  unfold seen' todo' meas
  cases h : seen i
  · rw [if_neg (by simp), if_neg (by simp)]
    have := unseen_mark h hi
    simp only [List.length_append, List.length_cons, List.length_nil]
    omega
  · rw [if_pos rfl, if_pos rfl]
    exact Nat.le_refl _
theorem meas_pop {id k : Nat} {seen : Nat → Bool} {T : List Nat} : meas id seen T < meas id seen (T ++ [k]) := by
  unfold meas
  simp

theorem nodup_le : ∀ (n : Nat) (T : List Nat), T.Nodup → (∀ i ∈ T, i < n) → T.length ≤ n
  | 0, T, _, h => by
    cases T with
    | nil => simp
    | cons a t => have := h a (by simp); omega
  | n + 1, T, nd, h => by
    by_cases hn : n ∈ T
    · have ih := nodup_le n (T.erase n) (nd.erase n) (fun i hi => by
        have hm := (List.Nodup.mem_erase_iff nd).1 hi
        have := h i hm.2
        omega)
      rw [List.length_erase_of_mem hn] at ih
      omega
    · have ih := nodup_le n T nd (fun i hi => by
        have := h i hi
        have : i ≠ n := fun e => hn (e ▸ hi)
        omega)
      omega

theorem Inv.len {L : List Nd} {id : Nat} {seen : Nat → Bool} {T vs : List Nat} {k m : Nat} (g : Gd L) (h : Inv L id seen T vs k m) : T.length ≤ id + 1 := by
  exact nodup_le _ _ h.nd (fun i hi => by have := (h.re i (h.ts i hi)).le g; omega)

/-! ### rising lists -/
theorem rising_ext : ∀ (l l' : List Nat), l.Pairwise (· < ·) → l'.Pairwise (· < ·) → (∀ x, x ∈ l ↔ x ∈ l') → l = l'
  | [], [], _, _, _ => rfl
  | [], b :: l', _, _, h => by have := (h b).2 (by simp); simp at this
  | a :: l, [], _, _, h => by have := (h a).1 (by simp); simp at this
  | a :: l, b :: l', h1, h2, h => by
    rw [List.pairwise_cons] at h1 h2
    have e : a = b := by
      have ha := (h a).1 (by simp)
      have hb := (h b).2 (by simp)
      rw [List.mem_cons] at ha hb
      rcases ha with ha | ha
      · exact ha
      · rcases hb with hb | hb
        · exact hb.symm
        · have := h1.1 b hb; have := h2.1 a ha; omega
    subst e
    congr 1
    refine rising_ext l l' h1.2 h2.2 (fun x => ?_)
    have hx := h x
    rw [List.mem_cons, List.mem_cons] at hx
    constructor
    · intro hm
      rcases hx.1 (.inr hm) with c | c
      · have := h1.1 x hm; omega
      · exact c
    · intro hm
      rcases hx.2 (.inr hm) with c | c
      · have := h2.1 x hm; omega
      · exact c

open Classical in
/-- The variables below the node id, rising. -/
noncomputable def varsOf (L : List Nd) (id : Nat) : List Nat := (List.range 256).filter (fun v => decide (Below2 L id v))
theorem varsOf_rising (L : List Nd) (id : Nat) : (varsOf L id).Pairwise (· < ·) := List.Pairwise.filter _ List.pairwise_lt_range
theorem mem_varsOf {L : List Nd} (g : Gd L) {id v : Nat} : v ∈ varsOf L id ↔ Below2 L id v := by
  unfold varsOf
  rw [List.mem_filter]
  simp only [List.mem_range, decide_eq_true_eq]
  constructor
  · exact fun h => h.2
  · intro h
    refine ⟨?_, h⟩
    obtain ⟨i, x, _, hx, ho, hn⟩ := h
    rw [← hn]
    exact g.var x (List.mem_of_getElem? hx) ho

end Tm
end Go.Proofs.Ytjhghfndhpaapaa
