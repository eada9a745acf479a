/-
  Plain facts for layer term: a node as seven numbers, which nodes may be, what is made of a list of nodes.
-/
import Derived.Test.YthelkbdiedfmfaaGreatBvMathB
import Derived.Test.YthelkbdiedfmfaaGreatBvExit
import Derived.Below
import Derived.Laws.AppendOwn
namespace Go.Proofs.YthelkbdiedfmfaaGreat
open Go.RowKit Bv
namespace Tm
set_option maxHeartbeats 400000

/-- A node: its operator, width, kids, number, low place. -/
structure Nd where
  o : Nat
  w : Nat
  k0 : Int
  k1 : Int
  k2 : Int
  n : Nat
  l : Nat

theorem Nd.same {a b : Nd} (h0 : a.o = b.o) (h1 : a.w = b.w) (h2 : a.k0 = b.k0) (h3 : a.k1 = b.k1) (h4 : a.k2 = b.k2) (h5 : a.n = b.n) (h6 : a.l = b.l) : a = b := by
  cases a; cases b; simp_all
def Nd.eqB (a b : Nd) : Bool := ((a.o : Int) == b.o) && ((a.w : Int) == b.w) && (a.k0 == b.k0) && (a.k1 == b.k1) && (a.k2 == b.k2) && ((a.n : Int) == b.n) && ((a.l : Int) == b.l)
theorem Nd.eqB_iff {a b : Nd} : a.eqB b = true ↔ a = b := by
  constructor
  · intro h
    simp only [Nd.eqB, Bool.and_eq_true, beq_iff_eq, Int.natCast_inj] at h
    exact Nd.same h.1.1.1.1.1.1 h.1.1.1.1.1.2 h.1.1.1.1.2 h.1.1.1.2 h.1.1.2 h.1.2 h.2
  · rintro rfl; simp [Nd.eqB]
instance : DecidableEq Nd := fun a b => if h : a.eqB b = true then isTrue (Nd.eqB_iff.1 h) else isFalse (fun e => h (Nd.eqB_iff.2 e))
theorem Nd.eqB_eq (a b : Nd) : a.eqB b = decide (a = b) := by
  by_cases h : a = b
  · simp [h, Nd.eqB_iff.2 rfl]
  · have : ¬ a.eqB b = true := fun e => h (Nd.eqB_iff.1 e)
    simp [h, this]

/-- A whole number of 64 bits. -/
def I64 (i : Int) : Prop := -9223372036854775808 ≤ i ∧ i < 9223372036854775808
structure Nd.Ok (x : Nd) : Prop where
  o : x.o ≤ 255
  w : x.w ≤ 255
  k0 : I64 x.k0
  k1 : I64 x.k1
  k2 : I64 x.k2
  n : x.n < 18446744073709551616
  l : x.l ≤ 255

def Nd.cells (x : Nd) : Array Value := #[.int .u8 x.o, .int .u8 x.w, .int .i64 x.k0, .int .i64 x.k1, .int .i64 x.k2, .int .u64 x.n, .int .u8 x.l]
def Nd.val (x : Nd) : Value := .agg #[.int .u8 x.o, .int .u8 x.w, .int .i64 x.k0, .int .i64 x.k1, .int .i64 x.k2, .int .u64 x.n, .int .u8 x.l]
theorem Nd.val_inj {x y : Nd} (h : x.val = y.val) : x = y := by
  simp only [Nd.val, Value.agg.injEq, Array.mk.injEq, List.cons.injEq, Value.int.injEq, Int.natCast_inj, true_and, and_true] at h
  exact Nd.same h.1 h.2.1 h.2.2.1 h.2.2.2.1 h.2.2.2.2.1 h.2.2.2.2.2.1 h.2.2.2.2.2.2

/-- How many kids an operator has; 0 of what is none. -/
def kc (o : Nat) : Nat := if o = 3 ∨ o = 4 ∨ o = 22 ∨ o = 23 ∨ o = 24 then 1 else if 5 ≤ o ∧ o ≤ 21 then 2 else if o = 25 then 3 else 0
theorem kc_le (o : Nat) : kc o ≤ 3 := by unfold kc; (repeat' split); all_goals omega

/-- The node with those fields alone that its operator has. -/
def own (x : Nd) : Nd := ⟨x.o, x.w, if 1 ≤ kc x.o then x.k0 else 0, if 2 ≤ kc x.o then x.k1 else 0, if 3 ≤ kc x.o then x.k2 else 0, if x.o = 1 ∨ x.o = 2 then x.n else 0, if x.o = 22 then x.l else 0⟩

/-- The kid's place i. -/
def Nd.kid (x : Nd) (i : Nat) : Int := match i with | 0 => x.k0 | 1 => x.k1 | _ => x.k2

/-- Is it the number of a node of L? -/
def inB (L : List Nd) (k : Int) : Bool := decide (0 ≤ k ∧ k < (L.length : Int))
def kidsB (L : List Nd) (x : Nd) : Bool := decide (∀ i, i < kc x.o → inB L (x.kid i) = true)
/-- The width of the node with the number k; 0 if there is none. -/
def widAt (L : List Nd) (k : Int) : Nat := ((L[k.toNat]?).map Nd.w).getD 0
/-- What stands in the place i of the vectors that an operator is asked of. -/
def wid (L : List Nd) (x : Nd) (i : Nat) : Nat := if i < kc x.o then widAt L (x.kid i) else 0

/-- The width that an operator answers of vectors of the widths a, b, c; 0: it refuses. -/
def vecW (o w l a b c : Nat) : Nat :=
  if o = 3 ∨ o = 4 then (if 1 ≤ a ∧ a ≤ 64 then a else 0)
  else if o = 22 then (if 1 ≤ a ∧ a ≤ 64 ∧ 1 ≤ w ∧ l + w ≤ a then w else 0)
  else if o = 23 ∨ o = 24 then (if 1 ≤ a ∧ a ≤ w ∧ w ≤ 64 then w else 0)
  else if o = 25 then (if a = 1 ∧ b = c ∧ 1 ≤ b ∧ b ≤ 64 then b else 0)
  else (if 1 ≤ a ∧ a ≤ 64 ∧ 1 ≤ b ∧ b ≤ 64 then widthB o a b else 0)

/-- May the node be, behind the nodes L? -/
def mayN (L : List Nd) (x : Nd) : Bool :=
  decide (x = own x) && kidsB L x &&
    (if x.o = 1 then mayB x.w x.n else if x.o = 2 then mayB x.w 0 && decide (x.n < 256)
     else (decide (¬ vecW x.o x.w x.l (wid L x 0) (wid L x 1) (wid L x 2) = 0) && decide (vecW x.o x.w x.l (wid L x 0) (wid L x 1) (wid L x 2) = x.w)))

/-- The number of the node x. -/
def idx (L : List Nd) (x : Nd) : Nat := L.findIdx (fun y => decide (y = x))

/-- The widths of the variables, as L has them. -/
def wdOf (L : List Nd) (v : Nat) : Nat := ((L.find? (fun y => decide (y.o = 2 ∧ y.n = v))).map Nd.w).getD 0

/-- What Make does: the nodes behind it, the number, the error. -/
def mk (L : List Nd) (x : Nd) : List Nd × Nat × Nat :=
  if mayN L x = false then (L, 0, 2)
  else if x.o = 2 ∧ ¬ wdOf L x.n = 0 ∧ ¬ wdOf L x.n = x.w then (L, 0, 7)
  else if x ∈ L then (L, idx L x, 0)
  else if 200000 ≤ L.length then (L, 0, 3)
  else (L ++ [x], L.length, 0)

theorem widthB_le' {o a b : Nat} (ha : a ≤ 64) : widthB o a b ≤ 64 := widthB_le ha
theorem vecW_le {o w l a b c : Nat} : vecW o w l a b c ≤ 64 := by
  unfold vecW
  repeat' split
  all_goals (try omega)
  rename_i h
  exact widthB_le h.2.1

theorem mayN_w {L : List Nd} {x : Nd} (h : mayN L x = true) : 1 ≤ x.w ∧ x.w ≤ 64 := by
  unfold mayN at h
  simp only [Bool.and_eq_true, decide_eq_true_eq] at h
  have h3 := h.2
  split at h3
  · have := mayB_true h3; omega
  · split at h3
    · simp only [Bool.and_eq_true] at h3; have := mayB_true h3.1; omega
    · simp only [Bool.and_eq_true, decide_eq_true_eq] at h3
      have := @vecW_le x.o x.w x.l (wid L x 0) (wid L x 1) (wid L x 2)
      omega
theorem mayN_own {L : List Nd} {x : Nd} (h : mayN L x = true) : x = own x := by
  unfold mayN at h
  simp only [Bool.and_eq_true, decide_eq_true_eq] at h
  exact h.1.1
theorem mayN_kid {L : List Nd} {x : Nd} (h : mayN L x = true) {i : Nat} (hi : i < kc x.o) : 0 ≤ x.kid i ∧ x.kid i < (L.length : Int) := by
  unfold mayN at h
  simp only [Bool.and_eq_true, decide_eq_true_eq, kidsB] at h
  have := h.1.2 i hi
  simpa [inB] using this
theorem mayN_var {L : List Nd} {x : Nd} (h : mayN L x = true) (h2 : x.o = 2) : x.n < 256 := by
  unfold mayN at h
  rw [if_neg (by omega), if_pos h2] at h
  simp only [Bool.and_eq_true, decide_eq_true_eq] at h
  exact h.2.2

/-- What holds of each list that Make makes. -/
structure Gd (L : List Nd) : Prop where
  ok : ∀ x ∈ L, x.Ok
  w : ∀ x ∈ L, 1 ≤ x.w ∧ x.w ≤ 64
  kid : ∀ (i : Nat) (x : Nd), L[i]? = some x → ∀ j, j < kc x.o → 0 ≤ x.kid j ∧ x.kid j < (i : Int)
  var : ∀ x ∈ L, x.o = 2 → x.n < 256
  own : ∀ x ∈ L, x = own x
  nodup : L.Nodup
  wd : ∀ x ∈ L, x.o = 2 → wdOf L x.n = x.w
  len : L.length ≤ 200000

theorem gd_nil : Gd [] := ⟨by simp, by simp, by simp, by simp, by simp, by simp, by simp, by simp⟩

theorem wdOf_append (L : List Nd) (x : Nd) (v : Nat) : wdOf (L ++ [x]) v = if wdOf L v = 0 ∧ x.o = 2 ∧ x.n = v ∧ (∀ y ∈ L, y.o = 2 → y.n = v → 1 ≤ y.w) then x.w else wdOf L v := by
  unfold wdOf
  rw [List.find?_append]
  cases hf : L.find? (fun y => decide (y.o = 2 ∧ y.n = v)) with
  | none =>
    simp only [Option.none_or, List.find?_singleton, Option.map_none, Option.getD_none, true_and]
    by_cases hx : x.o = 2 ∧ x.n = v
    · rw [if_pos (by simpa using hx), if_pos]
      · simp
      · refine ⟨hx.1, hx.2, fun y hy h1 h2 => ?_⟩
        have := List.find?_eq_none.1 hf y hy
        simp [h1, h2] at this
    · rw [if_neg (by simpa using hx), if_neg (fun h => hx ⟨h.1, h.2.1⟩)]
      simp
  | some y =>
    simp only [Option.some_or, Option.map_some, Option.getD_some]
    have hy := List.find?_some hf
    simp only [decide_eq_true_eq] at hy
    rw [if_neg]
    rintro ⟨h0, _, _, h3⟩
    have := h3 y (List.mem_of_find?_eq_some hf) hy.1 hy.2
    omega

theorem Gd.widAt {L : List Nd} (g : Gd L) {k : Int} (h0 : 0 ≤ k) (h1 : k < (L.length : Int)) : 1 ≤ widAt L k ∧ widAt L k ≤ 64 := by
  unfold Tm.widAt
  have hl : k.toNat < L.length := by omega
  rw [List.getElem?_eq_getElem hl]
  exact g.w _ (List.getElem_mem hl)

theorem gd_step {L : List Nd} (g : Gd L) {x : Nd} (hx : x.Ok) : Gd (mk L x).1 := by
  unfold Tm.mk
  split
  · exact g
  rename_i h1
  have hm : mayN L x = true := by simpa using h1
  split
  · exact g
  rename_i h2
  split
  · exact g
  rename_i h3
  split
  · exact g
  rename_i h4
  have hxw := mayN_w hm
  have hall : ∀ v, ∀ y ∈ L, y.o = 2 → y.n = v → 1 ≤ y.w := fun v y hy _ _ => (g.w y hy).1
  refine ⟨?_, ?_, ?_, ?_, ?_, ?_, ?_, ?_⟩
  · intro y hy
    rcases List.mem_append.1 hy with h | h
    · exact g.ok y h
    · simp at h; subst h; exact hx
  · intro y hy
    rcases List.mem_append.1 hy with h | h
    · exact g.w y h
    · simp at h; subst h; exact hxw
  · intro i y hi j hj
    by_cases hlt : i < L.length
    · rw [List.getElem?_append_left hlt] at hi
      exact g.kid i y hi j hj
    · rw [List.getElem?_append_right (by omega)] at hi
      have hi0 : i - L.length = 0 := by
        by_cases h0 : i - L.length = 0
        · exact h0
        · rw [List.getElem?_eq_none (by simp; omega)] at hi; simp at hi
      rw [hi0] at hi
      simp at hi
      subst hi
      have := mayN_kid hm hj
      omega
  · intro y hy ho
    rcases List.mem_append.1 hy with h | h
    · exact g.var y h ho
    · simp at h; subst h; exact mayN_var hm ho
  · intro y hy
    rcases List.mem_append.1 hy with h | h
    · exact g.own y h
    · simp at h; subst h; exact mayN_own hm
  · rw [List.nodup_append]
    refine ⟨g.nodup, by simp, ?_⟩
    intro a ha b hb e
    simp at hb
    subst hb; subst e
    exact h3 ha
  · intro y hy ho
    rw [wdOf_append]
    rcases List.mem_append.1 hy with h | h
    · have hw := g.wd y h ho
      have := g.w y h
      rw [if_neg (fun hc => by have := hc.1; omega)]
      exact hw
    · simp at h; subst h
      by_cases hz : wdOf L y.n = 0
      · rw [if_pos ⟨hz, ho, rfl, hall _⟩]
      · rw [if_neg (fun hc => hz hc.1)]
        by_cases he : wdOf L y.n = y.w
        · exact he
        · exact absurd ⟨ho, hz, he⟩ h2
  · simp; omega

theorem mk_len (L : List Nd) (x : Nd) : L.length ≤ (mk L x).1.length := by
  unfold mk
  repeat' split
  all_goals simp

/-- How many kids the document says. -/
def rk (o : Nat) : Int := if o = 1 ∨ o = 2 then 0 else if o = 3 ∨ o = 4 ∨ o = 22 ∨ o = 23 ∨ o = 24 then 1 else if 5 ≤ o ∧ o ≤ 21 then 2 else if o = 25 then 3 else -1

theorem rk_kc {o : Nat} (h : 1 ≤ o ∧ o ≤ 25) : rk o = ((kc o : Nat) : Int) := by
  have : ∀ o : Fin 26, 1 ≤ o.val → rk o.val = ((kc o.val : Nat) : Int) := by decide
  exact this ⟨o, by omega⟩ h.1

theorem mayN_op {L : List Nd} {x : Nd} (h : mayN L x = true) : 1 ≤ x.o ∧ x.o ≤ 25 := by
  unfold mayN at h
  simp only [Bool.and_eq_true, decide_eq_true_eq] at h
  have h3 := h.2
  split at h3
  · omega
  · split at h3
    · omega
    · simp only [Bool.and_eq_true, decide_eq_true_eq] at h3
      have hv := h3.1
      unfold vecW at hv
      split at hv
      · omega
      split at hv
      · omega
      split at hv
      · omega
      split at hv
      · omega
      split at hv
      · have := widthB_op hv; omega
      · omega

theorem rk_le (o : Nat) : rk o ≤ ((kc o : Nat) : Int) := by
  by_cases h : 1 ≤ o ∧ o ≤ 25
  · rw [rk_kc h]; omega
  · have : rk o = -1 := by unfold rk; rw [if_neg (by omega), if_neg (by omega), if_neg (by omega), if_neg (by omega)]
    omega

theorem nodup_at {L : List Nd} (nd : L.Nodup) {i j : Nat} {x : Nd} (hi : L[i]? = some x) (hj : L[j]? = some x) : i = j := by
  obtain ⟨li, ei⟩ := List.getElem?_eq_some_iff.1 hi
  obtain ⟨lj, ej⟩ := List.getElem?_eq_some_iff.1 hj
  have nd := List.pairwise_iff_getElem.1 nd
  rcases Nat.lt_trichotomy i j with c | c | c
  · exact absurd (ei.trans ej.symm) (nd i j li lj c)
  · exact c
  · exact absurd (ej.trans ei.symm) (nd j i lj li c)

end Tm
end Go.Proofs.YthelkbdiedfmfaaGreat
