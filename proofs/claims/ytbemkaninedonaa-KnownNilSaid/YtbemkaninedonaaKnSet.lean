/-
  The map of layer known, as data: the masks of those nodes that are worked out.
-/
import Derived.Test.YtbemkaninedonaaKnMath
import Derived.Test.YtbemkaninedonaaTmTodo
import Derived.Test.YtbemkaninedonaaTmReach
import Derived.Maps.AppendAt
import Derived.Maps.Views
namespace Go.Proofs.Ytbemkaninedonaa
open Go.RowKit Go.Maps Bv Tm
namespace Kn
set_option maxHeartbeats 1000000
set_option maxRecDepth 100000

theorem info_int : (Try.prog.info? 3).map (fun i => (i.zero, i.size, i.bytes)) = some (some (.int .i64 0), 1, 8) := by kernel_rfl
theorem law_int : Keyed Try.prog 3 := int_keyed Try.underlying3
theorem key_int {k : Int} (h : I64 k) : keyOf Try.prog 3 (.int .i64 k) = some (.int .i64 k) := keyOf_int_mk Try.underlying3 (wf_i64 h)

/-- How masks read in a map. -/
def kbElemL (l : List Value) : Option (DataW Unit × List MemPlace) :=
  match l with
  | [.int .u8 w, .int .u64 z, .int .u64 o] => some (.agg [.lit (.int .u8 w), .lit (.int .u64 z), .lit (.int .u64 o)], [])
  | _ => none
def kbElem (v : Value) : Option (DataW Unit × List MemPlace) :=
  match v with
  | .agg cs => kbElemL cs.toList
  | _ => none
theorem kbElem_mk (w z o : Int) : kbElem (.agg #[.int .u8 w, .int .u64 z, .int .u64 o]) = some (.agg [.lit (.int .u8 w), .lit (.int .u64 z), .lit (.int .u64 o)], []) := rfl
theorem kbElem_inv {v : Value} {d : DataW Unit} {ps : List MemPlace} {w z o : Int} (h : kbElem v = some (d, ps)) (hd : d = .agg [.lit (.int .u8 w), .lit (.int .u64 z), .lit (.int .u64 o)]) : v = .agg #[.int .u8 w, .int .u64 z, .int .u64 o] := by
  unfold kbElem at h
  split at h
  · rename_i cs
    unfold kbElemL at h
    split at h
    · rename_i w1 z1 o1 hl
      simp only [Option.some.injEq, Prod.mk.injEq] at h
      rw [← h.1] at hd
      simp at hd
      cases cs
      simp only at hl
      rw [hl, hd.1, hd.2.1, hd.2.2]
    · simp at h
  · simp at h

/-- How the masks of a node are written. -/
def kbLit (L : List Nd) (k : Nat) : DataW Unit := .agg [.lit (.int .u8 ((widAt L ((k : Nat) : Int) : Nat) : Int)), .lit (.int .u64 (((kn L k).1 : Nat) : Int)), .lit (.int .u64 (((kn L k).2 : Nat) : Int))]
def addK (N : List Nat) (k : Nat) : List Nat := if k ∈ N then N else N ++ [k]
/-- The masks of the nodes N stand in the map. -/
structure KbTab (L : List Nd) (N : List Nat) (D : DataW Unit) : Prop where
  tidy : Tidy D
  nd : N.Nodup
  size : Maps.size D = N.length
  has : ∀ k : Int, I64 k → Maps.has D (.int .i64 k) = decide (0 ≤ k ∧ k.toNat ∈ N)
  get : ∀ k : Nat, k ∈ N → I64 ((k : Nat) : Int) → ∀ z, D.atKey (.int .i64 ((k : Nat) : Int)) z = kbLit L k
  no : ∀ k : Int, I64 k → ¬ (0 ≤ k ∧ k.toNat ∈ N) → ∀ z, D.atKey (.int .i64 k) z = z
theorem kbTab_nil (L : List Nd) : KbTab L [] (.map []) := ⟨tidy_empty, List.nodup_nil, rfl, fun k _ => by simp [has_eq], fun k h => by simp at h, fun k _ _ z => rfl⟩
theorem mem_addK {N : List Nat} {k j : Nat} : j ∈ addK N k ↔ j ∈ N ∨ j = k := by
  unfold addK
  split
  · rename_i h
    constructor
    · exact .inl
    · rintro (h1 | rfl)
      · exact h1
      · exact h
  · simp
theorem KbTab.add {L : List Nd} {N : List Nat} {D : DataW Unit} {k : Nat} (h : KbTab L N D) (hk : I64 ((k : Nat) : Int)) : KbTab L (addK N k) (D.put (.int .i64 ((k : Nat) : Int)) (kbLit L k)) := by
  have hkk := law_int.key (key_int hk)
  have hM := h.tidy.isMap
  refine ⟨h.tidy.put hkk _, ?_, ?_, fun j hj => ?_, fun j hj hj6 z => ?_, fun j hj6 hn z => ?_⟩
  · unfold addK
    split
    · exact h.nd
    · rename_i hn
      exact List.nodup_append.2 ⟨h.nd, by simp, fun a ha b hb e => by simp at hb; subst hb; subst e; exact hn ha⟩
  · rw [size_put h.tidy, h.has _ hk, h.size]
    unfold addK
    by_cases hc : k ∈ N
    · simp [hc]
    · simp [hc]
  · by_cases e : j = ((k : Nat) : Int)
    · subst e
      rw [has_put_same hM hkk]
      symm
      rw [decide_eq_true_eq]
      exact ⟨by omega, mem_addK.2 (.inr (by omega))⟩
    · rw [has_put_other (fun c => e (by simpa using c)), h.has j hj]
      apply decide_eq_decide.2
      constructor
      · rintro ⟨a, b⟩
        exact ⟨a, mem_addK.2 (.inl b)⟩
      · rintro ⟨a, b⟩
        rcases mem_addK.1 b with c | c
        · exact ⟨a, c⟩
        · omega
  · by_cases e : j = k
    · subst e; rw [atKey_put_same hM hkk]
    · rw [atKey_put_other (fun c => e (by simp at c; omega))]
      rcases mem_addK.1 hj with c | c
      · exact h.get j c hj6 z
      · exact absurd c e
  · have e : ¬ j = ((k : Nat) : Int) := fun e => hn ⟨by omega, mem_addK.2 (.inr (by omega))⟩
    rw [atKey_put_other (fun c => e (by simpa using c))]
    exact h.no j hj6 (fun c => hn ⟨c.1, mem_addK.2 (.inl c.2)⟩) z

open Classical in
/-- What the map answers of the number q. -/
noncomputable def lkW (L : List Nd) (N : List Nat) (q : Int) : Nat := if 0 ≤ q ∧ q.toNat ∈ N then widAt L q else 0
open Classical in
noncomputable def lkB (L : List Nd) (N : List Nat) (q : Int) : Kb := if 0 ≤ q ∧ q.toNat ∈ N then kn L q.toNat else (0, 0)
theorem lkW_in {L : List Nd} {N : List Nat} {q : Int} (h0 : 0 ≤ q) (h : q.toNat ∈ N) : lkW L N q = widAt L q := by unfold lkW; rw [if_pos ⟨h0, h⟩]
theorem lkB_in {L : List Nd} {N : List Nat} {q : Int} (h0 : 0 ≤ q) (h : q.toNat ∈ N) : lkB L N q = kn L q.toNat := by unfold lkB; rw [if_pos ⟨h0, h⟩]
noncomputable def lkV (L : List Nd) (N : List Nat) (q : Int) : Value := .agg #[.int .u8 ((lkW L N q : Nat) : Int), .int .u64 (((lkB L N q).1 : Nat) : Int), .int .u64 (((lkB L N q).2 : Nat) : Int)]

theorem zero_kb (W : World) : (zeroValue 64).run Try.prog W = .ok (.agg #[.int .u8 0, .int .u64 0, .int .u64 0]) W := by kernel_rfl
theorem lk_of {L : List Nd} {N : List Nat} {D : DataW Unit} {v : Value} {ps : List MemPlace} (hv : KbTab L N D) {q : Int} (hq : I64 q) (hR : kbElem v = some (D.atKey (.int .i64 q) (.agg [.lit (.int .u8 0), .lit (.int .u64 0), .lit (.int .u64 0)]), ps)) : v = lkV L N q := by
  by_cases hc : 0 ≤ q ∧ q.toNat ∈ N
  · have e : q = ((q.toNat : Nat) : Int) := by omega
    have hg := hv.get q.toNat hc.2 (by rw [← e]; exact hq) (.agg [.lit (.int .u8 0), .lit (.int .u64 0), .lit (.int .u64 0)])
    rw [← e] at hg
    unfold kbLit at hg
    rw [← e] at hg
    unfold lkV
    rw [lkW_in hc.1 hc.2, lkB_in hc.1 hc.2]
    exact kbElem_inv hR hg
  · have hg := hv.no q hq hc (.agg [.lit (.int .u8 0), .lit (.int .u64 0), .lit (.int .u64 0)])
    unfold lkV lkW lkB
    rw [if_neg hc, if_neg hc]
    exact kbElem_inv hR hg
theorem look_kb {L : List Nd} {N : List Nat} {w : World} {b n : Nat} {D : DataW Unit} (h : w.ownsMap Try.prog 3 kbElem b n D) (hv : KbTab L N D) {q : Int} (hq : I64 q) :
    (Instr.lookup 60 (.map (some b)) (.int .i64 q) false).run Try.prog w = .ok (lkV L N q) w := by
  obtain ⟨v, ps, hrun, hR⟩ := h.lookup law_int Try.underlying60 (zero_kb w) (R := kbElem) (z := .agg #[.int .u8 0, .int .u64 0, .int .u64 0]) (kbElem_mk 0 0 0) (key_int hq)
  rw [hrun, lk_of hv hq hR]
theorem look_ok {L : List Nd} {N : List Nat} {w : World} {b n : Nat} {D : DataW Unit} (h : w.ownsMap Try.prog 3 kbElem b n D) (hv : KbTab L N D) {q : Int} (hq : I64 q) :
    (Instr.lookup 60 (.map (some b)) (.int .i64 q) true).run Try.prog w = .ok (.tuple #[lkV L N q, .bool (decide (0 ≤ q ∧ q.toNat ∈ N))]) w := by
  obtain ⟨v, ps, hrun, hR⟩ := h.look_ok law_int Try.underlying60 (zero_kb w) (R := kbElem) (z := .agg #[.int .u8 0, .int .u64 0, .int .u64 0]) (kbElem_mk 0 0 0) (key_int hq)
  rw [hrun, lk_of hv hq hR, hv.has q hq]
/-- A map has no more entries than its data. -/
theorem owns_fit {w : World} {b n m : Nat} {D : DataW Unit} (h : w.ownsMap Try.prog 3 kbElem b n D) (hm : Maps.size D ≤ m) : w.ownsMap Try.prog 3 kbElem b m D := by
  obtain ⟨es, clock, hb, F, hs, rfl⟩ := h
  exact ⟨es, clock, hb, F, by simpa [Maps.size, length_sorted] using hm, rfl⟩

/-- The map of those nodes N that are done stands in the block b. -/
def MapAt (w : World) (L : List Nd) (b : Nat) (N : List Nat) : Prop := ∃ D : DataW Unit, w.ownsMap Try.prog 3 kbElem b N.length D ∧ KbTab L N D
theorem MapAt.lt {w : World} {L : List Nd} {b : Nat} {N : List Nat} (h : MapAt w L b N) : b < w.heap.size := by obtain ⟨D, h1, _⟩ := h; exact h1.lt
theorem MapAt.same {w w' : World} {L : List Nd} {b : Nat} {N : List Nat} (h : MapAt w L b N) (e : w'.heap[b]? = w.heap[b]?) : MapAt w' L b N := by
  obtain ⟨D, ⟨es, clock, hb, r⟩, ht⟩ := h
  exact ⟨D, ⟨es, clock, e.trans hb, r⟩, ht⟩
theorem MapAt.look {w : World} {L : List Nd} {b : Nat} {N : List Nat} (h : MapAt w L b N) {q : Int} (hq : I64 q) :
    (Instr.lookup 60 (.map (some b)) (.int .i64 q) false).run Try.prog w = .ok (lkV L N q) w := by obtain ⟨D, h1, h2⟩ := h; exact look_kb h1 h2 hq
theorem MapAt.look2 {w : World} {L : List Nd} {b : Nat} {N : List Nat} (h : MapAt w L b N) {q : Int} (hq : I64 q) :
    (Instr.lookup 60 (.map (some b)) (.int .i64 q) true).run Try.prog w = .ok (.tuple #[lkV L N q, .bool (decide (0 ≤ q ∧ q.toNat ∈ N))]) w := by obtain ⟨D, h1, h2⟩ := h; exact look_ok h1 h2 hq
end Kn
end Go.Proofs.Ytbemkaninedonaa
