/-
  The two maps of layer eval, as data: the numbers that were reached, the vectors that stand already; the closure that reaches a number, as a fact on one call.
-/
import Derived.Test.YthelkbdiedfmfaaGreatTmTodo
import Derived.Test.YthelkbdiedfmfaaGreatEvMath
namespace Go.Proofs.YthelkbdiedfmfaaGreat
open Go.RowKit Go.Maps Bv
namespace Tm
set_option maxHeartbeats 1000000
set_option maxRecDepth 100000

theorem law_int : Keyed Tryz.prog 3 := int_keyed Tryz.underlying3
theorem key_int {k : Int} (h : I64 k) : keyOf Tryz.prog 3 (.int .i64 k) = some (.int .i64 k) := keyOf_int_mk Tryz.underlying3 (wf_i64 h)

/-- The map reads as the set of these numbers. -/
structure SetOf (Q : List Int) (D : DataW Unit) : Prop where
  isMap : IsMap D
  has : ∀ k, I64 k → Maps.has D (.int .i64 k) = decide (k ∈ Q)
theorem setOf_nil : SetOf [] (.map []) := ⟨isMap_empty, fun k _ => by simp [has_eq]⟩
theorem SetOf.add {Q : List Int} {D : DataW Unit} {k : Int} (h : SetOf Q D) (hk : I64 k) : SetOf (Q ++ [k]) (D.put (.int .i64 k) (.agg [])) := by
  have hkk := law_int.key (key_int hk)
  refine ⟨h.isMap.put _ _, fun j hj => ?_⟩
  by_cases e : j = k
  · subst e; rw [has_put_same h.isMap hkk]; simp
  · rw [has_put_other (fun c => e (by simpa using c)), h.has j hj]; simp [e]

/-- How a vector reads in a map. -/
def bvElemL (l : List Value) : Option (DataW Unit × List MemPlace) :=
  match l with
  | [.int .u8 w, .int .u64 n] => some (.agg [.lit (.int .u8 w), .lit (.int .u64 n)], [])
  | _ => none
def bvElem (v : Value) : Option (DataW Unit × List MemPlace) :=
  match v with
  | .agg cs => bvElemL cs.toList
  | _ => none
theorem bvElem_mk (w n : Int) : bvElem (.agg #[.int .u8 w, .int .u64 n]) = some (.agg [.lit (.int .u8 w), .lit (.int .u64 n)], []) := rfl
theorem bvElem_inv {v : Value} {d : DataW Unit} {ps : List MemPlace} {w n : Int} (h : bvElem v = some (d, ps)) (hd : d = .agg [.lit (.int .u8 w), .lit (.int .u64 n)]) : v = .agg #[.int .u8 w, .int .u64 n] := by
  unfold bvElem at h
  split at h
  · rename_i cs
    unfold bvElemL at h
    split at h
    · rename_i w1 n1 hl
      simp only [Option.some.injEq, Prod.mk.injEq] at h
      rw [← h.1] at hd
      simp at hd
      cases cs
      simp only at hl
      rw [hl, hd.1, hd.2]
    · simp at h
  · simp at h

/-- The vectors of the nodes N stand in the map. -/
structure ValTab (L : List Nd) (a : List Nat) (N : List Nat) (D : DataW Unit) : Prop where
  isMap : IsMap D
  get : ∀ k : Nat, k ∈ N → I64 ((k : Nat) : Int) → ∀ z, D.atKey (.int .i64 ((k : Nat) : Int)) z = .agg [.lit (.int .u8 ((widAt L ((k : Nat) : Int) : Nat) : Int)), .lit (.int .u64 ((evN L a k : Nat) : Int))]
  no : ∀ k : Int, I64 k → (∀ j ∈ N, k ≠ ((j : Nat) : Int)) → ∀ z, D.atKey (.int .i64 k) z = z
theorem valTab_nil (L : List Nd) (a : List Nat) : ValTab L a [] (.map []) := ⟨isMap_empty, fun k h => by simp at h, fun k _ _ z => rfl⟩
theorem ValTab.add {L : List Nd} {a : List Nat} {N : List Nat} {D : DataW Unit} {k : Nat} (h : ValTab L a N D) (hk : I64 ((k : Nat) : Int)) :
    ValTab L a (N ++ [k]) (D.put (.int .i64 ((k : Nat) : Int)) (.agg [.lit (.int .u8 ((widAt L ((k : Nat) : Int) : Nat) : Int)), .lit (.int .u64 ((evN L a k : Nat) : Int))])) := by
  have hkk := law_int.key (key_int hk)
  refine ⟨h.isMap.put _ _, fun j hj hj6 z => ?_, fun j hj6 hn z => ?_⟩
  · by_cases e : j = k
    · subst e; rw [atKey_put_same h.isMap hkk]
    · rw [atKey_put_other (fun c => e (by simp at c; omega)), h.get j (by simpa [e] using hj) hj6]
  · rw [atKey_put_other (fun c => hn k (by simp) (by simpa using c)), h.no j hj6 (fun i hi => hn i (by simp [hi]))]

open Classical in
/-- What the map answers of the number q. -/
noncomputable def vwN (L : List Nd) (N : List Nat) (q : Int) : Nat := if 0 ≤ q ∧ q.toNat ∈ N then widAt L q else 0
open Classical in
noncomputable def vnN (L : List Nd) (a : List Nat) (N : List Nat) (q : Int) : Nat := if 0 ≤ q ∧ q.toNat ∈ N then evN L a q.toNat else 0
theorem vwN_in {L : List Nd} {N : List Nat} {k : Nat} (h : k ∈ N) : vwN L N ((k : Nat) : Int) = widAt L ((k : Nat) : Int) := by
  unfold vwN; rw [if_pos ⟨by omega, by simpa using h⟩]
theorem vnN_in {L : List Nd} {a N : List Nat} {k : Nat} (h : k ∈ N) : vnN L a N ((k : Nat) : Int) = evN L a k := by
  unfold vnN; rw [if_pos ⟨by omega, by simpa using h⟩]; simp

theorem zero_bv (W : World) : (zeroValue 118).run Tryz.prog W = .ok (.agg #[.int .u8 0, .int .u64 0]) W := by kernel_rfl
def intRow (Q : List Int) : List Value := Q.map (Value.int .i64)

/-- The numbers that were reached: a set in block bm, which block b4 leads to, and a list tv in block b5. -/
structure ReAt (base : Nat) (w : World) (b4 b5 bm : Nat) (Q : List Int) (tv : Value) : Prop where
  g4 : base ≤ b4
  g5 : base ≤ b5
  gm : base ≤ bm
  n45 : b4 ≠ b5
  n4m : b4 ≠ bm
  n5m : b5 ≠ bm
  l4 : b4 < w.heap.size
  l5 : b5 < w.heap.size
  lm : bm < w.heap.size
  c4 : w.cell? ⟨b4, 0, none⟩ = some (.map (some bm))
  c5 : w.cell? ⟨b5, 0, none⟩ = some tv
  f5 : ∀ i, w.frozen? ⟨b5, i, none⟩ = false
  tab : ∃ D : DataW Unit, w.ownsMap Tryz.prog 3 unitElem bm Q.length D ∧ SetOf Q D
  row : w.ownsRow base 3 1 tv Q.length (intRow Q)
  t4 : tv.ownBlock ≠ some b4
  t5 : tv.ownBlock ≠ some b5
  tm : tv.ownBlock ≠ some bm

/-- The blocks that the closure writes. -/
def refoot (b5 bm : Nat) (tv : Value) (k : Nat) : Prop := k = b5 ∨ k = bm ∨ tv.ownBlock = some k

theorem ReAt.kept {base : Nat} {w w' : World} {b4 b5 bm : Nat} {Q : List Int} {tv : Value} {F : Nat → Prop} (h : ReAt base w b4 b5 bm Q tv) (k : Kept F w w') (f4 : ¬ F b4) (f5 : ¬ F b5) (fm : ¬ F bm) (ft : ∀ g, tv.ownBlock = some g → ¬ F g) : ReAt base w' b4 b5 bm Q tv := by
  refine ⟨h.g4, h.g5, h.gm, h.n45, h.n4m, h.n5m, Nat.lt_of_lt_of_le h.l4 k.size, Nat.lt_of_lt_of_le h.l5 k.size, Nat.lt_of_lt_of_le h.lm k.size, (k.cell (x := ⟨b4, 0, none⟩) h.l4 f4).trans h.c4, (k.cell (x := ⟨b5, 0, none⟩) h.l5 f5).trans h.c5,
    fun i => (k.frozen (x := ⟨b5, i, none⟩) h.l5 f5).trans (h.f5 i), ?_, row_kept h.row k ft, h.t4, h.t5, h.tm⟩
  obtain ⟨D, ⟨es, clock, hb, r⟩, ht⟩ := h.tab
  exact ⟨D, ⟨es, clock, (k.block bm h.lm fm).trans hb, r⟩, ht⟩
theorem ReAt.call {base : Nat} {w w' : World} {b4 b5 bm : Nat} {Q : List Int} {tv : Value} (h : ReAt base w b4 b5 bm Q tv) (k : Below w.heap.size w w') : ReAt base w' b4 b5 bm Q tv :=
  h.kept (Kept.ofBelow k (fun _ => False)) (fun x => x) (fun x => x) (fun x => x) (fun _ _ x => x)
theorem ReAt.shape {base : Nat} {w : World} {b4 b5 bm : Nat} {Q : List Int} {tv : Value} (h : ReAt base w b4 b5 bm Q tv) : ∃ a c, tv = .slice a Q.length c := by
  rcases h.row with ⟨_, ⟨h1, h2⟩ | ⟨g, cap, cur, hv, _⟩⟩
  · exact ⟨none, 0, by rw [h1, h2]⟩
  · exact ⟨_, _, hv⟩
theorem ReAt.at' {base : Nat} {w : World} {b4 b5 bm : Nat} {Q : List Int} {tv : Value} (h : ReAt base w b4 b5 bm Q tv) {i : Nat} {q : Int} (hq : Q[i]? = some q) :
    ∃ g c, tv = .slice (some ⟨g, 0, none⟩) Q.length c ∧ g < w.heap.size ∧ w.cell? ⟨g, i, none⟩ = some (.int .i64 q) := by
  have hlt := (List.getElem?_eq_some_iff.1 hq).1
  have hr := h.row
  rcases h.row with ⟨_, ⟨h1, h2⟩ | ⟨g, cap, cur, hv, hb, hh, _⟩⟩
  · omega
  · refine ⟨g, cap, hv, (Array.getElem?_eq_some_iff.1 hh).1, ?_⟩
    have := hr.cells (g := g) (by rw [hv]; rfl) i (.int .i64 q) (by simp [intRow, hq])
    have e : (⟨g, 0, none⟩ : Addr).add i = ⟨g, i, none⟩ := by
      unfold Addr.add
      split <;> simp_all
    rw [e] at this
    exact this

def addQ (Q : List Int) (k : Int) : List Int := if k ∈ Q then Q else Q ++ [k]

theorem kept_grown {w w' : World} {r : Option Nat} (h : w.grownBy w' r) {F : Nat → Prop} (hF : ∀ i, r = some i → F i) : Kept F w w' := (Kept.refl F w).grown h (fun i e _ => hF i e)

theorem ReAt.added {base : Nat} {w w1 w2 : World} {b4 b5 bm : Nat} {Q : List Int} {k : Int} {tv v' : Value} {o : Obj} {D' : DataW Unit} (h : ReAt base w b4 b5 bm Q tv)
    (hg1 : w.grownBy w1 (some bm)) (ho : w1.ownsMap Tryz.prog 3 unitElem bm (Q.length + 1) D') (hs : SetOf (Q ++ [k]) D')
    (hg : (w1.alloc o).grownBy w2 tv.ownBlock) (hrow : w2.ownsRow base 3 1 v' (Q.length + 1) (intRow Q ++ [.int .i64 k])) (hloc : v'.ownBlock = tv.ownBlock ∨ v'.ownBlock = some (w1.alloc o).heap.size) :
    ReAt base (w2.setCell ⟨b5, 0, none⟩ v') b4 b5 bm (Q ++ [k]) v' ∧ Kept (refoot b5 bm tv) w (w2.setCell ⟨b5, 0, none⟩ v') ∧ (v'.ownBlock = tv.ownBlock ∨ ∃ g, w.heap.size ≤ g ∧ v'.ownBlock = some g) := by
  have z1 := hg1.size
  have z2 := hg.size
  rw [size_alloc] at z2 hloc
  have l4 := h.l4
  have l5 := h.l5
  have lm := h.lm
  have K2 : Kept (refoot b5 bm tv) w w2 := (((kept_grown hg1 (F := refoot b5 bm tv) (fun i e => .inr (.inl (by simpa using e.symm)))).alloc o)).grown hg (fun i e _ => .inr (.inr e))
  have K1 : Kept (fun i => i = bm ∨ tv.ownBlock = some i) w w2 := (((kept_grown hg1 (F := fun i => i = bm ∨ tv.ownBlock = some i) (fun i e => .inl (by simpa using e.symm))).alloc o)).grown hg (fun i e _ => .inr e)
  have new : ∀ b, b < w.heap.size → tv.ownBlock ≠ some b → v'.ownBlock ≠ some b := by
    intro b hb hn
    rcases hloc with e | e
    · rw [e]; exact hn
    · rw [e]; intro c; simp at c; omega
  have v4 := new b4 l4 h.t4
  have v5 := new b5 l5 h.t5
  have vm := new bm lm h.tm
  have hs2 : (w2.setCell ⟨b5, 0, none⟩ v').heap.size = w2.heap.size := by simp [World.setCell]
  have n4 : ¬ (b4 = bm ∨ tv.ownBlock = some b4) := fun c => c.elim h.n4m h.t4
  have n5 : ¬ (b5 = bm ∨ tv.ownBlock = some b5) := fun c => c.elim h.n5m h.t5
  refine ⟨⟨h.g4, h.g5, h.gm, h.n45, h.n4m, h.n5m, by omega, by omega, by omega, ?_, ?_, fun i => ?_, ⟨D', ?_, hs⟩, ?_, v4, v5, vm⟩, K2.setCell _ _ (fun _ => .inl rfl), hloc.imp id (fun e => ⟨_, by omega, e⟩)⟩
  · rw [World.cell?_setCell_far _ _ _ _ (by simpa using h.n45.symm), K1.cell (x := ⟨b4, 0, none⟩) l4 n4]; exact h.c4
  · exact World.cell?_setCell_same' _ _ _ (by rw [K1.cell (x := ⟨b5, 0, none⟩) l5 n5, h.c5]; rfl)
  · rw [World.frozen?_setCell, K1.frozen (x := ⟨b5, i, none⟩) l5 n5]; exact h.f5 i
  · have := ((ho.alloc o).kept hg (fun e => h.tm e.symm)).setCell (a := ⟨b5, 0, none⟩) (fun e => h.n5m e.symm) v'
    simpa using this
  · have := row_setCell hrow (a := ⟨b5, 0, none⟩) v' v5
    simpa [intRow] using this

theorem zero_unit (W : World) : (zeroValue 69).run Tryz.prog W = .ok (.agg #[]) W := by kernel_rfl
theorem look_set {Q : List Int} {w : World} {b n : Nat} {D : DataW Unit} (h : w.ownsMap Tryz.prog 3 unitElem b n D) (hs : SetOf Q D) {q : Int} (hq : I64 q) :
    (Instr.lookup 67 (.map (some b)) (.int .i64 q) true).run Tryz.prog w = .ok (.tuple #[.agg #[], .bool (decide (q ∈ Q))]) w := by
  obtain ⟨v, ps, hrun, hR⟩ := h.look_ok law_int Tryz.underlying67 (zero_unit w) (R := unitElem) (z := .agg #[]) unitElem_mk (key_int hq)
  rw [hrun, hs.has q hq, (unitElem_inv hR).1]
end Tm
end Go.Proofs.YthelkbdiedfmfaaGreat
