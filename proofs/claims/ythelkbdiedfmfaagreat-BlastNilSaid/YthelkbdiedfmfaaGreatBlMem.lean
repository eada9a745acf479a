/-
  What a blaster is in memory, as far as constants go: its store, the map of its nodes' literals, its two lists.
-/
import Derived.Test.YthelkbdiedfmfaaGreatBlClone
import Derived.Test.YthelkbdiedfmfaaGreatTmApiCo
namespace Go.Proofs.YthelkbdiedfmfaaGreat
open Go.RowKit Go.Maps Bv Tm
namespace Bl
set_option maxHeartbeats 1000000
set_option maxRecDepth 100000

theorem ilaw : Keyed Tryz.prog 3 := int_keyed Tryz.underlying3
theorem ikey {k : Int} (h : I64 k) : keyOf Tryz.prog 3 (.int .i64 k) = some (.int .i64 k) := keyOf_int_mk Tryz.underlying3 (wf_i64 h)

/-- How a list of literals reads in the map. -/
def slElem (v : Value) : Option (DataW Unit × List MemPlace) :=
  match v with
  | .slice (some ⟨g, 0, none⟩) n c => some (.agg [.lit (.int .i64 g), .lit (.int .i64 n), .lit (.int .i64 c)], [])
  | .slice none 0 0 => some (.nil, [])
  | _ => none
theorem slElem_inv {v : Value} {ps : List MemPlace} {g n c : Nat} (h : slElem v = some (.agg [.lit (.int .i64 g), .lit (.int .i64 n), .lit (.int .i64 c)], ps)) : v = .slice (some ⟨g, 0, none⟩) n c := by
  unfold slElem at h
  split at h
  · rename_i g' n' c'
    simp at h
    obtain ⟨⟨h1, h2, h3⟩, _⟩ := h
    obtain rfl : g' = g := by omega
    obtain rfl : n' = n := by omega
    obtain rfl : c' = c := by omega
    rfl
  · simp at h
  · simp at h
theorem slElem_nil {v : Value} {ps : List MemPlace} (h : slElem v = some (.nil, ps)) : v = .slice none 0 0 := by
  unfold slElem at h
  split at h
  · simp at h
  · rfl
  · simp at h

/-- The lists that stand in the map: of k the slice in block T k. -/
def Tab := Int → Option (Nat × Nat × Nat)
def slOf : Option (Nat × Nat × Nat) → Value
  | some (g, n, c) => .slice (some ⟨g, 0, none⟩) n c
  | none => .slice none 0 0
def dOf : Nat × Nat × Nat → DataW Unit := fun x => .agg [.lit (.int .i64 x.1), .lit (.int .i64 x.2.1), .lit (.int .i64 x.2.2)]
theorem slElem_of (x : Nat × Nat × Nat) : slElem (slOf (some x)) = some (dOf x, []) := rfl
structure SlTab (T : Tab) (D : DataW Unit) : Prop where
  isMap : IsMap D
  has : ∀ k, I64 k → Maps.has D (.int .i64 k) = (T k).isSome
  get : ∀ k, I64 k → ∀ z, D.atKey (.int .i64 k) z = match T k with | some x => dOf x | none => z
theorem slTab_nil : SlTab (fun _ => none) (.map []) := ⟨isMap_empty, fun _ _ => rfl, fun _ _ _ => rfl⟩
def Tab.put (T : Tab) (k : Int) (x : Nat × Nat × Nat) : Tab := fun q => if q = k then some x else T q
theorem SlTab.put {T : Tab} {D : DataW Unit} {k : Int} (h : SlTab T D) (hk : I64 k) (x : Nat × Nat × Nat) : SlTab (T.put k x) (D.put (.int .i64 k) (dOf x)) := by
  have hkk := ilaw.key (ikey hk)
  refine ⟨h.isMap.put _ _, fun j hj => ?_, fun j hj z => ?_⟩
  · by_cases e : j = k
    · subst e; rw [has_put_same h.isMap hkk]; simp [Tab.put]
    · rw [has_put_other (fun c => e (by simpa using c)), h.has j hj]; simp [Tab.put, e]
  · by_cases e : j = k
    · subst e; rw [atKey_put_same h.isMap hkk]; simp [Tab.put]
    · rw [atKey_put_other (fun c => e (by simpa using c)), h.get j hj]; simp [Tab.put, e]
theorem zero_sl (W : World) : (zeroValue 31).run Tryz.prog W = .ok (.slice none 0 0) W := by kernel_rfl
theorem look_sl {T : Tab} {w : World} {b n : Nat} {D : DataW Unit} (h : w.ownsMap Tryz.prog 3 slElem b n D) (hs : SlTab T D) {q : Int} (hq : I64 q) :
    (Instr.lookup 29 (.map (some b)) (.int .i64 q) false).run Tryz.prog w = .ok (slOf (T q)) w := by
  obtain ⟨v, ps, hrun, hR⟩ := h.lookup ilaw Tryz.underlying29 (zero_sl w) (R := slElem) (z := .slice none 0 0) (zd := .nil) (zp := []) rfl (ikey hq)
  rw [hrun]
  rw [hs.get q hq] at hR
  cases hT : T q with
  | none => rw [hT] at hR; rw [slElem_nil hR]; rfl
  | some x => rw [hT] at hR; rw [slElem_inv hR]; rfl
theorem look_sl_ok {T : Tab} {w : World} {b n : Nat} {D : DataW Unit} (h : w.ownsMap Tryz.prog 3 slElem b n D) (hs : SlTab T D) {q : Int} (hq : I64 q) :
    (Instr.lookup 29 (.map (some b)) (.int .i64 q) true).run Tryz.prog w = .ok (.tuple #[slOf (T q), .bool (T q).isSome]) w := by
  obtain ⟨v, ps, hrun, hR⟩ := h.look_ok ilaw Tryz.underlying29 (zero_sl w) (R := slElem) (z := .slice none 0 0) (zd := .nil) (zp := []) rfl (ikey hq)
  rw [hrun, hs.has q hq]
  rw [hs.get q hq] at hR
  cases hT : T q with
  | none => rw [hT] at hR; rw [slElem_nil hR]; rfl
  | some x => rw [hT] at hR; rw [slElem_inv hR]; rfl

/-- The block b of w is a blaster over the store in block s, its nodes' literals in the map in block mb, its literals ls, its clauses' ends es. -/
structure BlAt (B : Nat) (w : World) (b s mb : Nat) (lv ev : Value) (ls es : List Int) (n : Nat) (T : Tab) : Prop where
  gb : B ≤ b
  gm : B ≤ mb
  lb : b < w.heap.size
  lm : mb < w.heap.size
  bm : b ≠ mb
  c0 : w.cell? ⟨b, 0, none⟩ = some (.pointer (some ⟨s, 0, none⟩))
  c1 : w.cell? ⟨b, 1, none⟩ = some (.map (some mb))
  c5 : w.cell? ⟨b, 260, none⟩ = some (.int .i64 1)
  c6 : w.cell? ⟨b, 261, none⟩ = some lv
  c7 : w.cell? ⟨b, 262, none⟩ = some ev
  c8 : w.cell? ⟨b, 263, none⟩ = some (.bool false)
  fr : ∀ o, w.frozen? ⟨b, o, none⟩ = false
  lrow : w.ownsRow B 21 1 lv ls.length (ls.map (Value.int .i32))
  erow : w.ownsRow B 3 1 ev es.length (es.map (Value.int .i64))
  xlb : lv.ownBlock ≠ some b
  xlm : lv.ownBlock ≠ some mb
  xeb : ev.ownBlock ≠ some b
  xem : ev.ownBlock ≠ some mb
  xle : ∀ g, lv.ownBlock = some g → ev.ownBlock ≠ some g
  tab : ∃ D : DataW Unit, w.ownsMap Tryz.prog 3 slElem mb n D ∧ SlTab T D

theorem BlAt.kept {B : Nat} {w w' : World} {b s mb : Nat} {lv ev : Value} {ls es : List Int} {n : Nat} {T : Tab} {F : Nat → Prop} (h : BlAt B w b s mb lv ev ls es n T) (k : Kept F w w') (fb : ¬ F b) (fm : ¬ F mb) (fl : ∀ g, lv.ownBlock = some g → ¬ F g) (fe : ∀ g, ev.ownBlock = some g → ¬ F g) : BlAt B w' b s mb lv ev ls es n T := by
  refine ⟨h.gb, h.gm, Nat.lt_of_lt_of_le h.lb k.size, Nat.lt_of_lt_of_le h.lm k.size, h.bm, (k.cell (x := ⟨b, 0, none⟩) h.lb fb).trans h.c0, (k.cell (x := ⟨b, 1, none⟩) h.lb fb).trans h.c1, (k.cell (x := ⟨b, 260, none⟩) h.lb fb).trans h.c5, (k.cell (x := ⟨b, 261, none⟩) h.lb fb).trans h.c6, (k.cell (x := ⟨b, 262, none⟩) h.lb fb).trans h.c7, (k.cell (x := ⟨b, 263, none⟩) h.lb fb).trans h.c8,
    fun o => (k.frozen (x := ⟨b, o, none⟩) h.lb fb).trans (h.fr o), row_kept h.lrow k fl, row_kept h.erow k fe, h.xlb, h.xlm, h.xeb, h.xem, h.xle, ?_⟩
  obtain ⟨D, ⟨es, clock, hb, r⟩, ht⟩ := h.tab
  exact ⟨D, ⟨es, clock, (k.block mb h.lm fm).trans hb, r⟩, ht⟩
theorem BlAt.call {B : Nat} {w w' : World} {b s mb : Nat} {lv ev : Value} {ls es : List Int} {n : Nat} {T : Tab} (h : BlAt B w b s mb lv ev ls es n T) (k : Below w.heap.size w w') : BlAt B w' b s mb lv ev ls es n T :=
  h.kept (Kept.ofBelow k (fun _ => False)) (fun x => x) (fun x => x) (fun _ _ x => x) (fun _ _ x => x)

theorem kept_grown' {w w' : World} {r : Option Nat} (h : w.grownBy w' r) : Kept (fun i => r = some i) w w' := (Kept.refl (fun i => r = some i) w).grown h (fun _ e _ => e)
theorem new_row {w w1 w2 : World} {base : Nat} {lv v' : Value} {o : Obj} (h1 : w1 = w.alloc o) (hg : w1.grownBy w2 lv.ownBlock) (hloc : v'.ownBlock = lv.ownBlock ∨ v'.ownBlock = some w1.heap.size) {k : Nat} (hk : k < w.heap.size) (hn : lv.ownBlock ≠ some k) : v'.ownBlock ≠ some k ∧ base = base := by
  subst h1
  refine ⟨?_, rfl⟩
  rcases hloc with e | e
  · rw [e]; exact hn
  · rw [e, size_alloc]; intro c; simp at c; omega

/-- A literal more. -/
theorem BlAt.lit {B : Nat} {w w2 : World} {b s mb : Nat} {lv ev v' : Value} {ls es : List Int} {n : Nat} {T : Tab} {o : Obj} {x : Int} (h : BlAt B w b s mb lv ev ls es n T) (hg : (w.alloc o).grownBy w2 lv.ownBlock)
    (hrow : w2.ownsRow B 21 1 v' (ls.length + 1) (ls.map (Value.int .i32) ++ [.int .i32 x])) (hloc : v'.ownBlock = lv.ownBlock ∨ v'.ownBlock = some (w.alloc o).heap.size) :
    BlAt B (w2.setCell ⟨b, 261, none⟩ v') b s mb v' ev (ls ++ [x]) es n T := by
  have h1 := h.call (bel_alloc (Below.refl _ _) o)
  have K : Kept (fun i => lv.ownBlock = some i) (w.alloc o) w2 := kept_grown' hg
  have z := hg.size
  rw [size_alloc] at z
  have lb := h.lb
  have lm := h.lm
  have nb := (new_row (base := 0) rfl hg hloc lb h.xlb).1
  have nm := (new_row (base := 0) rfl hg hloc lm h.xlm).1
  have z2 : (w2.setCell ⟨b, 261, none⟩ v').heap.size = w2.heap.size := by simp [World.setCell]
  have cc : ∀ o', o' ≠ 261 → (w2.setCell ⟨b, 261, none⟩ v').cell? ⟨b, o', none⟩ = (w.alloc o).cell? ⟨b, o', none⟩ := fun o' ho => by
    rw [World.cell?_setCell_other _ _ _ _ (by simp), K.cell (x := ⟨b, o', none⟩) h1.lb h.xlb]
  refine ⟨h.gb, h.gm, by omega, by omega, h.bm, (cc 0 (by omega)).trans h1.c0, (cc 1 (by omega)).trans h1.c1, (cc 260 (by omega)).trans h1.c5, ?_, (cc 262 (by omega)).trans h1.c7, (cc 263 (by omega)).trans h1.c8, fun o' => ?_, ?_, ?_, nb, nm, h.xeb, h.xem, fun g hgv => ?_, ?_⟩
  · exact World.cell?_setCell_same' _ _ _ (by rw [K.cell (x := ⟨b, 261, none⟩) h1.lb h.xlb, h1.c6]; rfl)
  · rw [World.frozen?_setCell, K.frozen (x := ⟨b, o', none⟩) h1.lb h.xlb]; exact h1.fr o'
  · have := row_setCell hrow (a := ⟨b, 261, none⟩) v' nb
    simpa using this
  · exact row_setCell (row_kept h1.erow K (fun g e c => h.xle g c e)) (a := ⟨b, 261, none⟩) v' h.xeb
  · rcases hloc with e | e
    · exact h.xle g (by rw [← e]; exact hgv)
    · rw [e, size_alloc] at hgv
      intro c
      have := (h.erow.lt g c).2
      simp at hgv
      omega
  · obtain ⟨D, hD, ht⟩ := h1.tab
    exact ⟨D, (hD.kept hg (fun e => h.xlm e.symm)).setCell (a := ⟨b, 261, none⟩) (fun e => h.bm e.symm) v', ht⟩

/-- A clause's end more. -/
theorem BlAt.fin {B : Nat} {w w2 : World} {b s mb : Nat} {lv ev v' : Value} {ls es : List Int} {n : Nat} {T : Tab} {o : Obj} {x : Int} (h : BlAt B w b s mb lv ev ls es n T) (hg : (w.alloc o).grownBy w2 ev.ownBlock)
    (hrow : w2.ownsRow B 3 1 v' (es.length + 1) (es.map (Value.int .i64) ++ [.int .i64 x])) (hloc : v'.ownBlock = ev.ownBlock ∨ v'.ownBlock = some (w.alloc o).heap.size) :
    BlAt B (w2.setCell ⟨b, 262, none⟩ v') b s mb lv v' ls (es ++ [x]) n T := by
  have h1 := h.call (bel_alloc (Below.refl _ _) o)
  have K : Kept (fun i => ev.ownBlock = some i) (w.alloc o) w2 := kept_grown' hg
  have z := hg.size
  rw [size_alloc] at z
  have lb := h.lb
  have lm := h.lm
  have nb := (new_row (base := 0) rfl hg hloc lb h.xeb).1
  have nm := (new_row (base := 0) rfl hg hloc lm h.xem).1
  have z2 : (w2.setCell ⟨b, 262, none⟩ v').heap.size = w2.heap.size := by simp [World.setCell]
  have cc : ∀ o', o' ≠ 262 → (w2.setCell ⟨b, 262, none⟩ v').cell? ⟨b, o', none⟩ = (w.alloc o).cell? ⟨b, o', none⟩ := fun o' ho => by
    rw [World.cell?_setCell_other _ _ _ _ (by simp), K.cell (x := ⟨b, o', none⟩) h1.lb h.xeb]
  refine ⟨h.gb, h.gm, by omega, by omega, h.bm, (cc 0 (by omega)).trans h1.c0, (cc 1 (by omega)).trans h1.c1, (cc 260 (by omega)).trans h1.c5, (cc 261 (by omega)).trans h1.c6, ?_, (cc 263 (by omega)).trans h1.c8, fun o' => ?_, ?_, ?_, h.xlb, h.xlm, nb, nm, fun g hgv c => ?_, ?_⟩
  · exact World.cell?_setCell_same' _ _ _ (by rw [K.cell (x := ⟨b, 262, none⟩) h1.lb h.xeb, h1.c7]; rfl)
  · rw [World.frozen?_setCell, K.frozen (x := ⟨b, o', none⟩) h1.lb h.xeb]; exact h1.fr o'
  · exact row_setCell (row_kept h1.lrow K (fun g e c => h.xle g e c)) (a := ⟨b, 262, none⟩) v' h.xlb
  · have := row_setCell hrow (a := ⟨b, 262, none⟩) v' nb
    simpa using this
  · rcases hloc with e | e
    · exact h.xle g hgv (by rw [← e]; exact c)
    · rw [e, size_alloc] at c
      have := (h.lrow.lt g hgv).2
      simp at c
      omega
  · obtain ⟨D, hD, ht⟩ := h1.tab
    exact ⟨D, (hD.kept hg (fun e => h.xem e.symm)).setCell (a := ⟨b, 262, none⟩) (fun e => h.bm e.symm) v', ht⟩
end Bl
end Go.Proofs.YthelkbdiedfmfaaGreat
