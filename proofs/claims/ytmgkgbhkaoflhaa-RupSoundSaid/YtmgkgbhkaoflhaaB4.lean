/-
What the program's Units keeps, in memory: the struct, its lists and its map, each in a block of its own.
The program's Units in memory: behind an append.
-/
import Derived.Test.YtmgkgbhkaoflhaaCfGrow
import Derived.Maps.Own
import Derived.Maps.Views
import Derived.Below
import Derived.Laws.Rows
import Derived.Deep.RegionLaw
import Derived.Maps.AppendAt
namespace Go.Proofs.Ytmgkgbhkaoflhaa
open Go.RowKit Go.Maps
namespace Cf
set_option maxHeartbeats 1000000
set_option maxRecDepth 100000

theorem wf64 {n : Int} (h : I64 n) : (Lit.int .i64 n).wf = true := by
  unfold I64 at h
  simp [Lit.wf, IntKind.min, IntKind.max, IntKind.signed, IntKind.bits]; omega
theorem law_i : Keyed Try.prog 3 := int_keyed Try.underlying3
theorem key_i {k : Int} (h : I64 k) : keyOf Try.prog 3 (.int .i64 k) = some (.int .i64 k) := keyOf_int_mk Try.underlying3 (wf64 h)

/-- A literal's variable; what is decided of a variable. -/
def vr (l : Int) : Int := if 0 < l then l else -l
def decT (T : List Int) (x : Int) : Int := if T.elem x then x else if T.elem (-x) then -x else 0
structure DecTab (T : List Int) (D : DataW Unit) : Prop where
  tidy : Tidy D
  get : ∀ x, I64 x → 0 < x → D.atKey (.int .i64 x) (.lit (.int .i64 0)) = .lit (.int .i64 (decT T x))
theorem decTab_nil : DecTab [] (.map []) := ⟨tidy_empty, fun _ _ _ => rfl⟩
theorem elem_app {T : List Int} {l x : Int} : (T ++ [l]).elem x = (T.elem x || (x == l)) := by
  induction T with
  | nil => cases h : x == l <;> simp_all
  | cons a r ih =>
    simp only [List.cons_append, List.elem_cons, ih]
    cases x == a <;> simp
theorem dec_app {T : List Int} {l x : Int} (hx : 0 < x) (h1 : T.elem l = false) (h2 : T.elem (-l) = false) : decT (T ++ [l]) x = if x = vr l then l else decT T x := by
  unfold decT vr
  rw [elem_app, elem_app]
  by_cases hl : 0 < l
  · rw [if_pos hl]
    by_cases e : x = l
    · subst e; simp
    · rw [if_neg e]
      have : (-x == l) = false := by simp; omega
      simp [e, this]
  · rw [if_neg hl]
    by_cases e : x = -l
    · subst e
      rw [if_pos rfl]
      have e1 : (-l == l) = false := by simp; omega
      rw [h2, e1]
      simp
    · rw [if_neg e]
      have e1 : (x == l) = false := by simp; omega
      have e2 : (-x == l) = false := by simp; omega
      rw [e1, e2]; simp
theorem DecTab.add {T : List Int} {D : DataW Unit} {l : Int} (h : DecTab T D) (hl : I64 (vr l)) (h1 : T.elem l = false) (h2 : T.elem (-l) = false) : DecTab (T ++ [l]) (D.put (.int .i64 (vr l)) (.lit (.int .i64 l))) := by
  have hk := law_i.key (key_i hl)
  refine ⟨h.tidy.put hk _, fun x hx h0 => ?_⟩
  rw [dec_app h0 h1 h2]
  by_cases e : x = vr l
  · subst e
    rw [if_pos rfl, atKey_put_same h.tidy.isMap hk]
  · rw [if_neg e, atKey_put_other (fun c => e (by simpa using c))]
    exact h.get x hx h0
theorem vr_eq {l : Int} : vr l = max l (-l) := by unfold vr; split <;> omega

/-! ### lists and blocks -/
structure Lay where
  m : Nat
  lb : Nat
  nb : Nat
  cv : Value
  pv : Value
  qv : Value
structure St where
  T : List Int
  lf : List Int
  P : List (Int × Int)
  nw : List Int
  q : List Int
  br : Bool
def rowP (P : List (Int × Int)) : List Value := P.flatMap fun x => [.int .i64 x.1, .int .i64 x.2]
theorem rowP_len (P : List (Int × Int)) : (rowP P).length = P.length * 2 := by
  induction P with
  | nil => rfl
  | cons x r ih => simp only [rowP, List.flatMap_cons, List.length_append, List.length_cons] at ih ⊢; rw [ih]; simp; omega
theorem rowP_app (P : List (Int × Int)) (x : Int × Int) : rowP (P ++ [x]) = rowP P ++ [.int .i64 x.1, .int .i64 x.2] := by simp [rowP]
theorem rowP_at : ∀ {P : List (Int × Int)} {k : Nat} {x : Int × Int}, P[k]? = some x → (rowP P)[k * 2]? = some (.int .i64 x.1) ∧ (rowP P)[k * 2 + 1]? = some (.int .i64 x.2)
  | [], k, x, h => by simp at h
  | y :: r, 0, x, h => by
    simp at h
    subst h
    exact ⟨rfl, rfl⟩
  | y :: r, k + 1, x, h => by
    simp at h
    have := rowP_at h
    have e : rowP (y :: r) = .int .i64 y.1 :: .int .i64 y.2 :: rowP r := rfl
    rw [e, show (k + 1) * 2 = k * 2 + 1 + 1 by omega]
    simpa using this
/-- The blocks that it is made of. -/
def ownB (u : Nat) (L : Lay) : List (Option Nat) := [some u, some L.m, some L.lb, some L.nb, L.cv.ownBlock, L.pv.ownBlock, L.qv.ownBlock]
def Sep (l : List (Option Nat)) : Prop := ∀ (i j : Nat) (a : Nat), l[i]? = some (some a) → l[j]? = some (some a) → i = j
theorem sep_set {l : List (Option Nat)} {i : Nat} {b : Option Nat} (h : Sep l) (hb : l[i]? = some b ∨ ∃ g, b = some g ∧ ∀ j : Nat, l[j]? ≠ some (some g)) : Sep (l.set i b) := by
  intro x y a hx hy
  rw [List.getElem?_set] at hx hy
  rcases hb with hb | ⟨g, rfl, hg⟩
  · have fx : l[x]? = some (some a) := by
      split at hx
      · rename_i e
        split at hx
        · rw [← e, hb]; exact hx
        · cases hx
      · exact hx
    have fy : l[y]? = some (some a) := by
      split at hy
      · rename_i e
        split at hy
        · rw [← e, hb]; exact hy
        · cases hy
      · exact hy
    exact h x y a fx fy
  · by_cases e1 : i = x
    · by_cases e2 : i = y
      · omega
      · rw [if_neg e2] at hy
        rw [if_pos e1] at hx
        split at hx
        · simp only [Option.some.injEq] at hx
          subst hx
          exact absurd hy (hg y)
        · cases hx
    · rw [if_neg e1] at hx
      by_cases e2 : i = y
      · rw [if_pos e2] at hy
        split at hy
        · simp only [Option.some.injEq] at hy
          subst hy
          exact absurd hx (hg x)
        · cases hy
      · rw [if_neg e2] at hy
        exact h x y a hx hy

/-- The struct's cells. -/
def cellsU (al : Option Addr) (n c vn : Nat) (L : Lay) (br : Bool) : Array Value :=
  #[.slice al n c, .int .i64 vn, L.cv, .map (some L.m), .slice (some ⟨L.lb, 0, none⟩) n n, L.pv, .slice (some ⟨L.nb, 0, none⟩) (2 * vn + 1) (2 * vn + 1), L.qv, .bool br]
structure UAt (B : Nat) (w : World) (u : Nat) (al : Option Addr) (n c vn : Nat) (L : Lay) (S : St) : Prop where
  cu : w.heap[u]? = some (.cells (cellsU al n c vn L S.br) 65 (0, 0))
  mp : ∃ D : DataW Unit, w.ownsMap Try.prog 3 (plainElem Try.prog 3) L.m S.T.length D ∧ DecTab S.T D
  lf : w.heap[L.lb]? = some (.cells (rowI S.lf).toArray 3 (0, 0))
  ln : S.lf.length = n
  nw : w.heap[L.nb]? = some (.cells (rowI S.nw).toArray 3 (0, 0))
  nn : S.nw.length = 2 * vn + 1
  came : w.ownsRow B 3 1 L.cv S.T.length (rowI S.T)
  pl : w.ownsRow B 90 2 L.pv S.P.length (rowP S.P)
  qu : w.ownsRow B 3 1 L.qv S.q.length (rowI S.q)
  low : ∀ (i a : Nat), (ownB u L)[i]? = some (some a) → B ≤ a ∧ a < w.heap.size
  sep : Sep (ownB u L)

section
variable {B : Nat} {w w' : World} {u : Nat} {al : Option Addr} {n c vn : Nat} {L : Lay} {S : St}
theorem same_row {base size : Nat} {e : TypeId} {v : Value} {k : Nat} {xs : List Value} (h : w.ownsRow base e size v k xs) (hs : ∀ g, v.ownBlock = some g → w'.heap[g]? = w.heap[g]?) : w'.ownsRow base e size v k xs := by
  rcases h with ⟨hl, h1 | ⟨g, cap, cur, hv, hb, hh, r⟩⟩
  · exact ⟨hl, .inl h1⟩
  · exact ⟨hl, .inr ⟨g, cap, cur, hv, hb, (hs g (by rw [hv]; rfl)).trans hh, r⟩⟩
theorem same_map {m k : Nat} {T : List Int} (h : ∃ D : DataW Unit, w.ownsMap Try.prog 3 (plainElem Try.prog 3) m k D ∧ DecTab T D) (hs : w'.heap[m]? = w.heap[m]?) : ∃ D : DataW Unit, w'.ownsMap Try.prog 3 (plainElem Try.prog 3) m k D ∧ DecTab T D := by
  obtain ⟨D, ⟨es, clock, hb, r⟩, ht⟩ := h
  exact ⟨D, ⟨es, clock, hs.trans hb, r⟩, ht⟩
/-- Blocks of its own stay. -/
theorem UAt.same (h : UAt B w u al n c vn L S) (hz : w.heap.size ≤ w'.heap.size) (hs : ∀ (i a : Nat), (ownB u L)[i]? = some (some a) → w'.heap[a]? = w.heap[a]?) : UAt B w' u al n c vn L S :=
  ⟨(hs 0 u rfl).trans h.cu, same_map h.mp (hs 1 L.m rfl), (hs 2 L.lb rfl).trans h.lf, h.ln, (hs 3 L.nb rfl).trans h.nw, h.nn, same_row h.came (fun g e => hs 4 g (by simp [ownB, e])), same_row h.pl (fun g e => hs 5 g (by simp [ownB, e])),
    same_row h.qu (fun g e => hs 6 g (by simp [ownB, e])), fun i a e => ⟨(h.low i a e).1, Nat.lt_of_lt_of_le (h.low i a e).2 hz⟩, h.sep⟩
theorem UAt.call (h : UAt B w u al n c vn L S) (k : Below w.heap.size w w') : UAt B w' u al n c vn L S := h.same k.size fun i a e => k.block a (h.low i a e).2
theorem UAt.drewN (h : UAt B w u al n c vn L S) (q : Nat) : UAt B (w.drewN q) u al n c vn L S := h.same (Nat.le_refl _) fun _ _ _ => rfl
theorem UAt.drew (h : UAt B w u al n c vn L S) : UAt B w.drew u al n c vn L S := h.same (Nat.le_refl _) fun _ _ _ => rfl
theorem UAt.alloc (h : UAt B w u al n c vn L S) (o : Obj) : UAt B (w.alloc o) u al n c vn L S := h.call ((Below.refl _ _).alloc (Nat.le_refl _) o)
/-- The struct's cells, one by one. -/
theorem UAt.cells (h : UAt B w u al n c vn L S) : (∀ j, w.cell? ⟨u, j, none⟩ = (cellsU al n c vn L S.br)[j]?) ∧ ∀ j, w.frozen? ⟨u, j, none⟩ = false :=
  ⟨fun j => cell_of_row w u j _ _ _ h.cu, fun j => frozen_of_row w u j _ _ h.cu⟩
theorem UAt.left (h : UAt B w u al n c vn L S) {k : Nat} {x : Int} (hk : S.lf[k]? = some x) : w.cell? ⟨L.lb, k, none⟩ = some (.int .i64 x) ∧ w.frozen? ⟨L.lb, k, none⟩ = false :=
  ⟨(cell_of_row w L.lb k _ _ _ h.lf).trans (by simp [rowI, hk]), frozen_of_row w L.lb k _ _ h.lf⟩
theorem UAt.new (h : UAt B w u al n c vn L S) {k : Nat} {x : Int} (hk : S.nw[k]? = some x) : w.cell? ⟨L.nb, k, none⟩ = some (.int .i64 x) ∧ w.frozen? ⟨L.nb, k, none⟩ = false :=
  ⟨(cell_of_row w L.nb k _ _ _ h.nw).trans (by simp [rowI, hk]), frozen_of_row w L.nb k _ _ h.nw⟩
theorem UAt.place (h : UAt B w u al n c vn L S) {k : Nat} {x : Int × Int} (hk : S.P[k]? = some x) : ∃ g cap, L.pv = .slice (some ⟨g, 0, none⟩) S.P.length cap ∧ w.cell? ⟨g, k * 2, none⟩ = some (.int .i64 x.1) ∧ w.cell? ⟨g, k * 2 + 1, none⟩ = some (.int .i64 x.2) := by
  have hlt := (List.getElem?_eq_some_iff.1 hk).1
  have hr := h.pl
  rcases h.pl with ⟨_, ⟨h1, h2⟩ | ⟨g, cap, cur, hv, _⟩⟩
  · omega
  · have := rowP_at hk
    have e : ∀ j, (⟨g, 0, none⟩ : Addr).add j = ⟨g, j, none⟩ := fun j => by unfold Addr.add; split <;> simp_all
    have a := hr.cells (g := g) (by rw [hv]; rfl) _ _ this.1
    have b := hr.cells (g := g) (by rw [hv]; rfl) _ _ this.2
    rw [e] at a b
    exact ⟨g, cap, hv, a, b⟩
theorem row_shape {base size : Nat} {e : TypeId} {v : Value} {k : Nat} {xs : List Value} (h : w.ownsRow base e size v k xs) : ∃ a c, v = .slice a k c := by
  rcases h with ⟨_, ⟨h1, h2⟩ | ⟨g, cap, cur, hv, _⟩⟩
  · exact ⟨none, 0, by rw [h1, h2]⟩
  · exact ⟨_, _, hv⟩
theorem UAt.look (h : UAt B w u al n c vn L S) {x : Int} (hx : I64 x) (h0 : 0 < x) : (Instr.lookup 59 (.map (some L.m)) (.int .i64 x) false).run Try.prog w = .ok (.int .i64 (decT S.T x)) w := by
  obtain ⟨D, h1, h2⟩ := h.mp
  obtain ⟨k, hrun, hat, _⟩ := h1.lookup_int law_i Try.underlying59 Try.underlying3 (Try.zeroValue3 w) (key_i hx)
  rw [h2.get x hx h0] at hat
  simp only [DataW.lit.injEq, Lit.int.injEq, true_and] at hat
  rw [hrun, ← hat]
theorem Sep.far {l : List (Option Nat)} {i j a b : Nat} (h : Sep l) (ha : l[i]? = some (some a)) (hb : l[j]? = some (some b)) (hij : i ≠ j) : a ≠ b := fun e => hij (h i j a ha (by rw [hb, e]))

/-- 'broken = true'. -/
theorem UAt.setBr (h : UAt B w u al n c vn L S) (b : Bool) : UAt B (w.setCell ⟨u, 8, none⟩ (.bool b)) u al n c vn L { S with br := b } := by
  have hz : w.heap.size ≤ (w.setCell ⟨u, 8, none⟩ (.bool b)).heap.size := by simp [World.setCell]
  have hs : ∀ (i a : Nat), i ≠ 0 → (ownB u L)[i]? = some (some a) → (w.setCell ⟨u, 8, none⟩ (.bool b)).heap[a]? = w.heap[a]? := fun i a hi e => heap_setCell_other w _ a _ (h.sep.far e (j := 0) (b := u) rfl hi)
  exact ⟨heap_setCell_same w u 8 _ _ _ h.cu, same_map h.mp (hs 1 L.m (by decide) rfl), (hs 2 L.lb (by decide) rfl).trans h.lf, h.ln, (hs 3 L.nb (by decide) rfl).trans h.nw, h.nn, same_row h.came (fun g e => hs 4 g (by decide) (by simp [ownB, e])), same_row h.pl (fun g e => hs 5 g (by decide) (by simp [ownB, e])),
    same_row h.qu (fun g e => hs 6 g (by decide) (by simp [ownB, e])), fun i a e => ⟨(h.low i a e).1, Nat.lt_of_lt_of_le (h.low i a e).2 hz⟩, h.sep⟩
theorem rowI_set {T : List Int} {k : Nat} {x : Int} : (rowI T).toArray.setIfInBounds k (.int .i64 x) = (rowI (T.set k x)).toArray := by
  simp [rowI, List.map_set]
/-- 'left[k] = x'. -/
theorem UAt.setLeft (h : UAt B w u al n c vn L S) (k : Nat) (x : Int) : UAt B (w.setCell ⟨L.lb, k, none⟩ (.int .i64 x)) u al n c vn L { S with lf := S.lf.set k x } := by
  have hz : w.heap.size ≤ (w.setCell ⟨L.lb, k, none⟩ (.int .i64 x)).heap.size := by simp [World.setCell]
  have hs : ∀ (i a : Nat), i ≠ 2 → (ownB u L)[i]? = some (some a) → (w.setCell ⟨L.lb, k, none⟩ (.int .i64 x)).heap[a]? = w.heap[a]? := fun i a hi e => heap_setCell_other w _ a _ (h.sep.far e (j := 2) (b := L.lb) rfl hi)
  exact ⟨(hs 0 u (by decide) rfl).trans h.cu, same_map h.mp (hs 1 L.m (by decide) rfl), by rw [← rowI_set]; exact heap_setCell_same w L.lb k _ _ _ h.lf, by simpa using h.ln, (hs 3 L.nb (by decide) rfl).trans h.nw, h.nn, same_row h.came (fun g e => hs 4 g (by decide) (by simp [ownB, e])), same_row h.pl (fun g e => hs 5 g (by decide) (by simp [ownB, e])),
    same_row h.qu (fun g e => hs 6 g (by decide) (by simp [ownB, e])), fun i a e => ⟨(h.low i a e).1, Nat.lt_of_lt_of_le (h.low i a e).2 hz⟩, h.sep⟩
/-- 'newest[k] = x'. -/
theorem UAt.setNew (h : UAt B w u al n c vn L S) (k : Nat) (x : Int) : UAt B (w.setCell ⟨L.nb, k, none⟩ (.int .i64 x)) u al n c vn L { S with nw := S.nw.set k x } := by
  have hz : w.heap.size ≤ (w.setCell ⟨L.nb, k, none⟩ (.int .i64 x)).heap.size := by simp [World.setCell]
  have hs : ∀ (i a : Nat), i ≠ 3 → (ownB u L)[i]? = some (some a) → (w.setCell ⟨L.nb, k, none⟩ (.int .i64 x)).heap[a]? = w.heap[a]? := fun i a hi e => heap_setCell_other w _ a _ (h.sep.far e (j := 3) (b := L.nb) rfl hi)
  exact ⟨(hs 0 u (by decide) rfl).trans h.cu, same_map h.mp (hs 1 L.m (by decide) rfl), (hs 2 L.lb (by decide) rfl).trans h.lf, h.ln, by rw [← rowI_set]; exact heap_setCell_same w L.nb k _ _ _ h.nw, by simpa using h.nn, same_row h.came (fun g e => hs 4 g (by decide) (by simp [ownB, e])), same_row h.pl (fun g e => hs 5 g (by decide) (by simp [ownB, e])),
    same_row h.qu (fun g e => hs 6 g (by decide) (by simp [ownB, e])), fun i a e => ⟨(h.low i a e).1, Nat.lt_of_lt_of_le (h.low i a e).2 hz⟩, h.sep⟩
/-- 'decided[..] = l': the map has it, 'came' not yet. -/
structure MidAt (B : Nat) (w : World) (u : Nat) (al : Option Addr) (n c vn : Nat) (L : Lay) (S : St) (l : Int) : Prop where
  cu : w.heap[u]? = some (.cells (cellsU al n c vn L S.br) 65 (0, 0))
  mp : ∃ D : DataW Unit, w.ownsMap Try.prog 3 (plainElem Try.prog 3) L.m (S.T.length + 1) D ∧ DecTab (S.T ++ [l]) D
  lf : w.heap[L.lb]? = some (.cells (rowI S.lf).toArray 3 (0, 0))
  ln : S.lf.length = n
  nw : w.heap[L.nb]? = some (.cells (rowI S.nw).toArray 3 (0, 0))
  nn : S.nw.length = 2 * vn + 1
  came : w.ownsRow B 3 1 L.cv S.T.length (rowI S.T)
  pl : w.ownsRow B 90 2 L.pv S.P.length (rowP S.P)
  qu : w.ownsRow B 3 1 L.qv S.q.length (rowI S.q)
  low : ∀ (i a : Nat), (ownB u L)[i]? = some (some a) → B ≤ a ∧ a < w.heap.size
  sep : Sep (ownB u L)
theorem UAt.decide (h : UAt B w u al n c vn L S) {l : Int} (hl : I64 l) (hv : I64 (vr l)) (h1 : S.T.elem l = false) (h2 : S.T.elem (-l) = false) (hn : S.T.length < 1000000000) :
    ∃ w', (Instr.mapUpdate 59 (.map (some L.m)) (.int .i64 (vr l)) (.int .i64 l)).run Try.prog w = .ok () w' ∧ MidAt B w' u al n c vn L S l ∧ w.grownBy w' (some L.m) := by
  obtain ⟨D, hD, hT⟩ := h.mp
  obtain ⟨w', hrun, ho, hg⟩ := hD.update law_i Try.underlying59 (by unfold maxLen; omega) (key_i hv) (plainElem_int (H := Unit) Try.underlying3 (wf64 hl))
  refine ⟨w', hrun, ?_, hg⟩
  have hs : ∀ (i a : Nat), i ≠ 1 → (ownB u L)[i]? = some (some a) → w'.heap[a]? = w.heap[a]? := fun i a hi e => hg.block a (h.low i a e).2 (fun c => (h.sep.far e (j := 1) (b := L.m) rfl hi) (Option.some.inj c))
  exact ⟨(hs 0 u (by decide) rfl).trans h.cu, ⟨_, ho, hT.add hv h1 h2⟩, (hs 2 L.lb (by decide) rfl).trans h.lf, h.ln, (hs 3 L.nb (by decide) rfl).trans h.nw, h.nn, same_row h.came (fun g e => hs 4 g (by decide) (by simp [ownB, e])), same_row h.pl (fun g e => hs 5 g (by decide) (by simp [ownB, e])),
    same_row h.qu (fun g e => hs 6 g (by decide) (by simp [ownB, e])), fun i a e => ⟨(h.low i a e).1, Nat.lt_of_lt_of_le (h.low i a e).2 hg.size⟩, h.sep⟩
end
end Cf
end Go.Proofs.Ytmgkgbhkaoflhaa

namespace Go.Proofs.Ytmgkgbhkaoflhaa
open Go.RowKit Go.Maps
namespace Cf
set_option maxHeartbeats 1000000
set_option maxRecDepth 100000

/-- append onto a slice of the call's own, as one step of a region that draws. -/
theorem step_append_at {P : Program} {ops : Array Oper} {o : Oper} {a : Act} {w : World} {K : Act → World → Prop} {Q : Exit → Act → World → Prop} {E : Prop}
    (hg : o.guard = none) (s x : Operand) (t t2 : TypeId) (hop : o.op = Op.call { callee := Callee.builtin Builtin.append, args := #[s, x], argTypes := #[t, t2] })
    (base : Nat) (e : TypeId) (i : TypeInfo) (z : Value) (size bytes : Nat) (ht : t = t2) (h1 : P.underlying t = some (.slice e)) (h2 : P.info? e = some i) (h3 : i.zero = some z) (h4 : i.size = size) (h5 : i.bytes = bytes) (h6 : z.cells.size = size) (h7 : 0 < size)
    (v : Value) (n : Nat) (xs : List Value) (hs : a.eval s = v) (hown : w.ownsRow base e size v n xs)
    (ad : Addr) (m c : Nat) (news : List Value) (hx : a.eval x = .slice (some ad) m c) (hn : news.length = m * size) (hc : ∀ j u, news[j]? = some u → w.cell? (ad.add j) = some u) (h1c : ∀ u ∈ news, u.oneCell' = true)
    (b1 : n + m ≤ maxLen) (b2 : (n + m) * bytes ≤ 140737488355328) (hbase : base ≤ w.heap.size)
    (hK : ∀ v' w', w'.ownsRow base e size v' (n + m) (xs ++ news) → w.grownBy w' v.ownBlock → (v'.ownBlock = v.ownBlock ∨ v'.ownBlock = some w.heap.size) → K (a.put o.dst v') w') :
    if Region.wanted o (yielded ops a.tmps) = true then Oper.wp P o a w K Q else E := by
  have hw : Region.wanted o (yielded ops a.tmps) = true := by simp [Region.wanted, hg]
  rw [if_pos hw]
  subst ht
  obtain ⟨v', w', hrun, r1, r2, _, r4⟩ := run_append_own_at (P := P) w base t o.type e i z size bytes h1 h2 h3 h4 h5 h6 h7 v n xs hown ad m c news hn hc h1c b1 b2 hbase
  unfold Oper.wp
  simp [execOp, hop, resolve, invoke, builtin, hs, hx, hrun, Result.andThen]
  exact hK v' w' r1 r2 r4
theorem row_slice {w : World} {B : Nat} {v : Value} {n : Nat} {xs : List Value} {e : TypeId} {size : Nat} (h : w.ownsRow B e size v (n + 1) xs) : ∃ g c, v = .slice (some ⟨g, 0, none⟩) (n + 1) c := by
  rcases h with ⟨_, ⟨_, h2⟩ | ⟨g, cap, cur, hv, hb, hh, _⟩⟩
  · omega
  · exact ⟨g, cap, hv⟩
theorem row_setCell {w : World} {B : Nat} {v : Value} {n : Nat} {xs : List Value} {e : TypeId} {size : Nat} (h : w.ownsRow B e size v n xs) {a : Addr} (u : Value) (ha : v.ownBlock ≠ some a.block) : (w.setCell a u).ownsRow B e size v n xs := by
  rcases h with ⟨hl, h1 | ⟨g, cap, cur, hv, hb, hh, r⟩⟩
  · exact ⟨hl, .inl h1⟩
  · refine ⟨hl, .inr ⟨g, cap, cur, hv, hb, ?_, r⟩⟩
    rw [Below.heap_setCell _ _ _ _ (fun e => ha (by rw [hv, ← e]; rfl))]
    exact hh
theorem info_pl : (Try.prog.info? 90).map (fun i => (i.zero, i.size, i.bytes)) = some (some (.agg #[.int .i64 0, .int .i64 0]), 2, 16) := by kernel_rfl

section
variable {B : Nat} {w w2 : World} {u : Nat} {al : Option Addr} {n c vn : Nat} {L : Lay} {S : St}
theorem own_ne {l : List (Option Nat)} {i j : Nat} {b : Option Nat} (h : Sep l) (hb : l[i]? = some b) {a : Nat} (ha : l[j]? = some (some a)) (hij : i ≠ j) : b ≠ some a := fun e => hij (h i j a (by rw [hb, e]) ha)
theorem low_fresh {g : Nat} (hl : ∀ (i a : Nat), (ownB u L)[i]? = some (some a) → B ≤ a ∧ a < w.heap.size) (hg : w.heap.size ≤ g) : ∀ j : Nat, (ownB u L)[j]? ≠ some (some g) := fun j e => by
  have := (hl j g e).2
  omega
theorem low_set {i : Nat} {b : Option Nat} {z : Nat} (hl : ∀ (i a : Nat), (ownB u L)[i]? = some (some a) → B ≤ a ∧ a < w.heap.size) (hz : w.heap.size ≤ z) (hb : ∀ a, b = some a → B ≤ a ∧ a < z) : ∀ (j a : Nat), ((ownB u L).set i b)[j]? = some (some a) → B ≤ a ∧ a < z := by
  intro j a h
  rw [List.getElem?_set] at h
  split at h
  · split at h
    · injection h with h
      exact hb a h
    · cases h
  · exact ⟨(hl j a h).1, Nat.lt_of_lt_of_le (hl j a h).2 hz⟩
/-- Behind 'ready = append(ready, k)'. -/
theorem UAt.pushQ (h : UAt B w u al n c vn L S) {k : Int} {v' : Value} (hr : w2.ownsRow B 3 1 v' (S.q.length + 1) (rowI S.q ++ [.int .i64 k])) (hg : w.grownBy w2 L.qv.ownBlock) (loc : v'.ownBlock = L.qv.ownBlock ∨ ∃ g, w.heap.size ≤ g ∧ v'.ownBlock = some g) :
    UAt B (w2.setCell ⟨u, 7, none⟩ v') u al n c vn { L with qv := v' } { S with q := S.q ++ [k] } := by
  have hz : w.heap.size ≤ (w2.setCell ⟨u, 7, none⟩ v').heap.size := by have := hg.size; simpa [World.setCell] using this
  have s2 : ∀ (i a : Nat), i ≠ 6 → (ownB u L)[i]? = some (some a) → w2.heap[a]? = w.heap[a]? := fun i a hi e => hg.block a (h.low i a e).2 (own_ne h.sep (i := 6) rfl e (fun c => hi c.symm)).symm
  have hs : ∀ (i a : Nat), i ≠ 6 → i ≠ 0 → (ownB u L)[i]? = some (some a) → (w2.setCell ⟨u, 7, none⟩ v').heap[a]? = w.heap[a]? := fun i a hi h0 e => (heap_setCell_other w2 _ a _ (h.sep.far e (j := 0) (b := u) rfl h0)).trans (s2 i a hi e)
  have hsep : Sep ((ownB u L).set 6 v'.ownBlock) := sep_set h.sep (by
    rcases loc with e | ⟨g, hgz, e⟩
    · left; rw [e]; rfl
    · exact .inr ⟨g, e, low_fresh h.low hgz⟩)
  have hvu : v'.ownBlock ≠ some u := fun e => by
    have := hsep 6 0 u (by rw [e]; rfl) rfl
    omega
  have e1 : (S.q ++ [k]).length = S.q.length + 1 := by simp
  have e2 : rowI (S.q ++ [k]) = rowI S.q ++ [.int .i64 k] := by simp [rowI]
  refine ⟨heap_setCell_same w2 u 7 _ _ _ ((s2 0 u (by decide) rfl).trans h.cu), same_map h.mp (hs 1 L.m (by decide) (by decide) rfl), (hs 2 L.lb (by decide) (by decide) rfl).trans h.lf, h.ln, (hs 3 L.nb (by decide) (by decide) rfl).trans h.nw, h.nn, same_row h.came (fun g e => hs 4 g (by decide) (by decide) (by simp [ownB, e])),
    same_row h.pl (fun g e => hs 5 g (by decide) (by decide) (by simp [ownB, e])), ?_, low_set (u := u) (L := L) (w := w) (i := 6) (b := v'.ownBlock) h.low hz (fun a e => ?_), hsep⟩
  · show (w2.setCell ⟨u, 7, none⟩ v').ownsRow B _ 1 v' (S.q ++ [k]).length (rowI (S.q ++ [k]))
    rw [e1, e2]
    exact row_setCell hr _ hvu
  · have := hr.lt a e
    exact ⟨this.1, by simpa [World.setCell] using this.2⟩
/-- Behind 'places = append(places, p)'. -/
theorem UAt.pushP (h : UAt B w u al n c vn L S) {p : Int × Int} {v' : Value} (hr : w2.ownsRow B 90 2 v' (S.P.length + 1) (rowP S.P ++ [.int .i64 p.1, .int .i64 p.2])) (hg : w.grownBy w2 L.pv.ownBlock) (loc : v'.ownBlock = L.pv.ownBlock ∨ ∃ g, w.heap.size ≤ g ∧ v'.ownBlock = some g) :
    UAt B (w2.setCell ⟨u, 5, none⟩ v') u al n c vn { L with pv := v' } { S with P := S.P ++ [p] } := by
  have hz : w.heap.size ≤ (w2.setCell ⟨u, 5, none⟩ v').heap.size := by have := hg.size; simpa [World.setCell] using this
  have s2 : ∀ (i a : Nat), i ≠ 5 → (ownB u L)[i]? = some (some a) → w2.heap[a]? = w.heap[a]? := fun i a hi e => hg.block a (h.low i a e).2 (own_ne h.sep (i := 5) rfl e (fun c => hi c.symm)).symm
  have hs : ∀ (i a : Nat), i ≠ 5 → i ≠ 0 → (ownB u L)[i]? = some (some a) → (w2.setCell ⟨u, 5, none⟩ v').heap[a]? = w.heap[a]? := fun i a hi h0 e => (heap_setCell_other w2 _ a _ (h.sep.far e (j := 0) (b := u) rfl h0)).trans (s2 i a hi e)
  have hsep : Sep ((ownB u L).set 5 v'.ownBlock) := sep_set h.sep (by
    rcases loc with e | ⟨g, hgz, e⟩
    · left; rw [e]; rfl
    · exact .inr ⟨g, e, low_fresh h.low hgz⟩)
  have hvu : v'.ownBlock ≠ some u := fun e => by
    have := hsep 5 0 u (by rw [e]; rfl) rfl
    omega
  have e1 : (S.P ++ [p]).length = S.P.length + 1 := by simp
  refine ⟨heap_setCell_same w2 u 5 _ _ _ ((s2 0 u (by decide) rfl).trans h.cu), same_map h.mp (hs 1 L.m (by decide) (by decide) rfl), (hs 2 L.lb (by decide) (by decide) rfl).trans h.lf, h.ln, (hs 3 L.nb (by decide) (by decide) rfl).trans h.nw, h.nn, same_row h.came (fun g e => hs 4 g (by decide) (by decide) (by simp [ownB, e])),
    ?_, same_row h.qu (fun g e => hs 6 g (by decide) (by decide) (by simp [ownB, e])), low_set (u := u) (L := L) (w := w) (i := 5) (b := v'.ownBlock) h.low hz (fun a e => ?_), hsep⟩
  · show (w2.setCell ⟨u, 5, none⟩ v').ownsRow B _ 2 v' (S.P ++ [p]).length (rowP (S.P ++ [p]))
    rw [e1, rowP_app]
    exact row_setCell hr _ hvu
  · have := hr.lt a e
    exact ⟨this.1, by simpa [World.setCell] using this.2⟩
theorem MidAt.same {w' : World} {l : Int} (h : MidAt B w u al n c vn L S l) (hz : w.heap.size ≤ w'.heap.size) (hs : ∀ (i a : Nat), (ownB u L)[i]? = some (some a) → w'.heap[a]? = w.heap[a]?) : MidAt B w' u al n c vn L S l :=
  ⟨(hs 0 u rfl).trans h.cu, same_map h.mp (hs 1 L.m rfl), (hs 2 L.lb rfl).trans h.lf, h.ln, (hs 3 L.nb rfl).trans h.nw, h.nn, same_row h.came (fun g e => hs 4 g (by simp [ownB, e])), same_row h.pl (fun g e => hs 5 g (by simp [ownB, e])),
    same_row h.qu (fun g e => hs 6 g (by simp [ownB, e])), fun i a e => ⟨(h.low i a e).1, Nat.lt_of_lt_of_le (h.low i a e).2 hz⟩, h.sep⟩
theorem MidAt.cells {l : Int} (h : MidAt B w u al n c vn L S l) : (∀ j, w.cell? ⟨u, j, none⟩ = (cellsU al n c vn L S.br)[j]?) ∧ ∀ j, w.frozen? ⟨u, j, none⟩ = false :=
  ⟨fun j => cell_of_row w u j _ _ _ h.cu, fun j => frozen_of_row w u j _ _ h.cu⟩
/-- Behind 'came = append(came, l)'. -/
theorem MidAt.pushT {l : Int} (h : MidAt B w u al n c vn L S l) {v' : Value} (hr : w2.ownsRow B 3 1 v' (S.T.length + 1) (rowI S.T ++ [.int .i64 l])) (hg : w.grownBy w2 L.cv.ownBlock) (loc : v'.ownBlock = L.cv.ownBlock ∨ ∃ g, w.heap.size ≤ g ∧ v'.ownBlock = some g) :
    UAt B (w2.setCell ⟨u, 2, none⟩ v') u al n c vn { L with cv := v' } { S with T := S.T ++ [l] } := by
  have hz : w.heap.size ≤ (w2.setCell ⟨u, 2, none⟩ v').heap.size := by have := hg.size; simpa [World.setCell] using this
  have s2 : ∀ (i a : Nat), i ≠ 4 → (ownB u L)[i]? = some (some a) → w2.heap[a]? = w.heap[a]? := fun i a hi e => hg.block a (h.low i a e).2 (own_ne h.sep (i := 4) rfl e (fun c => hi c.symm)).symm
  have hs : ∀ (i a : Nat), i ≠ 4 → i ≠ 0 → (ownB u L)[i]? = some (some a) → (w2.setCell ⟨u, 2, none⟩ v').heap[a]? = w.heap[a]? := fun i a hi h0 e => (heap_setCell_other w2 _ a _ (h.sep.far e (j := 0) (b := u) rfl h0)).trans (s2 i a hi e)
  have hsep : Sep ((ownB u L).set 4 v'.ownBlock) := sep_set h.sep (by
    rcases loc with e | ⟨g, hgz, e⟩
    · left; rw [e]; rfl
    · exact .inr ⟨g, e, low_fresh h.low hgz⟩)
  have hvu : v'.ownBlock ≠ some u := fun e => by
    have := hsep 4 0 u (by rw [e]; rfl) rfl
    omega
  have e1 : (S.T ++ [l]).length = S.T.length + 1 := by simp
  have e2 : rowI (S.T ++ [l]) = rowI S.T ++ [.int .i64 l] := by simp [rowI]
  refine ⟨heap_setCell_same w2 u 2 _ _ _ ((s2 0 u (by decide) rfl).trans h.cu), ?_, (hs 2 L.lb (by decide) (by decide) rfl).trans h.lf, h.ln, (hs 3 L.nb (by decide) (by decide) rfl).trans h.nw, h.nn, ?_,
    same_row h.pl (fun g e => hs 5 g (by decide) (by decide) (by simp [ownB, e])), same_row h.qu (fun g e => hs 6 g (by decide) (by decide) (by simp [ownB, e])), low_set (u := u) (L := L) (w := w) (i := 4) (b := v'.ownBlock) h.low hz (fun a e => ?_), hsep⟩
  · show ∃ D : DataW Unit, (w2.setCell ⟨u, 2, none⟩ v').ownsMap _ _ _ L.m (S.T ++ [l]).length D ∧ _
    rw [e1]
    exact same_map h.mp (hs 1 L.m (by decide) (by decide) rfl)
  · show (w2.setCell ⟨u, 2, none⟩ v').ownsRow B _ 1 v' (S.T ++ [l]).length (rowI (S.T ++ [l]))
    rw [e1, e2]
    exact row_setCell hr _ hvu
  · have := hr.lt a e
    exact ⟨this.1, by simpa [World.setCell] using this.2⟩
end

/-- What an append leaves: the row, what has turned, where it lies. -/
structure Grew (B : Nat) (w w' : World) (e : TypeId) (size : Nat) (v : Value) (n : Nat) (xs : List Value) (g c : Nat) : Prop where
  row : w'.ownsRow B e size (.slice (some ⟨g, 0, none⟩) (n + 1) c) (n + 1) xs
  gr : w.grownBy w' v.ownBlock
  loc : (Value.slice (some ⟨g, 0, none⟩) (n + 1) c).ownBlock = v.ownBlock ∨ ∃ g', w.heap.size ≤ g' ∧ (Value.slice (some ⟨g, 0, none⟩) (n + 1) c).ownBlock = some g'
/-- 'x = append(x, y)', x a row of the call's own, outside a region that draws. -/
theorem wpList_grew {B : Nat} {e t : TypeId} {z0 : Value} {bytes size : Nat} (hinf : (Try.prog.info? e).map (fun i => (i.zero, i.size, i.bytes)) = some (some z0, size, bytes)) (ht : Try.prog.underlying t = some (.slice e)) (hz0 : z0.cells.size = size) (hsz : 0 < size) (hby : bytes ≤ 100)
    {w w0 : World} {v : Value} {n : Nat} {xs : List Value} {news : Array Value} {ops : Array Oper} {rest : List Oper} {o : Oper} {a : Act} {Q : Exit → Act → World → Prop} (hgd : o.guard = none) (s x : Operand)
    (ho : o.op = .call { callee := .builtin .append, args := #[s, x], argTypes := #[t, t] }) (hs : a.eval s = v) (h : w0.ownsRow B e size v n xs) (hB : B ≤ w0.heap.size) (hw : w = w0.alloc (.cells news e)) (hns : news.size = size) (h1 : ∀ u ∈ news.toList, u.oneCell' = true)
    (hx : a.eval x = .slice (some ⟨w0.heap.size, 0, none⟩) 1 1) (hl : n + 1 ≤ 1000000001) (k : ∀ g c w', Grew B w w' e size v n (xs ++ news.toList) g c → wpList Try.prog ops Q rest (a.put o.dst (.slice (some ⟨g, 0, none⟩) (n + 1) c)) w') : wpList Try.prog ops Q (o :: rest) a w := by
  obtain ⟨i0, hinfo, hz0', hz1, hz2⟩ := infos hinf
  subst hw
  have hcell : ∀ (j : Nat) (u : Value), news.toList[j]? = some u → (w0.alloc (.cells news e)).cell? ((⟨w0.heap.size, 0, none⟩ : Addr).add j) = some u := fun j u hj => by
    have ea : (⟨w0.heap.size, 0, none⟩ : Addr).add j = ⟨w0.heap.size, j, none⟩ := by unfold Addr.add; split <;> simp_all
    rw [ea, new_cell]
    simpa using hj
  refine wpList_append_own_at _ hgd s x t ho B e i0 z0 size bytes ht hinfo hz0' hz1 hz2 hz0 hsz v n xs hs (h.alloc _) ⟨w0.heap.size, 0, none⟩ 1 1 news.toList hx (by simpa using hns) hcell h1 (by unfold maxLen; omega) (Nat.le_trans (Nat.mul_le_mul hl hby) (by decide)) (by simp; omega) ?_
  intro v' w2 hrow hgr _ hloc
  obtain ⟨g, c, rfl⟩ := row_slice hrow
  exact k g c w2 ⟨hrow, hgr, hloc.imp id fun e => ⟨_, Nat.le_refl _, e⟩⟩
end Cf
end Go.Proofs.Ytmgkgbhkaoflhaa
