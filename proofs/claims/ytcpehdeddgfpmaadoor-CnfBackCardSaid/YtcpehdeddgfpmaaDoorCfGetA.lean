/-
  What the document's Get has in memory while it goes through the lines.
-/
import Derived.Test.YtcpehdeddgfpmaaDoorCfRead
import Derived.Test.YtcpehdeddgfpmaaDoorCfUnits
import Derived.Deep.Heap
namespace Go.Proofs.YtcpehdeddgfpmaaDoor
open Go.RowKit
namespace Cf
set_option maxHeartbeats 1000000
set_option maxRecDepth 100000

theorem vals_at {W : World} {al : Option Addr} {T : List Value} (h : ValsAt W al T) {i : Nat} {x : Value} (hk : T[i]? = some x) : ∃ bl ol, al = some ⟨bl, ol, none⟩ ∧ bl < W.heap.size ∧ W.cell? ⟨bl, ol + i, none⟩ = some x := by
  rcases h with h | ⟨bl, ol, h1, h2, h3⟩
  · subst h; simp at hk
  · exact ⟨bl, ol, h1, h2, h3 i x hk⟩
theorem split_len (b : UInt8) : ∀ s : By, (splitB b s).length ≤ s.length + 1
  | [] => by simp [splitB]
  | c :: r => by
    have ih := split_len b r
    rw [split_cons]
    split
    · simp; omega
    · cases h : splitB b r with
      | nil => exact absurd h (split_ne b r)
      | cons x y => rw [h] at ih; simp [consB] at ih ⊢; omega
theorem split_le (b : UInt8) : ∀ {s x : By}, x ∈ splitB b s → x.length ≤ s.length
  | [], x, h => by simp [splitB] at h; subst h; simp
  | c :: r, x, h => by
    rw [split_cons] at h
    split at h
    · rcases List.mem_cons.1 h with h | h
      · subst h; simp
      · have := split_le b h; simp; omega
    · cases hs : splitB b r with
      | nil => exact absurd hs (split_ne b r)
      | cons y z =>
        rw [hs] at h
        simp only [consB] at h
        rcases List.mem_cons.1 h with h | h
        · subst h
          have := split_le b (s := r) (x := y) (by rw [hs]; simp)
          simp; omega
        · have := split_le b (s := r) (x := x) (by rw [hs]; simp [h])
          simp; omega

/-- A struct of clauses in a block of the call's own. -/
structure ResAt (b : Nat) (v : Int) (s : Value) (w : World) : Prop where
  lt : b < w.heap.size
  c0 : w.cell? ⟨b, 0, none⟩ = some (.int .i64 v)
  c1 : w.cell? ⟨b, 1, none⟩ = some s
  fr : ∀ o, w.frozen? ⟨b, o, none⟩ = false
theorem ResAt.call {b : Nat} {v : Int} {s : Value} {w w' : World} (h : ResAt b v s w) (k : Below w.heap.size w w') : ResAt b v s w' :=
  ⟨Nat.lt_of_lt_of_le h.lt k.size, (k.cell (p := ⟨b, 0, none⟩) h.lt).trans h.c0, (k.cell (p := ⟨b, 1, none⟩) h.lt).trans h.c1, fun o => (k.frozen (p := ⟨b, o, none⟩) h.lt).trans (h.fr o)⟩
theorem ResAt.new {v : Int} {s : Value} {W : World} : ResAt W.heap.size v s (W.alloc (.cells #[.int .i64 v, s] 25)) := by
  refine ⟨by simp, new_cell _ _ _ _, new_cell _ _ _ _, fun o => ?_⟩
  have h : (W.alloc (.cells #[.int .i64 v, s] 25)).heap[W.heap.size]? = some (.cells #[.int .i64 v, s] 25) := by
    show (W.heap.push _)[W.heap.size]? = _
    simp
  unfold World.frozen?
  rw [h]
  simp
theorem ResAt.grown {b : Nat} {v : Int} {s : Value} {w w' : World} {r : Option Nat} (h : ResAt b v s w) (k : w.grownBy w' r) (hr : some b ≠ r) : ResAt b v s w' :=
  ⟨Nat.lt_of_lt_of_le h.lt k.size, (World.cell?_of_block (a := ⟨b, 0, none⟩) (k.block b h.lt hr)).trans h.c0, (World.cell?_of_block (a := ⟨b, 1, none⟩) (k.block b h.lt hr)).trans h.c1, fun o => (World.frozen?_of_block (a := ⟨b, o, none⟩) (k.block b h.lt hr)).trans (h.fr o)⟩
theorem ResAt.other {b : Nat} {v : Int} {s u : Value} {w : World} {p : Addr} (h : ResAt b v s w) (hp : p.block ≠ b) : ResAt b v s (w.setCell p u) := by
  refine ⟨by simpa [World.setCell] using h.lt, ?_, ?_, fun o => by rw [World.frozen?_setCell]; exact h.fr o⟩
  · rw [World.cell?_setCell_other _ _ _ _ (by intro e; exact hp (by rw [e])), h.c0]
  · rw [World.cell?_setCell_other _ _ _ _ (by intro e; exact hp (by rw [e])), h.c1]
theorem ResAt.put0 {b : Nat} {v u : Int} {s : Value} {w : World} (h : ResAt b v s w) : ResAt b u s (w.setCell ⟨b, 0, none⟩ (.int .i64 u)) := by
  refine ⟨by simpa [World.setCell] using h.lt, ?_, ?_, fun o => by rw [World.frozen?_setCell]; exact h.fr o⟩
  · exact World.cell?_setCell_same' _ _ _ (by rw [h.c0]; rfl)
  · rw [World.cell?_setCell_other _ _ _ _ (by simp), h.c1]
theorem ResAt.put {b : Nat} {v : Int} {s u : Value} {w : World} (h : ResAt b v s w) : ResAt b v u (w.setCell ⟨b, 1, none⟩ u) := by
  refine ⟨by simpa [World.setCell] using h.lt, ?_, ?_, fun o => by rw [World.frozen?_setCell]; exact h.fr o⟩
  · rw [World.cell?_setCell_other _ _ _ _ (by simp), h.c0]
  · exact World.cell?_setCell_same' _ _ _ (by rw [h.c1]; rfl)

/-- A list of clauses that the call itself makes. -/
def InAt (B : Nat) (cv : Value) (k : List Int) (al : Option Addr) (w : World) : Prop := k = [] ∨ ∃ bl o, al = some ⟨bl, o, none⟩ ∧ B ≤ bl ∧ bl < w.heap.size ∧ some bl ≠ cv.ownBlock
def RowOf (B : Nat) (cv : Value) (C : Cl) (xs : List Value) (w : World) : Prop := ∀ (i : Nat) (k : List Int), C[i]? = some k → ∃ al c, xs[i]? = some (.slice al k.length c) ∧ InAt B cv k al w ∧ IntsAt w al k
structure ClsOwn (B : Nat) (cv : Value) (C : Cl) (w : World) : Prop where
  row : ∃ xs, w.ownsRow B 34 1 cv C.length xs ∧ RowOf B cv C xs w
theorem ClsOwn.zero {B : Nat} {w : World} : ClsOwn B (.slice none 0 0) [] w := ⟨[], World.ownsRow_nil _ _ _ _, fun i k h => by simp at h⟩
theorem ClsOwn.shape {B : Nat} {cv : Value} {C : Cl} {w : World} (h : ClsOwn B cv C w) : ∃ a c, cv = .slice a C.length c := by
  obtain ⟨xs, ⟨_, ⟨h1, h2⟩ | ⟨g, cap, cur, hv, _⟩⟩, _⟩ := h.row
  · exact ⟨none, 0, by rw [h1, h2]⟩
  · exact ⟨_, _, hv⟩
theorem ClsOwn.blk {B : Nat} {cv : Value} {C : Cl} {w : World} (h : ClsOwn B cv C w) {g : Nat} (hg : cv.ownBlock = some g) : B ≤ g ∧ g < w.heap.size := by
  obtain ⟨xs, ⟨_, ⟨h1, h2⟩ | ⟨g', cap, cur, hv, hb, hh, _⟩⟩, _⟩ := h.row
  · rw [h1] at hg; cases hg
  · rw [hv] at hg; injection hg with hg; rw [← hg]; exact ⟨hb, (Array.getElem?_eq_some_iff.1 hh).1⟩
theorem ints_block {w w' : World} {al : Option Addr} {k : List Int} {bl o : Nat} (h : IntsAt w al k) (ha : al = some ⟨bl, o, none⟩) (hb : w'.heap[bl]? = w.heap[bl]?) (hs : w.heap.size ≤ w'.heap.size) : IntsAt w' al k := by
  refine h.imp id ?_
  rintro ⟨b', o', h1, h2, h3⟩
  rw [ha] at h1
  injection h1 with h1
  injection h1 with e1 e2
  subst e1 e2
  exact ⟨bl, o, ha, Nat.lt_of_lt_of_le h2 hs, fun j v hj => (World.cell?_of_block (a := ⟨bl, o + j, none⟩) hb).trans (h3 j v hj)⟩
theorem in_block {w w' : World} {al : Option Addr} {k : List Int} {B : Nat} {cv : Value} (hi : InAt B cv k al w) (h : IntsAt w al k) (hb : ∀ bl, B ≤ bl → bl < w.heap.size → some bl ≠ cv.ownBlock → w'.heap[bl]? = w.heap[bl]?) (hs : w.heap.size ≤ w'.heap.size) : IntsAt w' al k := by
  rcases hi with hi | ⟨bl, o, h1, h2, h3, h4⟩
  · exact .inl hi
  · exact ints_block h h1 (hb bl h2 h3 h4) hs
theorem InAt.size {B : Nat} {cv cv' : Value} {k : List Int} {al : Option Addr} {w w' : World} (h : InAt B cv k al w) (hs : w.heap.size ≤ w'.heap.size) (hc : cv'.ownBlock = cv.ownBlock ∨ ∃ g, cv'.ownBlock = some g ∧ w.heap.size ≤ g) : InAt B cv' k al w' := by
  refine h.imp id ?_
  rintro ⟨bl, o, h1, h2, h3, h4⟩
  refine ⟨bl, o, h1, h2, by omega, fun e => ?_⟩
  rcases hc with hc | ⟨g, hc, hg⟩
  · exact h4 (e.trans hc)
  · rw [hc] at e; injection e with e; omega
theorem ClsOwn.call {B : Nat} {cv : Value} {C : Cl} {w w' : World} (h : ClsOwn B cv C w) (k : Below w.heap.size w w') : ClsOwn B cv C w' := by
  obtain ⟨xs, hr, hx⟩ := h.row
  refine ⟨xs, row_bel hr k, fun i k' hk => ?_⟩
  obtain ⟨al, c, h1, h2, h3⟩ := hx i k' hk
  exact ⟨al, c, h1, h2.size k.size (.inl rfl), h3.keep k⟩
theorem ClsOwn.setCell {B : Nat} {cv : Value} {C : Cl} {w : World} {p : Addr} {u : Value} (h : ClsOwn B cv C w) (hp : p.block < B) : ClsOwn B cv C (w.setCell p u) := by
  obtain ⟨xs, hr, hx⟩ := h.row
  have hs : (w.setCell p u).heap.size = w.heap.size := by simp [World.setCell]
  refine ⟨xs, ?_, fun i k' hk => ?_⟩
  · rcases hr with ⟨hl, h1 | ⟨g, cap, cur, hv, hb', hh, r⟩⟩
    · exact ⟨hl, .inl h1⟩
    · refine ⟨hl, .inr ⟨g, cap, cur, hv, hb', ?_, r⟩⟩
      rw [← hh]
      exact Go.Deep.blk_setCell_other w p u g (by omega)
  · obtain ⟨al, c, h1, h2, h3⟩ := hx i k' hk
    exact ⟨al, c, h1, h2.size (Nat.le_of_eq hs.symm) (.inl rfl), in_block h2 h3 (fun bl h4 _ _ => Go.Deep.blk_setCell_other w p u bl (by omega)) (Nat.le_of_eq hs.symm)⟩
theorem ClsOwn.cls {B : Nat} {a : Option Addr} {n c : Nat} {C : Cl} {w : World} (h : ClsOwn B (.slice a n c) C w) : ClsAt w a C := by
  obtain ⟨xs, hr0, hx⟩ := h.row
  have hr := hr0
  rcases hr0 with ⟨_, ⟨h1, h2⟩ | ⟨g, cap, cur, hv, hb, hh, _⟩⟩
  · left; exact List.length_eq_zero_iff.1 h2
  · right
    injection hv with e1 e2 e3
    subst e1
    refine ⟨g, 0, rfl, (Array.getElem?_eq_some_iff.1 hh).1, fun j k hj => ?_⟩
    obtain ⟨al, c', q1, _, q3⟩ := hx j k hj
    have := hr.cells (g := g) rfl j _ q1
    have e : (⟨g, 0, none⟩ : Addr).add j = ⟨g, 0 + j, none⟩ := by
      unfold Addr.add
      split <;> simp_all
    rw [e] at this
    exact ⟨al, c', this, q3⟩

/-- 'c.Clauses = append(c.Clauses, k)'. -/
theorem wpList_cls {B : Nat} {w w0 : World} {cv : Value} {C : Cl} {k : List Int} {kal : Option Addr} {kc : Nat} {ops : Array Oper} {rest : List Oper} {o : Oper} {a : Act} {Q : Exit → Act → World → Prop} (hgd : o.guard = none) (s x : Operand)
    (ho : o.op = .call { callee := .builtin .append, args := #[s, x], argTypes := #[23, 23] }) (hs : a.eval s = cv) (h : ClsOwn B cv C w0) (hB : B ≤ w0.heap.size) (hI : IntsAt w0 kal k) (hin : InAt B cv k kal w0) (hw : w = w0.alloc (.cells #[.slice kal k.length kc] 34))
    (hx : a.eval x = .slice (some ⟨w0.heap.size, 0, none⟩) 1 1) (hl : C.length + 1 ≤ 1000000000) (cont : ∀ a' c' w', ClsOwn B (.slice a' (C.length + 1) c') (C ++ [k]) w' → w.grownBy w' cv.ownBlock → wpList Tryd.prog ops Q rest (a.put o.dst (.slice a' (C.length + 1) c')) w') : wpList Tryd.prog ops Q (o :: rest) a w := by
  obtain ⟨i0, hinfo, hi0, hi1, hi2⟩ := infos info_ints
  have ka := bel_alloc (Below.refl w0.heap.size w0) (.cells #[.slice kal k.length kc] 34)
  obtain ⟨xs, hr, hxs⟩ := h.row
  subst hw
  have hsz : (w0.alloc (.cells #[.slice kal k.length kc] 34)).heap.size = w0.heap.size + 1 := by simp
  refine wpList_append_own_at _ hgd s x 23 ho B 34 i0 (.slice none 0 0) 1 24 Tryd.underlying23 hinfo hi0 hi1 hi2 rfl (by decide) cv C.length xs hs (row_bel hr ka) ⟨w0.heap.size, 0, none⟩ 1 1 [.slice kal k.length kc] hx rfl (cell_one_new w0 _ 34) (by intro u hu; simp at hu; subst hu; rfl) (by unfold maxLen; omega) (by omega) (by omega) ?_
  intro v' w2 hrow hgr _ hloc
  have hloc' : v'.ownBlock = cv.ownBlock ∨ ∃ g, v'.ownBlock = some g ∧ w0.heap.size ≤ g := hloc.imp id (fun e => ⟨_, e, by omega⟩)
  have hsz2 : w0.heap.size ≤ w2.heap.size := by have := hgr.size; omega
  have hbk : ∀ bl, B ≤ bl → bl < w0.heap.size → some bl ≠ cv.ownBlock → w2.heap[bl]? = w0.heap[bl]? := fun bl _ h2 h3 => (hgr.block bl (by omega) h3).trans (ka.block bl h2)
  have e1 : (C ++ [k]).length = C.length + 1 := by simp
  have hlen : xs.length = C.length := by
    rcases hr with ⟨hl, _⟩
    simpa using hl
  have hG : ClsOwn B v' (C ++ [k]) w2 := by
    refine ⟨xs ++ [.slice kal k.length kc], by rw [e1]; exact hrow, fun i k' hk => ?_⟩
    by_cases hi : i < C.length
    · rw [List.getElem?_append_left hi] at hk
      obtain ⟨al, c, q1, q2, q3⟩ := hxs i k' hk
      exact ⟨al, c, by rw [List.getElem?_append_left (by omega)]; exact q1, q2.size hsz2 hloc', in_block q2 q3 hbk hsz2⟩
    · rw [List.getElem?_append_right (by omega)] at hk
      have hi0 : i - C.length = 0 := by
        have := (List.getElem?_eq_some_iff.1 hk).1
        simp at this
        omega
      rw [hi0] at hk
      obtain rfl : k = k' := by simpa using hk
      exact ⟨kal, kc, by rw [List.getElem?_append_right (by omega), hlen, hi0]; rfl, hin.size hsz2 hloc', in_block hin hI hbk hsz2⟩
  obtain ⟨a', c', rfl⟩ := hG.shape
  rw [e1] at hG ⊢
  exact cont a' c' w2 hG hgr
end Cf
end Go.Proofs.YtcpehdeddgfpmaaDoor
