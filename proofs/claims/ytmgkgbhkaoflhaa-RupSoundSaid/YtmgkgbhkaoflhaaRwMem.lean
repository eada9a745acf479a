/-
  The checker in memory: which blocks it is made of, and what each store leaves.
-/
import Derived.Test.YtmgkgbhkaoflhaaB4
import Derived.Test.YtmgkgbhkaoflhaaA5
namespace Go.Proofs.Ytmgkgbhkaoflhaa
open Go.RowKit
namespace Rw
open Cf Rp
set_option maxHeartbeats 1000000
set_option maxRecDepth 100000

/-- What a block is for. -/
inductive Role where
  | non | chk | wat | sur | dec | cam | cls
  | lst (p : Nat)
  | lit (c : Nat)
structure Lay where
  wb : Nat
  sb : Nat
  db : Nat
  cv : Value
  wv : Nat → Value
  lv : Nat → Value
  tag : Nat → Role
def ptr (c : Nat) : Value := .pointer (some ⟨c, 0, none⟩)
def rowC (l : List Nat) : List Value := l.map ptr
def wordV (x : Nat) : Value := .int .u64 ((x : Nat) : Int)
def nw (v : Nat) : Nat := (2 * v + 1) / 64 + 1
def lt (v q : Nat) : Int := (q : Int) - (v : Int)
/-- A set of places, a bit for each. -/
def BitsAt (w : World) (b n : Nat) (f : Nat → Bool) : Prop :=
  ∃ ws : List Nat, ws.length = n ∧ w.heap[b]? = some (.cells (ws.map wordV).toArray 87 (0, 0)) ∧ (∀ x ∈ ws, x < 18446744073709551616) ∧ ∀ q, q < 64 * n → (ws.getD (q / 64) 0).testBit (q % 64) = f q
def cellsK (v : Nat) (L : Lay) (br : Bool) : Array Value :=
  #[.int .i64 ((v : Nat) : Int), .slice (some ⟨L.wb, 0, none⟩) (2 * v + 1) (2 * v + 1), .slice (some ⟨L.sb, 0, none⟩) (nw v) (nw v), .slice (some ⟨L.db, 0, none⟩) (nw v) (nw v), L.cv, .bool br]
def rowW (v : Nat) (wv : Nat → Value) : Array Value := ((List.range (2 * v + 1)).map wv).toArray
structure KAt (B v : Nat) (w : World) (k : Nat) (L : Lay) (s : PS) (D : Int → Bool) (gap : Option Nat) : Prop where
  ck : w.heap[k]? = some (.cells (cellsK v L s.br) 53 (0, 0))
  cw : w.heap[L.wb]? = some (.cells (rowW v L.wv) 86 (0, 0))
  su : BitsAt w L.sb (nw v) fun q => s.S (lt v q)
  de : BitsAt w L.db (nw v) fun q => D (lt v q)
  ca : w.ownsRow B 3 1 L.cv s.T.length (rowI s.T)
  ws : ∀ p, p < 2 * v + 1 → gap ≠ some p → w.ownsRow B 74 1 (L.wv p) (s.W p).length (rowC (s.W p))
  cl : ∀ c ∈ s.ids, w.heap[c]? = some (.cells #[L.lv c, .int .i64 ((s.ax c : Nat) : Int)] 76 (0, 0))
  cq : ∀ c ∈ s.ids, w.ownsRow B 3 1 (L.lv c) (s.lit c).length (rowI (s.lit c))
  tk : L.tag k = .chk
  tw : L.tag L.wb = .wat
  ts : L.tag L.sb = .sur
  td : L.tag L.db = .dec
  tc : ∀ g, L.cv.ownBlock = some g → L.tag g = .cam
  tl : ∀ p, p < 2 * v + 1 → gap ≠ some p → ∀ g, (L.wv p).ownBlock = some g → L.tag g = .lst p
  ti : ∀ c ∈ s.ids, L.tag c = .cls
  tq : ∀ c ∈ s.ids, ∀ g, (L.lv c).ownBlock = some g → L.tag g = .lit c
  low : ∀ b, L.tag b ≠ .non → B ≤ b ∧ b < w.heap.size
/-- What is none of the checker's stays. -/
structure Kept (L : Lay) (w w' : World) (L' : Lay) : Prop where
  os : w'.os = w.os
  tape : w'.tape = w.tape
  output : w'.output = w.output
  size : w.heap.size ≤ w'.heap.size
  blk : ∀ b, b < w.heap.size → L.tag b = .non → w'.heap[b]? = w.heap[b]? ∧ L'.tag b = .non
theorem Kept.refl (L : Lay) (w : World) : Kept L w w L := ⟨rfl, rfl, rfl, Nat.le_refl _, fun _ _ h => ⟨rfl, h⟩⟩
theorem Kept.trans {L L1 L2 : Lay} {w w1 w2 : World} (h : Kept L w w1 L1) (k : Kept L1 w1 w2 L2) : Kept L w w2 L2 :=
  ⟨k.os.trans h.os, k.tape.trans h.tape, k.output.trans h.output, Nat.le_trans h.size k.size, fun b hb ht => by
    obtain ⟨a1, a2⟩ := h.blk b hb ht
    obtain ⟨b1, b2⟩ := k.blk b (Nat.lt_of_lt_of_le hb h.size) a2
    exact ⟨b1.trans a1, b2⟩⟩
theorem Kept.drewN {L L1 : Lay} {w w1 : World} (h : Kept L w w1 L1) (n : Nat) : Kept L w (w1.drewN n) L1 := ⟨h.os, h.tape, h.output, h.size, h.blk⟩
theorem Kept.alloc {L L1 : Lay} {w w1 : World} (h : Kept L w w1 L1) (o : Obj) : Kept L w (w1.alloc o) L1 :=
  ⟨h.os, h.tape, h.output, by simp; have := h.size; omega, fun b hb ht => ⟨((((Below.refl w1.heap.size w1).alloc (Nat.le_refl _) o).block b (Nat.lt_of_lt_of_le hb h.size))).trans (h.blk b hb ht).1, (h.blk b hb ht).2⟩⟩
theorem Kept.set {L L1 : Lay} {w w1 : World} (h : Kept L w w1 L1) {g : Nat} (hg : L.tag g ≠ .non) (i : Nat) (x : Value) : Kept L w (w1.setCell ⟨g, i, none⟩ x) L1 :=
  ⟨h.os, h.tape, h.output, by simpa [World.setCell] using h.size, fun b hb ht => ⟨(heap_setCell_other w1 _ b _ (fun e => hg (by rw [show g = b from e.symm]; exact ht))).trans (h.blk b hb ht).1, (h.blk b hb ht).2⟩⟩
theorem Kept.below {L L1 : Lay} {w w1 : World} (h : Kept L w w1 L1) {w2 : World} (hb : Below w1.heap.size w1 w2) : Kept L w w2 L1 :=
  ⟨hb.os.trans h.os, hb.tape.trans h.tape, hb.output.trans h.output, Nat.le_trans h.size hb.size, fun b hb' ht => ⟨(hb.block b (Nat.lt_of_lt_of_le hb' h.size)).trans (h.blk b hb' ht).1, (h.blk b hb' ht).2⟩⟩

section
variable {B v : Nat} {w w' : World} {k : Nat} {L : Lay} {s : PS} {D : Int → Bool} {gap : Option Nat}
theorem BitsAt.same {b n : Nat} {f : Nat → Bool} (h : BitsAt w b n f) (hs : w'.heap[b]? = w.heap[b]?) : BitsAt w' b n f := by
  obtain ⟨ws, h1, h2, h3⟩ := h
  exact ⟨ws, h1, hs.trans h2, h3⟩
/-- Blocks of its own stay. -/
theorem KAt.same (h : KAt B v w k L s D gap) (hz : w.heap.size ≤ w'.heap.size) (hs : ∀ b, L.tag b ≠ .non → w'.heap[b]? = w.heap[b]?) : KAt B v w' k L s D gap :=
  ⟨(hs k (by rw [h.tk]; nofun)).trans h.ck, (hs _ (by rw [h.tw]; nofun)).trans h.cw, h.su.same (hs _ (by rw [h.ts]; nofun)), h.de.same (hs _ (by rw [h.td]; nofun)),
    same_row h.ca (fun g e => hs g (by rw [h.tc g e]; nofun)), fun p hp hg => same_row (h.ws p hp hg) (fun g e => hs g (by rw [h.tl p hp hg g e]; nofun)),
    fun c hc => (hs c (by rw [h.ti c hc]; nofun)).trans (h.cl c hc), fun c hc => same_row (h.cq c hc) (fun g e => hs g (by rw [h.tq c hc g e]; nofun)),
    h.tk, h.tw, h.ts, h.td, h.tc, h.tl, h.ti, h.tq, fun b hb => ⟨(h.low b hb).1, Nat.lt_of_lt_of_le (h.low b hb).2 hz⟩⟩
theorem KAt.call (h : KAt B v w k L s D gap) (hb : Below w.heap.size w w') : KAt B v w' k L s D gap := h.same hb.size fun b ht => hb.block b (h.low b ht).2
theorem KAt.drewN (h : KAt B v w k L s D gap) (n : Nat) : KAt B v (w.drewN n) k L s D gap := h.same (Nat.le_refl _) fun _ _ => rfl
theorem KAt.alloc (h : KAt B v w k L s D gap) (o : Obj) : KAt B v (w.alloc o) k L s D gap := h.call ((Below.refl _ _).alloc (Nat.le_refl _) o)
theorem KAt.cells (h : KAt B v w k L s D gap) : (∀ j, w.cell? ⟨k, j, none⟩ = (cellsK v L s.br)[j]?) ∧ ∀ j, w.frozen? ⟨k, j, none⟩ = false :=
  ⟨fun j => cell_of_row w k j _ _ _ h.ck, fun j => frozen_of_row w k j _ _ h.ck⟩
theorem KAt.head (h : KAt B v w k L s D gap) : (∀ p, p < 2 * v + 1 → w.cell? ⟨L.wb, p, none⟩ = some (L.wv p)) ∧ ∀ j, w.frozen? ⟨L.wb, j, none⟩ = false :=
  ⟨fun p hp => (cell_of_row w L.wb p _ _ _ h.cw).trans (by unfold rowW; simp [hp]), fun j => frozen_of_row w L.wb j _ _ h.cw⟩
theorem KAt.clause (h : KAt B v w k L s D gap) {c : Nat} (hc : c ∈ s.ids) : w.cell? ⟨c, 0, none⟩ = some (L.lv c) ∧ w.cell? ⟨c, 1, none⟩ = some (.int .i64 ((s.ax c : Nat) : Int)) ∧ ∀ j, w.frozen? ⟨c, j, none⟩ = false :=
  ⟨(cell_of_row w c 0 _ _ _ (h.cl c hc)).trans rfl, (cell_of_row w c 1 _ _ _ (h.cl c hc)).trans rfl, fun j => frozen_of_row w c j _ _ (h.cl c hc)⟩
theorem row_at {e : TypeId} {x : Value} {n : Nat} {xs : List Value} (h : w.ownsRow B e 1 x n xs) (hn : 0 < n) : ∃ g c, x = .slice (some ⟨g, 0, none⟩) n c ∧ n ≤ c ∧ (∀ j, j < n → w.cell? ⟨g, j, none⟩ = xs[j]?) ∧ ∀ j, w.frozen? ⟨g, j, none⟩ = false := by
  rcases h with ⟨h0, ⟨_, h2⟩ | ⟨g, cap, cur, hv, hb, hh, hc, r⟩⟩
  · omega
  · subst hv
    have ho : w.ownsRow B e 1 (.slice (some ⟨g, 0, none⟩) n cap) n xs := ⟨h0, .inr ⟨g, cap, cur, rfl, hb, hh, hc, r⟩⟩
    exact ⟨g, cap, rfl, hc, fun j hj => ho.cellAt j (by omega), fun j => ho.frozenAt j⟩
theorem KAt.lits (h : KAt B v w k L s D gap) {c : Nat} (hc : c ∈ s.ids) (hn : 0 < (s.lit c).length) : ∃ g cap, L.lv c = .slice (some ⟨g, 0, none⟩) (s.lit c).length cap ∧ (s.lit c).length ≤ cap ∧ (∀ (j : Nat) (x : Int), (s.lit c)[j]? = some x → w.cell? ⟨g, j, none⟩ = some (.int .i64 x)) ∧ (∀ j, w.frozen? ⟨g, j, none⟩ = false) ∧ L.tag g = .lit c := by
  obtain ⟨g, cap, e, h0, h1, h2⟩ := row_at (h.cq c hc) hn
  refine ⟨g, cap, e, h0, fun j x hx => ?_, h2, h.tq c hc g (by rw [e]; rfl)⟩
  rw [h1 j (List.getElem?_eq_some_iff.1 hx).1]
  simp [rowI, hx]
/-- 'broken = b'. -/
theorem KAt.setBr (h : KAt B v w k L s D gap) (b : Bool) : KAt B v (w.setCell ⟨k, 5, none⟩ (.bool b)) k L { s with br := b } D gap := by
  have hz : w.heap.size ≤ (w.setCell ⟨k, 5, none⟩ (.bool b)).heap.size := by simp [World.setCell]
  have hs : ∀ g, L.tag g ≠ .chk → (w.setCell ⟨k, 5, none⟩ (.bool b)).heap[g]? = w.heap[g]? := fun g hg => heap_setCell_other w _ g _ (fun e => hg (by rw [show g = k from e]; exact h.tk))
  exact ⟨heap_setCell_same w k 5 _ _ _ h.ck, (hs _ (by rw [h.tw]; nofun)).trans h.cw, h.su.same (hs _ (by rw [h.ts]; nofun)), h.de.same (hs _ (by rw [h.td]; nofun)),
    same_row h.ca (fun g e => hs g (by rw [h.tc g e]; nofun)), fun p hp hg => same_row (h.ws p hp hg) (fun g e => hs g (by rw [h.tl p hp hg g e]; nofun)),
    fun c hc => (hs c (by rw [h.ti c hc]; nofun)).trans (h.cl c hc), fun c hc => same_row (h.cq c hc) (fun g e => hs g (by rw [h.tq c hc g e]; nofun)),
    h.tk, h.tw, h.ts, h.td, h.tc, h.tl, h.ti, h.tq, fun b hb => ⟨(h.low b hb).1, Nat.lt_of_lt_of_le (h.low b hb).2 hz⟩⟩
def tagOf (tag : Nat → Role) (x : Option Nat) (r : Role) : Nat → Role := open Classical in fun b => if x = some b then r else tag b
theorem tagOf_ne {tag : Nat → Role} {x : Option Nat} {r : Role} {b : Nat} (h : x ≠ some b) : tagOf tag x r b = tag b := by unfold tagOf; rw [if_neg h]
theorem tagOf_at {tag : Nat → Role} {r : Role} {b : Nat} : tagOf tag (some b) r b = r := by unfold tagOf; rw [if_pos rfl]
/-- 'came = x', behind what made x. -/
theorem KAt.setCame (h : KAt B v w k L s D gap) {w1 : World} {x : Value} {T : List Int} (hr : w1.ownsRow B 3 1 x T.length (rowI T)) (hg : w.grownBy w1 L.cv.ownBlock) (loc : x.ownBlock = L.cv.ownBlock ∨ x.ownBlock = none ∨ ∃ g, w.heap.size ≤ g ∧ x.ownBlock = some g) :
    KAt B v (w1.setCell ⟨k, 4, none⟩ x) k { L with cv := x, tag := tagOf L.tag x.ownBlock .cam } { s with T := T } D gap := by
  have hz : w.heap.size ≤ (w1.setCell ⟨k, 4, none⟩ x).heap.size := by have := hg.size; simpa [World.setCell] using this
  have nx : ∀ b, L.tag b ≠ .non → L.tag b ≠ .cam → x.ownBlock ≠ some b := fun b h1 h2 e => by
    rcases loc with c | c | ⟨g, c1, c2⟩
    · exact h2 (h.tc b (c ▸ e))
    · rw [c] at e; cases e
    · rw [c2] at e
      injection e with e
      have := (h.low b h1).2
      omega
  have tg : ∀ b, L.tag b ≠ .non → L.tag b ≠ .cam → tagOf L.tag x.ownBlock .cam b = L.tag b := fun b h1 h2 => tagOf_ne (nx b h1 h2)
  have h1 : ∀ b, L.tag b ≠ .non → L.tag b ≠ .cam → w1.heap[b]? = w.heap[b]? := fun b h1 h2 => hg.block b (h.low b h1).2 (fun e => h2 (h.tc b e.symm))
  have hs : ∀ b, L.tag b ≠ .non → L.tag b ≠ .cam → L.tag b ≠ .chk → (w1.setCell ⟨k, 4, none⟩ x).heap[b]? = w.heap[b]? := fun b c1 c2 c3 => (heap_setCell_other w1 _ b _ (fun e => c3 (by rw [show b = k from e]; exact h.tk))).trans (h1 b c1 c2)
  have hk := (h1 k (by rw [h.tk]; nofun) (by rw [h.tk]; nofun)).trans h.ck
  have q : ∀ {b : Nat} {r : Role}, L.tag b = r → r ≠ .non → r ≠ .cam → tagOf L.tag x.ownBlock .cam b = r := fun hb c1 c2 => (tg _ (by rw [hb]; exact c1) (by rw [hb]; exact c2)).trans hb
  refine ⟨heap_setCell_same w1 k 4 _ _ _ hk, (hs _ (by rw [h.tw]; nofun) (by rw [h.tw]; nofun) (by rw [h.tw]; nofun)).trans h.cw, h.su.same (hs _ (by rw [h.ts]; nofun) (by rw [h.ts]; nofun) (by rw [h.ts]; nofun)), h.de.same (hs _ (by rw [h.td]; nofun) (by rw [h.td]; nofun) (by rw [h.td]; nofun)),
    row_setCell hr _ (nx k (by rw [h.tk]; nofun) (by rw [h.tk]; nofun)), fun p hp hg => same_row (h.ws p hp hg) (fun g e => hs g (by rw [h.tl p hp hg g e]; nofun) (by rw [h.tl p hp hg g e]; nofun) (by rw [h.tl p hp hg g e]; nofun)),
    fun c hc => (hs c (by rw [h.ti c hc]; nofun) (by rw [h.ti c hc]; nofun) (by rw [h.ti c hc]; nofun)).trans (h.cl c hc), fun c hc => same_row (h.cq c hc) (fun g e => hs g (by rw [h.tq c hc g e]; nofun) (by rw [h.tq c hc g e]; nofun) (by rw [h.tq c hc g e]; nofun)),
    q h.tk nofun nofun, q h.tw nofun nofun, q h.ts nofun nofun, q h.td nofun nofun, fun g e => ?_, fun p hp hg g e => q (h.tl p hp hg g e) nofun nofun, fun c hc => q (h.ti c hc) nofun nofun, fun c hc g e => q (h.tq c hc g e) nofun nofun, fun b hb => ?_⟩
  · have e : x.ownBlock = some g := e
    show tagOf L.tag x.ownBlock .cam g = _
    rw [e]; exact tagOf_at
  · by_cases e : x.ownBlock = some b
    · have := hr.lt b e
      exact ⟨this.1, by simpa [World.setCell] using this.2⟩
    · have hb : tagOf L.tag x.ownBlock .cam b ≠ .non := hb
      rw [tagOf_ne e] at hb
      exact ⟨(h.low b hb).1, Nat.lt_of_lt_of_le (h.low b hb).2 hz⟩
theorem rowW_set {wv : Nat → Value} {p : Nat} {x : Value} : (rowW v wv).setIfInBounds p x = rowW v (up wv p x) := by
  unfold rowW
  rw [List.setIfInBounds_toArray]
  congr 1
  apply List.ext_getElem?
  intro j
  rw [List.getElem?_set]
  by_cases e : p = j
  · subst e
    rw [if_pos rfl]
    by_cases h : p < 2 * v + 1
    · simp [h, up_at]
    · simp [h]
  · rw [if_neg e]
    by_cases h : j < 2 * v + 1
    · simp [h, up_ne (fun c => e c.symm : j ≠ p)]
    · simp [h]
/-- 'watching[p] = x', behind what made x. -/
theorem KAt.setW (h : KAt B v w k L s D gap) {w1 : World} {x : Value} {p : Nat} {l : List Nat} (hp : p < 2 * v + 1) (hgap : gap ≠ some p) (hr : w1.ownsRow B 74 1 x l.length (rowC l)) (hg : w.grownBy w1 (L.wv p).ownBlock) (loc : x.ownBlock = (L.wv p).ownBlock ∨ ∃ g, w.heap.size ≤ g ∧ x.ownBlock = some g) :
    KAt B v (w1.setCell ⟨L.wb, p, none⟩ x) k { L with wv := up L.wv p x, tag := tagOf L.tag x.ownBlock (.lst p) } { s with W := up s.W p l } D gap := by
  have hz : w.heap.size ≤ (w1.setCell ⟨L.wb, p, none⟩ x).heap.size := by have := hg.size; simpa [World.setCell] using this
  have nx : ∀ b, L.tag b ≠ .non → L.tag b ≠ .lst p → x.ownBlock ≠ some b := fun b h1 h2 e => by
    rcases loc with c | ⟨g, c1, c2⟩
    · exact h2 (h.tl p hp hgap b (c ▸ e))
    · rw [c2] at e
      injection e with e
      have := (h.low b h1).2
      omega
  have tg : ∀ b, L.tag b ≠ .non → L.tag b ≠ .lst p → tagOf L.tag x.ownBlock (.lst p) b = L.tag b := fun b h1 h2 => tagOf_ne (nx b h1 h2)
  have h1 : ∀ b, L.tag b ≠ .non → L.tag b ≠ .lst p → w1.heap[b]? = w.heap[b]? := fun b h1 h2 => hg.block b (h.low b h1).2 (fun e => h2 (h.tl p hp hgap b e.symm))
  have hs : ∀ b, L.tag b ≠ .non → L.tag b ≠ .lst p → L.tag b ≠ .wat → (w1.setCell ⟨L.wb, p, none⟩ x).heap[b]? = w.heap[b]? := fun b c1 c2 c3 => (heap_setCell_other w1 _ b _ (fun e => c3 (by rw [show b = L.wb from e]; exact h.tw))).trans (h1 b c1 c2)
  have hk := (h1 L.wb (by rw [h.tw]; nofun) (by rw [h.tw]; nofun)).trans h.cw
  have q : ∀ {b : Nat} {r : Role}, L.tag b = r → r ≠ .non → r ≠ .lst p → tagOf L.tag x.ownBlock (.lst p) b = r := fun hb c1 c2 => (tg _ (by rw [hb]; exact c1) (by rw [hb]; exact c2)).trans hb
  refine ⟨(hs k (by rw [h.tk]; nofun) (by rw [h.tk]; nofun) (by rw [h.tk]; nofun)).trans h.ck, by rw [← rowW_set]; exact heap_setCell_same w1 L.wb p _ _ _ hk, h.su.same (hs _ (by rw [h.ts]; nofun) (by rw [h.ts]; nofun) (by rw [h.ts]; nofun)), h.de.same (hs _ (by rw [h.td]; nofun) (by rw [h.td]; nofun) (by rw [h.td]; nofun)),
    same_row h.ca (fun g e => hs g (by rw [h.tc g e]; nofun) (by rw [h.tc g e]; nofun) (by rw [h.tc g e]; nofun)), fun p' hp' hg' => ?_,
    fun c hc => (hs c (by rw [h.ti c hc]; nofun) (by rw [h.ti c hc]; nofun) (by rw [h.ti c hc]; nofun)).trans (h.cl c hc), fun c hc => same_row (h.cq c hc) (fun g e => hs g (by rw [h.tq c hc g e]; nofun) (by rw [h.tq c hc g e]; nofun) (by rw [h.tq c hc g e]; nofun)),
    q h.tk nofun nofun, q h.tw nofun nofun, q h.ts nofun nofun, q h.td nofun nofun, fun g e => q (h.tc g e) nofun nofun, fun p' hp' hg' g e => ?_, fun c hc => q (h.ti c hc) nofun nofun, fun c hc g e => q (h.tq c hc g e) nofun nofun, fun b hb => ?_⟩
  · show (w1.setCell ⟨L.wb, p, none⟩ x).ownsRow B _ 1 (up L.wv p x p') (up s.W p l p').length (rowC (up s.W p l p'))
    by_cases e : p' = p
    · subst e
      rw [up_at, up_at]
      exact row_setCell hr _ (nx L.wb (by rw [h.tw]; nofun) (by rw [h.tw]; nofun))
    · rw [up_ne e, up_ne e]
      exact same_row (h.ws p' hp' hg') (fun g e2 => hs g (by rw [h.tl p' hp' hg' g e2]; nofun) (by rw [h.tl p' hp' hg' g e2]; intro c; injection c with c; exact e c) (by rw [h.tl p' hp' hg' g e2]; nofun))
  · have e : (up L.wv p x p').ownBlock = some g := e
    show tagOf L.tag x.ownBlock (.lst p) g = _
    by_cases e2 : p' = p
    · subst e2
      rw [up_at] at e
      rw [e]; exact tagOf_at
    · rw [up_ne e2] at e
      exact q (h.tl p' hp' hg' g e) nofun (by intro c; injection c with c; exact e2 c)
  · by_cases e : x.ownBlock = some b
    · have := hr.lt b e
      exact ⟨this.1, by simpa [World.setCell] using this.2⟩
    · have hb : tagOf L.tag x.ownBlock (.lst p) b ≠ .non := hb
      rw [tagOf_ne e] at hb
      exact ⟨(h.low b hb).1, Nat.lt_of_lt_of_le (h.low b hb).2 hz⟩
/-- A bit more. -/
theorem BitsAt.put {b n q : Nat} {f : Nat → Bool} (h : BitsAt w b n f) (hq : q < 64 * n) : ∃ x : Nat, x < 18446744073709551616 ∧ w.cell? ⟨b, q / 64, none⟩ = some (.int .u64 ((x : Nat) : Int)) ∧ w.frozen? ⟨b, q / 64, none⟩ = false ∧ x.testBit (q % 64) = f q ∧
    BitsAt (w.setCell ⟨b, q / 64, none⟩ (.int .u64 ((x ||| 1 <<< (q % 64) : Nat) : Int))) b n fun j => f j || decide (j = q) := by
  obtain ⟨ws, h1, h2, h3, h4⟩ := h
  have hl : q / 64 < ws.length := by rw [h1]; omega
  have hg : ws[q / 64]? = some (ws.getD (q / 64) 0) := by simp [List.getD, List.getElem?_eq_getElem hl]
  obtain ⟨x, hx⟩ : ∃ x, x = ws.getD (q / 64) 0 := ⟨_, rfl⟩
  rw [← hx] at hg
  have hx64 : x < 18446744073709551616 := h3 x (List.mem_of_getElem? hg)
  have hm : q % 64 < 64 := Nat.mod_lt _ (by decide)
  have hsh : (1 <<< (q % 64) : Nat) < 2 ^ 64 := by rw [Nat.one_shiftLeft]; exact Nat.pow_lt_pow_right (by decide) hm
  have hor : x ||| 1 <<< (q % 64) < 18446744073709551616 := Nat.or_lt_two_pow (n := 64) hx64 hsh
  refine ⟨x, hx64, (cell_of_row w b _ _ _ _ h2).trans (by simp [hg, wordV]), frozen_of_row w b _ _ _ h2, by rw [hx]; exact h4 q hq, ws.set (q / 64) (x ||| 1 <<< (q % 64)), by simp [h1], ?_, fun y hy => ?_, fun j hj => ?_⟩
  · have := heap_setCell_same w b (q / 64) _ _ (.int .u64 ((x ||| 1 <<< (q % 64) : Nat) : Int)) h2
    rw [this, List.setIfInBounds_toArray, List.map_set]; rfl
  · rcases List.mem_or_eq_of_mem_set hy with hy | hy
    · exact h3 y hy
    · rw [hy]; exact hor
  · show Nat.testBit (List.getD _ _ _) _ = _
    by_cases e : j / 64 = q / 64
    · rw [e]
      have : (ws.set (q / 64) (x ||| 1 <<< (q % 64))).getD (q / 64) 0 = x ||| 1 <<< (q % 64) := by simp [List.getD, hl]
      rw [this, Nat.testBit_or, Nat.one_shiftLeft, Nat.testBit_two_pow]
      have h5 := h4 j hj
      rw [e, ← hx] at h5
      rw [h5]
      congr 1
      by_cases e2 : j = q
      · subst e2; simp
      · rw [decide_eq_false e2]
        simp
        omega
    · have e3 : ¬ q / 64 = j / 64 := fun c => e c.symm
      have : (ws.set (q / 64) (x ||| 1 <<< (q % 64))).getD (j / 64) 0 = ws.getD (j / 64) 0 := by
        simp only [List.getD, List.getElem?_set]
        rw [if_neg e3]
      have h5 := h4 j hj
      have e4 : j ≠ q := fun c => e (by rw [c])
      rw [this, h5]
      show f j = (f j || decide (j = q))
      rw [decide_eq_false e4, Bool.or_false]
theorem BitsAt.congr {b n : Nat} {f f' : Nat → Bool} (h : BitsAt w b n f) (he : ∀ q, q < 64 * n → f q = f' q) : BitsAt w b n f' := by
  obtain ⟨ws, h1, h2, h3, h4⟩ := h
  exact ⟨ws, h1, h2, h3, fun q hq => (h4 q hq).trans (he q hq)⟩
/-- Behind a store to what came. -/
theorem KAt.setD (h : KAt B v w k L s D gap) {i : Nat} {x : Value} {D' : Int → Bool} (hd : BitsAt (w.setCell ⟨L.db, i, none⟩ x) L.db (nw v) fun q => D' (lt v q)) : KAt B v (w.setCell ⟨L.db, i, none⟩ x) k L s D' gap := by
  have hz : w.heap.size ≤ (w.setCell ⟨L.db, i, none⟩ x).heap.size := by simp [World.setCell]
  have hs : ∀ g, L.tag g ≠ .dec → (w.setCell ⟨L.db, i, none⟩ x).heap[g]? = w.heap[g]? := fun g hg => heap_setCell_other w _ g _ (fun e => hg (by rw [show g = L.db from e]; exact h.td))
  exact ⟨(hs _ (by rw [h.tk]; nofun)).trans h.ck, (hs _ (by rw [h.tw]; nofun)).trans h.cw, h.su.same (hs _ (by rw [h.ts]; nofun)), hd,
    same_row h.ca (fun g e => hs g (by rw [h.tc g e]; nofun)), fun p hp hg => same_row (h.ws p hp hg) (fun g e => hs g (by rw [h.tl p hp hg g e]; nofun)),
    fun c hc => (hs c (by rw [h.ti c hc]; nofun)).trans (h.cl c hc), fun c hc => same_row (h.cq c hc) (fun g e => hs g (by rw [h.tq c hc g e]; nofun)),
    h.tk, h.tw, h.ts, h.td, h.tc, h.tl, h.ti, h.tq, fun b hb => ⟨(h.low b hb).1, Nat.lt_of_lt_of_le (h.low b hb).2 hz⟩⟩
/-- Behind a store to what is sure. -/
theorem KAt.setS (h : KAt B v w k L s D gap) {i : Nat} {x : Value} {S' : Int → Bool} (hd : BitsAt (w.setCell ⟨L.sb, i, none⟩ x) L.sb (nw v) fun q => S' (lt v q)) : KAt B v (w.setCell ⟨L.sb, i, none⟩ x) k L { s with S := S' } D gap := by
  have hz : w.heap.size ≤ (w.setCell ⟨L.sb, i, none⟩ x).heap.size := by simp [World.setCell]
  have hs : ∀ g, L.tag g ≠ .sur → (w.setCell ⟨L.sb, i, none⟩ x).heap[g]? = w.heap[g]? := fun g hg => heap_setCell_other w _ g _ (fun e => hg (by rw [show g = L.sb from e]; exact h.ts))
  exact ⟨(hs _ (by rw [h.tk]; nofun)).trans h.ck, (hs _ (by rw [h.tw]; nofun)).trans h.cw, hd, h.de.same (hs _ (by rw [h.td]; nofun)),
    same_row h.ca (fun g e => hs g (by rw [h.tc g e]; nofun)), fun p hp hg => same_row (h.ws p hp hg) (fun g e => hs g (by rw [h.tl p hp hg g e]; nofun)),
    fun c hc => (hs c (by rw [h.ti c hc]; nofun)).trans (h.cl c hc), fun c hc => same_row (h.cq c hc) (fun g e => hs g (by rw [h.tq c hc g e]; nofun)),
    h.tk, h.tw, h.ts, h.td, h.tc, h.tl, h.ti, h.tq, fun b hb => ⟨(h.low b hb).1, Nat.lt_of_lt_of_le (h.low b hb).2 hz⟩⟩
/-- 'at = a' of a clause. -/
theorem KAt.setAx (h : KAt B v w k L s D gap) {c : Nat} (hc : c ∈ s.ids) (a : Nat) : KAt B v (w.setCell ⟨c, 1, none⟩ (.int .i64 ((a : Nat) : Int))) k L { s with ax := up s.ax c a } D gap := by
  have hz : w.heap.size ≤ (w.setCell ⟨c, 1, none⟩ (.int .i64 ((a : Nat) : Int))).heap.size := by simp [World.setCell]
  have hs : ∀ g, g ≠ c → (w.setCell ⟨c, 1, none⟩ (.int .i64 ((a : Nat) : Int))).heap[g]? = w.heap[g]? := fun g hg => heap_setCell_other w _ g _ hg
  have hn : ∀ {g : Nat} {r : Role}, L.tag g = r → r ≠ .cls → g ≠ c := fun e h1 e2 => h1 (by rw [← e, e2]; exact h.ti c hc)
  refine ⟨(hs _ (hn h.tk nofun)).trans h.ck, (hs _ (hn h.tw nofun)).trans h.cw, h.su.same (hs _ (hn h.ts nofun)), h.de.same (hs _ (hn h.td nofun)),
    same_row h.ca (fun g e => hs g (hn (h.tc g e) nofun)), fun p hp hg => same_row (h.ws p hp hg) (fun g e => hs g (hn (h.tl p hp hg g e) nofun)),
    fun c' hc' => ?_, fun c hc => same_row (h.cq c hc) (fun g e => hs g (hn (h.tq c hc g e) nofun)),
    h.tk, h.tw, h.ts, h.td, h.tc, h.tl, h.ti, h.tq, fun b hb => ⟨(h.low b hb).1, Nat.lt_of_lt_of_le (h.low b hb).2 hz⟩⟩
  show _ = some (Obj.cells #[_, .int .i64 ((up s.ax c a c' : Nat) : Int)] _ _)
  by_cases e : c' = c
  · subst e
    rw [up_at]
    exact heap_setCell_same w c' 1 _ _ _ (h.cl c' hc')
  · rw [up_ne e]
    exact (hs c' e).trans (h.cl c' hc')
theorem rowI_up {T : List Int} {j : Nat} {x : Int} : (rowI T).set j (.int .i64 x) = rowI (T.set j x) := by simp [rowI, List.map_set]
/-- A clause's literal is another one. -/
theorem KAt.setLit (h : KAt B v w k L s D gap) {c g cap j : Nat} {x : Int} (hc : c ∈ s.ids) (hv : L.lv c = .slice (some ⟨g, 0, none⟩) (s.lit c).length cap) : KAt B v (w.setCell ⟨g, j, none⟩ (.int .i64 x)) k L { s with lit := up s.lit c ((s.lit c).set j x) } D gap := by
  have hz : w.heap.size ≤ (w.setCell ⟨g, j, none⟩ (.int .i64 x)).heap.size := by simp [World.setCell]
  have hs : ∀ b, b ≠ g → (w.setCell ⟨g, j, none⟩ (.int .i64 x)).heap[b]? = w.heap[b]? := fun b hg => heap_setCell_other w _ b _ hg
  have tg : L.tag g = .lit c := h.tq c hc g (by rw [hv]; rfl)
  have hn : ∀ {b : Nat} {r : Role}, L.tag b = r → r ≠ .lit c → b ≠ g := fun e h1 e2 => h1 (by rw [← e, e2]; exact tg)
  refine ⟨(hs _ (hn h.tk nofun)).trans h.ck, (hs _ (hn h.tw nofun)).trans h.cw, h.su.same (hs _ (hn h.ts nofun)), h.de.same (hs _ (hn h.td nofun)),
    same_row h.ca (fun g e => hs g (hn (h.tc g e) nofun)), fun p hp hg => same_row (h.ws p hp hg) (fun g e => hs g (hn (h.tl p hp hg g e) nofun)),
    fun c' hc' => (hs c' (hn (h.ti c' hc') nofun)).trans (h.cl c' hc'), fun c' hc' => ?_,
    h.tk, h.tw, h.ts, h.td, h.tc, h.tl, h.ti, h.tq, fun b hb => ⟨(h.low b hb).1, Nat.lt_of_lt_of_le (h.low b hb).2 hz⟩⟩
  show World.ownsRow _ B _ 1 (L.lv c') (up s.lit c ((s.lit c).set j x) c').length (rowI (up s.lit c ((s.lit c).set j x) c'))
  by_cases e : c' = c
  · subst e
    have := h.cq c' hc'
    rw [up_at, hv] at *
    rw [List.length_set, ← rowI_up]
    exact (this.stored j _).1
  · rw [up_ne e]
    exact same_row (h.cq c' hc') (fun b e2 => hs b (hn (h.tq c' hc' b e2) (by intro q; injection q with q; exact e q)))
end
end Rw
end Go.Proofs.Ytmgkgbhkaoflhaa
