/-
  What a call leaves alone; the document's memory behind it.
-/
import Derived.Test.YtjcdpdfchjhjhaaRmRefA
import Derived.Below
namespace Go.Proofs.Ytjcdpdfchjhjhaa
open Go.RowKit
namespace Rm
set_option maxHeartbeats 1600000
set_option maxRecDepth 100000

/-- Nothing else is touched. -/
structure Only (bs : List Nat) (w w' : World) : Prop where
  os : w'.os = w.os
  tape : w'.tape = w.tape
  output : w'.output = w.output
  size : w.heap.size ≤ w'.heap.size
  blk : ∀ k, k < w.heap.size → k ∉ bs → w'.heap[k]? = w.heap[k]?
theorem Only.refl (bs : List Nat) (w : World) : Only bs w w := ⟨rfl, rfl, rfl, Nat.le_refl _, fun _ _ _ => rfl⟩
theorem Only.drewN {bs : List Nat} {w w' : World} (h : Only bs w w') (q : Nat) : Only bs w (w'.drewN q) := ⟨h.os, h.tape, h.output, h.size, h.blk⟩
theorem Only.set {bs : List Nat} {w w' : World} (h : Only bs w w') {a : Addr} (ha : a.block ∈ bs) (v : Value) : Only bs w (w'.setCell a v) :=
  ⟨h.os, h.tape, h.output, by simpa [World.setCell] using h.size, fun k h1 h2 => (Below.heap_setCell w' a v k (fun e => h2 (e ▸ ha))).trans (h.blk k h1 h2)⟩
theorem Only.trans {bs : List Nat} {u v w : World} (h : Only bs u v) (k : Only bs v w) : Only bs u w :=
  ⟨k.os.trans h.os, k.tape.trans h.tape, k.output.trans h.output, Nat.le_trans h.size k.size, fun i h1 h2 => (k.blk i (Nat.lt_of_lt_of_le h1 h.size) h2).trans (h.blk i h1 h2)⟩
theorem RfAt.drewN {w : World} {p b z : Nat} {f : Nat → Nat} (h : RfAt w p b z f) (q : Nat) : RfAt (w.drewN q) p b z f :=
  ⟨by simpa using h.c0, fun j hj => by simpa using h.c j hj, fun j => by simpa using h.fb j, h.by_, h.le, by simpa using h.lt, h.sep⟩
theorem RfAt.set {w : World} {p b z : Nat} {f : Nat → Nat} (h : RfAt w p b z f) {i x : Nat} (hi : i < z) (hx : x < 256) : RfAt (w.setCell ⟨b, i, none⟩ (.int .u8 ((x : Nat) : Int))) p b z (fun j => if j = i then x else f j) := by
  refine ⟨(World.cell?_setCell_other _ _ _ _ (by simp; exact fun e => absurd e.symm h.sep)).trans h.c0, fun j hj => ?_, fun j => by rw [World.frozen?_setCell]; exact h.fb j, fun j => ?_, h.le, by simpa [World.setCell] using h.lt, h.sep⟩
  · by_cases e : j = i
    · subst e
      rw [if_pos rfl]
      exact World.cell?_setCell_same' _ _ _ (by rw [h.c j hj]; rfl)
    · rw [if_neg e]
      exact (World.cell?_setCell_other _ _ _ _ (by simp; exact fun q => e q.symm)).trans (h.c j hj)
  · split
    · exact hx
    · exact h.by_ j
/-- What a Store leaves. -/
def stP (z : Nat) (f : Nat → Nat) (a : Nat) (n : Int) (v : Nat) : Nat → Nat := if erP z a n = 0 then st f (a - 4096) n.toNat v else f
theorem cell_blk {w w' : World} {b : Nat} (h : w'.heap[b]? = w.heap[b]?) (o : Nat) : w'.cell? ⟨b, o, none⟩ = w.cell? ⟨b, o, none⟩ := by
  unfold World.cell?
  rw [h]
theorem frozen_blk {w w' : World} {b : Nat} (h : w'.heap[b]? = w.heap[b]?) (o : Nat) : w'.frozen? ⟨b, o, none⟩ = w.frozen? ⟨b, o, none⟩ := by
  unfold World.frozen?
  rw [h]
theorem Only.below {bs : List Nat} {B : Nat} {w w' : World} (h : Only bs w w') (hb : ∀ b ∈ bs, B ≤ b) (hB : B ≤ w.heap.size) : Below B w w' :=
  ⟨h.os, h.tape, h.output, h.size, fun k hk => h.blk k (by omega) (fun hm => by have := hb k hm; omega)⟩
theorem Only.alloc {bs : List Nat} {w w' : World} (h : Only bs w w') (o : Obj) : Only bs w (w'.alloc o) :=
  ⟨h.os, h.tape, h.output, by simp; have := h.size; omega, fun k h1 h2 => (((Below.refl w'.heap.size w').alloc (Nat.le_refl _) o).block k (Nat.lt_of_lt_of_le h1 h.size)).trans (h.blk k h1 h2)⟩
theorem Only.box {bs : List Nat} {w w' : World} {c : Nat} (h : Only bs w w') (hc : c < w.heap.size) (hn : c ∉ bs) (o : Nat) : w'.cell? ⟨c, o, none⟩ = w.cell? ⟨c, o, none⟩ := cell_blk (h.blk c hc hn) o
theorem Only.any {bs : List Nat} {w w' : World} (h : Only [] w w') : Only bs w w' := ⟨h.os, h.tape, h.output, h.size, fun k a _ => h.blk k a (by simp)⟩
theorem Only.of_below {w w' : World} (h : Below w.heap.size w w') : Only [] w w' := ⟨h.os, h.tape, h.output, h.size, fun k hk _ => h.block k hk⟩
theorem RfAt.only {w w' : World} {p b z : Nat} {f : Nat → Nat} {bs : List Nat} (h : RfAt w p b z f) (o : Only bs w w') (h1 : p ∉ bs) (h2 : b ∉ bs) : RfAt w' p b z f := by
  have k1 := o.blk p h.lt.1 h1
  have k2 := o.blk b h.lt.2 h2
  exact ⟨(cell_blk k1 _).trans h.c0, fun j hj => (cell_blk k2 _).trans (h.c j hj), fun j => (frozen_blk k2 _).trans (h.fb j), h.by_, h.le, ⟨Nat.lt_of_lt_of_le h.lt.1 o.size, Nat.lt_of_lt_of_le h.lt.2 o.size⟩, h.sep⟩
/-- A list of bytes, handed in. -/
def BytesAt (W : World) (al : Option Addr) (X : List Nat) : Prop := X = [] ∨ ∃ bl ol, al = some ⟨bl, ol, none⟩ ∧ bl < W.heap.size ∧ ∀ i x, X[i]? = some x → x < 256 ∧ W.cell? ⟨bl, ol + i, none⟩ = some (.int .u8 ((x : Nat) : Int))
theorem BytesAt.call {W w : World} {al : Option Addr} {X : List Nat} (h : BytesAt W al X) (hb : Below W.heap.size W w) : BytesAt w al X := by
  rcases h with h | ⟨b, o, e, hl, hc⟩
  · exact .inl h
  · exact .inr ⟨b, o, e, Nat.lt_of_lt_of_le hl hb.size, fun i x hx => ⟨(hc i x hx).1, (hb.cell (p := ⟨b, _, none⟩) hl).trans (hc i x hx).2⟩⟩
end Rm
end Go.Proofs.Ytjcdpdfchjhjhaa
