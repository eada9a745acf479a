/-
What a store is in memory; what stays while a call writes it; what New, Node, Width return.
A node in a block of its own: kept over calls and new blocks.
A node with those fields alone that its operator has: what own of layer term returns, as a fact on one call.
-/
import Derived.Test.YtkiegiofholofaaPt03
import Derived.Deep.RegionWith
import Derived.Laws.IdiomCopy
namespace Go.Proofs.Ytkiegiofholofaa
open Go.RowKit Go.Maps Bv
namespace Tm
set_option maxHeartbeats 400000
set_option maxRecDepth 100000

/-- Nothing has turned but blocks of F and new ones. -/
structure Kept (F : Nat → Prop) (w w' : World) : Prop where
  os : w'.os = w.os
  tape : w'.tape = w.tape
  output : w'.output = w.output
  size : w.heap.size ≤ w'.heap.size
  block : ∀ k, k < w.heap.size → ¬ F k → w'.heap[k]? = w.heap[k]?

section
variable {F G : Nat → Prop} {a b c : World}
theorem Kept.refl (F : Nat → Prop) (w : World) : Kept F w w := ⟨rfl, rfl, rfl, Nat.le_refl _, fun _ _ _ => rfl⟩
theorem Kept.thenNew (h : Kept F a b) (k : Kept G b c) (hG : ∀ i, i < a.heap.size → G i → F i) : Kept F a c :=
  ⟨k.os.trans h.os, k.tape.trans h.tape, k.output.trans h.output, Nat.le_trans h.size k.size, fun i hi hn => (k.block i (Nat.lt_of_lt_of_le hi h.size) (fun g => hn (hG i hi g))).trans (h.block i hi hn)⟩
theorem Kept.trans (h : Kept F a b) (k : Kept F b c) : Kept F a c := h.thenNew k (fun _ _ x => x)
theorem Kept.mono (h : Kept F a b) (hG : ∀ i, i < a.heap.size → F i → G i) : Kept G a b := ⟨h.os, h.tape, h.output, h.size, fun i hi hn => h.block i hi (fun f => hn (hG i hi f))⟩
theorem Kept.ofBelow (h : Below a.heap.size a b) (F : Nat → Prop) : Kept F a b := ⟨h.os, h.tape, h.output, h.size, fun i hi _ => h.block i hi⟩
theorem Kept.below {B : Nat} (h : Kept F a b) (hF : ∀ i, i < B → ¬ F i) (hB : B ≤ a.heap.size) : Below B a b := ⟨h.os, h.tape, h.output, h.size, fun i hi => h.block i (by omega) (hF i hi)⟩
theorem Kept.alloc (h : Kept F a b) (o : Obj) : Kept F a (b.alloc o) :=
  h.thenNew (Kept.ofBelow ((Below.refl _ _).alloc (Nat.le_refl _) o) (fun _ => False)) (fun _ _ x => x.elim)
theorem Kept.drew (h : Kept F a b) : Kept F a b.drew := ⟨h.os, h.tape, h.output, h.size, h.block⟩
theorem Kept.call (h : Kept F a b) (k : Below b.heap.size b c) : Kept F a c := h.thenNew (Kept.ofBelow k (fun _ => False)) (fun _ _ x => x.elim)
theorem Kept.grown {row : Option Nat} (h : Kept F a b) (k : b.grownBy c row) (hr : ∀ i, row = some i → i < a.heap.size → F i) : Kept F a c :=
  h.thenNew (G := fun i => row = some i) ⟨k.os, k.tape, k.output, k.size, fun i hi hn => k.block i hi (fun e => hn e.symm)⟩ (fun i hi e => hr i e hi)
theorem Kept.setCell (h : Kept F a b) (x : Addr) (u : Value) (hF : x.block < a.heap.size → F x.block) : Kept F a (b.setCell x u) :=
  h.thenNew (G := fun i => i = x.block) ⟨rfl, rfl, rfl, by simp [World.setCell], fun i _ hn => Below.heap_setCell _ _ _ _ hn⟩ (fun i hi e => by rw [e] at hi ⊢; exact hF hi)
theorem Kept.cell (h : Kept F a b) {x : Addr} (hx : x.block < a.heap.size) (hF : ¬ F x.block) : b.cell? x = a.cell? x := World.cell?_of_block (w := a) (h.block _ hx hF)
theorem Kept.frozen (h : Kept F a b) {x : Addr} (hx : x.block < a.heap.size) (hF : ¬ F x.block) : b.frozen? x = a.frozen? x := World.frozen?_of_block (w := a) (h.block _ hx hF)
end

def rowOf (L : List Nd) : List Value := L.flatMap (fun x => x.cells.toList)
theorem rowOf_length (L : List Nd) : (rowOf L).length = L.length * 7 := by
  induction L with
  | nil => rfl
  | cons x r ih => simp only [rowOf, List.flatMap_cons, List.length_append, List.length_cons] at ih ⊢; rw [ih]; simp [Nd.cells]; omega
theorem rowOf_append (L : List Nd) (x : Nd) : rowOf (L ++ [x]) = rowOf L ++ x.cells.toList := by simp [rowOf]
theorem rowOf_at {L : List Nd} : ∀ {k : Nat} {x : Nd}, L[k]? = some x → ∀ j, j < 7 → (rowOf L)[k * 7 + j]? = x.cells.toList[j]? := by
  induction L with
  | nil => intro k x h; simp at h
  | cons y r ih =>
    intro k x h j hj
    have hy : y.cells.toList.length = 7 := by simp [Nd.cells]
    simp only [rowOf, List.flatMap_cons]
    cases k with
    | zero =>
      simp at h
      subst h
      rw [List.getElem?_append_left (by omega)]
      simp
    | succ k =>
      simp at h
      rw [List.getElem?_append_right (by omega), hy, show (k + 1) * 7 + j - 7 = k * 7 + j by omega]
      exact ih h j hj

/-- The block p of w is a store that has the nodes L; its map is block m, its list the value sv; all of it lies from block B on. -/
structure StoreAt (B : Nat) (w : World) (p m : Nat) (sv : Value) (L : List Nd) : Prop where
  bp : B ≤ p
  bm : B ≤ m
  lt : p < w.heap.size
  lm : m < w.heap.size
  pm : p ≠ m
  c0 : w.cell? ⟨p, 0, none⟩ = some sv
  c1 : w.cell? ⟨p, 1, none⟩ = some (.map (some m))
  cw : ∀ v, v < 256 → w.cell? ⟨p, 2 + v, none⟩ = some (.int .u8 ((wdOf L v : Nat) : Int))
  fr : ∀ o, w.frozen? ⟨p, o, none⟩ = false
  row : w.ownsRow B 57 7 sv L.length (rowOf L)
  gp : sv.ownBlock ≠ some p
  gm : sv.ownBlock ≠ some m
  tab : ∃ D : DataW Unit, w.ownsMap Try.prog 57 (plainElem Try.prog 3) m L.length D ∧ Table L D
  good : Gd L

/-- The blocks that a store is made of. -/
def foot (p m : Nat) (sv : Value) (k : Nat) : Prop := k = p ∨ k = m ∨ sv.ownBlock = some k

theorem StoreAt.kept {B : Nat} {w w' : World} {p m : Nat} {sv : Value} {L : List Nd} {F : Nat → Prop} (h : StoreAt B w p m sv L) (k : Kept F w w') (hF : ∀ i, foot p m sv i → ¬ F i) : StoreAt B w' p m sv L := by
  have fp := hF p (.inl rfl)
  have fm := hF m (.inr (.inl rfl))
  refine ⟨h.bp, h.bm, Nat.lt_of_lt_of_le h.lt k.size, Nat.lt_of_lt_of_le h.lm k.size, h.pm, (k.cell h.lt fp).trans h.c0, (k.cell h.lt fp).trans h.c1, fun v hv => (k.cell h.lt fp).trans (h.cw v hv),
    fun o => (k.frozen h.lt fp).trans (h.fr o), ?_, h.gp, h.gm, ?_, h.good⟩
  · rcases h.row with ⟨hl, h1 | ⟨g, cap, cur, hv, hb, hh, r⟩⟩
    · exact ⟨hl, .inl h1⟩
    · have hg : g < w.heap.size := (Array.getElem?_eq_some_iff.1 hh).1
      exact ⟨hl, .inr ⟨g, cap, cur, hv, hb, (k.block g hg (hF g (.inr (.inr (by rw [hv]; rfl))))).trans hh, r⟩⟩
  · obtain ⟨D, ⟨es, clock, hb, r⟩, ht⟩ := h.tab
    exact ⟨D, ⟨es, clock, (k.block m h.lm fm).trans hb, r⟩, ht⟩

theorem StoreAt.alloc {B : Nat} {w : World} {p m : Nat} {sv : Value} {L : List Nd} (h : StoreAt B w p m sv L) (o : Obj) : StoreAt B (w.alloc o) p m sv L :=
  h.kept ((Kept.refl (fun _ => False) w).alloc o) (fun _ _ x => x)
theorem StoreAt.call {B : Nat} {w w' : World} {p m : Nat} {sv : Value} {L : List Nd} (h : StoreAt B w p m sv L) (k : Below w.heap.size w w') : StoreAt B w' p m sv L :=
  h.kept (Kept.ofBelow k (fun _ => False)) (fun _ _ x => x)
theorem StoreAt.drew {B : Nat} {w : World} {p m : Nat} {sv : Value} {L : List Nd} (h : StoreAt B w p m sv L) : StoreAt B w.drew p m sv L :=
  h.kept ((Kept.refl (fun _ => False) w).drew) (fun _ _ x => x)

theorem StoreAt.shape {B : Nat} {w : World} {p m : Nat} {sv : Value} {L : List Nd} (h : StoreAt B w p m sv L) : ∃ a c, sv = .slice a L.length c := by
  rcases h.row with ⟨_, ⟨h1, h2⟩ | ⟨g, cap, cur, hv, _⟩⟩
  · exact ⟨none, 0, by rw [h1, h2]⟩
  · exact ⟨_, _, hv⟩
theorem StoreAt.shapeAt {B : Nat} {w : World} {p m : Nat} {sv : Value} {L : List Nd} (h : StoreAt B w p m sv L) {k : Nat} {x : Nd} (hx : L[k]? = some x) :
    ∃ g c, sv = .slice (some ⟨g, 0, none⟩) L.length c ∧ ∀ j u, x.cells.toList[j]? = some u → w.cell? ⟨g, k * 7 + j, none⟩ = some u := by
  have hlt := (List.getElem?_eq_some_iff.1 hx).1
  have hr := h.row
  rcases h.row with ⟨_, ⟨h1, h2⟩ | ⟨g, cap, cur, hv, _⟩⟩
  · omega
  · refine ⟨g, cap, hv, fun j u hj => ?_⟩
    have hj7 : j < 7 := by have := (List.getElem?_eq_some_iff.1 hj).1; simpa [Nd.cells] using this
    have := hr.cells (g := g) (by rw [hv]; rfl) (k * 7 + j) u (by rw [rowOf_at hx j hj7]; exact hj)
    have e : (⟨g, 0, none⟩ : Addr).add (k * 7 + j) = ⟨g, k * 7 + j, none⟩ := by
      unfold Addr.add
      split <;> simp_all
    rw [e] at this
    exact this

/-! ### New -/
theorem zero_is : Try.zeroCells49 = #[.slice none 0 0, .map none] ++ Array.replicate 256 (.int .u8 0) := by kernel_rfl

theorem new_any (W : World) :
    Calls Try.prog 12 #[] W fun e W' => e = .returned (.pointer (some ⟨W.heap.size + 1, 0, none⟩)) ∧
      W' = (W.alloc (.map #[] 0)).alloc (.cells (Try.zeroCells49.setIfInBounds 1 (.map (some W.heap.size))) 49) := by
  have hmm := @run_makeMap Try.prog
  go_enter Try.func12, Try.ntmps12
  go_wp2
  go_ret
  exact ⟨rfl, rfl⟩

theorem new_store (W : World) :
    StoreAt W.heap.size ((W.alloc (.map #[] 0)).alloc (.cells (Try.zeroCells49.setIfInBounds 1 (.map (some W.heap.size))) 49)) (W.heap.size + 1) W.heap.size (.slice none 0 0) [] := by
  have hs : (W.alloc (.map #[] 0)).heap.size = W.heap.size + 1 := by simp
  have hh : ((W.alloc (.map #[] 0)).alloc (.cells (Try.zeroCells49.setIfInBounds 1 (.map (some W.heap.size))) 49)).heap[W.heap.size + 1]? = some (.cells (Try.zeroCells49.setIfInBounds 1 (.map (some W.heap.size))) 49 (0, 0)) := by
    have := (MapKept.heap_alloc (W.alloc (.map #[] 0)) (.cells (Try.zeroCells49.setIfInBounds 1 (.map (some W.heap.size))) 49)).1
    rw [hs] at this
    exact this
  have hz : ∀ j, (Try.zeroCells49.setIfInBounds 1 (.map (some W.heap.size)))[j]? = if j = 1 then some (.map (some W.heap.size)) else if j = 0 then some (.slice none 0 0) else if j < 258 then some (.int .u8 0) else none := by
    intro j
    rw [zero_is, Array.getElem?_setIfInBounds]
    by_cases h1 : 1 = j
    · subst h1; simp
    · rw [if_neg h1, if_neg (by omega), Array.getElem?_append]
      by_cases h0 : j = 0
      · subst h0; simp
      · rw [if_neg (by simp; omega), if_neg h0, Array.getElem?_replicate]
        simp only [List.size_toArray, List.length_cons, List.length_nil]
        by_cases hj : j < 258
        · rw [if_pos (by omega), if_pos hj]
        · rw [if_neg (by omega), if_neg hj]
  generalize hC : (Try.zeroCells49.setIfInBounds 1 (.map (some W.heap.size))) = C at hh hz ⊢
  have hm : ((W.alloc (.map #[] 0)).alloc (.cells C 49)).ownsMap Try.prog 57 (plainElem (H := Unit) Try.prog 3) W.heap.size 0 (.map []) := (World.ownsMap_made W _ _ _).alloc _
  have hsz : ((W.alloc (.map #[] 0)).alloc (.cells C 49)).heap.size = W.heap.size + 1 + 1 := by simp
  generalize ((W.alloc (.map #[] 0)).alloc (.cells C 49)) = W2 at hh hm hsz ⊢
  have hc : ∀ j, W2.cell? ⟨W.heap.size + 1, j, none⟩ = C[j]? := by
    intro j
    unfold World.cell?
    rw [hh]
    rfl
  refine ⟨by omega, Nat.le_refl _, by omega, by omega, by omega, ?_, ?_, ?_, ?_, ?_, by simp [Value.ownBlock], by simp [Value.ownBlock], ⟨.map [], hm, table_nil⟩, gd_nil⟩
  · rw [hc, hz]; rfl
  · rw [hc, hz]; rfl
  · intro v hv
    rw [hc, hz, if_neg (by omega), if_neg (by omega), if_pos (by omega)]
    rfl
  · intro o
    unfold World.frozen?
    rw [hh]
    simp
  · exact World.ownsRow_nil _ _ _ _

theorem new_kept (W : World) (o1 o2 : Obj) : Below W.heap.size W ((W.alloc o1).alloc o2) := ((Below.refl _ _).alloc (Nat.le_refl _) _).alloc (by simp) _

theorem row_kept {w w' : World} {base size : Nat} {e : TypeId} {v : Value} {n : Nat} {xs : List Value} {F : Nat → Prop} (h : w.ownsRow base e size v n xs) (k : Kept F w w') (hF : ∀ g, v.ownBlock = some g → ¬ F g) : w'.ownsRow base e size v n xs := by
  rcases h with ⟨hl, h1 | ⟨g, cap, cur, hv, hb, hh, r⟩⟩
  · exact ⟨hl, .inl h1⟩
  · exact ⟨hl, .inr ⟨g, cap, cur, hv, hb, (k.block g (Array.getElem?_eq_some_iff.1 hh).1 (hF g (by rw [hv]; rfl))).trans hh, r⟩⟩

theorem size_alloc (w : World) (o : Obj) : (w.alloc o).heap.size = w.heap.size + 1 := by simp

theorem cells_far {w : World} {i : Nat} {x : Nd} {b ol : Nat} (hf : ∀ j u, x.cells.toList[j]? = some u → w.cell? ⟨b, ol + i * 7 + j, none⟩ = some u) :
    w.cell? ⟨b, ol + i * 7, none⟩ = some (.int .u8 ((x.o : Nat) : Int)) ∧ w.cell? ⟨b, ol + i * 7 + 1, none⟩ = some (.int .u8 ((x.w : Nat) : Int)) ∧ w.cell? ⟨b, ol + i * 7 + 2, none⟩ = some (.int .i64 x.k0) ∧ w.cell? ⟨b, ol + i * 7 + 3, none⟩ = some (.int .i64 x.k1) ∧ w.cell? ⟨b, ol + i * 7 + 4, none⟩ = some (.int .i64 x.k2) ∧ w.cell? ⟨b, ol + i * 7 + 5, none⟩ = some (.int .u64 ((x.n : Nat) : Int)) ∧ w.cell? ⟨b, ol + i * 7 + 6, none⟩ = some (.int .u8 ((x.l : Nat) : Int)) :=
  ⟨hf 0 _ rfl, hf 1 _ rfl, hf 2 _ rfl, hf 3 _ rfl, hf 4 _ rfl, hf 5 _ rfl, hf 6 _ rfl⟩

theorem cells_near {w : World} {i : Nat} {x : Nd} {b : Nat} (hf : ∀ j u, x.cells.toList[j]? = some u → w.cell? ⟨b, i * 7 + j, none⟩ = some u) :
    w.cell? ⟨b, i * 7, none⟩ = some (.int .u8 ((x.o : Nat) : Int)) ∧ w.cell? ⟨b, i * 7 + 1, none⟩ = some (.int .u8 ((x.w : Nat) : Int)) ∧ w.cell? ⟨b, i * 7 + 2, none⟩ = some (.int .i64 x.k0) ∧ w.cell? ⟨b, i * 7 + 3, none⟩ = some (.int .i64 x.k1) ∧ w.cell? ⟨b, i * 7 + 4, none⟩ = some (.int .i64 x.k2) ∧ w.cell? ⟨b, i * 7 + 5, none⟩ = some (.int .u64 ((x.n : Nat) : Int)) ∧ w.cell? ⟨b, i * 7 + 6, none⟩ = some (.int .u8 ((x.l : Nat) : Int)) :=
  ⟨hf 0 _ rfl, hf 1 _ rfl, hf 2 _ rfl, hf 3 _ rfl, hf 4 _ rfl, hf 5 _ rfl, hf 6 _ rfl⟩

theorem row_nd_at {w : World} {base : Nat} {v : Value} {N : List Nd} {i : Nat} {x : Nd} (h : w.ownsRow base 57 7 v N.length (rowOf N)) (hx : N[i]? = some x) :
    ∃ g c, v = .slice (some ⟨g, 0, none⟩) N.length c ∧ ∀ (i : Nat) (x : Nd), N[i]? = some x → ∀ j u, x.cells.toList[j]? = some u → w.cell? ⟨g, i * 7 + j, none⟩ = some u := by
  have hlt := (List.getElem?_eq_some_iff.1 hx).1
  have hr := h
  rcases h with ⟨_, ⟨h1, h2⟩ | ⟨g, cap, cur, hv, _⟩⟩
  · omega
  · refine ⟨g, cap, hv, fun i x hx j u hj => ?_⟩
    have hj7 : j < 7 := by have := (List.getElem?_eq_some_iff.1 hj).1; simpa [Nd.cells] using this
    have := hr.cells (g := g) (by rw [hv]; rfl) (i * 7 + j) u (by rw [rowOf_at hx j hj7]; exact hj)
    have e : (⟨g, 0, none⟩ : Addr).add (i * 7 + j) = ⟨g, i * 7 + j, none⟩ := by
      unfold Addr.add
      split <;> simp_all
    rw [e] at this
    exact this

end Tm
end Go.Proofs.Ytkiegiofholofaa

namespace Go.Proofs.Ytkiegiofholofaa
open Go.RowKit Bv
namespace Tm
/-- Block b holds these seven cells from place o on. -/
def At7 (w : World) (b : Nat) (x0 x1 x2 x3 x4 x5 x6 : Value) : Prop :=
  w.cell? ⟨b, 0, none⟩ = some x0 ∧ w.cell? ⟨b, 1, none⟩ = some x1 ∧ w.cell? ⟨b, 2, none⟩ = some x2 ∧ w.cell? ⟨b, 3, none⟩ = some x3 ∧ w.cell? ⟨b, 4, none⟩ = some x4 ∧ w.cell? ⟨b, 5, none⟩ = some x5 ∧ w.cell? ⟨b, 6, none⟩ = some x6
section
variable {w w' : World} {b : Nat} {x0 x1 x2 x3 x4 x5 x6 : Value}
theorem At7.lt (h : At7 w b x0 x1 x2 x3 x4 x5 x6) : b < w.heap.size := World.block_lt_of_cell? w _ h.1
theorem At7.move (h : At7 w b x0 x1 x2 x3 x4 x5 x6) (hb : ∀ o, w'.cell? ⟨b, o, none⟩ = w.cell? ⟨b, o, none⟩) : At7 w' b x0 x1 x2 x3 x4 x5 x6 := by
  unfold At7 at h ⊢
  simp only [hb]
  exact h
theorem At7.kept {F : Nat → Prop} (h : At7 w b x0 x1 x2 x3 x4 x5 x6) (k : Kept F w w') (hF : ¬ F b) : At7 w' b x0 x1 x2 x3 x4 x5 x6 := h.move fun o => k.cell (x := ⟨b, o, none⟩) h.lt hF
theorem At7.keep (h : At7 w b x0 x1 x2 x3 x4 x5 x6) (hb : Below w.heap.size w w') : At7 w' b x0 x1 x2 x3 x4 x5 x6 := h.move fun o => hb.cell (p := ⟨b, o, none⟩) h.lt
theorem At7.alloc (h : At7 w b x0 x1 x2 x3 x4 x5 x6) (o : Obj) : At7 (w.alloc o) b x0 x1 x2 x3 x4 x5 x6 := h.move fun _ => World.cell?_alloc_lt w o _ h.lt
theorem At7.drew (h : At7 w b x0 x1 x2 x3 x4 x5 x6) : At7 w.drew b x0 x1 x2 x3 x4 x5 x6 := h
theorem At7.new (w : World) (x0 x1 x2 x3 x4 x5 x6 : Value) (t : TypeId) : At7 (w.alloc (.cells #[x0, x1, x2, x3, x4, x5, x6] t)) w.heap.size x0 x1 x2 x3 x4 x5 x6 := by
  refine ⟨?_, ?_, ?_, ?_, ?_, ?_, ?_⟩ <;> simp [go_sem]
end
end Tm
end Go.Proofs.Ytkiegiofholofaa

namespace Go.Proofs.Ytkiegiofholofaa
open Go.RowKit Bv
namespace Tm
set_option maxHeartbeats 1000000
set_option maxRecDepth 100000

theorem elem_int : (Try.prog.info? 3).map (·.size) = some 1 := by kernel_rfl
theorem copy_0 (w : World) (b a : Addr) : (Builtin.copy_ #[61, 61] 3 #[.slice (some b) 3 3, .slice (some a) 0 3]).run Try.prog w = .ok (.int .i64 0) w :=
  run_copy_none w _ _ _ 3 _ _ 3 3 0 3 Try.underlying61 elem_int rfl

theorem three0 (W : World) (A B C : Obj) : (((W.alloc A).alloc B).alloc C).drew.heap[W.heap.size]? = some A := by
  show (((W.alloc A).alloc B).alloc C).heap[W.heap.size]? = some A
  rw [Below.heap_alloc _ _ _ (by simp; omega), Below.heap_alloc _ _ _ (by simp)]
  exact (MapKept.heap_alloc W A).1
theorem three2 (W : World) (A B C : Obj) : (((W.alloc A).alloc B).alloc C).drew.heap[W.heap.size + 1 + 1]? = some C := by
  have h := (MapKept.heap_alloc ((W.alloc A).alloc B) C).1
  have e : ((W.alloc A).alloc B).heap.size = W.heap.size + 1 + 1 := by simp
  rw [e] at h
  exact h

theorem copyg_1 (x0 x1 x5 x6 y0 y1 y2 y3 y4 y5 y6 : Value) (k0 k1 k2 : Int) (w : World) (a b : Nat) (ha : w.heap[a]? = some (.cells #[x0, x1, .int .i64 k0, .int .i64 k1, .int .i64 k2, x5, x6] 57)) (hb : w.heap[b]? = some (.cells #[y0, y1, y2, y3, y4, y5, y6] 57)) :
    (Builtin.copy_ #[61, 61] 3 #[.slice (some ⟨b, 2, none⟩) 3 3, .slice (some ⟨a, 2, none⟩) 1 3]).run Try.prog w = .ok (.int .i64 1) (w.setCell ⟨b, 2, none⟩ (.int .i64 k0)) := by
  have h := run_copy_cells (P := Try.prog) w 61 61 3 3 b 2 3 3 ⟨a, 2, none⟩ 1 3 [.int .i64 k0] Try.underlying61 elem_int rfl
    (by intro j v hj; match j, hj with | 0, hj => simp at hj; subst hj; simp [Addr.add, World.cell?, ha])
    (by intro j hj; match j, hj with | 0, _ => simp [World.cell?, hb])
    (by intro j hj; match j, hj with | 0, _ => simp [World.frozen?, hb])
    (by intro v hv; simp at hv; subst hv; rfl)
  exact h
theorem copy_1 (c : Int) (w n l : Nat) (k0 k1 k2 : Int) (W : World) :
    (Builtin.copy_ #[61, 61] 3 #[.slice (some ⟨W.heap.size + 1 + 1, 2, none⟩) 3 3, .slice (some ⟨W.heap.size, 2, none⟩) 1 3]).run Try.prog ((((W.alloc (.cells #[.int .u8 c, .int .u8 ((w : Nat) : Int), .int .i64 k0, .int .i64 k1, .int .i64 k2, .int .u64 ((n : Nat) : Int), .int .u8 ((l : Nat) : Int)] 57)).alloc (.cells #[.int .u8 0, .int .u8 0, .int .i64 0, .int .i64 0, .int .i64 0, .int .u64 0, .int .u8 0] 57)).alloc (.cells #[.int .u8 c, .int .u8 ((w : Nat) : Int), .int .i64 0, .int .i64 0, .int .i64 0, .int .u64 0, .int .u8 0] 57)).drew) = .ok (.int .i64 1) (((((W.alloc (.cells #[.int .u8 c, .int .u8 ((w : Nat) : Int), .int .i64 k0, .int .i64 k1, .int .i64 k2, .int .u64 ((n : Nat) : Int), .int .u8 ((l : Nat) : Int)] 57)).alloc (.cells #[.int .u8 0, .int .u8 0, .int .i64 0, .int .i64 0, .int .i64 0, .int .u64 0, .int .u8 0] 57)).alloc (.cells #[.int .u8 c, .int .u8 ((w : Nat) : Int), .int .i64 0, .int .i64 0, .int .i64 0, .int .u64 0, .int .u8 0] 57)).drew).setCell ⟨W.heap.size + 1 + 1, 2, none⟩ (.int .i64 k0)) :=
  copyg_1 _ _ _ _ _ _ _ _ _ _ _ k0 k1 k2 _ _ _ (three0 _ _ _ _) (three2 _ _ _ _)

theorem copyg_2 (x0 x1 x5 x6 y0 y1 y2 y3 y4 y5 y6 : Value) (k0 k1 k2 : Int) (w : World) (a b : Nat) (ha : w.heap[a]? = some (.cells #[x0, x1, .int .i64 k0, .int .i64 k1, .int .i64 k2, x5, x6] 57)) (hb : w.heap[b]? = some (.cells #[y0, y1, y2, y3, y4, y5, y6] 57)) :
    (Builtin.copy_ #[61, 61] 3 #[.slice (some ⟨b, 2, none⟩) 3 3, .slice (some ⟨a, 2, none⟩) 2 3]).run Try.prog w = .ok (.int .i64 2) ((w.setCell ⟨b, 2, none⟩ (.int .i64 k0)).setCell ⟨b, 3, none⟩ (.int .i64 k1)) := by
  have h := run_copy_cells (P := Try.prog) w 61 61 3 3 b 2 3 3 ⟨a, 2, none⟩ 2 3 [.int .i64 k0, .int .i64 k1] Try.underlying61 elem_int rfl
    (by intro j v hj; match j, hj with | 0, hj => simp at hj; subst hj; simp [Addr.add, World.cell?, ha] | 1, hj => simp at hj; subst hj; simp [Addr.add, World.cell?, ha])
    (by intro j hj; match j, hj with | 0, _ => simp [World.cell?, hb] | 1, _ => simp [World.cell?, hb])
    (by intro j hj; match j, hj with | 0, _ => simp [World.frozen?, hb] | 1, _ => simp [World.frozen?, hb])
    (by intro v hv; simp at hv; rcases hv with rfl | rfl <;> rfl)
  exact h
theorem copy_2 (c : Int) (w n l : Nat) (k0 k1 k2 : Int) (W : World) :
    (Builtin.copy_ #[61, 61] 3 #[.slice (some ⟨W.heap.size + 1 + 1, 2, none⟩) 3 3, .slice (some ⟨W.heap.size, 2, none⟩) 2 3]).run Try.prog ((((W.alloc (.cells #[.int .u8 c, .int .u8 ((w : Nat) : Int), .int .i64 k0, .int .i64 k1, .int .i64 k2, .int .u64 ((n : Nat) : Int), .int .u8 ((l : Nat) : Int)] 57)).alloc (.cells #[.int .u8 0, .int .u8 0, .int .i64 0, .int .i64 0, .int .i64 0, .int .u64 0, .int .u8 0] 57)).alloc (.cells #[.int .u8 c, .int .u8 ((w : Nat) : Int), .int .i64 0, .int .i64 0, .int .i64 0, .int .u64 0, .int .u8 0] 57)).drew) = .ok (.int .i64 2) ((((((W.alloc (.cells #[.int .u8 c, .int .u8 ((w : Nat) : Int), .int .i64 k0, .int .i64 k1, .int .i64 k2, .int .u64 ((n : Nat) : Int), .int .u8 ((l : Nat) : Int)] 57)).alloc (.cells #[.int .u8 0, .int .u8 0, .int .i64 0, .int .i64 0, .int .i64 0, .int .u64 0, .int .u8 0] 57)).alloc (.cells #[.int .u8 c, .int .u8 ((w : Nat) : Int), .int .i64 0, .int .i64 0, .int .i64 0, .int .u64 0, .int .u8 0] 57)).drew).setCell ⟨W.heap.size + 1 + 1, 2, none⟩ (.int .i64 k0)).setCell ⟨W.heap.size + 1 + 1, 3, none⟩ (.int .i64 k1)) :=
  copyg_2 _ _ _ _ _ _ _ _ _ _ _ k0 k1 k2 _ _ _ (three0 _ _ _ _) (three2 _ _ _ _)

theorem copyg_3 (x0 x1 x5 x6 y0 y1 y2 y3 y4 y5 y6 : Value) (k0 k1 k2 : Int) (w : World) (a b : Nat) (ha : w.heap[a]? = some (.cells #[x0, x1, .int .i64 k0, .int .i64 k1, .int .i64 k2, x5, x6] 57)) (hb : w.heap[b]? = some (.cells #[y0, y1, y2, y3, y4, y5, y6] 57)) :
    (Builtin.copy_ #[61, 61] 3 #[.slice (some ⟨b, 2, none⟩) 3 3, .slice (some ⟨a, 2, none⟩) 3 3]).run Try.prog w = .ok (.int .i64 3) (((w.setCell ⟨b, 2, none⟩ (.int .i64 k0)).setCell ⟨b, 3, none⟩ (.int .i64 k1)).setCell ⟨b, 4, none⟩ (.int .i64 k2)) := by
  have h := run_copy_cells (P := Try.prog) w 61 61 3 3 b 2 3 3 ⟨a, 2, none⟩ 3 3 [.int .i64 k0, .int .i64 k1, .int .i64 k2] Try.underlying61 elem_int rfl
    (by intro j v hj; match j, hj with | 0, hj => simp at hj; subst hj; simp [Addr.add, World.cell?, ha] | 1, hj => simp at hj; subst hj; simp [Addr.add, World.cell?, ha] | 2, hj => simp at hj; subst hj; simp [Addr.add, World.cell?, ha])
    (by intro j hj; match j, hj with | 0, _ => simp [World.cell?, hb] | 1, _ => simp [World.cell?, hb] | 2, _ => simp [World.cell?, hb])
    (by intro j hj; match j, hj with | 0, _ => simp [World.frozen?, hb] | 1, _ => simp [World.frozen?, hb] | 2, _ => simp [World.frozen?, hb])
    (by intro v hv; simp at hv; rcases hv with rfl | rfl | rfl <;> rfl)
  exact h
theorem copy_3 (c : Int) (w n l : Nat) (k0 k1 k2 : Int) (W : World) :
    (Builtin.copy_ #[61, 61] 3 #[.slice (some ⟨W.heap.size + 1 + 1, 2, none⟩) 3 3, .slice (some ⟨W.heap.size, 2, none⟩) 3 3]).run Try.prog ((((W.alloc (.cells #[.int .u8 c, .int .u8 ((w : Nat) : Int), .int .i64 k0, .int .i64 k1, .int .i64 k2, .int .u64 ((n : Nat) : Int), .int .u8 ((l : Nat) : Int)] 57)).alloc (.cells #[.int .u8 0, .int .u8 0, .int .i64 0, .int .i64 0, .int .i64 0, .int .u64 0, .int .u8 0] 57)).alloc (.cells #[.int .u8 c, .int .u8 ((w : Nat) : Int), .int .i64 0, .int .i64 0, .int .i64 0, .int .u64 0, .int .u8 0] 57)).drew) = .ok (.int .i64 3) (((((((W.alloc (.cells #[.int .u8 c, .int .u8 ((w : Nat) : Int), .int .i64 k0, .int .i64 k1, .int .i64 k2, .int .u64 ((n : Nat) : Int), .int .u8 ((l : Nat) : Int)] 57)).alloc (.cells #[.int .u8 0, .int .u8 0, .int .i64 0, .int .i64 0, .int .i64 0, .int .u64 0, .int .u8 0] 57)).alloc (.cells #[.int .u8 c, .int .u8 ((w : Nat) : Int), .int .i64 0, .int .i64 0, .int .i64 0, .int .u64 0, .int .u8 0] 57)).drew).setCell ⟨W.heap.size + 1 + 1, 2, none⟩ (.int .i64 k0)).setCell ⟨W.heap.size + 1 + 1, 3, none⟩ (.int .i64 k1)).setCell ⟨W.heap.size + 1 + 1, 4, none⟩ (.int .i64 k2)) :=
  copyg_3 _ _ _ _ _ _ _ _ _ _ _ k0 k1 k2 _ _ _ (three0 _ _ _ _) (three2 _ _ _ _)

theorem own_v1 (w n l : Nat) (k0 k1 k2 : Int) (HK : Hid (∀ W : World, Calls Try.prog 47 #[.int .u8 1] W fun e W' => e = .returned (.int .i64 0) ∧ W = W')) (W : World) :
    Calls Try.prog 46 #[.agg #[.int .u8 1, .int .u8 w, .int .i64 k0, .int .i64 k1, .int .i64 k2, .int .u64 n, .int .u8 l]] W fun e W' => e = .returned (.agg #[.int .u8 1, .int .u8 w, .int .i64 0, .int .i64 0, .int .i64 0, .int .u64 n, .int .u8 0]) ∧ Below W.heap.size W W' := by
  have hcp := copy_0
  go_enter Try.func46, Try.ntmps46
  go_wp2_with (go_at_call 47; refine (HK.out _).mono ?_; rintro e w' ⟨rfl, rfl⟩)
  go_region_with (first | (go_at_call 47; refine (HK.out _).mono ?_; rintro e w' ⟨rfl, rfl⟩) | go_in)
  all_goals go_wp2
  all_goals exact bodyPost_ret (v := .agg #[.int .u8 1, .int .u8 w, .int .i64 0, .int .i64 0, .int .i64 0, .int .u64 n, .int .u8 0]) (by simp [results, Try.results46, go_sem]) rfl ⟨rfl, by repeat (first | exact Below.refl _ _ | (refine Below.setCell ?_ (by simp; try omega) _) | (refine bel_alloc ?_ _) | (refine Below.drew ?_))⟩

theorem own_v2 (w n l : Nat) (k0 k1 k2 : Int) (HK : Hid (∀ W : World, Calls Try.prog 47 #[.int .u8 2] W fun e W' => e = .returned (.int .i64 0) ∧ W = W')) (W : World) :
    Calls Try.prog 46 #[.agg #[.int .u8 2, .int .u8 w, .int .i64 k0, .int .i64 k1, .int .i64 k2, .int .u64 n, .int .u8 l]] W fun e W' => e = .returned (.agg #[.int .u8 2, .int .u8 w, .int .i64 0, .int .i64 0, .int .i64 0, .int .u64 n, .int .u8 0]) ∧ Below W.heap.size W W' := by
  have hcp := copy_0
  go_enter Try.func46, Try.ntmps46
  go_wp2_with (go_at_call 47; refine (HK.out _).mono ?_; rintro e w' ⟨rfl, rfl⟩)
  go_region_with (first | (go_at_call 47; refine (HK.out _).mono ?_; rintro e w' ⟨rfl, rfl⟩) | go_in)
  all_goals go_wp2
  all_goals exact bodyPost_ret (v := .agg #[.int .u8 2, .int .u8 w, .int .i64 0, .int .i64 0, .int .i64 0, .int .u64 n, .int .u8 0]) (by simp [results, Try.results46, go_sem]) rfl ⟨rfl, by repeat (first | exact Below.refl _ _ | (refine Below.setCell ?_ (by simp; try omega) _) | (refine bel_alloc ?_ _) | (refine Below.drew ?_))⟩

theorem own_x22 (w n l : Nat) (k0 k1 k2 : Int) (HK : Hid (∀ W : World, Calls Try.prog 47 #[.int .u8 22] W fun e W' => e = .returned (.int .i64 1) ∧ W = W')) (W : World) :
    Calls Try.prog 46 #[.agg #[.int .u8 22, .int .u8 w, .int .i64 k0, .int .i64 k1, .int .i64 k2, .int .u64 n, .int .u8 l]] W fun e W' => e = .returned (.agg #[.int .u8 22, .int .u8 w, .int .i64 k0, .int .i64 0, .int .i64 0, .int .u64 0, .int .u8 l]) ∧ Below W.heap.size W W' := by
  have hcp := copy_1 22 w n l k0 k1 k2 W
  go_enter Try.func46, Try.ntmps46
  go_wp2_with (go_at_call 47; refine (HK.out _).mono ?_; rintro e w' ⟨rfl, rfl⟩)
  go_region_with (first | (go_at_call 47; refine (HK.out _).mono ?_; rintro e w' ⟨rfl, rfl⟩) | go_in)
  all_goals go_wp2
  all_goals exact bodyPost_ret (v := .agg #[.int .u8 22, .int .u8 w, .int .i64 k0, .int .i64 0, .int .i64 0, .int .u64 0, .int .u8 l]) (by simp [results, Try.results46, go_sem]) rfl ⟨rfl, by repeat (first | exact Below.refl _ _ | (refine Below.setCell ?_ (by simp; try omega) _) | (refine bel_alloc ?_ _) | (refine Below.drew ?_))⟩

theorem own_k0 (o w n l : Nat) (k0 k1 k2 : Int) (d1 : ((o : Int) == 1) = false) (d2 : ((o : Int) == 2) = false) (d22 : ((o : Int) == 22) = false) (HK : Hid (∀ W : World, Calls Try.prog 47 #[.int .u8 o] W fun e W' => e = .returned (.int .i64 0) ∧ W = W')) (W : World) :
    Calls Try.prog 46 #[.agg #[.int .u8 o, .int .u8 w, .int .i64 k0, .int .i64 k1, .int .i64 k2, .int .u64 n, .int .u8 l]] W fun e W' => e = .returned (.agg #[.int .u8 o, .int .u8 w, .int .i64 0, .int .i64 0, .int .i64 0, .int .u64 0, .int .u8 0]) ∧ Below W.heap.size W W' := by
  have hcp := copy_0
  go_enter Try.func46, Try.ntmps46
  go_wp2_with (go_at_call 47; refine (HK.out _).mono ?_; rintro e w' ⟨rfl, rfl⟩)
  go_region_with (first | (go_at_call 47; refine (HK.out _).mono ?_; rintro e w' ⟨rfl, rfl⟩) | go_in)
  all_goals go_wp2
  all_goals exact bodyPost_ret (v := .agg #[.int .u8 o, .int .u8 w, .int .i64 0, .int .i64 0, .int .i64 0, .int .u64 0, .int .u8 0]) (by simp [results, Try.results46, go_sem]) rfl ⟨rfl, by repeat (first | exact Below.refl _ _ | (refine Below.setCell ?_ (by simp; try omega) _) | (refine bel_alloc ?_ _) | (refine Below.drew ?_))⟩

theorem own_k1 (o w n l : Nat) (k0 k1 k2 : Int) (d1 : ((o : Int) == 1) = false) (d2 : ((o : Int) == 2) = false) (d22 : ((o : Int) == 22) = false) (HK : Hid (∀ W : World, Calls Try.prog 47 #[.int .u8 o] W fun e W' => e = .returned (.int .i64 1) ∧ W = W')) (W : World) :
    Calls Try.prog 46 #[.agg #[.int .u8 o, .int .u8 w, .int .i64 k0, .int .i64 k1, .int .i64 k2, .int .u64 n, .int .u8 l]] W fun e W' => e = .returned (.agg #[.int .u8 o, .int .u8 w, .int .i64 k0, .int .i64 0, .int .i64 0, .int .u64 0, .int .u8 0]) ∧ Below W.heap.size W W' := by
  have hcp := copy_1 (o : Int) w n l k0 k1 k2 W
  go_enter Try.func46, Try.ntmps46
  go_wp2_with (go_at_call 47; refine (HK.out _).mono ?_; rintro e w' ⟨rfl, rfl⟩)
  go_region_with (first | (go_at_call 47; refine (HK.out _).mono ?_; rintro e w' ⟨rfl, rfl⟩) | go_in)
  all_goals go_wp2
  all_goals exact bodyPost_ret (v := .agg #[.int .u8 o, .int .u8 w, .int .i64 k0, .int .i64 0, .int .i64 0, .int .u64 0, .int .u8 0]) (by simp [results, Try.results46, go_sem]) rfl ⟨rfl, by repeat (first | exact Below.refl _ _ | (refine Below.setCell ?_ (by simp; try omega) _) | (refine bel_alloc ?_ _) | (refine Below.drew ?_))⟩

theorem own_k2 (o w n l : Nat) (k0 k1 k2 : Int) (d1 : ((o : Int) == 1) = false) (d2 : ((o : Int) == 2) = false) (d22 : ((o : Int) == 22) = false) (HK : Hid (∀ W : World, Calls Try.prog 47 #[.int .u8 o] W fun e W' => e = .returned (.int .i64 2) ∧ W = W')) (W : World) :
    Calls Try.prog 46 #[.agg #[.int .u8 o, .int .u8 w, .int .i64 k0, .int .i64 k1, .int .i64 k2, .int .u64 n, .int .u8 l]] W fun e W' => e = .returned (.agg #[.int .u8 o, .int .u8 w, .int .i64 k0, .int .i64 k1, .int .i64 0, .int .u64 0, .int .u8 0]) ∧ Below W.heap.size W W' := by
  have hcp := copy_2 (o : Int) w n l k0 k1 k2 W
  go_enter Try.func46, Try.ntmps46
  go_wp2_with (go_at_call 47; refine (HK.out _).mono ?_; rintro e w' ⟨rfl, rfl⟩)
  go_region_with (first | (go_at_call 47; refine (HK.out _).mono ?_; rintro e w' ⟨rfl, rfl⟩) | go_in)
  all_goals go_wp2
  all_goals exact bodyPost_ret (v := .agg #[.int .u8 o, .int .u8 w, .int .i64 k0, .int .i64 k1, .int .i64 0, .int .u64 0, .int .u8 0]) (by simp [results, Try.results46, go_sem]) rfl ⟨rfl, by repeat (first | exact Below.refl _ _ | (refine Below.setCell ?_ (by simp; try omega) _) | (refine bel_alloc ?_ _) | (refine Below.drew ?_))⟩

theorem own_k3 (o w n l : Nat) (k0 k1 k2 : Int) (d1 : ((o : Int) == 1) = false) (d2 : ((o : Int) == 2) = false) (d22 : ((o : Int) == 22) = false) (HK : Hid (∀ W : World, Calls Try.prog 47 #[.int .u8 o] W fun e W' => e = .returned (.int .i64 3) ∧ W = W')) (W : World) :
    Calls Try.prog 46 #[.agg #[.int .u8 o, .int .u8 w, .int .i64 k0, .int .i64 k1, .int .i64 k2, .int .u64 n, .int .u8 l]] W fun e W' => e = .returned (.agg #[.int .u8 o, .int .u8 w, .int .i64 k0, .int .i64 k1, .int .i64 k2, .int .u64 0, .int .u8 0]) ∧ Below W.heap.size W W' := by
  have hcp := copy_3 (o : Int) w n l k0 k1 k2 W
  go_enter Try.func46, Try.ntmps46
  go_wp2_with (go_at_call 47; refine (HK.out _).mono ?_; rintro e w' ⟨rfl, rfl⟩)
  go_region_with (first | (go_at_call 47; refine (HK.out _).mono ?_; rintro e w' ⟨rfl, rfl⟩) | go_in)
  all_goals go_wp2
  all_goals exact bodyPost_ret (v := .agg #[.int .u8 o, .int .u8 w, .int .i64 k0, .int .i64 k1, .int .i64 k2, .int .u64 0, .int .u8 0]) (by simp [results, Try.results46, go_sem]) rfl ⟨rfl, by repeat (first | exact Below.refl _ _ | (refine Below.setCell ?_ (by simp; try omega) _) | (refine bel_alloc ?_ _) | (refine Below.drew ?_))⟩
end Tm
end Go.Proofs.Ytkiegiofholofaa
