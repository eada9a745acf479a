/-
  What a store is in memory; what stays while a call writes it; what New, Node, Width return.
-/
import Derived.Test.YthelkbdiedfmfaaGreatTmLeaf
import Derived.Test.YthelkbdiedfmfaaGreatTmKids
namespace Go.Proofs.YthelkbdiedfmfaaGreat
open Go.RowKit Go.Maps Bv
namespace Tm
set_option maxHeartbeats 400000
set_option maxRecDepth 100000

/-- Nothing has turned but blocks of F and new ones. -/
structure Kept (F : Nat → Prop) (w w' : World) : Prop where
  os : w'.os = w.os
  tape : w'.tape = w.tape
  output : w'.output = w.output
  size : w.heap.size ≤ w'.heap.size
  block : ∀ k, k < w.heap.size → ¬ F k → w'.heap[k]? = w.heap[k]?

section
variable {F G : Nat → Prop} {a b c : World}
theorem Kept.refl (F : Nat → Prop) (w : World) : Kept F w w := ⟨rfl, rfl, rfl, Nat.le_refl _, fun _ _ _ => rfl⟩
theorem Kept.thenNew (h : Kept F a b) (k : Kept G b c) (hG : ∀ i, i < a.heap.size → G i → F i) : Kept F a c :=
  ⟨k.os.trans h.os, k.tape.trans h.tape, k.output.trans h.output, Nat.le_trans h.size k.size, fun i hi hn => (k.block i (Nat.lt_of_lt_of_le hi h.size) (fun g => hn (hG i hi g))).trans (h.block i hi hn)⟩
theorem Kept.trans (h : Kept F a b) (k : Kept F b c) : Kept F a c := h.thenNew k (fun _ _ x => x)
theorem Kept.mono (h : Kept F a b) (hG : ∀ i, i < a.heap.size → F i → G i) : Kept G a b := ⟨h.os, h.tape, h.output, h.size, fun i hi hn => h.block i hi (fun f => hn (hG i hi f))⟩
theorem Kept.ofBelow (h : Below a.heap.size a b) (F : Nat → Prop) : Kept F a b := ⟨h.os, h.tape, h.output, h.size, fun i hi _ => h.block i hi⟩
theorem Kept.below {B : Nat} (h : Kept F a b) (hF : ∀ i, i < B → ¬ F i) (hB : B ≤ a.heap.size) : Below B a b := ⟨h.os, h.tape, h.output, h.size, fun i hi => h.block i (by omega) (hF i hi)⟩
theorem Kept.alloc (h : Kept F a b) (o : Obj) : Kept F a (b.alloc o) :=
  h.thenNew (Kept.ofBelow ((Below.refl _ _).alloc (Nat.le_refl _) o) (fun _ => False)) (fun _ _ x => x.elim)
theorem Kept.drew (h : Kept F a b) : Kept F a b.drew := ⟨h.os, h.tape, h.output, h.size, h.block⟩
theorem Kept.call (h : Kept F a b) (k : Below b.heap.size b c) : Kept F a c := h.thenNew (Kept.ofBelow k (fun _ => False)) (fun _ _ x => x.elim)
theorem Kept.grown {row : Option Nat} (h : Kept F a b) (k : b.grownBy c row) (hr : ∀ i, row = some i → i < a.heap.size → F i) : Kept F a c :=
  h.thenNew (G := fun i => row = some i) ⟨k.os, k.tape, k.output, k.size, fun i hi hn => k.block i hi (fun e => hn e.symm)⟩ (fun i hi e => hr i e hi)
theorem Kept.setCell (h : Kept F a b) (x : Addr) (u : Value) (hF : x.block < a.heap.size → F x.block) : Kept F a (b.setCell x u) :=
  h.thenNew (G := fun i => i = x.block) ⟨rfl, rfl, rfl, by simp [World.setCell], fun i _ hn => Below.heap_setCell _ _ _ _ hn⟩ (fun i hi e => by rw [e] at hi ⊢; exact hF hi)
theorem Kept.cell (h : Kept F a b) {x : Addr} (hx : x.block < a.heap.size) (hF : ¬ F x.block) : b.cell? x = a.cell? x := World.cell?_of_block (w := a) (h.block _ hx hF)
theorem Kept.frozen (h : Kept F a b) {x : Addr} (hx : x.block < a.heap.size) (hF : ¬ F x.block) : b.frozen? x = a.frozen? x := World.frozen?_of_block (w := a) (h.block _ hx hF)
end

def rowOf (L : List Nd) : List Value := L.flatMap (fun x => x.cells.toList)
theorem rowOf_length (L : List Nd) : (rowOf L).length = L.length * 7 := by
  induction L with
  | nil => rfl
  | cons x r ih => simp only [rowOf, List.flatMap_cons, List.length_append, List.length_cons] at ih ⊢; rw [ih]; simp [Nd.cells]; omega
theorem rowOf_append (L : List Nd) (x : Nd) : rowOf (L ++ [x]) = rowOf L ++ x.cells.toList := by simp [rowOf]
theorem rowOf_at {L : List Nd} : ∀ {k : Nat} {x : Nd}, L[k]? = some x → ∀ j, j < 7 → (rowOf L)[k * 7 + j]? = x.cells.toList[j]? := by
  induction L with
  | nil => intro k x h; simp at h
  | cons y r ih =>
    intro k x h j hj
    have hy : y.cells.toList.length = 7 := by simp [Nd.cells]
    simp only [rowOf, List.flatMap_cons]
    cases k with
    | zero =>
      simp at h
      subst h
      rw [List.getElem?_append_left (by omega)]
      simp
    | succ k =>
      simp at h
      rw [List.getElem?_append_right (by omega), hy, show (k + 1) * 7 + j - 7 = k * 7 + j by omega]
      exact ih h j hj

/-- The block p of w is a store that has the nodes L; its map is block m, its list the value sv; all of it lies from block B on. -/
structure StoreAt (B : Nat) (w : World) (p m : Nat) (sv : Value) (L : List Nd) : Prop where
  bp : B ≤ p
  bm : B ≤ m
  lt : p < w.heap.size
  lm : m < w.heap.size
  pm : p ≠ m
  c0 : w.cell? ⟨p, 0, none⟩ = some sv
  c1 : w.cell? ⟨p, 1, none⟩ = some (.map (some m))
  cw : ∀ v, v < 256 → w.cell? ⟨p, 2 + v, none⟩ = some (.int .u8 ((wdOf L v : Nat) : Int))
  fr : ∀ o, w.frozen? ⟨p, o, none⟩ = false
  row : w.ownsRow B 56 7 sv L.length (rowOf L)
  gp : sv.ownBlock ≠ some p
  gm : sv.ownBlock ≠ some m
  tab : ∃ D : DataW Unit, w.ownsMap Tryz.prog 56 (plainElem Tryz.prog 3) m L.length D ∧ Table L D
  good : Gd L

/-- The blocks that a store is made of. -/
def foot (p m : Nat) (sv : Value) (k : Nat) : Prop := k = p ∨ k = m ∨ sv.ownBlock = some k

theorem StoreAt.kept {B : Nat} {w w' : World} {p m : Nat} {sv : Value} {L : List Nd} {F : Nat → Prop} (h : StoreAt B w p m sv L) (k : Kept F w w') (hF : ∀ i, foot p m sv i → ¬ F i) : StoreAt B w' p m sv L := by
  have fp := hF p (.inl rfl)
  have fm := hF m (.inr (.inl rfl))
  refine ⟨h.bp, h.bm, Nat.lt_of_lt_of_le h.lt k.size, Nat.lt_of_lt_of_le h.lm k.size, h.pm, (k.cell h.lt fp).trans h.c0, (k.cell h.lt fp).trans h.c1, fun v hv => (k.cell h.lt fp).trans (h.cw v hv),
    fun o => (k.frozen h.lt fp).trans (h.fr o), ?_, h.gp, h.gm, ?_, h.good⟩
  · rcases h.row with ⟨hl, h1 | ⟨g, cap, cur, hv, hb, hh, r⟩⟩
    · exact ⟨hl, .inl h1⟩
    · have hg : g < w.heap.size := (Array.getElem?_eq_some_iff.1 hh).1
      exact ⟨hl, .inr ⟨g, cap, cur, hv, hb, (k.block g hg (hF g (.inr (.inr (by rw [hv]; rfl))))).trans hh, r⟩⟩
  · obtain ⟨D, ⟨es, clock, hb, r⟩, ht⟩ := h.tab
    exact ⟨D, ⟨es, clock, (k.block m h.lm fm).trans hb, r⟩, ht⟩

theorem StoreAt.alloc {B : Nat} {w : World} {p m : Nat} {sv : Value} {L : List Nd} (h : StoreAt B w p m sv L) (o : Obj) : StoreAt B (w.alloc o) p m sv L :=
  h.kept ((Kept.refl (fun _ => False) w).alloc o) (fun _ _ x => x)
theorem StoreAt.call {B : Nat} {w w' : World} {p m : Nat} {sv : Value} {L : List Nd} (h : StoreAt B w p m sv L) (k : Below w.heap.size w w') : StoreAt B w' p m sv L :=
  h.kept (Kept.ofBelow k (fun _ => False)) (fun _ _ x => x)
theorem StoreAt.drew {B : Nat} {w : World} {p m : Nat} {sv : Value} {L : List Nd} (h : StoreAt B w p m sv L) : StoreAt B w.drew p m sv L :=
  h.kept ((Kept.refl (fun _ => False) w).drew) (fun _ _ x => x)

theorem StoreAt.shape {B : Nat} {w : World} {p m : Nat} {sv : Value} {L : List Nd} (h : StoreAt B w p m sv L) : ∃ a c, sv = .slice a L.length c := by
  rcases h.row with ⟨_, ⟨h1, h2⟩ | ⟨g, cap, cur, hv, _⟩⟩
  · exact ⟨none, 0, by rw [h1, h2]⟩
  · exact ⟨_, _, hv⟩
theorem StoreAt.shapeAt {B : Nat} {w : World} {p m : Nat} {sv : Value} {L : List Nd} (h : StoreAt B w p m sv L) {k : Nat} {x : Nd} (hx : L[k]? = some x) :
    ∃ g c, sv = .slice (some ⟨g, 0, none⟩) L.length c ∧ ∀ j u, x.cells.toList[j]? = some u → w.cell? ⟨g, k * 7 + j, none⟩ = some u := by
  have hlt := (List.getElem?_eq_some_iff.1 hx).1
  have hr := h.row
  rcases h.row with ⟨_, ⟨h1, h2⟩ | ⟨g, cap, cur, hv, _⟩⟩
  · omega
  · refine ⟨g, cap, hv, fun j u hj => ?_⟩
    have hj7 : j < 7 := by have := (List.getElem?_eq_some_iff.1 hj).1; simpa [Nd.cells] using this
    have := hr.cells (g := g) (by rw [hv]; rfl) (k * 7 + j) u (by rw [rowOf_at hx j hj7]; exact hj)
    have e : (⟨g, 0, none⟩ : Addr).add (k * 7 + j) = ⟨g, k * 7 + j, none⟩ := by
      unfold Addr.add
      split <;> simp_all
    rw [e] at this
    exact this

/-! ### New -/
theorem zero_is : Tryz.zeroCells28 = #[.slice none 0 0, .map none] ++ Array.replicate 256 (.int .u8 0) := by kernel_rfl

theorem new_any (W : World) :
    Calls Tryz.prog 16 #[] W fun e W' => e = .returned (.pointer (some ⟨W.heap.size + 1, 0, none⟩)) ∧
      W' = (W.alloc (.map #[] 0)).alloc (.cells (Tryz.zeroCells28.setIfInBounds 1 (.map (some W.heap.size))) 28) := by
  have hmm := @run_makeMap Tryz.prog
  go_enter Tryz.func16, Tryz.ntmps16
  go_wp2
  go_ret
  exact ⟨rfl, rfl⟩

theorem new_store (W : World) :
    StoreAt W.heap.size ((W.alloc (.map #[] 0)).alloc (.cells (Tryz.zeroCells28.setIfInBounds 1 (.map (some W.heap.size))) 28)) (W.heap.size + 1) W.heap.size (.slice none 0 0) [] := by
  have hs : (W.alloc (.map #[] 0)).heap.size = W.heap.size + 1 := by simp
  have hh : ((W.alloc (.map #[] 0)).alloc (.cells (Tryz.zeroCells28.setIfInBounds 1 (.map (some W.heap.size))) 28)).heap[W.heap.size + 1]? = some (.cells (Tryz.zeroCells28.setIfInBounds 1 (.map (some W.heap.size))) 28 (0, 0)) := by
    have := (MapKept.heap_alloc (W.alloc (.map #[] 0)) (.cells (Tryz.zeroCells28.setIfInBounds 1 (.map (some W.heap.size))) 28)).1
    rw [hs] at this
    exact this
  have hz : ∀ j, (Tryz.zeroCells28.setIfInBounds 1 (.map (some W.heap.size)))[j]? = if j = 1 then some (.map (some W.heap.size)) else if j = 0 then some (.slice none 0 0) else if j < 258 then some (.int .u8 0) else none := by
    intro j
    rw [zero_is, Array.getElem?_setIfInBounds]
    by_cases h1 : 1 = j
    · subst h1; simp
    · rw [if_neg h1, if_neg (by omega), Array.getElem?_append]
      by_cases h0 : j = 0
      · subst h0; simp
      · rw [if_neg (by simp; omega), if_neg h0, Array.getElem?_replicate]
        simp only [List.size_toArray, List.length_cons, List.length_nil]
        by_cases hj : j < 258
        · rw [if_pos (by omega), if_pos hj]
        · rw [if_neg (by omega), if_neg hj]
  generalize hC : (Tryz.zeroCells28.setIfInBounds 1 (.map (some W.heap.size))) = C at hh hz ⊢
  have hm : ((W.alloc (.map #[] 0)).alloc (.cells C 28)).ownsMap Tryz.prog 56 (plainElem (H := Unit) Tryz.prog 3) W.heap.size 0 (.map []) := (World.ownsMap_made W _ _ _).alloc _
  have hsz : ((W.alloc (.map #[] 0)).alloc (.cells C 28)).heap.size = W.heap.size + 1 + 1 := by simp
  generalize ((W.alloc (.map #[] 0)).alloc (.cells C 28)) = W2 at hh hm hsz ⊢
  have hc : ∀ j, W2.cell? ⟨W.heap.size + 1, j, none⟩ = C[j]? := by
    intro j
    unfold World.cell?
    rw [hh]
    rfl
  refine ⟨by omega, Nat.le_refl _, by omega, by omega, by omega, ?_, ?_, ?_, ?_, ?_, by simp [Value.ownBlock], by simp [Value.ownBlock], ⟨.map [], hm, table_nil⟩, gd_nil⟩
  · rw [hc, hz]; rfl
  · rw [hc, hz]; rfl
  · intro v hv
    rw [hc, hz, if_neg (by omega), if_neg (by omega), if_pos (by omega)]
    rfl
  · intro o
    unfold World.frozen?
    rw [hh]
    simp
  · exact World.ownsRow_nil _ _ _ _

theorem new_kept (W : World) (o1 o2 : Obj) : Below W.heap.size W ((W.alloc o1).alloc o2) := ((Below.refl _ _).alloc (Nat.le_refl _) _).alloc (by simp) _

theorem row_kept {w w' : World} {base size : Nat} {e : TypeId} {v : Value} {n : Nat} {xs : List Value} {F : Nat → Prop} (h : w.ownsRow base e size v n xs) (k : Kept F w w') (hF : ∀ g, v.ownBlock = some g → ¬ F g) : w'.ownsRow base e size v n xs := by
  rcases h with ⟨hl, h1 | ⟨g, cap, cur, hv, hb, hh, r⟩⟩
  · exact ⟨hl, .inl h1⟩
  · exact ⟨hl, .inr ⟨g, cap, cur, hv, hb, (k.block g (Array.getElem?_eq_some_iff.1 hh).1 (hF g (by rw [hv]; rfl))).trans hh, r⟩⟩

theorem size_alloc (w : World) (o : Obj) : (w.alloc o).heap.size = w.heap.size + 1 := by simp

theorem cells_far {w : World} {i : Nat} {x : Nd} {b ol : Nat} (hf : ∀ j u, x.cells.toList[j]? = some u → w.cell? ⟨b, ol + i * 7 + j, none⟩ = some u) :
    w.cell? ⟨b, ol + i * 7, none⟩ = some (.int .u8 ((x.o : Nat) : Int)) ∧ w.cell? ⟨b, ol + i * 7 + 1, none⟩ = some (.int .u8 ((x.w : Nat) : Int)) ∧ w.cell? ⟨b, ol + i * 7 + 2, none⟩ = some (.int .i64 x.k0) ∧ w.cell? ⟨b, ol + i * 7 + 3, none⟩ = some (.int .i64 x.k1) ∧ w.cell? ⟨b, ol + i * 7 + 4, none⟩ = some (.int .i64 x.k2) ∧ w.cell? ⟨b, ol + i * 7 + 5, none⟩ = some (.int .u64 ((x.n : Nat) : Int)) ∧ w.cell? ⟨b, ol + i * 7 + 6, none⟩ = some (.int .u8 ((x.l : Nat) : Int)) :=
  ⟨hf 0 _ rfl, hf 1 _ rfl, hf 2 _ rfl, hf 3 _ rfl, hf 4 _ rfl, hf 5 _ rfl, hf 6 _ rfl⟩

theorem cells_near {w : World} {i : Nat} {x : Nd} {b : Nat} (hf : ∀ j u, x.cells.toList[j]? = some u → w.cell? ⟨b, i * 7 + j, none⟩ = some u) :
    w.cell? ⟨b, i * 7, none⟩ = some (.int .u8 ((x.o : Nat) : Int)) ∧ w.cell? ⟨b, i * 7 + 1, none⟩ = some (.int .u8 ((x.w : Nat) : Int)) ∧ w.cell? ⟨b, i * 7 + 2, none⟩ = some (.int .i64 x.k0) ∧ w.cell? ⟨b, i * 7 + 3, none⟩ = some (.int .i64 x.k1) ∧ w.cell? ⟨b, i * 7 + 4, none⟩ = some (.int .i64 x.k2) ∧ w.cell? ⟨b, i * 7 + 5, none⟩ = some (.int .u64 ((x.n : Nat) : Int)) ∧ w.cell? ⟨b, i * 7 + 6, none⟩ = some (.int .u8 ((x.l : Nat) : Int)) :=
  ⟨hf 0 _ rfl, hf 1 _ rfl, hf 2 _ rfl, hf 3 _ rfl, hf 4 _ rfl, hf 5 _ rfl, hf 6 _ rfl⟩

theorem row_nd_at {w : World} {base : Nat} {v : Value} {N : List Nd} {i : Nat} {x : Nd} (h : w.ownsRow base 56 7 v N.length (rowOf N)) (hx : N[i]? = some x) :
    ∃ g c, v = .slice (some ⟨g, 0, none⟩) N.length c ∧ ∀ (i : Nat) (x : Nd), N[i]? = some x → ∀ j u, x.cells.toList[j]? = some u → w.cell? ⟨g, i * 7 + j, none⟩ = some u := by
  have hlt := (List.getElem?_eq_some_iff.1 hx).1
  have hr := h
  rcases h with ⟨_, ⟨h1, h2⟩ | ⟨g, cap, cur, hv, _⟩⟩
  · omega
  · refine ⟨g, cap, hv, fun i x hx j u hj => ?_⟩
    have hj7 : j < 7 := by have := (List.getElem?_eq_some_iff.1 hj).1; simpa [Nd.cells] using this
    have := hr.cells (g := g) (by rw [hv]; rfl) (i * 7 + j) u (by rw [rowOf_at hx j hj7]; exact hj)
    have e : (⟨g, 0, none⟩ : Addr).add (i * 7 + j) = ⟨g, i * 7 + j, none⟩ := by
      unfold Addr.add
      split <;> simp_all
    rw [e] at this
    exact this

end Tm
end Go.Proofs.YthelkbdiedfmfaaGreat
