/-
  The program's Units in memory: behind an append.
-/
import Derived.Test.YtcpehdeddgfpmaaDoorCuMem
import Derived.Deep.RegionLaw
import Derived.Maps.AppendAt
namespace Go.Proofs.YtcpehdeddgfpmaaDoor
open Go.RowKit Go.Maps
namespace Cf
set_option maxHeartbeats 1000000
set_option maxRecDepth 100000

/-- append onto a slice of the call's own, as one step of a region that draws. -/
theorem step_append_at {P : Program} {ops : Array Oper} {o : Oper} {a : Act} {w : World} {K : Act → World → Prop} {Q : Exit → Act → World → Prop} {E : Prop}
    (hg : o.guard = none) (s x : Operand) (t t2 : TypeId) (hop : o.op = Op.call { callee := Callee.builtin Builtin.append, args := #[s, x], argTypes := #[t, t2] })
    (base : Nat) (e : TypeId) (i : TypeInfo) (z : Value) (size bytes : Nat) (ht : t = t2) (h1 : P.underlying t = some (.slice e)) (h2 : P.info? e = some i) (h3 : i.zero = some z) (h4 : i.size = size) (h5 : i.bytes = bytes) (h6 : z.cells.size = size) (h7 : 0 < size)
    (v : Value) (n : Nat) (xs : List Value) (hs : a.eval s = v) (hown : w.ownsRow base e size v n xs)
    (ad : Addr) (m c : Nat) (news : List Value) (hx : a.eval x = .slice (some ad) m c) (hn : news.length = m * size) (hc : ∀ j u, news[j]? = some u → w.cell? (ad.add j) = some u) (h1c : ∀ u ∈ news, u.oneCell' = true)
    (b1 : n + m ≤ maxLen) (b2 : (n + m) * bytes ≤ 140737488355328) (hbase : base ≤ w.heap.size)
    (hK : ∀ v' w', w'.ownsRow base e size v' (n + m) (xs ++ news) → w.grownBy w' v.ownBlock → (v'.ownBlock = v.ownBlock ∨ v'.ownBlock = some w.heap.size) → K (a.put o.dst v') w') :
    if Region.wanted o (yielded ops a.tmps) = true then Oper.wp P o a w K Q else E := by
  have hw : Region.wanted o (yielded ops a.tmps) = true := by simp [Region.wanted, hg]
  rw [if_pos hw]
  subst ht
  obtain ⟨v', w', hrun, r1, r2, _, r4⟩ := run_append_own_at (P := P) w base t o.type e i z size bytes h1 h2 h3 h4 h5 h6 h7 v n xs hown ad m c news hn hc h1c b1 b2 hbase
  unfold Oper.wp
  simp [execOp, hop, resolve, invoke, builtin, hs, hx, hrun, Result.andThen]
  exact hK v' w' r1 r2 r4
theorem row_slice {w : World} {B : Nat} {v : Value} {n : Nat} {xs : List Value} {e : TypeId} {size : Nat} (h : w.ownsRow B e size v (n + 1) xs) : ∃ g c, v = .slice (some ⟨g, 0, none⟩) (n + 1) c := by
  rcases h with ⟨_, ⟨_, h2⟩ | ⟨g, cap, cur, hv, hb, hh, _⟩⟩
  · omega
  · exact ⟨g, cap, hv⟩
theorem row_setCell {w : World} {B : Nat} {v : Value} {n : Nat} {xs : List Value} {e : TypeId} {size : Nat} (h : w.ownsRow B e size v n xs) {a : Addr} (u : Value) (ha : v.ownBlock ≠ some a.block) : (w.setCell a u).ownsRow B e size v n xs := by
  rcases h with ⟨hl, h1 | ⟨g, cap, cur, hv, hb, hh, r⟩⟩
  · exact ⟨hl, .inl h1⟩
  · refine ⟨hl, .inr ⟨g, cap, cur, hv, hb, ?_, r⟩⟩
    rw [Below.heap_setCell _ _ _ _ (fun e => ha (by rw [hv, ← e]; rfl))]
    exact hh
theorem info_pl : (Tryd.prog.info? 96).map (fun i => (i.zero, i.size, i.bytes)) = some (some (.agg #[.int .i64 0, .int .i64 0]), 2, 16) := by kernel_rfl

section
variable {B : Nat} {w w2 : World} {u : Nat} {al : Option Addr} {n c vn : Nat} {L : Lay} {S : St}
theorem own_ne {l : List (Option Nat)} {i j : Nat} {b : Option Nat} (h : Sep l) (hb : l[i]? = some b) {a : Nat} (ha : l[j]? = some (some a)) (hij : i ≠ j) : b ≠ some a := fun e => hij (h i j a (by rw [hb, e]) ha)
theorem low_fresh {g : Nat} (hl : ∀ (i a : Nat), (ownB u L)[i]? = some (some a) → B ≤ a ∧ a < w.heap.size) (hg : w.heap.size ≤ g) : ∀ j : Nat, (ownB u L)[j]? ≠ some (some g) := fun j e => by
  have := (hl j g e).2
  omega
theorem low_set {i : Nat} {b : Option Nat} {z : Nat} (hl : ∀ (i a : Nat), (ownB u L)[i]? = some (some a) → B ≤ a ∧ a < w.heap.size) (hz : w.heap.size ≤ z) (hb : ∀ a, b = some a → B ≤ a ∧ a < z) : ∀ (j a : Nat), ((ownB u L).set i b)[j]? = some (some a) → B ≤ a ∧ a < z := by
  intro j a h
  rw [List.getElem?_set] at h
  split at h
  · split at h
    · injection h with h
      exact hb a h
    · cases h
  · exact ⟨(hl j a h).1, Nat.lt_of_lt_of_le (hl j a h).2 hz⟩
/-- Behind 'ready = append(ready, k)'. -/
theorem UAt.pushQ (h : UAt B w u al n c vn L S) {k : Int} {v' : Value} (hr : w2.ownsRow B 3 1 v' (S.q.length + 1) (rowI S.q ++ [.int .i64 k])) (hg : w.grownBy w2 L.qv.ownBlock) (loc : v'.ownBlock = L.qv.ownBlock ∨ ∃ g, w.heap.size ≤ g ∧ v'.ownBlock = some g) :
    UAt B (w2.setCell ⟨u, 7, none⟩ v') u al n c vn { L with qv := v' } { S with q := S.q ++ [k] } := by
  have hz : w.heap.size ≤ (w2.setCell ⟨u, 7, none⟩ v').heap.size := by have := hg.size; simpa [World.setCell] using this
  have s2 : ∀ (i a : Nat), i ≠ 6 → (ownB u L)[i]? = some (some a) → w2.heap[a]? = w.heap[a]? := fun i a hi e => hg.block a (h.low i a e).2 (own_ne h.sep (i := 6) rfl e (fun c => hi c.symm)).symm
  have hs : ∀ (i a : Nat), i ≠ 6 → i ≠ 0 → (ownB u L)[i]? = some (some a) → (w2.setCell ⟨u, 7, none⟩ v').heap[a]? = w.heap[a]? := fun i a hi h0 e => (heap_setCell_other w2 _ a _ (h.sep.far e (j := 0) (b := u) rfl h0)).trans (s2 i a hi e)
  have hsep : Sep ((ownB u L).set 6 v'.ownBlock) := sep_set h.sep (by
    rcases loc with e | ⟨g, hgz, e⟩
    · left; rw [e]; rfl
    · exact .inr ⟨g, e, low_fresh h.low hgz⟩)
  have hvu : v'.ownBlock ≠ some u := fun e => by
    have := hsep 6 0 u (by rw [e]; rfl) rfl
    omega
  have e1 : (S.q ++ [k]).length = S.q.length + 1 := by simp
  have e2 : rowI (S.q ++ [k]) = rowI S.q ++ [.int .i64 k] := by simp [rowI]
  refine ⟨heap_setCell_same w2 u 7 _ _ _ ((s2 0 u (by decide) rfl).trans h.cu), same_map h.mp (hs 1 L.m (by decide) (by decide) rfl), (hs 2 L.lb (by decide) (by decide) rfl).trans h.lf, h.ln, (hs 3 L.nb (by decide) (by decide) rfl).trans h.nw, h.nn, same_row h.came (fun g e => hs 4 g (by decide) (by decide) (by simp [ownB, e])),
    same_row h.pl (fun g e => hs 5 g (by decide) (by decide) (by simp [ownB, e])), ?_, low_set (u := u) (L := L) (w := w) (i := 6) (b := v'.ownBlock) h.low hz (fun a e => ?_), hsep⟩
  · show (w2.setCell ⟨u, 7, none⟩ v').ownsRow B _ 1 v' (S.q ++ [k]).length (rowI (S.q ++ [k]))
    rw [e1, e2]
    exact row_setCell hr _ hvu
  · have := hr.lt a e
    exact ⟨this.1, by simpa [World.setCell] using this.2⟩
/-- Behind 'places = append(places, p)'. -/
theorem UAt.pushP (h : UAt B w u al n c vn L S) {p : Int × Int} {v' : Value} (hr : w2.ownsRow B 96 2 v' (S.P.length + 1) (rowP S.P ++ [.int .i64 p.1, .int .i64 p.2])) (hg : w.grownBy w2 L.pv.ownBlock) (loc : v'.ownBlock = L.pv.ownBlock ∨ ∃ g, w.heap.size ≤ g ∧ v'.ownBlock = some g) :
    UAt B (w2.setCell ⟨u, 5, none⟩ v') u al n c vn { L with pv := v' } { S with P := S.P ++ [p] } := by
  have hz : w.heap.size ≤ (w2.setCell ⟨u, 5, none⟩ v').heap.size := by have := hg.size; simpa [World.setCell] using this
  have s2 : ∀ (i a : Nat), i ≠ 5 → (ownB u L)[i]? = some (some a) → w2.heap[a]? = w.heap[a]? := fun i a hi e => hg.block a (h.low i a e).2 (own_ne h.sep (i := 5) rfl e (fun c => hi c.symm)).symm
  have hs : ∀ (i a : Nat), i ≠ 5 → i ≠ 0 → (ownB u L)[i]? = some (some a) → (w2.setCell ⟨u, 5, none⟩ v').heap[a]? = w.heap[a]? := fun i a hi h0 e => (heap_setCell_other w2 _ a _ (h.sep.far e (j := 0) (b := u) rfl h0)).trans (s2 i a hi e)
  have hsep : Sep ((ownB u L).set 5 v'.ownBlock) := sep_set h.sep (by
    rcases loc with e | ⟨g, hgz, e⟩
    · left; rw [e]; rfl
    · exact .inr ⟨g, e, low_fresh h.low hgz⟩)
  have hvu : v'.ownBlock ≠ some u := fun e => by
    have := hsep 5 0 u (by rw [e]; rfl) rfl
    omega
  have e1 : (S.P ++ [p]).length = S.P.length + 1 := by simp
  refine ⟨heap_setCell_same w2 u 5 _ _ _ ((s2 0 u (by decide) rfl).trans h.cu), same_map h.mp (hs 1 L.m (by decide) (by decide) rfl), (hs 2 L.lb (by decide) (by decide) rfl).trans h.lf, h.ln, (hs 3 L.nb (by decide) (by decide) rfl).trans h.nw, h.nn, same_row h.came (fun g e => hs 4 g (by decide) (by decide) (by simp [ownB, e])),
    ?_, same_row h.qu (fun g e => hs 6 g (by decide) (by decide) (by simp [ownB, e])), low_set (u := u) (L := L) (w := w) (i := 5) (b := v'.ownBlock) h.low hz (fun a e => ?_), hsep⟩
  · show (w2.setCell ⟨u, 5, none⟩ v').ownsRow B _ 2 v' (S.P ++ [p]).length (rowP (S.P ++ [p]))
    rw [e1, rowP_app]
    exact row_setCell hr _ hvu
  · have := hr.lt a e
    exact ⟨this.1, by simpa [World.setCell] using this.2⟩
theorem MidAt.same {w' : World} {l : Int} (h : MidAt B w u al n c vn L S l) (hz : w.heap.size ≤ w'.heap.size) (hs : ∀ (i a : Nat), (ownB u L)[i]? = some (some a) → w'.heap[a]? = w.heap[a]?) : MidAt B w' u al n c vn L S l :=
  ⟨(hs 0 u rfl).trans h.cu, same_map h.mp (hs 1 L.m rfl), (hs 2 L.lb rfl).trans h.lf, h.ln, (hs 3 L.nb rfl).trans h.nw, h.nn, same_row h.came (fun g e => hs 4 g (by simp [ownB, e])), same_row h.pl (fun g e => hs 5 g (by simp [ownB, e])),
    same_row h.qu (fun g e => hs 6 g (by simp [ownB, e])), fun i a e => ⟨(h.low i a e).1, Nat.lt_of_lt_of_le (h.low i a e).2 hz⟩, h.sep⟩
theorem MidAt.cells {l : Int} (h : MidAt B w u al n c vn L S l) : (∀ j, w.cell? ⟨u, j, none⟩ = (cellsU al n c vn L S.br)[j]?) ∧ ∀ j, w.frozen? ⟨u, j, none⟩ = false :=
  ⟨fun j => cell_of_row w u j _ _ _ h.cu, fun j => frozen_of_row w u j _ _ h.cu⟩
/-- Behind 'came = append(came, l)'. -/
theorem MidAt.pushT {l : Int} (h : MidAt B w u al n c vn L S l) {v' : Value} (hr : w2.ownsRow B 3 1 v' (S.T.length + 1) (rowI S.T ++ [.int .i64 l])) (hg : w.grownBy w2 L.cv.ownBlock) (loc : v'.ownBlock = L.cv.ownBlock ∨ ∃ g, w.heap.size ≤ g ∧ v'.ownBlock = some g) :
    UAt B (w2.setCell ⟨u, 2, none⟩ v') u al n c vn { L with cv := v' } { S with T := S.T ++ [l] } := by
  have hz : w.heap.size ≤ (w2.setCell ⟨u, 2, none⟩ v').heap.size := by have := hg.size; simpa [World.setCell] using this
  have s2 : ∀ (i a : Nat), i ≠ 4 → (ownB u L)[i]? = some (some a) → w2.heap[a]? = w.heap[a]? := fun i a hi e => hg.block a (h.low i a e).2 (own_ne h.sep (i := 4) rfl e (fun c => hi c.symm)).symm
  have hs : ∀ (i a : Nat), i ≠ 4 → i ≠ 0 → (ownB u L)[i]? = some (some a) → (w2.setCell ⟨u, 2, none⟩ v').heap[a]? = w.heap[a]? := fun i a hi h0 e => (heap_setCell_other w2 _ a _ (h.sep.far e (j := 0) (b := u) rfl h0)).trans (s2 i a hi e)
  have hsep : Sep ((ownB u L).set 4 v'.ownBlock) := sep_set h.sep (by
    rcases loc with e | ⟨g, hgz, e⟩
    · left; rw [e]; rfl
    · exact .inr ⟨g, e, low_fresh h.low hgz⟩)
  have hvu : v'.ownBlock ≠ some u := fun e => by
    have := hsep 4 0 u (by rw [e]; rfl) rfl
    omega
  have e1 : (S.T ++ [l]).length = S.T.length + 1 := by simp
  have e2 : rowI (S.T ++ [l]) = rowI S.T ++ [.int .i64 l] := by simp [rowI]
  refine ⟨heap_setCell_same w2 u 2 _ _ _ ((s2 0 u (by decide) rfl).trans h.cu), ?_, (hs 2 L.lb (by decide) (by decide) rfl).trans h.lf, h.ln, (hs 3 L.nb (by decide) (by decide) rfl).trans h.nw, h.nn, ?_,
    same_row h.pl (fun g e => hs 5 g (by decide) (by decide) (by simp [ownB, e])), same_row h.qu (fun g e => hs 6 g (by decide) (by decide) (by simp [ownB, e])), low_set (u := u) (L := L) (w := w) (i := 4) (b := v'.ownBlock) h.low hz (fun a e => ?_), hsep⟩
  · show ∃ D : DataW Unit, (w2.setCell ⟨u, 2, none⟩ v').ownsMap _ _ _ L.m (S.T ++ [l]).length D ∧ _
    rw [e1]
    exact same_map h.mp (hs 1 L.m (by decide) (by decide) rfl)
  · show (w2.setCell ⟨u, 2, none⟩ v').ownsRow B _ 1 v' (S.T ++ [l]).length (rowI (S.T ++ [l]))
    rw [e1, e2]
    exact row_setCell hr _ hvu
  · have := hr.lt a e
    exact ⟨this.1, by simpa [World.setCell] using this.2⟩
end

/-- What an append leaves: the row, what has turned, where it lies. -/
structure Grew (B : Nat) (w w' : World) (e : TypeId) (size : Nat) (v : Value) (n : Nat) (xs : List Value) (g c : Nat) : Prop where
  row : w'.ownsRow B e size (.slice (some ⟨g, 0, none⟩) (n + 1) c) (n + 1) xs
  gr : w.grownBy w' v.ownBlock
  loc : (Value.slice (some ⟨g, 0, none⟩) (n + 1) c).ownBlock = v.ownBlock ∨ ∃ g', w.heap.size ≤ g' ∧ (Value.slice (some ⟨g, 0, none⟩) (n + 1) c).ownBlock = some g'
/-- 'x = append(x, y)', x a row of the call's own, outside a region that draws. -/
theorem wpList_grew {B : Nat} {e t : TypeId} {z0 : Value} {bytes size : Nat} (hinf : (Tryd.prog.info? e).map (fun i => (i.zero, i.size, i.bytes)) = some (some z0, size, bytes)) (ht : Tryd.prog.underlying t = some (.slice e)) (hz0 : z0.cells.size = size) (hsz : 0 < size) (hby : bytes ≤ 100)
    {w w0 : World} {v : Value} {n : Nat} {xs : List Value} {news : Array Value} {ops : Array Oper} {rest : List Oper} {o : Oper} {a : Act} {Q : Exit → Act → World → Prop} (hgd : o.guard = none) (s x : Operand)
    (ho : o.op = .call { callee := .builtin .append, args := #[s, x], argTypes := #[t, t] }) (hs : a.eval s = v) (h : w0.ownsRow B e size v n xs) (hB : B ≤ w0.heap.size) (hw : w = w0.alloc (.cells news e)) (hns : news.size = size) (h1 : ∀ u ∈ news.toList, u.oneCell' = true)
    (hx : a.eval x = .slice (some ⟨w0.heap.size, 0, none⟩) 1 1) (hl : n + 1 ≤ 1000000001) (k : ∀ g c w', Grew B w w' e size v n (xs ++ news.toList) g c → wpList Tryd.prog ops Q rest (a.put o.dst (.slice (some ⟨g, 0, none⟩) (n + 1) c)) w') : wpList Tryd.prog ops Q (o :: rest) a w := by
  obtain ⟨i0, hinfo, hz0', hz1, hz2⟩ := infos hinf
  subst hw
  have hcell : ∀ (j : Nat) (u : Value), news.toList[j]? = some u → (w0.alloc (.cells news e)).cell? ((⟨w0.heap.size, 0, none⟩ : Addr).add j) = some u := fun j u hj => by
    have ea : (⟨w0.heap.size, 0, none⟩ : Addr).add j = ⟨w0.heap.size, j, none⟩ := by unfold Addr.add; split <;> simp_all
    rw [ea, new_cell]
    simpa using hj
  refine wpList_append_own_at _ hgd s x t ho B e i0 z0 size bytes ht hinfo hz0' hz1 hz2 hz0 hsz v n xs hs (h.alloc _) ⟨w0.heap.size, 0, none⟩ 1 1 news.toList hx (by simpa using hns) hcell h1 (by unfold maxLen; omega) (Nat.le_trans (Nat.mul_le_mul hl hby) (by decide)) (by simp; omega) ?_
  intro v' w2 hrow hgr _ hloc
  obtain ⟨g, c, rfl⟩ := row_slice hrow
  exact k g c w2 ⟨hrow, hgr, hloc.imp id fun e => ⟨_, Nat.le_refl _, e⟩⟩
end Cf
end Go.Proofs.YtcpehdeddgfpmaaDoor
