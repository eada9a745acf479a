/-
  The queue of clauses: Push and Pop, and container/heap's over it.
-/
import Derived.Test.YtmgkgbhkaoflhaaB4
import Derived.Test.YtmgkgbhkaoflhaaCuHeapW
namespace Go.Proofs.Ytmgkgbhkaoflhaa
open Go.RowKit Go.Maps Go.Sort
namespace Cf
set_option maxHeartbeats 2000000
set_option maxRecDepth 100000

theorem low_bel {B : Nat} {w w' : World} {row : Option Nat} (hB : B ≤ w.heap.size) (hg : w.grownBy w' row) (hr : ∀ g, row = some g → B ≤ g) : Below B w w' :=
  ⟨hg.os, hg.tape, hg.output, hg.size, fun i hi => hg.block i (by omega) (fun e => by have := hr i e.symm; omega)⟩
theorem UAt.u_far {B : Nat} {w w2 : World} {u : Nat} {al : Option Addr} {n c vn : Nat} {L : Lay} {S : St} (h : UAt B w u al n c vn L S) {i : Nat} {b : Option Nat} (hi : (ownB u L)[i]? = some b) (h0 : i ≠ 0) (hg : w.grownBy w2 b) :
    (∀ j, w2.cell? ⟨u, j, none⟩ = (cellsU al n c vn L S.br)[j]?) ∧ ∀ j, w2.frozen? ⟨u, j, none⟩ = false := by
  have e := hg.block u (h.low 0 u rfl).2 (own_ne h.sep hi (j := 0) (a := u) rfl h0).symm
  exact ⟨fun j => (World.cell?_of_block (a := ⟨u, j, none⟩) e).trans (h.cells.1 j), fun j => (World.frozen?_of_block (a := ⟨u, j, none⟩) e).trans (h.cells.2 j)⟩
theorem bel_setU {B : Nat} {w w' : World} {u : Nat} (h : Below B w w') (hu : B ≤ u) (j : Nat) (v : Value) : Below B w (w'.setCell ⟨u, j, none⟩ v) :=
  h.trans ⟨rfl, rfl, rfl, by simp [World.setCell], fun i hi => heap_setCell_other w' _ i _ (by simp; omega)⟩
theorem qpush_any {B : Nat} {w : World} {u : Nat} {al : Option Addr} {n c vn : Nat} {L : Lay} {S : St} (h : UAt B w u al n c vn L S) (hB : B ≤ w.heap.size) (hl : S.q.length < 1000000000) (k : Int) :
    Calls Try.prog 105 #[.pointer (some ⟨u, 7, none⟩), .iface 3 (.int .i64 k)] w fun e w' => e = .returned (.tuple #[]) ∧ ∃ v', UAt B w' u al n c vn { L with qv := v' } { S with q := S.q ++ [k] } ∧ Below B w w' := by
  have HU := Lib.hid h
  obtain ⟨qa, qc, hq⟩ := row_shape h.qu
  have c7 : w.cell? ⟨u, 7, none⟩ = some (.slice qa S.q.length qc) := by rw [h.cells.1 7, ← hq]; rfl
  have f7 := h.cells.2 7
  have hu := (h.low 0 u rfl).2
  have HB := Lib.hid hB
  clear h hB
  go_enter Try.func105, Try.ntmps105
  obtain ⟨i0, hinfo, hz0, hz1, hz2⟩ := infos info_int
  have S1 := (HU.out.drew).alloc (.cells #[.int .i64 k] 3)
  have hb1 : B ≤ ((w.drew).alloc (.cells #[.int .i64 k] 3)).heap.size := by have := HB.out; simp; omega
  have HS1 := Lib.hid S1
  have HH1 := Lib.hid hb1
  have hta : ∀ W, (Instr.typeAssert (.iface 3 (.int .i64 k)) 20 3 false).run Try.prog W = .ok (.int .i64 k) W := fun W => by kernel_rfl
  clear S1 hb1
  go_wp2_with fail
  go_region_law (refine step_append_at rfl (.tmp 8) (.tmp 11) 61 61 rfl B 3 i0 (.int .i64 0) 1 8 rfl Try.underlying61 hinfo hz0 hz1 hz2 rfl (by decide) (.slice qa S.q.length qc) S.q.length (rowI S.q) (by simp [Act.eval]) (hq ▸ HS1.out.qu) ⟨w.heap.size, 0, none⟩ 1 1 [.int .i64 k] (by simp [Act.eval]) rfl (cell_one_new w.drew (.int .i64 k) 3) (by intro u hu; simp at hu; subst hu; rfl) (by unfold maxLen; omega) (by omega) HH1.out ?_; intro v' w2 hrow hgr hloc; obtain ⟨g', c', rfl⟩ := row_slice hrow; have C7 := (HS1.out.u_far (i := 6) (by rw [← hq]; rfl) (by decide) hgr).1 7; have F7 := (HS1.out.u_far (i := 6) (by rw [← hq]; rfl) (by decide) hgr).2 7; rw [show (cellsU al n c vn L S.br)[7]? = some L.qv from rfl] at C7)
  all_goals go_wp2_with fail
  all_goals go_end0
  all_goals
    refine ⟨rfl, _, HS1.out.pushQ (k := k) hrow (by rw [← hq] at hgr; exact hgr) (hloc.imp (fun e => by rw [hq]; exact e) (fun e => ⟨_, Nat.le_refl _, e⟩)), ?_⟩
    refine bel_setU (Below.trans (b := (w.drew).alloc (.cells #[.int .i64 k] 3)) ?_ (low_bel HH1.out hgr (fun g e => (HS1.out.qu.lt g (by rw [hq]; exact e)).1))) (HU.out.low 0 u rfl).1 7 _
    have := HB.out
    exact (Below.refl B w).drew.alloc this _

theorem qpop_any {B : Nat} {w : World} {u : Nat} {al : Option Addr} {n c vn : Nat} {L : Lay} {S : St} (h : UAt B w u al n c vn L S) (hl : S.q.length < 1000000000) {q0 : List Int} {k : Int} (hq : S.q = q0 ++ [k]) :
    Calls Try.prog 104 #[.pointer (some ⟨u, 7, none⟩)] w fun e w' => e = .returned (.iface 3 (.int .i64 k)) ∧ ∃ v', UAt B w' u al n c vn { L with qv := v' } { S with q := q0 } ∧ Below B w w' := by
  have hlen : S.q.length = q0.length + 1 := by rw [hq]; simp
  have HU := Lib.hid h
  have hrow := h.qu
  rw [hlen] at hrow
  obtain ⟨g, cap, hv⟩ := row_slice hrow
  have c7 : w.cell? ⟨u, 7, none⟩ = some (.slice (some ⟨g, 0, none⟩) (q0.length + 1) cap) := by rw [h.cells.1 7, ← hv]; rfl
  have f7 := h.cells.2 7
  have hrow2 := hrow
  rcases hrow with ⟨hxl, ⟨h1, h2⟩ | ⟨g2, cap2, cur, hv2, hb2, hh2, hn2, hm2, hs2, ht2⟩⟩
  · omega
  have hgg := hv.symm.trans hv2
  injection hgg with e1 e2 e3
  injection e1 with e1
  injection e1 with e1
  subst e1
  subst e3
  have hk0 : w.cell? ⟨g, q0.length, none⟩ = some (.int .i64 k) := by
    have := hrow2.cells (g := g) (by rw [hv]; rfl) q0.length (.int .i64 k) (by simp [rowI, hq])
    have e : (⟨g, 0, none⟩ : Addr).add q0.length = ⟨g, q0.length, none⟩ := by unfold Addr.add; split <;> simp_all
    rw [e] at this
    exact this
  have hcap : q0.length + 1 ≤ cap := hn2
  have hcap2 : cap ≤ 9223372036854775807 := by unfold maxLen at hm2; exact hm2
  have hq1 : q0.length < 1000000000 := by omega
  have hi1 : IntKind.i64.wrap (((q0.length : Nat) : Int) + 1 - 1) = ((q0.length : Nat) : Int) := by rw [IntKind.wrap_i64]; omega
  have HN : Hid (UAt B (w.setCell ⟨u, 7, none⟩ (.slice (some ⟨g, 0, none⟩) q0.length cap)) u al n c vn { L with qv := .slice (some ⟨g, 0, none⟩) q0.length cap } { S with q := q0 }) := by
    have hz : w.heap.size ≤ (w.setCell ⟨u, 7, none⟩ (.slice (some ⟨g, 0, none⟩) q0.length cap)).heap.size := by simp [World.setCell]
    have hs : ∀ (i a : Nat), i ≠ 0 → (ownB u L)[i]? = some (some a) → (w.setCell ⟨u, 7, none⟩ (.slice (some ⟨g, 0, none⟩) q0.length cap)).heap[a]? = w.heap[a]? := fun i a h0 e => heap_setCell_other w _ a _ (h.sep.far e (j := 0) (b := u) rfl h0)
    have ho : ownB u { L with qv := .slice (some ⟨g, 0, none⟩) q0.length cap } = ownB u L := by
      unfold ownB
      rw [hv]
      rfl
    refine ⟨heap_setCell_same w u 7 _ _ _ h.cu, same_map h.mp (hs 1 L.m (by decide) rfl), (hs 2 L.lb (by decide) rfl).trans h.lf, h.ln, (hs 3 L.nb (by decide) rfl).trans h.nw, h.nn, same_row h.came (fun g e => hs 4 g (by decide) (by simp [ownB, e])),
      same_row h.pl (fun g e => hs 5 g (by decide) (by simp [ownB, e])), ?_, by rw [ho]; exact fun i a e => ⟨(h.low i a e).1, Nat.lt_of_lt_of_le (h.low i a e).2 hz⟩, by rw [ho]; exact h.sep⟩
    refine ⟨by simp [rowI], .inr ⟨g, cap, cur, rfl, hb2, (hs 6 g (by decide) (by simp [ownB, hv, Value.ownBlock])).trans hh2, (by show q0.length ≤ cap; omega), hm2, hs2, ?_⟩⟩
    show cur.toList.take (q0.length * 1) = rowI q0
    have e : cur.toList.take (q0.length * 1) = (cur.toList.take ((q0.length + 1) * 1)).take (q0.length * 1) := by
      rw [List.take_take]; congr 1; omega
    rw [e, ht2, hq]
    simp [rowI]
  have HB : Hid (Below B w (w.setCell ⟨u, 7, none⟩ (.slice (some ⟨g, 0, none⟩) q0.length cap))) := bel_setU (Below.refl B w) (h.low 0 u rfl).1 7 _
  clear h hrow2 hq hxl hh2 hs2 ht2 hv2 hv hlen
  go_enter Try.func104, Try.ntmps104
  go_wp2_with (go_at_call 36; refine (slen_any _ _ _ _).mono ?_; rintro e w' ⟨rfl, rfl⟩)
  go_ret
  exact ⟨rfl, _, HN.out, HB.out⟩

/-! ### container/heap's Push and Pop -/
section
variable {B : Nat} {w : World} {u : Nat} {al : Option Addr} {n c vn : Nat} {L : Lay} {S : St}
theorem UAt.que (h : UAt B w u al n c vn L S) (hne : S.q ≠ []) : ∃ g cap, L.qv = .slice (some ⟨g, 0, none⟩) S.q.length cap ∧ QueAt w u g S.q.length cap S.q.toArray := by
  have hrow := h.qu
  obtain ⟨q0, k, hq⟩ : ∃ q0 k, S.q = q0 ++ [k] := ⟨_, _, (List.dropLast_concat_getLast hne).symm⟩
  have hlen : S.q.length = q0.length + 1 := by rw [hq]; simp
  rcases h.qu with ⟨_, ⟨h1, h2⟩ | ⟨g, cap, cur, hv, hb, hh, hn, hm, hs, ht⟩⟩
  · omega
  · refine ⟨g, cap, hv, fun e => ?_, by simp, by rw [h.cells.1 7, ← hv]; rfl, fun j hj => ⟨?_, frozen_of_row w g _ _ _ hh⟩⟩
    · have := h.sep 0 6 u rfl (by simp [ownB, hv, Value.ownBlock, e])
      omega
    · have hj2 : j < S.q.length := by simpa using hj
      have := hrow.cells (g := g) (by rw [hv]; rfl) j (.int .i64 S.q[j]) (by simp [rowI, hj2])
      have e : (⟨g, 0, none⟩ : Addr).add j = ⟨g, 0 + j, none⟩ := by unfold Addr.add; split <;> simp_all
      rw [e] at this
      rw [this]
      simp [QI, hj2]
theorem UAt.putQ (h : UAt B w u al n c vn L S) {g cap : Nat} (hv : L.qv = .slice (some ⟨g, 0, none⟩) S.q.length cap) (d : Array Int) (hd : d.size = S.q.length) (m : Nat) :
    UAt B (putRow QI (Sort.ahead w m) g 0 d) u al n c vn L { S with q := d.toList } ∧ Below B w (putRow QI (Sort.ahead w m) g 0 d) := by
  have hs : ∀ a, a ≠ g → (putRow QI (Sort.ahead w m) g 0 d).heap[a]? = w.heap[a]? := fun a ha => by
    unfold putRow mapBlock
    simp only [Array.getElem?_modify, heap_ahead]
    rw [if_neg (fun e => ha e.symm)]
  have hz : (putRow QI (Sort.ahead w m) g 0 d).heap.size = w.heap.size := by simp
  have hg6 : (ownB u L)[6]? = some (some g) := by simp [ownB, hv, Value.ownBlock]
  have ho : ∀ (i a : Nat), i ≠ 6 → (ownB u L)[i]? = some (some a) → (putRow QI (Sort.ahead w m) g 0 d).heap[a]? = w.heap[a]? := fun i a hi e => hs a (h.sep.far e hg6 hi)
  refine ⟨⟨(ho 0 u (by decide) rfl).trans h.cu, same_map h.mp (ho 1 L.m (by decide) rfl), (ho 2 L.lb (by decide) rfl).trans h.lf, h.ln, (ho 3 L.nb (by decide) rfl).trans h.nw, h.nn, same_row h.came (fun g e => ho 4 g (by decide) (by simp [ownB, e])),
    same_row h.pl (fun g e => ho 5 g (by decide) (by simp [ownB, e])), ?_, fun i a e => by rw [hz]; exact h.low i a e, h.sep⟩, ⟨rfl, rfl, rfl, by rw [hz]; exact Nat.le_refl _, fun i hi => hs i (fun e => by have := (h.low 6 g hg6).1; omega)⟩⟩
  rcases h.qu with ⟨_, ⟨h1, h2⟩ | ⟨g2, cap2, cur, hv2, hb, hh, hn, hm, hs2, ht⟩⟩
  · rw [h1] at hv
    cases hv
  · have hgg := hv.symm.trans hv2
    injection hgg with e1 e2 e3
    injection e1 with e1
    injection e1 with e1
    subst e1
    subst e3
    have e0 : d.toList.length = S.q.length := by simpa using hd
    refine ⟨by simp [rowI], .inr ⟨g, cap, putCells QI 0 d cur, by rw [hv]; show _ = Value.slice _ d.toList.length _; rw [e0], hb, ?_, by show d.toList.length ≤ cap; omega, hm, by simp [putCells, hs2], ?_⟩⟩
    · unfold putRow mapBlock
      simp only [Array.getElem?_modify, heap_ahead, if_true, hh]
      rfl
    · show (putCells QI 0 d cur).toList.take (d.toList.length * 1) = rowI d.toList
      apply List.ext_getElem?
      intro j
      rw [List.getElem?_take]
      by_cases hj : j < d.size
      · have hc : j < cur.size := by omega
        rw [if_pos (by simpa using hj)]
        simp [putCells, rowI, hj, hc, QI]
      · rw [if_neg (by simpa using hj)]
        symm
        rw [List.getElem?_eq_none_iff]
        simp [rowI]
        exact Nat.not_lt.1 hj
end
/-- A heap as a list. -/
def HeapL (q : List Int) : Prop := Par q.toArray q.length
theorem mem_list {q : List Int} {y : Int} : Mem q.toArray q.length y ↔ y ∈ q := by
  constructor
  · rintro ⟨j, hj, rfl⟩
    simp [hj]
  · intro h
    obtain ⟨j, hj, e⟩ := List.getElem_of_mem h
    exact ⟨j, hj, by simp [hj, e]⟩
theorem app_at {q : List Int} {k : Int} {i : Nat} (h : i < q.length) : (q ++ [k]).toArray[i]! = q.toArray[i]! := by
  simp [List.getElem?_append, h]
/-- What Push makes of a queue. -/
def PushR (q : List Int) (k : Int) (q' : List Int) : Prop := q'.length = q.length + 1 ∧ HeapL q' ∧ ∀ y, y ∈ q' ↔ y ∈ q ∨ y = k
theorem push_ok {q : List Int} {k : Int} (h : HeapL q) : PushR q k (siftUp q.length (q ++ [k]).toArray).toList := by
  have hs : (q ++ [k]).toArray.size = q.length + 1 := by simp
  obtain ⟨a, b, c⟩ := up_ok q.length (n := q.length + 1) (j := q.length) (d := (q ++ [k]).toArray) (Nat.le_refl _) (by omega) (by omega) ⟨fun i h0 hi hne => by
      have e : i < q.length := by omega
      have := h i h0 e
      have g1 : (i - 1) / 2 < q.length := by omega
      rw [app_at e, app_at g1]
      exact this, fun i h0 hi hp _ => by omega⟩
  have hl : (siftUp q.length (q ++ [k]).toArray).toList.length = q.length + 1 := by simpa using b
  refine ⟨hl, ?_, fun y => ?_⟩
  · unfold HeapL
    rw [hl]
    exact a
  · have := mem_list (q := (siftUp q.length (q ++ [k]).toArray).toList) (y := y)
    rw [hl] at this
    rw [← this]
    have e := mem_list (q := q ++ [k]) (y := y)
    rw [show (q ++ [k]).length = q.length + 1 by simp] at e
    exact (c y).trans (e.trans (by simp))
theorem hpush_any {B : Nat} {w : World} {u : Nat} {al : Option Addr} {n c vn : Nat} {L : Lay} {S : St} (h : UAt B w u al n c vn L S) (hB : B ≤ w.heap.size) (hl : S.q.length < 100000000) (hh : HeapL S.q) (k : Int) :
    Calls Try.prog 61 #[.iface 68 (.pointer (some ⟨u, 7, none⟩)), .iface 3 (.int .i64 k)] w fun e w' => e = .returned (.tuple #[]) ∧ ∃ L' q', UAt B w' u al n c vn L' { S with q := q' } ∧ PushR S.q k q' ∧ Below B w w' := by
  have HP := Lib.hid (qpush_any h hB (by omega) k)
  have HH := Lib.hid hh
  clear h
  have mP : ∀ W, Sem.run Try.prog (method 257 68 (.pointer (some ⟨u, 7, none⟩)) "Push") W = .ok (105, .pointer (some ⟨u, 7, none⟩)) W := fun W => by kernel_rfl
  go_enter Try.func61, Try.ntmps61
  go_wp2_with fail
  refine HP.out.mono ?_
  rintro e w1 ⟨rfl, v', hu1, hb1⟩
  obtain ⟨g, cap, hv, hQ⟩ := hu1.que (by simp)
  have hlen : (S.q ++ [k]).length = S.q.length + 1 := by simp
  have hQ' : QueAt w1 u g (S.q.length + 1) cap (S.q ++ [k]).toArray := by rw [← hlen]; exact hQ
  have mL := (found u _ _ hQ'.c).1
  simp only [Made.depth, ← fuel_is] at mL
  have HUP := Lib.hid (hup_any hQ' (by omega) (j := S.q.length) (by omega))
  have hi1 : (((S.q.length + 1 : Nat) : Nat) : Int) - 1 = ((S.q.length : Nat) : Int) := by omega
  have HU1 := Lib.hid hu1
  have HB1 := Lib.hid hb1
  clear hQ hQ' hu1 hb1 hlen
  go_wp2_with (first | (go_at_call 36; refine (slen_any _ _ _ _).mono ?_; rintro e w' ⟨rfl, rfl⟩) | (go_at_call 65; refine HUP.out.mono ?_; rintro e w2 ⟨rfl, q, rfl⟩))
  go_end0
  have hd : (siftUp S.q.length (S.q ++ [k]).toArray).size = S.q.length + 1 := by have := (push_ok (k := k) HH.out).1; simpa using this
  obtain ⟨a, b⟩ := HU1.out.putQ hv (siftUp S.q.length (S.q ++ [k]).toArray) (by rw [hd]; simp) q
  exact ⟨rfl, _, _, a, push_ok HH.out, HB1.out.trans b⟩
/-- What Pop makes of a queue. -/
def PopR (q : List Int) (k : Int) (q' : List Int) : Prop := q.length = q'.length + 1 ∧ HeapL q' ∧ (∀ y, y ∈ q ↔ y ∈ q' ∨ y = k) ∧ ∀ y ∈ q, k ≤ y
theorem dl_at {D : Array Int} {n i : Nat} (hs : D.size = n + 1) (hi : i < n) : D.toList.dropLast.toArray[i]! = D[i]! := by
  rw [getElem!_pos D i (by omega)]
  simp [hs, hi]
theorem pop_ok {q : List Int} {n : Nat} (h : HeapL q) (hn : q.length = n + 1) : ∃ q0, (siftDown ltR n 0 0 (swp q.toArray 0 n)).toList = q0 ++ [q.toArray[0]!] ∧ q0.length = n ∧ PopR q q.toArray[0]! q0 := by
  have hsz : (swp q.toArray 0 n).size = n + 1 := by rw [size_swp]; simpa using hn
  have hat := swp_at q.toArray (i := 0) (j := n) (by simp; omega) (by simp; omega)
  have H : Par (siftDown ltR n 0 0 (swp q.toArray 0 n)) n ∧ (siftDown ltR n 0 0 (swp q.toArray 0 n)).size = n + 1 ∧ (∀ y, Mem (siftDown ltR n 0 0 (swp q.toArray 0 n)) n y ↔ Mem (swp q.toArray 0 n) n y) ∧ (siftDown ltR n 0 0 (swp q.toArray 0 n))[n]! = q.toArray[0]! := by
    by_cases h0 : n = 0
    · subst h0
      rw [sd_end ltR _ (by omega)]
      exact ⟨fun k hk hk2 => by omega, hsz, fun _ => Iff.rfl, by rw [hat]; simp⟩
    · obtain ⟨a, b, c, d⟩ := sift_ok n (n := n) (root := 0) (d := swp q.toArray 0 n) (by omega) (by omega) (by omega) ⟨fun k hk hkn hp => by
        rw [hat, hat k, if_neg (by omega), if_neg hp, if_neg (by omega), if_neg (by omega)]
        exact h k hk (by omega), fun k hk hkn hp hh => by omega⟩
      exact ⟨a, by rw [b, hsz], c, by rw [d n (Nat.le_refl _), hat n, if_pos rfl]⟩
  obtain ⟨hp, hs, hm, hlast⟩ := H
  generalize siftDown ltR n 0 0 (swp q.toArray 0 n) = D at hp hs hm hlast ⊢
  have hl : D.toList.length = n + 1 := by simpa using hs
  have hne : D.toList ≠ [] := fun e => by rw [e] at hl; simp at hl
  have hsplit := (List.dropLast_concat_getLast hne).symm
  have hlast2 : D.toList.getLast hne = q.toArray[0]! := by
    rw [← hlast, List.getLast_eq_getElem]
    simp [hl, hs]
  rw [hlast2] at hsplit
  have hl0 : D.toList.dropLast.length = n := by simp [hs]
  refine ⟨D.toList.dropLast, hsplit, hl0, by omega, ?_, fun y => ?_, fun y hy => ?_⟩
  · intro k hk hkn
    rw [hl0] at hkn
    have := hp k hk hkn
    have g1 : (k - 1) / 2 < n := by omega
    rw [dl_at hs g1, dl_at hs hkn]
    exact this
  · have e1 : Mem D n y ↔ y ∈ D.toList.dropLast := by
      rw [← mem_list, hl0]
      constructor
      · rintro ⟨j, hj, rfl⟩; exact ⟨j, hj, dl_at hs hj⟩
      · rintro ⟨j, hj, rfl⟩; exact ⟨j, hj, (dl_at hs hj).symm⟩
    rw [← e1, hm y, ← mem_list, hn]
    constructor
    · rintro ⟨j, hj, rfl⟩
      by_cases h0 : j = 0
      · exact .inr (by rw [h0])
      · by_cases h1 : j = n
        · exact .inl ⟨0, by omega, by rw [hat 0, if_neg (by omega), if_pos rfl, h1]⟩
        · exact .inl ⟨j, by omega, by rw [hat j, if_neg h1, if_neg h0]⟩
    · rintro (⟨j, hj, rfl⟩ | rfl)
      · rw [hat j, if_neg (by omega)]
        split
        · exact ⟨n, by omega, rfl⟩
        · exact ⟨j, by omega, rfl⟩
      · exact ⟨0, by omega, rfl⟩
  · obtain ⟨j, hj, rfl⟩ := mem_list.2 hy
    exact par_least h j (Nat.le_refl _) hj
theorem hpop_any {B : Nat} {w : World} {u : Nat} {al : Option Addr} {n c vn : Nat} {L : Lay} {S : St} (h : UAt B w u al n c vn L S) (hl : S.q.length < 100000000) (hh : HeapL S.q) (hne : S.q ≠ []) :
    Calls Try.prog 38 #[.iface 68 (.pointer (some ⟨u, 7, none⟩))] w fun e w' => ∃ k, e = .returned (.iface 3 (.int .i64 k)) ∧ ∃ L' q', UAt B w' u al n c vn L' { S with q := q' } ∧ PopR S.q k q' ∧ Below B w w' := by
  obtain ⟨g, cap, hv, hQ⟩ := h.que hne
  obtain ⟨m, hm⟩ : ∃ m, S.q.length = m + 1 := ⟨S.q.length - 1, by have := List.length_pos_iff.2 hne; omega⟩
  obtain ⟨x, q0, hq0, hR⟩ : ∃ x q0, (siftDown ltR m 0 0 (swp S.q.toArray 0 m)).toList = q0 ++ [x] ∧ PopR S.q x q0 := by
    obtain ⟨q0, h1, _, h2⟩ := pop_ok hh hm
    exact ⟨_, q0, h1, h2⟩
  have hd : (siftDown ltR m 0 0 (swp S.q.toArray 0 m)).size = S.q.length := by
    have e := congrArg List.length hq0
    have e2 := hR.1
    rw [List.length_append, Array.length_toList] at e
    rw [e, e2]
    rfl
  have HV := Lib.hid hv
  have HH := Lib.hid h
  have HR := Lib.hid hR
  have HD := Lib.hid hd
  have HQ0 := Lib.hid hq0
  rw [hm] at hQ
  have HQ := Lib.hid hQ
  have mL := (found u _ _ hQ.c).1
  have mP : ∀ W, Sem.run Try.prog (method 257 68 (.pointer (some ⟨u, 7, none⟩)) "Pop") W = .ok (104, .pointer (some ⟨u, 7, none⟩)) W := fun W => by kernel_rfl
  have mS := (found u _ _ hQ.c).2.2
  have hw0 : w = putRow QI (Sort.ahead w 0) g 0 S.q.toArray := (putRow_self QI _ g 0 _ hQ.h).symm
  have HS := swap_put hQ 0 (dk := S.q.toArray) (by simpa using hm) (by omega) (i := 0) (j := m) (by omega) (by omega)
  rw [← hw0] at HS
  simp only [show ((0 : Nat) : Int) = 0 from rfl] at HS
  have HSW := Lib.hid HS
  simp only [Made.depth, ← fuel_is] at mL mS
  have hi1 : (((m + 1 : Nat) : Nat) : Int) - 1 = ((m : Nat) : Int) := by omega
  clear hQ h hv hw0 HS hq0 hd hR
  go_enter Try.func38, Try.ntmps38
  go_wp2_with (first | (go_at_call 36; refine (slen_any _ _ _ _).mono ?_; rintro e w' ⟨rfl, rfl⟩))
  refine HSW.out.mono ?_
  rintro e w2 ⟨rfl, q, rfl⟩
  have hk : (swp S.q.toArray 0 m).size = m + 1 := by rw [size_swp]; simpa using hm
  have HDN := Lib.hid (hdown_any (que_put HQ.out q hk) (by omega) (hi := m) (by omega))
  clear mL mS
  go_wp2_with fail
  refine HDN.out.mono ?_
  rintro e w3 ⟨⟨b, rfl⟩, q2, rfl⟩
  rw [putRow_ahead_putRow QI _ q q2 g 0 _ _ (by rw [hk]; have := HD.out; omega)]
  obtain ⟨a, b2⟩ := HH.out.putQ HV.out _ HD.out (q + q2)
  have HPP := Lib.hid (qpop_any a (by simp; have := HD.out; omega) HQ0.out)
  have HB2 := Lib.hid b2
  clear a b2 hk
  go_wp2_with fail
  refine HPP.out.mono ?_
  rintro e w4 ⟨rfl, v', hu4, hb4⟩
  have HU4 := Lib.hid hu4
  have HB4 := Lib.hid hb4
  clear hu4 hb4
  go_wp2_with fail
  go_ret
  exact ⟨_, rfl, _, _, HU4.out, HR.out, HB2.out.trans HB4.out⟩
end Cf
end Go.Proofs.Ytmgkgbhkaoflhaa
