/-
  What the program's Units makes at its start, in memory.
-/
import Derived.Test.YtcpehdeddgfpmaaDoorCuGive
import Derived.Laws.MakeOwn
import Derived.Laws.Tables
namespace Go.Proofs.YtcpehdeddgfpmaaDoor
open Go.RowKit Go.Maps Go.Sort
namespace Cf
set_option maxHeartbeats 4000000
set_option maxRecDepth 100000

theorem made_ints (n : Nat) : madeCells (Value.int .i64 0).cells (n * 1) = (rowI (List.replicate n 0)).toArray := by
  apply Array.ext_getElem?
  intro j
  by_cases hj : j < n
  · simp [madeCells, rowI, Value.cells, hj, Nat.mod_one]
  · simp [madeCells, rowI, Value.cells, hj]
theorem make_ints (n : Nat) (hn : n ≤ 10000000) (W : World) : (Instr.makeSlice 34 (.int .i64 ((n : Nat) : Int)) (.int .i64 ((n : Nat) : Int))).run Tryd.prog W = .ok (.slice (some ⟨W.heap.size, 0, none⟩) n n) (W.alloc (.cells (rowI (List.replicate n 0)).toArray 3)) := by
  obtain ⟨i0, hinfo, hz0, hz1, hz2⟩ := infos info_int
  have h := run_makeSlice (P := Tryd.prog) (w := W) 34 3 i0 (.int .i64 0) Tryd.underlying34 hinfo hz0 .i64 .i64 (n : Int) (n : Int) (by omega) (Int.le_refl _) (by rw [hz1]; simp; omega) (by rw [hz2]; omega) (by omega)
  rw [hz1] at h
  simp only [Int.toNat_natCast] at h
  rw [made_ints] at h
  exact h
def zero9 : Array Value := #[.slice none 0 0, .int .i64 0, .slice none 0 0, .map none, .slice none 0 0, .slice none 0 0, .slice none 0 0, .slice none 0 0, .bool false]
theorem four (w1 : World) (o1 o2 o3 o4 : Obj) : ((((w1.alloc o1).alloc o2).alloc o3).alloc o4).drew.heap[w1.heap.size]? = some o1 ∧ ((((w1.alloc o1).alloc o2).alloc o3).alloc o4).drew.heap[w1.heap.size + 1]? = some o2 ∧ ((((w1.alloc o1).alloc o2).alloc o3).alloc o4).drew.heap[w1.heap.size + 1 + 1]? = some o3 ∧
    ((((w1.alloc o1).alloc o2).alloc o3).alloc o4).drew.heap[w1.heap.size + 1 + 1 + 1]? = some o4 ∧ ((((w1.alloc o1).alloc o2).alloc o3).alloc o4).drew.heap.size = w1.heap.size + 1 + 1 + 1 + 1 ∧ Below w1.heap.size w1 ((((w1.alloc o1).alloc o2).alloc o3).alloc o4).drew := by
  have e : ((((w1.alloc o1).alloc o2).alloc o3).alloc o4).drew.heap = (((w1.heap.push o1).push o2).push o3).push o4 := rfl
  refine ⟨?_, ?_, ?_, ?_, by rw [e]; simp, ?_⟩
  · rw [e]; simp only [Array.getElem?_push, Array.size_push]; rw [if_neg (by omega), if_neg (by omega), if_neg (by omega), if_pos trivial]
  · rw [e]; simp only [Array.getElem?_push, Array.size_push]; rw [if_neg (by omega), if_neg (by omega), if_pos trivial]
  · rw [e]; simp only [Array.getElem?_push, Array.size_push]; rw [if_neg (by omega), if_pos trivial]
  · rw [e]; simp only [Array.getElem?_push, Array.size_push]; rw [if_pos trivial]
  · exact ((((Below.refl w1.heap.size w1).alloc (Nat.le_refl _) o1).alloc (by simp) o2).alloc (by simp; omega) o3).alloc (by simp; omega) o4 |>.drew
theorem sep4 {a b c d : Nat} (h1 : a ≠ b) (h2 : a ≠ c) (h3 : a ≠ d) (h4 : b ≠ c) (h5 : b ≠ d) (h6 : c ≠ d) : Sep [some a, some b, some c, some d, none, none, none] := by
  intro i j x hx hy
  rcases i with _ | _ | _ | _ | _ | _ | _ | i <;> rcases j with _ | _ | _ | _ | _ | _ | _ | j <;> simp at hx hy <;> omega
theorem low4 {a b c d B z : Nat} (h1 : B ≤ a ∧ a < z) (h2 : B ≤ b ∧ b < z) (h3 : B ≤ c ∧ c < z) (h4 : B ≤ d ∧ d < z) : ∀ (i x : Nat), ([some a, some b, some c, some d, none, none, none] : List (Option Nat))[i]? = some (some x) → B ≤ x ∧ x < z := by
  intro i x hx
  rcases i with _ | _ | _ | _ | _ | _ | _ | i <;> simp at hx <;> omega
/-- The struct, made. -/
theorem uat_made {B : Nat} {Y : World} {u m lb nb : Nat} {al : Option Addr} {n c vn : Nat} (hm : Y.heap[m]? = some (.map #[] 0)) (hl : Y.heap[lb]? = some (.cells (rowI (List.replicate n 0)).toArray 3)) (hn : Y.heap[nb]? = some (.cells (rowI (List.replicate (2 * vn + 1) 0)).toArray 3)) (hu : Y.heap[u]? = some (.cells zero9 70))
    (h1 : u ≠ m) (h2 : u ≠ lb) (h3 : u ≠ nb) (h4 : m ≠ lb) (h5 : m ≠ nb) (h6 : lb ≠ nb) (b1 : B ≤ u) (b2 : B ≤ m) (b3 : B ≤ lb) (b4 : B ≤ nb) :
    UAt B (Y.setRow u (cellsU al n c vn ⟨m, lb, nb, .slice none 0 0, .slice none 0 0, .slice none 0 0⟩ false)) u al n c vn ⟨m, lb, nb, .slice none 0 0, .slice none 0 0, .slice none 0 0⟩ ⟨[], List.replicate n 0, [], List.replicate (2 * vn + 1) 0, [], false⟩ := by
  have ho : ∀ k, k ≠ u → (Y.setRow u (cellsU al n c vn ⟨m, lb, nb, .slice none 0 0, .slice none 0 0, .slice none 0 0⟩ false)).heap[k]? = Y.heap[k]? := fun k hk => by
    unfold World.setRow
    simp only [Array.getElem?_modify]
    rw [if_neg (fun e => hk e.symm)]
  have hz : (Y.setRow u (cellsU al n c vn ⟨m, lb, nb, .slice none 0 0, .slice none 0 0, .slice none 0 0⟩ false)).heap.size = Y.heap.size := by simp [World.setRow]
  have l1 := (Array.getElem?_eq_some_iff.1 hu).1
  have l2 := (Array.getElem?_eq_some_iff.1 hm).1
  have l3 := (Array.getElem?_eq_some_iff.1 hl).1
  have l4 := (Array.getElem?_eq_some_iff.1 hn).1
  refine ⟨?_, ⟨.map [], ?_, decTab_nil⟩, (ho lb h2.symm).trans hl, by simp, (ho nb h3.symm).trans hn, by simp, World.ownsRow_nil _ _ _ _, World.ownsRow_nil _ _ _ _, World.ownsRow_nil _ _ _ _, ?_, sep4 h1 h2 h3 h4 h5 h6⟩
  · unfold World.setRow
    simp only [Array.getElem?_modify, if_true, hu]
    rfl
  · obtain ⟨es, clock, hb, F, hs, hD⟩ := (World.ownsMap_made (H := Unit) Y Tryd.prog 3 (plainElem Tryd.prog 3))
    have e : (Y.alloc (.map #[] 0)).heap[Y.heap.size]? = some (.map #[] 0) := by
      show (Y.heap.push (.map #[] 0))[Y.heap.size]? = _
      simp
    rw [e] at hb
    injection hb with hb
    injection hb with e1 e2
    subst e1
    subst e2
    exact ⟨#[], 0, (ho m h1.symm).trans hm, F, hs, hD⟩
  · rw [hz]
    exact low4 ⟨b1, l1⟩ ⟨b2, l2⟩ ⟨b3, l3⟩ ⟨b4, l4⟩
theorem store_row {Y : World} {u : Nat} {cs : Array Value} (hu : Y.heap[u]? = some (.cells zero9 70)) (hs : cs.size = 9) (h1 : cs.all (·.oneCell') = true) : (storeCells ⟨u, 0, none⟩ cs.toList).run Tryd.prog Y = .ok () (Y.setRow u cs) := by
  have hz : ∀ W, (Go.sizeOf 70).run Tryd.prog W = .ok 9 W := Tryd.sizeOf70
  have h := run_storeVar_row (P := Tryd.prog) Y u 70 70 zero9 cs hu (by rw [hs]; kernel_rfl) (by rw [hs]; rfl) h1
  simpa [storeVar, Value.cells, hz, hs] using h
theorem bel_setRow {B : Nat} {w Y : World} {u : Nat} {cs : Array Value} (h : Below B w Y) (hu : B ≤ u) : Below B w (Y.setRow u cs) :=
  h.trans ⟨rfl, rfl, rfl, by simp [World.setRow], fun k hk => by
    unfold World.setRow
    simp only [Array.getElem?_modify]
    rw [if_neg (by omega)]⟩
end Cf
end Go.Proofs.YtcpehdeddgfpmaaDoor
