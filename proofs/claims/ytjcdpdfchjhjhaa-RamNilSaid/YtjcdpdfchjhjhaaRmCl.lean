/-
  The program's memory: New, Size, Bytes, Copy.
-/
import Derived.Test.YtjcdpdfchjhjhaaRmPc
import Derived.Maps.AppendAt
import Derived.Deep.RegionLaw
namespace Go.Proofs.Ytjcdpdfchjhjhaa
open Go.RowKit
namespace Rm
set_option maxHeartbeats 1600000
set_option maxRecDepth 100000

theorem new_no {n : Int} (h : ¬ sizeP n) (W : World) : Calls Try.prog 6 #[.int .i64 n] W fun e w => e = .returned (.tuple #[.pointer none, .int .i64 2]) ∧ w = W := by
  by_cases h0 : n < 256
  · have e0 : decide (n < 256) = true := decide_eq_true h0
    clear h
    go_enter Try.func6, Try.ntmps6
    go_wp2_with fail
    go_ret2
    exact ⟨rfl, rfl⟩
  · have e0 : decide (n < 256) = false := decide_eq_false h0
    by_cases h1 : 4096 < n
    · have e1 : decide (4096 < n) = true := decide_eq_true h1
      clear h
      go_enter Try.func6, Try.ntmps6
      go_wp2_with fail
      go_ret2
      exact ⟨rfl, rfl⟩
    · have e1 : decide (4096 < n) = false := decide_eq_false h1
      have e3 : n.tmod 256 = n % 256 := Int.tmod_eq_emod_of_nonneg (by omega)
      have e2 : (n % 256 != 0) = true := by rw [bne_iff_ne]; unfold sizeP at h; omega
      clear h
      go_enter Try.func6, Try.ntmps6
      go_wp2_with fail
      go_ret2
      exact ⟨rfl, rfl⟩
theorem build_prog (w : World) (a : Option Addr) (k l : Nat) : (Instr.build 51 #[(0, .slice a k l)]).run Try.prog w = .ok (.agg #[.slice a k l]) w := run_build w _ _ _ (by kernel_rfl)
theorem new_at (W : World) {n : Nat} (h : 256 ≤ n ∧ n ≤ 4096) : PrAt ((W.alloc (.cells (Array.replicate n (.int .u8 0)) 5)).alloc (.cells #[.slice (some ⟨W.heap.size, 0, none⟩) n n] 51)) (W.heap.size + 1) W.heap.size n n zeroF := by
  obtain ⟨t1, t2⟩ := two W (.cells (Array.replicate n (.int .u8 0)) 5) (.cells #[.slice (some ⟨W.heap.size, 0, none⟩) n n] 51)
  exact ⟨by rw [(cell_of t2 0).1]; rfl, fun j hj => by rw [(cell_of t1 j).1, Array.getElem?_replicate, if_pos hj]; rfl, fun j => (cell_of t1 j).2, fun _ => by simp [zeroF], h, by unfold maxLen; omega, by simp; omega, by omega⟩
def NewP (W : World) (n : Nat) (e : Ending) (w : World) : Prop := ∃ p b : Nat, e = .returned (.tuple #[.pointer (some ⟨p, 0, none⟩), .int .i64 0]) ∧ PrAt w p b n n zeroF ∧ Only [] W w ∧ W.heap.size ≤ p ∧ W.heap.size ≤ b
theorem new_yes {n : Nat} (h : sizeP ((n : Nat) : Int)) (W : World) : Calls Try.prog 6 #[.int .i64 ((n : Nat) : Int)] W (NewP W n) := by
  obtain ⟨h1, h2, h3⟩ := h
  have e0 : decide (((n : Nat) : Int) < 256) = false := decide_eq_false (by omega)
  have e1 : decide (4096 < ((n : Nat) : Int)) = false := decide_eq_false (by omega)
  have e3 : (((n : Nat) : Int)).tmod 256 = ((n : Nat) : Int) % 256 := Int.tmod_eq_emod_of_nonneg (by omega)
  have hmb := make_bytes n (by omega)
  have hbr := build_prog
  have HA := Lib.hid (new_at W (n := n) (by omega))
  go_enter Try.func6, Try.ntmps6
  go_wp2_with fail
  go_ret2
  exact ⟨W.heap.size + 1, W.heap.size, rfl, HA.out, ((Only.refl [] W).alloc _).alloc _, by omega, by omega⟩
theorem size_any {W : World} {p b z c : Nat} {f : Nat → Nat} (h : PrAt W p b z c f) : Calls Try.prog 14 #[.pointer (some ⟨p, 0, none⟩)] W fun e w => e = .returned (.int .i64 ((z : Nat) : Int)) ∧ Only [] W w := by
  have HN := Lib.hid (isnone_no h)
  have c0 := h.c0
  clear h
  go_enter Try.func14, Try.ntmps14
  go_wp2_with ((with_reducible refine HN.out.mono ?_); rintro e w ⟨rfl, rfl⟩)
  go_ret
  exact ⟨rfl, Only.refl _ _⟩
/-- Cells of bytes, as a list. -/
def cellsOf (f : Nat → Nat) (z : Nat) : List Value := (List.range z).map fun j => .int .u8 ((f j : Nat) : Int)
theorem cellsOf_get {f : Nat → Nat} {z j : Nat} (h : j < z) : (cellsOf f z)[j]? = some (.int .u8 ((f j : Nat) : Int)) := by
  simp [cellsOf, List.getElem?_map, List.getElem?_range h]
theorem row_none (B g : Nat) (w : World) (h : w.heap[g]? = some (.cells #[] 5 (0, 0))) (hB : B ≤ g) : w.ownsRow B 5 1 (.slice (some ⟨g, 0, none⟩) 0 0) 0 [] :=
  ⟨rfl, .inr ⟨g, 0, #[], rfl, hB, h, Nat.le_refl _, by unfold maxLen; omega, rfl, rfl⟩⟩
theorem build_none (w : World) : (Instr.buildSlice 41 0 #[]).run Try.prog w = .ok (.slice (some ⟨w.heap.size, 0, none⟩) 0 0) (w.alloc (.cells #[] 5)) := by kernel_rfl
/-- What a clone is. -/
def CloneE (W : World) (z : Nat) (f : Nat → Nat) (e : Ending) (w : World) : Prop := ∃ b c, e = .returned (.slice (some ⟨b, 0, none⟩) z c) ∧ (∀ j, j < z → w.cell? ⟨b, j, none⟩ = some (.int .u8 ((f j : Nat) : Int))) ∧ (∀ j, w.frozen? ⟨b, j, none⟩ = false) ∧ z ≤ c ∧ c ≤ maxLen ∧ W.heap.size ≤ b ∧ b < w.heap.size ∧ Only [] W w
theorem row_shape {w : World} {B : Nat} {v : Value} {n : Nat} {xs : List Value} {e : TypeId} {size : Nat} (h : w.ownsRow B e size v (n + 1) xs) : ∃ g c, v = .slice (some ⟨g, 0, none⟩) (n + 1) c ∧ B ≤ g ∧ g < w.heap.size ∧ n + 1 ≤ c ∧ c ≤ maxLen ∧ ∀ j, w.frozen? ⟨g, j, none⟩ = false := by
  rcases h with ⟨_, ⟨_, h2⟩ | ⟨g, cap, cur, hv, hb, hh, h3, h4, _⟩⟩
  · omega
  · exact ⟨g, cap, hv, hb, (Array.getElem?_eq_some_iff.1 hh).1, h3, h4, fun j => by unfold World.frozen?; rw [hh]; simp⟩
theorem add_is (b o j : Nat) : (⟨b, o, none⟩ : Addr).add j = ⟨b, o + j, none⟩ := by
  unfold Addr.add
  split <;> simp_all
theorem clone_any {W : World} {p b z c : Nat} {f : Nat → Nat} (h : PrAt W p b z c f) : Calls Try.prog 20 #[.slice (some ⟨b, 0, none⟩) z c] W (CloneE W z f) := by
  have hb0 := build_none
  have hen : ∀ (w : World), (binOp .eql 41 (.slice (some ⟨b, 0, none⟩) z c) (.slice none 0 0)).run Try.prog w = .ok (.bool false) w := fun w => Lib.run_eql_slice_nil w _ _ _ _ _ _ _ Try.underlying41
  obtain ⟨i0, hinfo, hz0, hz1, hz2⟩ := infos info_u8
  obtain ⟨y, rfl⟩ : ∃ y, z = y + 1 := ⟨z - 1, by have := h.le; omega⟩
  have hy := h.le
  have HC := Lib.hid (fun (j : Nat) (u : Value) (hj : (cellsOf f (y + 1))[j]? = some u) => (show (W.alloc (.cells #[] 5)).cell? ((⟨b, 0, none⟩ : Addr).add j) = some u by
    have hj2 : j < y + 1 := by
      have := (List.getElem?_eq_some_iff.1 hj).1
      simpa [cellsOf] using this
    rw [cellsOf_get hj2] at hj
    rw [add_is, Nat.zero_add, World.cell?_alloc_lt _ _ _ (show b < _ from h.lt.2), h.cs j hj2, hj]))
  have H1 := Lib.hid (show ∀ u ∈ cellsOf f (y + 1), u.oneCell' = true by
    intro u hu
    simp only [cellsOf, List.mem_map] at hu
    obtain ⟨_, _, rfl⟩ := hu
    rfl)
  have HL := Lib.hid (show (cellsOf f (y + 1)).length = y + 1 by simp [cellsOf])
  have HR := Lib.hid (row_none W.heap.size W.heap.size (W.alloc (.cells #[] 5)) (MapKept.heap_alloc W (.cells #[] 5)).1 (Nat.le_refl _))
  clear h
  go_enter Try.func20, Try.ntmps20
  go_wp2_with (at_builtin; (refine wpList_append_own_at _ rfl (.tmp 5) (.tmp 6) 41 rfl W.heap.size 5 i0 (.int .u8 0) 1 1 Try.underlying41 hinfo hz0 hz1 hz2 rfl (by decide) (.slice (some ⟨W.heap.size, 0, none⟩) 0 0) 0 [] rfl HR.out ⟨b, 0, none⟩ (y + 1) c (cellsOf f (y + 1)) rfl (by rw [HL.out, Nat.mul_one]) HC.out H1.out (by unfold maxLen; omega) (by omega) (by simp) ?_; intro v' w2 hrow hgr _ hloc; simp only [List.nil_append, Nat.zero_add] at hrow; obtain ⟨g', c', rfl, hBg, hg', hc1, hc2, hfr⟩ := row_shape hrow; have HRW := Lib.hid hrow; have HGR := Lib.hid hgr; have HFR := Lib.hid hfr; clear hrow hgr hloc hfr))
  go_ret
  refine ⟨g', c', rfl, fun j hj => ?_, HFR.out, hc1, hc2, hBg, hg', ?_⟩
  · have := HRW.out.cells (g := g') rfl j _ (cellsOf_get hj)
    rwa [add_is, Nat.zero_add] at this
  · exact Only.of_below ((((Below.refl W.heap.size W).alloc (Nat.le_refl _) _)).grown HGR.out (by simp) (fun i e => by simp [Value.ownBlock] at e; omega))
end Rm
end Go.Proofs.Ytjcdpdfchjhjhaa
