/-
  An assignment handed in.
-/
import Derived.Test.YtkiegiofholofaaPt23
import Derived.Test.YtkiegiofholofaaPt22
namespace Go.Proofs.Ytkiegiofholofaa
open Go.ChangeShapes Go.WideShapes Go.ChangeAt Go.RowKit Go.Joins Bv
namespace Tm
set_option maxHeartbeats 400000

theorem cell1_u64 : Try.prog.cellsOf 27 = 1 := by kernel_rfl
theorem open_asg {H : Type} {enc : TypeId × Value → H} {W : World} {al : Option Addr} {len cap : Nat} {d : DataW H} {ps : List MemPlace} (h : DataW.Trod enc Try.prog W 0 (fun _ => true) true 37 (.slice al len cap) d ps) :
    ∃ a : List Nat, len = a.length ∧ AsgAt W al a ∧ (a = [] ∨ ∃ el sp, d = .slice el sp ∧ el.length = a.length) := by
  obtain ⟨fuel, hf⟩ := h
  rcases Go.Deep.open_slice1 Try.underlying37 cell1_u64 hf with ⟨hcs, _⟩ | ⟨a, len', cap', m, n, V, D, Pl, hcs, _, hl, hcap, hm, hxx, hall⟩
  · simp [Value.cells] at hcs
    obtain ⟨_, rfl, _⟩ := hcs
    exact ⟨[], rfl, ⟨.inl rfl, by simp, by simp⟩, .inl rfl⟩
  · simp [Value.cells] at hcs
    obtain ⟨rfl, rfl, rfl⟩ := hcs
    simp only [if_true] at hm
    have hex : ∀ i : Nat, ∃ v : Nat, i < m → v < 18446744073709551616 ∧ W.cell? (a.add i) = some (.int .u64 ((v : Nat) : Int)) := by
      intro i
      by_cases hi : i < m
      · obtain ⟨h1, h2⟩ := hall i hi
        obtain ⟨z, e, _, w⟩ := DataW.trod_int Try.underlying27 h2
        simp only [List.cons.injEq, and_true] at e
        obtain ⟨v, rfl, hv⟩ := u64_of w
        exact ⟨v, fun _ => ⟨hv, by rw [h1, e]⟩⟩
      · exact ⟨0, fun c => absurd c hi⟩
    obtain ⟨f, hfx⟩ := Classical.axiomOfChoice hex
    refine ⟨(List.range len).map f, by simp, ⟨?_, ?_, ?_⟩, .inr ⟨_, _, (congrArg Prod.fst hxx), by simp⟩⟩
    · by_cases h0 : len = 0
      · left; subst h0; rfl
      · right
        obtain ⟨bl, ol, sp⟩ := a
        have c0 := (hfx 0 (by omega)).2
        have hs : sp = none := by
          simp only [Addr.add, if_true] at c0
          simpa using World.cell?_spot c0
        subst hs
        have hadd : ∀ j, (⟨bl, ol, none⟩ : Addr).add j = ⟨bl, ol + j, none⟩ := fun j => by
          unfold Addr.add
          split <;> simp_all
        rw [hadd] at c0
        refine ⟨bl, ol, rfl, World.block_lt_of_cell? W _ c0, fun j v hj => ?_⟩
        have hi : j < len := by have := (List.getElem?_eq_some_iff.1 hj).1; simpa using this
        have hv : v = f j := by simp [hi] at hj; exact hj.symm
        subst hv
        have := (hfx j (by omega)).2
        rw [hadd] at this
        exact this
    · intro v hv
      obtain ⟨i, hi, rfl⟩ := List.mem_map.1 hv
      exact (hfx i (by have := List.mem_range.1 hi; omega)).1
    · simp only [List.length_map, List.length_range]
      unfold maxLen at hcap
      omega
end Tm
end Go.Proofs.Ytkiegiofholofaa
