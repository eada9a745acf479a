/-
  A list of nodes handed in; types are laid out.
-/
import Derived.Test.YtjhghfndhpaapaaTmRow
import Derived.Test.YtjhghfndhpaapaaTmP6
import Derived.Deep.Slices
import Derived.Carry
namespace Go.Proofs.Ytjhghfndhpaapaa
open Go.ChangeShapes Go.WideShapes Go.ChangeAt Go.RowKit Go.Joins Bv
namespace Tm
set_option maxHeartbeats 400000

/-- A list of nodes handed in. -/
theorem open_nodes {H : Type} {enc : TypeId × Value → H} {W : World} {al : Option Addr} {len cap : Nat} {d : DataW H} {ps : List MemPlace} (h : DataW.Trod enc Try.prog W 0 (fun _ => true) true 22 (.slice al len cap) d ps) :
    ∃ X : List Nd, len = X.length ∧ (∀ x ∈ X, x.Ok) ∧ ArgAt W al X := by
  obtain ⟨fuel, hf⟩ := h
  rcases Go.Deep.open_slice Try.underlying22 hf with ⟨hcs, _⟩ | ⟨a, len', cap', m, n, D, Pl, hcs, _, hl, _, hm, _, hall⟩
  · simp [Value.cells] at hcs
    obtain ⟨_, rfl, _⟩ := hcs
    exact ⟨[], rfl, by simp, .inl rfl⟩
  · simp [Value.cells] at hcs
    obtain ⟨rfl, rfl, rfl⟩ := hcs
    simp only [if_true] at hm
    have hex : ∀ i : Nat, ∃ x : Nd, i < m → x.Ok ∧ W.cells? 0 (a.add (i * 7)) 7 = some x.cells.toList := by
      intro i
      by_cases hi : i < m
      · obtain ⟨cs', h1, h2⟩ := hall i hi
        obtain ⟨x, hx, rfl, _⟩ := nd_open h2
        rw [cells_nd] at h1
        exact ⟨x, fun _ => ⟨hx, h1⟩⟩
      · exact ⟨⟨0, 0, 0, 0, 0, 0, 0⟩, fun c => absurd c hi⟩
    obtain ⟨f, hfx⟩ := Classical.axiomOfChoice hex
    refine ⟨(List.range len).map f, by simp, ?_, ?_⟩
    · intro x hx
      obtain ⟨i, hi, rfl⟩ := List.mem_map.1 hx
      exact (hfx i (by have := List.mem_range.1 hi; omega)).1
    · by_cases h0 : len = 0
      · left; subst h0; rfl
      · right
        obtain ⟨bl, ol, sp⟩ := a
        have hcell : ∀ i, i < len → ∀ j u, (f i).cells.toList[j]? = some u → W.cell? (((⟨bl, ol, sp⟩ : Addr).add (i * 7)).add j) = some u := by
          intro i hi j u hj
          have hc := (hfx i (by omega)).2
          obtain ⟨_, hc1, hc2⟩ := World.cells?_some hc
          have hj7 : j < 7 := by have := (List.getElem?_eq_some_iff.1 hj).1; simpa [Nd.cells] using this
          have := hc2 j hj7
          rw [this, hj]
        have c0 := hcell 0 (by omega) 0 _ rfl
        simp only [Nat.zero_mul, Addr.add, if_true] at c0
        have hs : sp = none := by simpa using World.cell?_spot c0
        subst hs
        refine ⟨bl, ol, rfl, World.block_lt_of_cell? W _ c0, ?_⟩
        intro i x hx j u hj
        have hi : i < len := by have := (List.getElem?_eq_some_iff.1 hx).1; simpa using this
        have hx' : x = f i := by simp [hi] at hx; exact hx.symm
        subst hx'
        have := hcell i hi j u hj
        have e : ((⟨bl, ol, none⟩ : Addr).add (i * 7)).add j = ⟨bl, ol + i * 7 + j, none⟩ := by
          unfold Addr.add
          split <;> split <;> simp_all
        rw [e] at this
        exact this

theorem laid : laidOutB Try.prog = true := by kernel_rfl

end Tm
end Go.Proofs.Ytjhghfndhpaapaa
