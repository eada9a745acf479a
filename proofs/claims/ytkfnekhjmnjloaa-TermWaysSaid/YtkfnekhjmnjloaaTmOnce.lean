/-
  For every list of nodes, a nil one too: the law TermOnce returns true, and the list reads as it did. No condition.
-/
import Derived.Test.YtkfnekhjmnjloaaTmOnceC
import Derived.Test.YtkfnekhjmnjloaaTmRow
import Derived.Deep.Slices
import Derived.Carry
namespace Go.Proofs.Ytkfnekhjmnjloaa
open Go.ChangeShapes Go.WideShapes Go.ChangeAt Go.RowKit Go.Joins Bv
namespace Tm
set_option maxHeartbeats 400000

/-- A list of nodes handed in. -/
theorem open_nodes {H : Type} {enc : TypeId × Value → H} {W : World} {al : Option Addr} {len cap : Nat} {d : DataW H} {ps : List MemPlace} (h : DataW.Trod enc Try.prog W 0 (fun _ => true) true 22 (.slice al len cap) d ps) :
    ∃ X : List Nd, len = X.length ∧ (∀ x ∈ X, x.Ok) ∧ ArgAt W al X := by
  obtain ⟨fuel, hf⟩ := h
  rcases Go.Deep.open_slice Try.underlying22 hf with ⟨hcs, _⟩ | ⟨a, len', cap', m, n, D, Pl, hcs, _, hl, _, hm, _, hall⟩
  · simp [Value.cells] at hcs
    obtain ⟨_, rfl, _⟩ := hcs
    exact ⟨[], rfl, by simp, .inl rfl⟩
  · simp [Value.cells] at hcs
    obtain ⟨rfl, rfl, rfl⟩ := hcs
    simp only [if_true] at hm
    have hex : ∀ i : Nat, ∃ x : Nd, i < m → x.Ok ∧ W.cells? 0 (a.add (i * 7)) 7 = some x.cells.toList := by
      intro i
      by_cases hi : i < m
      · obtain ⟨cs', h1, h2⟩ := hall i hi
        obtain ⟨x, hx, rfl, _⟩ := nd_open h2
        rw [cells_nd] at h1
        exact ⟨x, fun _ => ⟨hx, h1⟩⟩
      · exact ⟨⟨0, 0, 0, 0, 0, 0, 0⟩, fun c => absurd c hi⟩
    obtain ⟨f, hfx⟩ := Classical.axiomOfChoice hex
    refine ⟨(List.range len).map f, by simp, ?_, ?_⟩
    · intro x hx
      obtain ⟨i, hi, rfl⟩ := List.mem_map.1 hx
      exact (hfx i (by have := List.mem_range.1 hi; omega)).1
    · by_cases h0 : len = 0
      · left; subst h0; rfl
      · right
        obtain ⟨bl, ol, sp⟩ := a
        have hcell : ∀ i, i < len → ∀ j u, (f i).cells.toList[j]? = some u → W.cell? (((⟨bl, ol, sp⟩ : Addr).add (i * 7)).add j) = some u := by
          intro i hi j u hj
          have hc := (hfx i (by omega)).2
          obtain ⟨_, hc1, hc2⟩ := World.cells?_some hc
          have hj7 : j < 7 := by have := (List.getElem?_eq_some_iff.1 hj).1; simpa [Nd.cells] using this
          have := hc2 j hj7
          rw [this, hj]
        have c0 := hcell 0 (by omega) 0 _ rfl
        simp only [Nat.zero_mul, Addr.add, if_true] at c0
        have hs : sp = none := by simpa using World.cell?_spot c0
        subst hs
        refine ⟨bl, ol, rfl, World.block_lt_of_cell? W _ c0, ?_⟩
        intro i x hx j u hj
        have hi : i < len := by have := (List.getElem?_eq_some_iff.1 hx).1; simpa using this
        have hx' : x = f i := by simp [hi] at hx; exact hx.symm
        subst hx'
        have := hcell i hi j u hj
        have e : ((⟨bl, ol, none⟩ : Addr).add (i * 7)).add j = ⟨bl, ol + i * 7 + j, none⟩ := by
          unfold Addr.add
          split <;> split <;> simp_all
        rw [e] at this
        exact this

theorem laid : laidOutB Try.prog = true := by kernel_rfl

set_option maxRecDepth 100000 in
theorem once_lifted (os : Os) (started : os.Started) (H : Type) (enc : TypeId × Value → H) :
    ReturnsInHanded {} Try.checked os 5 .any (Rows.termOnceSpec.pre6 enc Try.prog Try.f5 Rows.termOnceRow.domain false) (Rows.termOnceSpec.post enc Try.prog Try.f5 false true false false) := by
  refine returnsInHanded_of_change (C := Try.checked) ownk started (by kernel_rfl) Try.func5
    (ChangeSpec.witness6 (enc := enc) (C := Try.checked) false ⟨#[], #[.slice none 0 0], []⟩ 8 (by kernel_rfl) (by kernel_rfl) (by kernel_rfl) (by kernel_rfl)) ?_
  intro W base args ds gs before hval0 hW _ _
  have hval : ∀ (j : Nat) t v, Try.f5.params[j]? = some t → args[j]? = some v → Value.okWide Try.prog W .any base t v := hval0
  have hW' := hW
  obtain ⟨p, q, hA0, hV, rfl, _, _⟩ := hW
  have hA : DataW.TrodAll enc Try.prog W 0 (fun _ => true) true Try.f5.params.toList args.toList ds p := hA0
  rw [Try.params5] at hA hval
  obtain ⟨v0, vs0, d0, ds0, p0, q0, hargs, rfl, rfl, h0, r0⟩ := trodAll_cons hA
  obtain ⟨rfl, rfl, rfl⟩ := trodAll_nil r0
  obtain rfl : args = #[v0] := by cases args; simp_all
  obtain ⟨rfl, rfl⟩ := trodVars_none hV
  obtain ⟨a0, len, cap, rfl⟩ := okWide_slice Try.underlying22 (hval 0 22 v0 rfl rfl)
  clear hA0 hval0
  simp only [List.append_nil] at hW'
  have hlt : ∀ x ∈ p0, x.block < W.heap.size := fun x hx => hW'.lt x (by simpa using hx)
  obtain ⟨X, hlen, hok, hat⟩ := open_nodes h0
  refine (once_any hat hok hlen).mono fun e W' ⟨he, hg⟩ => ?_
  subst he
  refine ⟨_, rfl, _, _, _, [], p0 ++ [], [], hW', ?_, ?_, rfl, hg.frame _, fun h => by cases h⟩
  · exact trodAll_mk1 (shut_bool Try.underlying4 _)
  · exact trodAll_cons_mk (Below.trod laid (by kernel_rfl) (of_decide_eq_true (by kernel_rfl)) h0 hg hlt) trodAll_mk0

theorem once_holds : Rows.TermOnceSaid :=
  OpenClaim.holds_of_wide 5 Try.f5 rfl rfl rfl rfl rfl rfl rfl ⟨rfl, rfl, rfl, rfl, rfl⟩ rfl rfl rfl rfl rfl (by kernel_rfl) Try.func5 (by kernel_rfl)
    (of_decide_eq_true (by kernel_rfl)) (by unfold Func.isWrapper; rw [if_neg (of_decide_eq_false (by kernel_rfl))]; exact ⟨rfl, rfl⟩)
    (fun os started H enc _ => once_lifted os started H enc)
end Tm
theorem termOnce_holds : Rows.TermOnceSaid := Tm.once_holds
#print axioms termOnce_holds
end Go.Proofs.Ytkfnekhjmnjloaa
