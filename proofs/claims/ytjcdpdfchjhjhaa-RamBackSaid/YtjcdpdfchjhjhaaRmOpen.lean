/-
  A list of bytes handed in.
-/
import Derived.Test.YtjcdpdfchjhjhaaRmOnly
import Derived.WalkKit
import Derived.ProofKit
import Derived.OpenShut
import Derived.Lib.SmallJoins
import Derived.Laws.IdiomArrays
import Derived.Deep.Slices
import Derived.Carry
import Derived.ChangeSame
namespace Go.Proofs.Ytjcdpdfchjhjhaa
open Go.ChangeShapes Go.WideShapes Go.ChangeAt Go.RowKit Go.Joins
namespace Rm
set_option maxHeartbeats 400000
set_option maxRecDepth 100000

section
variable {H : Type} {enc : TypeId × Value → H}
theorem cell1_u8 : Try.prog.cellsOf 5 = 1 := by kernel_rfl
theorem u8_of {a : Int} (h : (Lit.int .u8 a).wf = true) : ∃ n : Nat, a = (n : Int) ∧ n < 256 := by
  simp only [Lit.wf, IntKind.min, IntKind.max, IntKind.signed, IntKind.bits, Bool.and_eq_true] at h
  obtain ⟨n, rfl⟩ := Int.eq_ofNat_of_zero_le (a := a) (by simpa using h.1)
  exact ⟨n, rfl, by have := h.2; simp at this; omega⟩
theorem u32_of {a : Int} (h : (Lit.int .u32 a).wf = true) : ∃ n : Nat, a = (n : Int) ∧ n < 4294967296 := by
  simp only [Lit.wf, IntKind.min, IntKind.max, IntKind.signed, IntKind.bits, Bool.and_eq_true] at h
  obtain ⟨n, rfl⟩ := Int.eq_ofNat_of_zero_le (a := a) (by simpa using h.1)
  exact ⟨n, rfl, by have := h.2; simp at this; omega⟩
/-- A list of uint8 handed in. -/
theorem open_bytes {W : World} {al : Option Addr} {len cap : Nat} {d : DataW H} {ps : List MemPlace} (h : DataW.Trod enc Try.prog W 0 (fun _ => true) true 41 (.slice al len cap) d ps) :
    ∃ T : List Nat, len = T.length ∧ BytesAt W al T := by
  obtain ⟨fuel, hf⟩ := h
  rcases Go.Deep.open_slice1 Try.underlying41 cell1_u8 hf with ⟨hcs, _⟩ | ⟨a, len', cap', m, n, V, D, Pl, hcs, _, hl, hcap, hm, hxx, hall⟩
  · simp [Value.cells] at hcs
    obtain ⟨_, rfl, _⟩ := hcs
    exact ⟨[], rfl, .inl rfl⟩
  · simp [Value.cells] at hcs
    obtain ⟨rfl, rfl, rfl⟩ := hcs
    simp only [if_true] at hm
    have hex : ∀ i : Nat, ∃ v : Nat, i < m → v < 256 ∧ W.cell? (a.add i) = some (.int .u8 ((v : Nat) : Int)) := by
      intro i
      by_cases hi : i < m
      · obtain ⟨h1, h2⟩ := hall i hi
        obtain ⟨z, e, _, w⟩ := DataW.trod_int Try.underlying5 h2
        simp only [List.cons.injEq, and_true] at e
        obtain ⟨y, rfl, hy⟩ := u8_of w
        exact ⟨y, fun _ => ⟨hy, by rw [h1, e]⟩⟩
      · exact ⟨0, fun c => absurd c hi⟩
    obtain ⟨f, hfx⟩ := Classical.axiomOfChoice hex
    refine ⟨(List.range len).map f, by simp, ?_⟩
    by_cases h0 : len = 0
    · left; subst h0; rfl
    · right
      obtain ⟨bl, ol, sp⟩ := a
      have c0 := (hfx 0 (by omega)).2
      have hs : sp = none := by
        simp only [Addr.add, if_true] at c0
        simpa using World.cell?_spot c0
      subst hs
      have hadd : ∀ j, (⟨bl, ol, none⟩ : Addr).add j = ⟨bl, ol + j, none⟩ := fun j => by
        unfold Addr.add
        split <;> simp_all
      rw [hadd] at c0
      refine ⟨bl, ol, rfl, World.block_lt_of_cell? W _ c0, fun j v hj => ?_⟩
      have hi : j < len := by have := (List.getElem?_eq_some_iff.1 hj).1; simpa using this
      have hv : v = f j := by simp [hi] at hj; exact hj.symm
      subst hv
      have := (hfx j (by omega)).2
      rw [hadd] at this
      exact ⟨(hfx j (by omega)).1, this⟩
end
end Rm
end Go.Proofs.Ytjcdpdfchjhjhaa
