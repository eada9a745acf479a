/-
  A list of acts handed in; types are laid out.
-/
import Derived.Test.YtdajnmlpghgeeaaHpRow
import Derived.Test.YtdajnmlpghgeeaaHpPlays
import Derived.Deep.Slices
import Derived.Carry
namespace Go.Proofs.Ytdajnmlpghgeeaa
open Go.ChangeShapes Go.WideShapes Go.ChangeAt Go.RowKit Go.Joins
namespace Hp
set_option maxHeartbeats 400000
set_option maxRecDepth 100000

theorem laid : laidOutB Try.prog = true := by kernel_rfl
theorem cells_act : Try.prog.cellsOf 34 = 3 := by kernel_rfl
theorem cells_int : Try.prog.cellsOf 3 = 1 := by kernel_rfl
theorem cells_float : Try.prog.cellsOf 32 = 1 := by kernel_rfl
section
variable {H : Type} {enc : TypeId × Value → H}
theorem trod_float {W : World} {base : Nat} {sp : Nat → Bool} {hd : Bool} {fuel : Nat} {t : TypeId} {k : FloatKind} {cs : List Value} {x : DataW H × List MemPlace} (ht : Try.prog.underlying t = some (.float k)) (h : DataW.trod enc Try.prog W base sp hd fuel t cs = some x) : ∃ n, cs = [.float k n] ∧ x = (.lit (.float k n), []) ∧ (Lit.float k n).wf = true := by
  cases fuel with
  | zero => simp [DataW.trod] at h
  | succ n =>
    unfold DataW.trod at h
    rw [ht] at h
    split at h <;> simp_all
def Ac.cells (x : Ac) : List Value := [.int .i64 x.d, .int .i64 x.v, .float .f64 x.y]
theorem act_open {W : World} {base : Nat} {sp : Nat → Bool} {hd : Bool} {fuel : Nat} {cs : List Value} {y : DataW H × List MemPlace} (h : DataW.trod enc Try.prog W base sp hd fuel 34 cs = some y) : ∃ x : Ac, cs = x.cells := by
  obtain ⟨xs, n, _, rfl, hl, hlen, hf⟩ := DataW.trod_struct Try.underlying34 h
  rw [cells_act] at hl
  match cs, hl with
  | [c0, c1, c2], _ =>
  match xs, hlen with
  | [y0, y1, y2], _ =>
  have h0 := hf 0 _ rfl
  have h1 := hf 1 _ rfl
  have h2 := hf 2 _ rfl
  simp [cells_int, cells_float] at h0 h1 h2
  obtain ⟨a0, e0, z0, w0⟩ := DataW.trod_int Try.underlying3 h0
  obtain ⟨a1, e1, z1, w1⟩ := DataW.trod_int Try.underlying3 h1
  obtain ⟨a2, e2, z2, w2⟩ := trod_float Try.underlying32 h2
  simp only [List.cons.injEq, and_true] at e0 e1 e2
  subst e0 e1 e2
  exact ⟨⟨a0, a1, a2⟩, rfl⟩
/-- A list of acts handed in. -/
theorem open_acts {W : World} {al : Option Addr} {len cap : Nat} {d : DataW H} {ps : List MemPlace} (h : DataW.Trod enc Try.prog W 0 (fun _ => true) true 22 (.slice al len cap) d ps) :
    ∃ X : List Ac, len = X.length ∧ ActsAt W al X := by
  obtain ⟨fuel, hf⟩ := h
  rcases Go.Deep.open_slice Try.underlying22 hf with ⟨hcs, _⟩ | ⟨a, len', cap', m, n, D, Pl, hcs, _, hl, _, hm, _, hall⟩
  · simp [Value.cells] at hcs
    obtain ⟨_, rfl, _⟩ := hcs
    exact ⟨[], rfl, .inl rfl⟩
  · simp [Value.cells] at hcs
    obtain ⟨rfl, rfl, rfl⟩ := hcs
    simp only [if_true] at hm
    have hex : ∀ i : Nat, ∃ x : Ac, i < m → W.cells? 0 (a.add (i * 3)) 3 = some x.cells := by
      intro i
      by_cases hi : i < m
      · obtain ⟨cs', h1, h2⟩ := hall i hi
        obtain ⟨x, rfl⟩ := act_open h2
        rw [cells_act] at h1
        exact ⟨x, fun _ => h1⟩
      · exact ⟨⟨0, 0, 0⟩, fun c => absurd c hi⟩
    obtain ⟨f, hfx⟩ := Classical.axiomOfChoice hex
    refine ⟨(List.range len).map f, by simp, ?_⟩
    by_cases h0 : len = 0
    · left; subst h0; rfl
    · right
      obtain ⟨bl, ol, sp⟩ := a
      have hcell : ∀ i, i < len → ∀ j u, (f i).cells[j]? = some u → W.cell? (((⟨bl, ol, sp⟩ : Addr).add (i * 3)).add j) = some u := by
        intro i hi j u hj
        have hc := hfx i (by omega)
        obtain ⟨_, hc1, hc2⟩ := World.cells?_some hc
        have hj3 : j < 3 := by have := (List.getElem?_eq_some_iff.1 hj).1; simpa [Ac.cells] using this
        have := hc2 j hj3
        rw [this, hj]
      have c0 := hcell 0 (by omega) 0 _ rfl
      simp only [Nat.zero_mul, Addr.add, if_true] at c0
      have hs : sp = none := by simpa using World.cell?_spot c0
      subst hs
      refine ⟨bl, ol, rfl, World.block_lt_of_cell? W _ c0, ?_⟩
      intro i x hx
      have hi : i < len := by have := (List.getElem?_eq_some_iff.1 hx).1; simpa using this
      have hx' : x = f i := by simp [hi] at hx; exact hx.symm
      subst hx'
      have e : ∀ j, ((⟨bl, ol, none⟩ : Addr).add (i * 3)).add j = ⟨bl, ol + i * 3 + j, none⟩ := by
        intro j
        unfold Addr.add
        split <;> split <;> simp_all
      refine ⟨?_, ?_, ?_⟩
      · have := hcell i hi 0 _ rfl
        rw [e] at this
        exact this
      · have := hcell i hi 1 _ rfl
        rw [e] at this
        exact this
      · have := hcell i hi 2 _ rfl
        rw [e] at this
        exact this
end
end Hp
end Go.Proofs.Ytdajnmlpghgeeaa
