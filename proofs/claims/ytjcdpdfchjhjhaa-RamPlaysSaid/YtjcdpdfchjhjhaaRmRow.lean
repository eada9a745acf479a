/-
  The rows of the layer, over what the program's functions answer.
-/
import Derived.Test.YtjcdpdfchjhjhaaRows
import Derived.Test.YtjcdpdfchjhjhaaRmOpen
import Derived.Test.YtjcdpdfchjhjhaaRmBack
import Derived.Test.YtjcdpdfchjhjhaaRmPlaysB
import Derived.WalkKit
import Derived.ProofKit
import Derived.OpenShut
import Derived.Lib.SmallJoins
import Derived.Laws.IdiomArrays
import Derived.Deep.Slices
import Derived.Carry
import Derived.ChangeSame
namespace Go.Proofs.Ytjcdpdfchjhjhaa
open Go.ChangeShapes Go.WideShapes Go.ChangeAt Go.RowKit Go.Joins
namespace Rm
set_option maxHeartbeats 400000
set_option maxRecDepth 100000

theorem ownk : ownKnob Try.prog.godebug = none := by kernel_rfl
theorem laid : laidOutB Try.prog = true := by kernel_rfl
theorem cell1_int : Try.prog.cellsOf 3 = 1 := by kernel_rfl
theorem cell1_u32 : Try.prog.cellsOf 34 = 1 := by kernel_rfl
theorem cell1_bool : Try.prog.cellsOf 4 = 1 := by kernel_rfl
theorem cells_act : Try.prog.cellsOf 36 = 4 := by kernel_rfl
section
variable {H : Type} {enc : TypeId × Value → H}
/-- A list of ints handed in. -/
theorem open_ints {W : World} {al : Option Addr} {len cap : Nat} {d : DataW H} {ps : List MemPlace} (h : DataW.Trod enc Try.prog W 0 (fun _ => true) true 24 (.slice al len cap) d ps) :
    ∃ T : List Int, len = T.length ∧ I64At W al T := by
  obtain ⟨fuel, hf⟩ := h
  rcases Go.Deep.open_slice1 Try.underlying24 cell1_int hf with ⟨hcs, _⟩ | ⟨a, len', cap', m, n, V, D, Pl, hcs, _, hl, hcap, hm, hxx, hall⟩
  · simp [Value.cells] at hcs
    obtain ⟨_, rfl, _⟩ := hcs
    exact ⟨[], rfl, .inl rfl⟩
  · simp [Value.cells] at hcs
    obtain ⟨rfl, rfl, rfl⟩ := hcs
    simp only [if_true] at hm
    have hex : ∀ i : Nat, ∃ v : Int, i < m → W.cell? (a.add i) = some (.int .i64 v) := by
      intro i
      by_cases hi : i < m
      · obtain ⟨h1, h2⟩ := hall i hi
        obtain ⟨z, e, _, w⟩ := DataW.trod_int Try.underlying3 h2
        simp only [List.cons.injEq, and_true] at e
        exact ⟨z, fun _ => by rw [h1, e]⟩
      · exact ⟨0, fun c => absurd c hi⟩
    obtain ⟨f, hfx⟩ := Classical.axiomOfChoice hex
    refine ⟨(List.range len).map f, by simp, ?_⟩
    by_cases h0 : len = 0
    · left; subst h0; rfl
    · right
      obtain ⟨bl, ol, sp⟩ := a
      have c0 := hfx 0 (by omega)
      have hs : sp = none := by
        simp only [Addr.add, if_true] at c0
        simpa using World.cell?_spot c0
      subst hs
      have hadd : ∀ j, (⟨bl, ol, none⟩ : Addr).add j = ⟨bl, ol + j, none⟩ := fun j => by
        unfold Addr.add
        split <;> simp_all
      rw [hadd] at c0
      refine ⟨bl, ol, rfl, World.block_lt_of_cell? W _ c0, fun j v hj => ?_⟩
      have hi : j < len := by have := (List.getElem?_eq_some_iff.1 hj).1; simpa using this
      have hv : v = f j := by simp [hi] at hj; exact hj.symm
      subst hv
      have := hfx j (by omega)
      rw [hadd] at this
      exact this
/-- A list of uint32 handed in. -/
theorem open_u32s {W : World} {al : Option Addr} {len cap : Nat} {d : DataW H} {ps : List MemPlace} (h : DataW.Trod enc Try.prog W 0 (fun _ => true) true 23 (.slice al len cap) d ps) :
    ∃ T : List Nat, len = T.length ∧ U32At W al T := by
  obtain ⟨fuel, hf⟩ := h
  rcases Go.Deep.open_slice1 Try.underlying23 cell1_u32 hf with ⟨hcs, _⟩ | ⟨a, len', cap', m, n, V, D, Pl, hcs, _, hl, hcap, hm, hxx, hall⟩
  · simp [Value.cells] at hcs
    obtain ⟨_, rfl, _⟩ := hcs
    exact ⟨[], rfl, .inl rfl⟩
  · simp [Value.cells] at hcs
    obtain ⟨rfl, rfl, rfl⟩ := hcs
    simp only [if_true] at hm
    have hex : ∀ i : Nat, ∃ v : Nat, i < m → v < 4294967296 ∧ W.cell? (a.add i) = some (.int .u32 ((v : Nat) : Int)) := by
      intro i
      by_cases hi : i < m
      · obtain ⟨h1, h2⟩ := hall i hi
        obtain ⟨z, e, _, w⟩ := DataW.trod_int Try.underlying34 h2
        simp only [List.cons.injEq, and_true] at e
        obtain ⟨y, rfl, hy⟩ := u32_of w
        exact ⟨y, fun _ => ⟨hy, by rw [h1, e]⟩⟩
      · exact ⟨0, fun c => absurd c hi⟩
    obtain ⟨f, hfx⟩ := Classical.axiomOfChoice hex
    refine ⟨(List.range len).map f, by simp, ?_⟩
    by_cases h0 : len = 0
    · left; subst h0; rfl
    · right
      obtain ⟨bl, ol, sp⟩ := a
      have c0 := (hfx 0 (by omega)).2
      have hs : sp = none := by
        simp only [Addr.add, if_true] at c0
        simpa using World.cell?_spot c0
      subst hs
      have hadd : ∀ j, (⟨bl, ol, none⟩ : Addr).add j = ⟨bl, ol + j, none⟩ := fun j => by
        unfold Addr.add
        split <;> simp_all
      rw [hadd] at c0
      refine ⟨bl, ol, rfl, World.block_lt_of_cell? W _ c0, fun j v hj => ?_⟩
      have hi : j < len := by have := (List.getElem?_eq_some_iff.1 hj).1; simpa using this
      have hv : v = f j := by simp [hi] at hj; exact hj.symm
      subst hv
      have := (hfx j (by omega)).2
      rw [hadd] at this
      exact ⟨(hfx j (by omega)).1, this⟩
def Ac.cells (x : Ac) : List Value := [.int .u32 ((x.a : Nat) : Int), .int .i64 x.n, .int .u32 ((x.v : Nat) : Int), .bool x.c]
theorem act_open {W : World} {base : Nat} {sp : Nat → Bool} {hd : Bool} {fuel : Nat} {cs : List Value} {y : DataW H × List MemPlace} (h : DataW.trod enc Try.prog W base sp hd fuel 36 cs = some y) : ∃ x : Ac, cs = x.cells ∧ x.a < 4294967296 ∧ x.v < 4294967296 := by
  obtain ⟨xs, n, _, rfl, hl, hlen, hf⟩ := DataW.trod_struct Try.underlying36 h
  rw [cells_act] at hl
  match cs, hl with
  | [c0, c1, c2, c3], _ =>
  match xs, hlen with
  | [y0, y1, y2, y3], _ =>
  have h0 := hf 0 _ rfl
  have h1 := hf 1 _ rfl
  have h2 := hf 2 _ rfl
  have h3 := hf 3 _ rfl
  simp [cell1_int, cell1_u32, cell1_bool] at h0 h1 h2 h3
  obtain ⟨a0, e0, z0, w0⟩ := DataW.trod_int Try.underlying34 h0
  obtain ⟨a1, e1, z1, w1⟩ := DataW.trod_int Try.underlying3 h1
  obtain ⟨a2, e2, z2, w2⟩ := DataW.trod_int Try.underlying34 h2
  obtain ⟨a3, e3, z3⟩ := DataW.trod_bool Try.underlying4 h3
  obtain ⟨n0, rfl, l0⟩ := u32_of w0
  obtain ⟨n2, rfl, l2⟩ := u32_of w2
  simp only [List.cons.injEq, and_true] at e0 e1 e2 e3
  subst e0 e1 e2 e3
  exact ⟨⟨n0, a1, n2, a3⟩, rfl, l0, l2⟩
/-- A list of acts handed in. -/
theorem open_acts {W : World} {al : Option Addr} {len cap : Nat} {d : DataW H} {ps : List MemPlace} (h : DataW.Trod enc Try.prog W 0 (fun _ => true) true 22 (.slice al len cap) d ps) :
    ∃ X : List Ac, len = X.length ∧ ActsAt W al X := by
  obtain ⟨fuel, hf⟩ := h
  rcases Go.Deep.open_slice Try.underlying22 hf with ⟨hcs, _⟩ | ⟨a, len', cap', m, n, D, Pl, hcs, _, hl, _, hm, _, hall⟩
  · simp [Value.cells] at hcs
    obtain ⟨_, rfl, _⟩ := hcs
    exact ⟨[], rfl, .inl rfl⟩
  · simp [Value.cells] at hcs
    obtain ⟨rfl, rfl, rfl⟩ := hcs
    simp only [if_true] at hm
    have hex : ∀ i : Nat, ∃ x : Ac, i < m → (x.a < 4294967296 ∧ x.v < 4294967296) ∧ W.cells? 0 (a.add (i * 4)) 4 = some x.cells := by
      intro i
      by_cases hi : i < m
      · obtain ⟨cs', h1, h2⟩ := hall i hi
        obtain ⟨x, rfl, la, lv⟩ := act_open h2
        rw [cells_act] at h1
        exact ⟨x, fun _ => ⟨⟨la, lv⟩, h1⟩⟩
      · exact ⟨⟨0, 0, 0, false⟩, fun c => absurd c hi⟩
    obtain ⟨f, hfx⟩ := Classical.axiomOfChoice hex
    refine ⟨(List.range len).map f, by simp, ?_⟩
    by_cases h0 : len = 0
    · left; subst h0; rfl
    · right
      obtain ⟨bl, ol, sp⟩ := a
      have hcell : ∀ i, i < len → ∀ j u, (f i).cells[j]? = some u → W.cell? (((⟨bl, ol, sp⟩ : Addr).add (i * 4)).add j) = some u := by
        intro i hi j u hj
        have hc := (hfx i (by omega)).2
        obtain ⟨_, hc1, hc2⟩ := World.cells?_some hc
        have hj3 : j < 4 := by have := (List.getElem?_eq_some_iff.1 hj).1; simpa [Ac.cells] using this
        have := hc2 j hj3
        rw [this, hj]
      have c0 := hcell 0 (by omega) 0 _ rfl
      simp only [Nat.zero_mul, Addr.add, if_true] at c0
      have hs : sp = none := by simpa using World.cell?_spot c0
      subst hs
      refine ⟨bl, ol, rfl, World.block_lt_of_cell? W _ c0, ?_⟩
      intro i x hx
      have hi : i < len := by have := (List.getElem?_eq_some_iff.1 hx).1; simpa using this
      have hx' : x = f i := by simp [hi] at hx; exact hx.symm
      subst hx'
      have e : ∀ j, ((⟨bl, ol, none⟩ : Addr).add (i * 4)).add j = ⟨bl, ol + i * 4 + j, none⟩ := by
        intro j
        unfold Addr.add
        split <;> split <;> simp_all
      refine ⟨(hfx i (by omega)).1.1, (hfx i (by omega)).1.2, ?_, ?_, ?_, ?_⟩
      · have := hcell i hi 0 _ rfl
        rw [e] at this
        exact this
      · have := hcell i hi 1 _ rfl
        rw [e] at this
        exact this
      · have := hcell i hi 2 _ rfl
        rw [e] at this
        exact this
      · have := hcell i hi 3 _ rfl
        rw [e] at this
        exact this
end
theorem plays_any {At : World → Nat → List Nat → Nat → (Nat → Nat) → Prop} (A : Api At) (n : Int) {al a2 a3 : Option Addr} {X : List Ac} {Y : List Nat} {Z : List Int} {len cap l2 c2 l3 c3 : Nat} {W : World} (hX : ActsAt W al X) (hx : len = X.length) (hY : U32At W a2 Y) (hy : l2 = Y.length) (hZ : I64At W a3 Z) (hz : l3 = Z.length) : Calls Try.prog 3 #[.int .i64 n, .slice al len cap, .slice a2 l2 c2, .slice a3 l3 c3] W fun e w => e = .returned (.bool true) ∧ Below W.heap.size W w := by
  by_cases h : sizeP n
  · obtain ⟨m, rfl⟩ := Int.eq_ofNat_of_zero_le (a := n) (by unfold sizeP at h; omega)
    exact plays_yes A h hX hx hY hy hZ hz
  · exact plays_no A h W
theorem back_any {At : World → Nat → List Nat → Nat → (Nat → Nat) → Prop} (A : Api At) (n k : Int) {al : Option Addr} {X : List Nat} {len cap a v : Nat} {W : World} (hX : BytesAt W al X) (hlen : len = X.length) (ha : a < 4294967296) (hv : v < 4294967296) : Calls Try.prog 4 #[.int .i64 n, .slice al len cap, .int .u32 ((a : Nat) : Int), .int .i64 k, .int .u32 ((v : Nat) : Int)] W fun e w => e = .returned (.bool true) ∧ Below W.heap.size W w := by
  by_cases h : sizeP n
  · obtain ⟨m, rfl⟩ := Int.eq_ofNat_of_zero_le (a := n) (by unfold sizeP at h; omega)
    exact back_yes A h hX hlen ha hv
  · exact back_no A h W
theorem ramPlays_lifted {At : World → Nat → List Nat → Nat → (Nat → Nat) → Prop} (A : Api At) (os : Os) (started : os.Started) (H : Type) (enc : TypeId × Value → H) :
    ReturnsInHanded {} Try.checked os 3 .any (Rows.ramPlaysSpec.pre6 enc Try.prog Try.f3 Rows.ramPlaysRow.domain false) (Rows.ramPlaysSpec.post enc Try.prog Try.f3 false true false false) := by
  refine returnsInHanded_of_change (C := Try.checked) ownk started (by kernel_rfl) Try.func3
    (ChangeSpec.witness6 (enc := enc) (C := Try.checked) false ⟨#[], #[.int .i64 0, .slice none 0 0, .slice none 0 0, .slice none 0 0], []⟩ 8 (by kernel_rfl) (by kernel_rfl) (by kernel_rfl) (by kernel_rfl)) ?_
  intro W base args ds gs before hval0 hW _ _
  have hval : ∀ (j : Nat) t v, Try.f3.params[j]? = some t → args[j]? = some v → Value.okWide Try.prog W .any base t v := hval0
  have hW' := hW
  obtain ⟨p, q, hA0, hV, rfl, _, _⟩ := hW
  have hA : DataW.TrodAll enc Try.prog W 0 (fun _ => true) true Try.f3.params.toList args.toList ds p := hA0
  rw [Try.params3] at hA hval
  obtain ⟨v0, vs0, d0, ds0, p0, q0, hargs, rfl, rfl, h0, r0⟩ := trodAll_cons hA
  obtain ⟨v1, vs1, d1, ds1, p1, q1, rfl, rfl, rfl, h1, r1⟩ := trodAll_cons r0
  obtain ⟨v2, vs2, d2, ds2, p2, q2, rfl, rfl, rfl, h2, r2⟩ := trodAll_cons r1
  obtain ⟨v3, vs3, d3, ds3, p3, q3, rfl, rfl, rfl, h3, r3⟩ := trodAll_cons r2
  obtain ⟨rfl, rfl, rfl⟩ := trodAll_nil r3
  obtain rfl : args = #[v0, v1, v2, v3] := by cases args; simp_all
  obtain ⟨rfl, rfl⟩ := trodVars_none hV
  obtain ⟨i0, rfl, rfl, rfl, w0⟩ := open_int Try.underlying3 (hval 0 3 v0 rfl rfl) h0
  obtain ⟨al1, len1, cap1, rfl⟩ := okWide_slice Try.underlying22 (hval 1 22 v1 rfl rfl)
  obtain ⟨al2, len2, cap2, rfl⟩ := okWide_slice Try.underlying23 (hval 2 23 v2 rfl rfl)
  obtain ⟨al3, len3, cap3, rfl⟩ := okWide_slice Try.underlying24 (hval 3 24 v3 rfl rfl)
  clear hA0 hval0
  simp only [List.append_nil] at hW'
  have hlt1 : ∀ x ∈ p1, x.block < W.heap.size := fun x hx => hW'.lt x (by simp [hx])
  have hlt2 : ∀ x ∈ p2, x.block < W.heap.size := fun x hx => hW'.lt x (by simp [hx])
  have hlt3 : ∀ x ∈ p3, x.block < W.heap.size := fun x hx => hW'.lt x (by simp [hx])
  obtain ⟨X, hx, hX⟩ := open_acts h1
  obtain ⟨Y, hy, hY⟩ := open_u32s h2
  obtain ⟨Z, hz, hZ⟩ := open_ints h3
  refine (plays_any A i0 hX hx hY hy hZ hz).mono fun e W' ⟨he, hg⟩ => ?_
  subst he
  refine ⟨_, rfl, _, _, _, [], ([] ++ (p1 ++ (p2 ++ (p3 ++ [])))), [], hW', ?_, ?_, rfl, hg.frame _, fun h => by cases h⟩
  · exact trodAll_mk1 (shut_bool Try.underlying4 _)
  · exact (trodAll_cons_mk (shut_int Try.underlying3 w0) (trodAll_cons_mk (Below.trod laid (by kernel_rfl) (of_decide_eq_true (by kernel_rfl)) h1 hg hlt1) (trodAll_cons_mk (Below.trod laid (by kernel_rfl) (of_decide_eq_true (by kernel_rfl)) h2 hg hlt2) (trodAll_cons_mk (Below.trod laid (by kernel_rfl) (of_decide_eq_true (by kernel_rfl)) h3 hg hlt3) trodAll_mk0))))
theorem ramPlays_row {At : World → Nat → List Nat → Nat → (Nat → Nat) → Prop} (A : Api At) : Rows.RamPlaysSaid :=
  OpenClaim.holds_of_wide 3 Try.f3 rfl rfl rfl rfl rfl rfl rfl ⟨rfl, rfl, rfl, rfl, rfl⟩ rfl rfl rfl rfl rfl (by kernel_rfl) Try.func3 (by kernel_rfl)
    (of_decide_eq_true (by kernel_rfl)) (by unfold Func.isWrapper; rw [if_neg (of_decide_eq_false (by kernel_rfl))]; exact ⟨rfl, rfl⟩)
    (fun os started H enc _ => ramPlays_lifted A os started H enc)
theorem ramBack_lifted {At : World → Nat → List Nat → Nat → (Nat → Nat) → Prop} (A : Api At) (os : Os) (started : os.Started) (H : Type) (enc : TypeId × Value → H) :
    ReturnsInHanded {} Try.checked os 4 .any (Rows.ramBackSpec.pre6 enc Try.prog Try.f4 Rows.ramBackRow.domain false) (Rows.ramBackSpec.post enc Try.prog Try.f4 false true false false) := by
  refine returnsInHanded_of_change (C := Try.checked) ownk started (by kernel_rfl) Try.func4
    (ChangeSpec.witness6 (enc := enc) (C := Try.checked) false ⟨#[], #[.int .i64 0, .slice none 0 0, .int .u32 0, .int .i64 0, .int .u32 0], []⟩ 8 (by kernel_rfl) (by kernel_rfl) (by kernel_rfl) (by kernel_rfl)) ?_
  intro W base args ds gs before hval0 hW _ _
  have hval : ∀ (j : Nat) t v, Try.f4.params[j]? = some t → args[j]? = some v → Value.okWide Try.prog W .any base t v := hval0
  have hW' := hW
  obtain ⟨p, q, hA0, hV, rfl, _, _⟩ := hW
  have hA : DataW.TrodAll enc Try.prog W 0 (fun _ => true) true Try.f4.params.toList args.toList ds p := hA0
  rw [Try.params4] at hA hval
  obtain ⟨v0, vs0, d0, ds0, p0, q0, hargs, rfl, rfl, h0, r0⟩ := trodAll_cons hA
  obtain ⟨v1, vs1, d1, ds1, p1, q1, rfl, rfl, rfl, h1, r1⟩ := trodAll_cons r0
  obtain ⟨v2, vs2, d2, ds2, p2, q2, rfl, rfl, rfl, h2, r2⟩ := trodAll_cons r1
  obtain ⟨v3, vs3, d3, ds3, p3, q3, rfl, rfl, rfl, h3, r3⟩ := trodAll_cons r2
  obtain ⟨v4, vs4, d4, ds4, p4, q4, rfl, rfl, rfl, h4, r4⟩ := trodAll_cons r3
  obtain ⟨rfl, rfl, rfl⟩ := trodAll_nil r4
  obtain rfl : args = #[v0, v1, v2, v3, v4] := by cases args; simp_all
  obtain ⟨rfl, rfl⟩ := trodVars_none hV
  obtain ⟨i0, rfl, rfl, rfl, w0⟩ := open_int Try.underlying3 (hval 0 3 v0 rfl rfl) h0
  obtain ⟨al1, len1, cap1, rfl⟩ := okWide_slice Try.underlying41 (hval 1 41 v1 rfl rfl)
  obtain ⟨i2, rfl, rfl, rfl, w2⟩ := open_int Try.underlying34 (hval 2 34 v2 rfl rfl) h2
  obtain ⟨i3, rfl, rfl, rfl, w3⟩ := open_int Try.underlying3 (hval 3 3 v3 rfl rfl) h3
  obtain ⟨i4, rfl, rfl, rfl, w4⟩ := open_int Try.underlying34 (hval 4 34 v4 rfl rfl) h4
  clear hA0 hval0
  simp only [List.append_nil] at hW'
  have hlt1 : ∀ x ∈ p1, x.block < W.heap.size := fun x hx => hW'.lt x (by simp [hx])
  obtain ⟨X, hx, hX⟩ := open_bytes h1
  obtain ⟨n2, rfl, l2⟩ := u32_of w2
  obtain ⟨n4, rfl, l4⟩ := u32_of w4
  refine (back_any A i0 i3 hX hx l2 l4).mono fun e W' ⟨he, hg⟩ => ?_
  subst he
  refine ⟨_, rfl, _, _, _, [], ([] ++ (p1 ++ ([] ++ ([] ++ ([] ++ []))))), [], hW', ?_, ?_, rfl, hg.frame _, fun h => by cases h⟩
  · exact trodAll_mk1 (shut_bool Try.underlying4 _)
  · exact (trodAll_cons_mk (shut_int Try.underlying3 w0) (trodAll_cons_mk (Below.trod laid (by kernel_rfl) (of_decide_eq_true (by kernel_rfl)) h1 hg hlt1) (trodAll_cons_mk (shut_int Try.underlying34 w2) (trodAll_cons_mk (shut_int Try.underlying3 w3) (trodAll_cons_mk (shut_int Try.underlying34 w4) trodAll_mk0)))))
theorem ramBack_row {At : World → Nat → List Nat → Nat → (Nat → Nat) → Prop} (A : Api At) : Rows.RamBackSaid :=
  OpenClaim.holds_of_wide 4 Try.f4 rfl rfl rfl rfl rfl rfl rfl ⟨rfl, rfl, rfl, rfl, rfl⟩ rfl rfl rfl rfl rfl (by kernel_rfl) Try.func4 (by kernel_rfl)
    (of_decide_eq_true (by kernel_rfl)) (by unfold Func.isWrapper; rw [if_neg (of_decide_eq_false (by kernel_rfl))]; exact ⟨rfl, rfl⟩)
    (fun os started H enc _ => ramBack_lifted A os started H enc)
end Rm
end Go.Proofs.Ytjcdpdfchjhjhaa
