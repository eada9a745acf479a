/-
  For every clauses, every list of numbers and every model: the law CnfSound returns true, and what is handed in reads as it did. THE TIED CARD.
-/
import Derived.Test.YtmegadjeficfjaaGreatDoorCuSound
import Derived.Test.YtmegadjeficfjaaGreatDoorCfRow
import Derived.Test.YtmegadjeficfjaaGreatDoorCuLaid
import Derived.Test.YtmegadjeficfjaaGreatDoorCards
import Derived.Test.YtmegadjeficfjaaGreatDoorTie
import Derived.SevenTiedAt
import Derived.LaidMore
import Derived.Lay
import Derived.Deep.Grids
import Derived.Stop.Joined
namespace Go.Proofs.YtmegadjeficfjaaGreatDoor
open Go.ChangeShapes Go.WideShapes Go.ChangeAt Go.WideMaps Go.WideElems Go.RowKit Go.Joins
namespace Cf
set_option maxHeartbeats 1600000

theorem bytes_bool : Tryz.prog.bytesOf 4 = 1 := by kernel_rfl
theorem cells1_bool : Tryz.prog.cellsOf 4 = 1 := by kernel_rfl
theorem open_boolsA {H : Type} {enc : TypeId × Value → H} {W : World} {al : Option Addr} {len cap : Nat} {d : DataW H} {ps : List MemPlace} (h : DataW.Trod enc Tryz.prog W 0 (fun _ => true) true 26 (.slice al len cap) d ps) (hw : ∀ n ∈ d.weights Tryz.prog 26, n ≤ reachBytes) :
    ∃ M : List Bool, len = M.length ∧ M.length < 4611686018427387904 ∧ BoolsAt W al M := by
  obtain ⟨fuel, hf⟩ := h
  rcases Go.Deep.open_bools Tryz.underlying26 Tryz.underlying4 cells1_bool hf with ⟨hcs, _⟩ | ⟨a, len', cap', B, hcs, _, hl, hm, hx, hc⟩
  · simp [Value.cells] at hcs
    obtain ⟨_, rfl, _⟩ := hcs
    exact ⟨[], rfl, by simp, .inl rfl⟩
  · simp [Value.cells] at hcs
    obtain ⟨rfl, rfl, rfl⟩ := hcs
    have hd : d = .slice ((List.range len).map fun i => .lit (.bool (B i))) ((List.range (cap - len)).map fun j => .lit (.bool (B (len + j)))) := congrArg Prod.fst hx
    have hb : cap ≤ reachBytes := by
      have := hw ((((List.range len).map fun i => (DataW.lit (.bool (B i)) : DataW H)).length + ((List.range (cap - len)).map fun j => (DataW.lit (.bool (B (len + j))) : DataW H)).length) * 1) (by rw [hd, DataW.weights, Tryz.underlying26]; simp [bytes_bool])
      simp only [List.length_map, List.length_range] at this
      omega
    rw [show reachBytes = 140737488351232 from rfl] at hb
    refine ⟨(List.range len).map B, by simp, by simp; omega, ?_⟩
    by_cases h0 : len = 0
    · left; subst h0; simp
    · right
      have c0 := hc 0 (by omega)
      have sp := spot_add c0
      obtain ⟨b, o, s⟩ := a
      simp only at sp
      subst sp
      rw [plain_add] at c0
      refine ⟨b, o, rfl, World.block_lt_of_cell? W _ c0, fun j v hj => ?_⟩
      by_cases hjl : j < len
      · rw [List.getElem?_map, List.getElem?_range hjl] at hj
        have := hc j (by omega)
        rw [plain_add] at this
        rw [this]
        simpa using hj
      · rw [List.getElem?_eq_none (by simpa using hjl)] at hj; cases hj

theorem cnfSound_door (os : Os) (args : Array Value) : laidMetH Tryz.prog Rows.cnfSoundRow.laid ((World.laidAll Tryz.prog os Rows.cnfSoundRow.laid).forCall (fun _ _ => 0) ⟨#[], args, []⟩).memory := by
  rw [MakeChecks.laidMetH_plain _ _ _ (by kernel_rfl)]; exact laidMet_laidAll _ (by kernel_rfl) (by kernel_rfl)

set_option maxRecDepth 100000 in
theorem cnfSound_lifted (os : Os) (started : os.Started) (H : Type) (enc : TypeId × Value → H) :
    ReturnsInHanded {} Tryz.checked os 3 .any (fun w args => (Rows.cnfSoundSpec.pre enc Tryz.prog Tryz.f3 [] false w args ∧ laidMetH Tryz.prog Rows.cnfSoundRow.laid w) ∧ sizedMet enc Tryz.prog Tryz.f3 (OpenSpec.ofChange Rows.cnfSoundSpec) false w args)
      (Rows.cnfSoundSpec.post enc Tryz.prog Tryz.f3 false true false false) := by
  refine returnsInHanded_of_change_and (C := Tryz.checked) (X := fun w _ => laidMetH Tryz.prog Rows.cnfSoundRow.laid w) (fun _ _ _ hh h => h.of_heap hh) own started (by kernel_rfl) Tryz.func3
    (ChangeSpec.witness_shaped (enc := enc) (C := Tryz.checked) (os := os) (X := fun w _ => laidMetH Tryz.prog Rows.cnfSoundRow.laid w) false (World.laidAll Tryz.prog os Rows.cnfSoundRow.laid) #[.agg #[.int .i64 0, .slice none 0 0], .slice none 0 0, .slice none 0 0] 8 (World.laidAll_os _ _ _) (World.shaped_of_ZipB (by kernel_rfl) (by kernel_rfl)) (by kernel_rfl) (by kernel_rfl) (by kernel_rfl) (cnfSound_door os _)) ?_
  intro W base args ds gs before hval0 hW _ hsz0 hL _
  have hsz : (DataW.weightsEach Tryz.prog (Tryz.f3.params.toList ++ Rows.cnfSoundSpec.plain.varTypes Tryz.prog) (ds ++ gs)).all (· ≤ reachBytes) = true := hsz0
  clear hsz0
  have hval : ∀ (j : Nat) t v, Tryz.f3.params[j]? = some t → args[j]? = some v → Value.okWide Tryz.prog W .any base t v := hval0
  have hW' := hW
  obtain ⟨p, q, hA0, hV, rfl, _, _⟩ := hW
  have hA : DataW.TrodAll enc Tryz.prog W 0 (fun _ => true) true Tryz.f3.params.toList args.toList ds p := hA0
  rw [Tryz.params3] at hA hval hsz
  obtain ⟨v0, vs0, d0, ds0, p0, q0, hargs, rfl, rfl, h0, r0⟩ := trodAll_cons hA
  obtain ⟨v1, vs1, d1, ds1, p1, q1, rfl, rfl, rfl, h1, r1⟩ := trodAll_cons r0
  obtain ⟨v2, vs2, d2, ds2, p2, q2, rfl, rfl, rfl, h2, r2⟩ := trodAll_cons r1
  obtain ⟨rfl, rfl, rfl⟩ := trodAll_nil r2
  obtain rfl : args = #[v0, v1, v2] := by cases args; simp_all
  obtain ⟨rfl, rfl⟩ := trodVars_none hV
  have hw0 : ∀ n ∈ d0.weights Tryz.prog 24, n ≤ reachBytes := fun n hn => by
    have h := List.all_eq_true.1 hsz n (by simp [DataW.weightsEach, hn])
    simpa using h
  have hw1 : ∀ n ∈ d1.weights Tryz.prog 25, n ≤ reachBytes := fun n hn => by
    have h := List.all_eq_true.1 hsz n (by simp [DataW.weightsEach, hn])
    simpa using h
  have hw2 : ∀ n ∈ d2.weights Tryz.prog 26, n ≤ reachBytes := fun n hn => by
    have h := List.all_eq_true.1 hsz n (by simp [DataW.weightsEach, hn])
    simpa using h
  obtain ⟨x, al, c, C, rfl, hx, hC, hok, _⟩ := open_cnf (hval 0 24 v0 rfl rfl) h0 hw0
  obtain ⟨gl, glen, gc, rfl⟩ := okWide_slice Tryz.underlying25 (hval 1 25 v1 rfl rfl)
  obtain ⟨ml, mlen, mc, rfl⟩ := okWide_slice Tryz.underlying26 (hval 2 26 v2 rfl rfl)
  obtain ⟨T, rfl, hTl, hT6, hTI⟩ := open_ints h1 hw1
  obtain ⟨M, rfl, hMl, hMI⟩ := open_boolsA h2 hw2
  clear hA0 hval0
  simp only [List.append_nil] at hW'
  have hlt : ∀ x ∈ p0, x.block < W.heap.size := fun x hx => hW'.lt x (by simp [hx])
  have hlt1 : ∀ x ∈ p1, x.block < W.heap.size := fun x hx => hW'.lt x (by simp [hx])
  have hlt2 : ∀ x ∈ p2, x.block < W.heap.size := fun x hx => hW'.lt x (by simp [hx])
  have hL1 := hL
  rw [MakeChecks.laidMetH_plain _ _ _ (by kernel_rfl)] at hL1
  refine (lsound_any (c := c) (gc := gc) (mc := mc) hC hok hTI hTl hT6 hMI hMl (tens_of_laid hL1)).mono fun e W' ⟨he, hg⟩ => ?_
  subst he
  refine ⟨_, rfl, _, _, _, [], (p0 ++ (p1 ++ (p2 ++ []))), [], hW', ?_, ?_, rfl, hg.frame _, fun h => by cases h⟩
  · exact trodAll_mk1 (shut_bool Tryz.underlying4 _)
  · exact trodAll_cons_mk (Below.trod laidOut (by kernel_rfl) (of_decide_eq_true (by kernel_rfl)) h0 hg hlt) (trodAll_cons_mk (Below.trod laidOut (by kernel_rfl) (of_decide_eq_true (by kernel_rfl)) h1 hg hlt1) (trodAll_cons_mk (Below.trod laidOut (by kernel_rfl) (of_decide_eq_true (by kernel_rfl)) h2 hg hlt2) trodAll_mk0))

theorem cnfSound_said : Rows.CnfSoundSaid :=
  OpenClaim.holds_of_wide 3 Tryz.f3 rfl rfl rfl rfl rfl rfl rfl ⟨rfl, rfl, rfl, rfl, rfl⟩ rfl rfl rfl rfl rfl (by kernel_rfl) Tryz.func3 (by kernel_rfl)
    (of_decide_eq_true (by kernel_rfl)) (by unfold Func.isWrapper; rw [if_neg (of_decide_eq_false (by kernel_rfl))]; exact ⟨rfl, rfl⟩)
    (fun os started H enc _ => cnfSound_lifted os started H enc)
end Cf
/-- THE TIED CARD. -/
theorem cnfSound_card_holds : Rows.CnfSoundCardSaid :=
  Claim7.holds_tied_plain_at .later [] [.data, .data, .data, .data, .sentinel, .sentinel, .pinned] true (true, "cd4422ba747a99e7e82a3171935879e65aa138984ecbcad6df243a657baf26c6") true
    Cf.cnfSound_said (fun _ h => by cases h) (by kernel_rfl) (fun _ h => by cases h) cnfSound_row_tie rfl ⟨rfl, rfl⟩ (by kernel_rfl) rfl
    (fun f fn hf hfn => by
      obtain rfl : f = 3 := Option.some.inj ((show Tryz.prog.funcNamed "augury/augurylaw08.CnfSound" = some 3 by kernel_rfl).symm.trans hf) |>.symm
      obtain rfl : fn = Tryz.f3 := (Option.some.inj (Tryz.func3.symm.trans hfn)).symm
      exact ⟨by kernel_rfl, fun j t ht => by
        rw [Tryz.params3] at ht
        have hm : t ∈ [24, 25, 26] := by simpa using Array.mem_of_getElem? ht
        have hall : ([24, 25, 26].all fun u => !Tryz.prog.wantsStandIn u) = true := by kernel_rfl
        exact (show Tryz.prog.wantsStandIn t = false by simpa using List.all_eq_true.1 hall t hm)⟩)
    (by kernel_rfl)
#print axioms cnfSound_card_holds
end Go.Proofs.YtmegadjeficfjaaGreatDoor
