/-
  Lists of clauses, of numbers, of yes and no handed in: how they are read.
-/
import Derived.Test.YtmgkgbhkaoflhaaCfRow
import Derived.Test.YtmgkgbhkaoflhaaRpHold
import Derived.Deep.Grids
namespace Go.Proofs.Ytmgkgbhkaoflhaa
open Go.ChangeShapes Go.WideShapes Go.ChangeAt Go.RowKit Go.Joins
namespace Rp
open Cf
set_option maxHeartbeats 1600000
set_option maxRecDepth 100000

theorem bytes_bool : Try.prog.bytesOf 4 = 1 := by kernel_rfl
theorem cells1_bool : Try.prog.cellsOf 4 = 1 := by kernel_rfl
theorem open_boolsA {H : Type} {enc : TypeId × Value → H} {W : World} {al : Option Addr} {len cap : Nat} {d : DataW H} {ps : List MemPlace} (h : DataW.Trod enc Try.prog W 0 (fun _ => true) true 32 (.slice al len cap) d ps) (hw : ∀ n ∈ d.weights Try.prog 32, n ≤ reachBytes) :
    ∃ M : List Bool, len = M.length ∧ M.length < 4611686018427387904 ∧ BoolsAt W al M := by
  obtain ⟨fuel, hf⟩ := h
  rcases Go.Deep.open_bools Try.underlying32 Try.underlying4 cells1_bool hf with ⟨hcs, _⟩ | ⟨a, len', cap', B, hcs, _, hl, hm, hx, hc⟩
  · simp [Value.cells] at hcs
    obtain ⟨_, rfl, _⟩ := hcs
    exact ⟨[], rfl, by simp, .inl rfl⟩
  · simp [Value.cells] at hcs
    obtain ⟨rfl, rfl, rfl⟩ := hcs
    have hd : d = .slice ((List.range len).map fun i => .lit (.bool (B i))) ((List.range (cap - len)).map fun j => .lit (.bool (B (len + j)))) := congrArg Prod.fst hx
    have hb : cap ≤ reachBytes := by
      have := hw ((((List.range len).map fun i => (DataW.lit (.bool (B i)) : DataW H)).length + ((List.range (cap - len)).map fun j => (DataW.lit (.bool (B (len + j))) : DataW H)).length) * 1) (by rw [hd, DataW.weights, Try.underlying32]; simp [bytes_bool])
      simp only [List.length_map, List.length_range] at this
      omega
    rw [show reachBytes = 140737488351232 from rfl] at hb
    refine ⟨(List.range len).map B, by simp, by simp; omega, ?_⟩
    by_cases h0 : len = 0
    · left; subst h0; simp
    · right
      have c0 := hc 0 (by omega)
      have sp := spot_add c0
      obtain ⟨b, o, s⟩ := a
      simp only at sp
      subst sp
      rw [plain_add] at c0
      refine ⟨b, o, rfl, World.block_lt_of_cell? W _ c0, fun j v hj => ?_⟩
      by_cases hjl : j < len
      · rw [List.getElem?_map, List.getElem?_range hjl] at hj
        have := hc j (by omega)
        rw [plain_add] at this
        rw [this]
        simpa using hj
      · rw [List.getElem?_eq_none (by simpa using hjl)] at hj; cases hj
section
variable {H : Type} {enc : TypeId × Value → H}
theorem ints_cap {W : World} {al : Option Addr} {len cap : Nat} {d : DataW H} {ps : List MemPlace} (h : DataW.Trod enc Try.prog W 0 (fun _ => true) true 25 (.slice al len cap) d ps) : al = none → cap = 0 := by
  obtain ⟨fuel, hf⟩ := h
  rcases Go.ChangeShapes.open_ints Try.underlying25 Try.underlying3 cells1_int hf with ⟨hcs, _⟩ | ⟨a, len', cap', zs, hcs, _⟩
  · simp [Value.cells] at hcs
    obtain ⟨_, _, rfl⟩ := hcs
    exact fun _ => rfl
  · simp [Value.cells] at hcs
    obtain ⟨rfl, rfl, rfl⟩ := hcs
    intro e; cases e
theorem open_cls {W : World} {al : Option Addr} {len cap : Nat} {d : DataW H} {p : List MemPlace} (h : DataW.Trod enc Try.prog W 0 (fun _ => true) true 22 (.slice al len cap) d p) (hw : ∀ n ∈ d.weights Try.prog 22, n ≤ reachBytes) :
    ∃ C : Cl, len = C.length ∧ ClsAt W al C ∧ OkC C ∧ (al = none → cap = 0) := by
  obtain ⟨fuel, hf⟩ := h
  rcases Go.Deep.open_int_rows Try.underlying22 Try.underlying25 Try.underlying3 cells1_ints cells1_int hf with ⟨hcs, _⟩ | ⟨ad, len', cap', A, L, Cc, Z, hcs, _, hl, hm, hx, hrow⟩
  · simp [Value.cells] at hcs
    obtain ⟨rfl, rfl, rfl⟩ := hcs
    exact ⟨[], rfl, .inl rfl, ⟨by simp, by simp, by simp⟩, fun _ => rfl⟩
  · simp [Value.cells] at hcs
    obtain ⟨rfl, rfl, rfl⟩ := hcs
    have hy : d = .slice ((List.range len).map fun r => Go.Deep.intRow .i64 (A r) (L r) (Z r)) ((List.range (cap - len)).map fun j => Go.Deep.intRow .i64 (A (len + j)) (L (len + j)) (Z (len + j))) := congrArg Prod.fst hx
    have hcap : cap * 24 ≤ reachBytes := by
      have := hw ((((List.range len).map fun r => Go.Deep.intRow (H := H) .i64 (A r) (L r) (Z r)).length + ((List.range (cap - len)).map fun j => Go.Deep.intRow (H := H) .i64 (A (len + j)) (L (len + j)) (Z (len + j))).length) * 24) (by rw [hy, DataW.weights, Try.underlying22]; simp [bytes_ints])
      simp only [List.length_map, List.length_range] at this
      have e : len + (cap - len) = cap := by omega
      rw [e] at this
      exact this
    rw [show reachBytes = 140737488351232 from rfl] at hcap
    have hin : ∀ r, r < len → Cc r * 8 ≤ 140737488351232 := fun r hr => by
      obtain ⟨q1, q2, q3, q4, q5, q6, q7⟩ := hrow r (by omega)
      cases hA : A r with
      | none => rw [q6 hA]; omega
      | some a' =>
        have hmem : Go.Deep.intRow (H := H) .i64 (A r) (L r) (Z r) ∈ (List.range len).map fun r => Go.Deep.intRow (H := H) .i64 (A r) (L r) (Z r) := List.mem_map.2 ⟨r, List.mem_range.2 hr, rfl⟩
        have hww : ((Z r).length * 8) ∈ (Go.Deep.intRow (H := H) .i64 (A r) (L r) (Z r)).weights Try.prog 25 := by
          rw [hA]
          show _ ∈ (DataW.slice (lits .i64 ((Z r).take (L r))) (lits .i64 ((Z r).drop (L r)))).weights Try.prog 25
          rw [DataW.weights, Try.underlying25]
          simp only [lits_len, List.length_take, List.length_drop, bytes_int]
          have e : min (L r) (Z r).length + ((Z r).length - L r) = (Z r).length := by omega
          rw [e]
          simp
        have := hw ((Z r).length * 8) (by
          rw [hy, DataW.weights, Try.underlying22]
          simp only [List.mem_cons, List.mem_append]
          exact .inr (.inl (mem_all hmem hww)))
        rw [q4] at this
        exact this
    obtain ⟨C, hC⟩ : ∃ C : Cl, C = (List.range len).map fun r => (Z r).take (L r) := ⟨_, rfl⟩
    have hCl : C.length = len := by rw [hC]; simp
    have hCe : ∀ (j : Nat) (k : List Int), C[j]? = some k → j < len ∧ k = (Z j).take (L j) := fun j k hj => by
      rw [hC, List.getElem?_map] at hj
      by_cases hjl : j < len
      · rw [List.getElem?_range hjl] at hj
        exact ⟨hjl, by simpa using hj.symm⟩
      · rw [List.getElem?_eq_none (by simpa using hjl)] at hj; cases hj
    have hk : ∀ k ∈ C, ∃ j, j < len ∧ k = (Z j).take (L j) := fun k hk => by
      obtain ⟨j, hj⟩ := List.getElem?_of_mem hk
      exact ⟨j, hCe j k hj⟩
    refine ⟨C, by rw [hCl], ?_, ⟨by rw [hCl]; omega, fun k hkk => ?_, fun k hkk l hl' => ?_⟩, fun c => by cases c⟩
    · by_cases h0 : len = 0
      · left; exact List.length_eq_zero_iff.1 (by rw [hCl]; exact h0)
      · right
        have c0 := (hrow 0 (by omega)).1
        have sp := spot_add c0
        obtain ⟨b, o, s⟩ := ad
        simp only at sp
        subst sp
        rw [plain_add] at c0
        refine ⟨b, o, rfl, World.block_lt_of_cell? W _ c0, fun j k hj => ?_⟩
        obtain ⟨hjl, rfl⟩ := hCe j k hj
        obtain ⟨q1, q2, q3, q4, q5, q6, q7⟩ := hrow j (by omega)
        rw [plain_add] at q1
        have hlen : ((Z j).take (L j)).length = L j := by rw [List.length_take]; omega
        refine ⟨A j, Cc j, by rw [hlen]; exact q1, ?_⟩
        by_cases hL0 : L j = 0
        · left; rw [hL0]; simp
        · right
          cases hA : A j with
          | none => have := q6 hA; omega
          | some a' =>
            have z0 := (q7 a' hA).2 0 (by omega)
            have sp := spot_add z0
            obtain ⟨b', o', s'⟩ := a'
            simp only at sp
            subst sp
            rw [plain_add] at z0
            refine ⟨b', o', rfl, World.block_lt_of_cell? W _ z0, fun i x hi => ?_⟩
            rw [List.getElem?_take] at hi
            by_cases hil : i < L j
            · rw [if_pos hil] at hi
              have := (q7 _ hA).2 i (by omega)
              rw [plain_add] at this
              rw [this, List.getD_eq_getElem?_getD, hi]; rfl
            · rw [if_neg hil] at hi; cases hi
    · obtain ⟨j, hj, rfl⟩ := hk k hkk
      have := hin j hj
      obtain ⟨q1, q2, q3, q4, q5, q6, q7⟩ := hrow j (by omega)
      rw [List.length_take]
      omega
    · obtain ⟨j, hj, rfl⟩ := hk k hkk
      obtain ⟨q1, q2, q3, q4, q5, q6, q7⟩ := hrow j (by omega)
      exact i64_of (q5 l (List.mem_of_mem_take hl'))
end
end Rp
end Go.Proofs.Ytmgkgbhkaoflhaa
