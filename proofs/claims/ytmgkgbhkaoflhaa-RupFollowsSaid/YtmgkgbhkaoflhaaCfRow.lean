/-
  Clauses handed in by value, lists of numbers, of yes and no handed in: how they are read.
-/
import Derived.Test.YtmgkgbhkaoflhaaRows
import Derived.Test.YtmgkgbhkaoflhaaCfData
import Derived.WalkKit
import Derived.ProofKit
import Derived.OpenShut
import Derived.Lib.SmallJoins
import Derived.Below
import Derived.ChangeSame
import Derived.SizedLaws
import Derived.Deep.Matrix
namespace Go.Proofs.Ytmgkgbhkaoflhaa
open Go.ChangeShapes Go.WideShapes Go.ChangeAt Go.RowKit Go.Joins
namespace Cf
set_option maxHeartbeats 1600000
set_option maxRecDepth 100000

theorem own : ownKnob Try.prog.godebug = none := by kernel_rfl
theorem cells_cnf : Try.prog.cellsOf 24 = 2 := by kernel_rfl
theorem cells1_ints : Try.prog.cellsOf 25 = 1 := by kernel_rfl
theorem cells1_int : Try.prog.cellsOf 3 = 1 := by kernel_rfl
theorem bytes_int : Try.prog.bytesOf 3 = 8 := by kernel_rfl
theorem bytes_ints : Try.prog.bytesOf 25 = 24 := by kernel_rfl
theorem i64_of {a : Int} (h : (Lit.int .i64 a).wf = true) : I64 a := by
  simp only [Lit.wf, IntKind.min, IntKind.max, IntKind.signed, IntKind.bits, Bool.and_eq_true] at h
  have h1 := h.1
  have h2 := h.2
  simp at h1 h2
  exact ⟨by omega, by omega⟩
theorem lits_len {H : Type} (k : IntKind) (l : List Int) : (lits (H := H) k l).length = l.length := by simp [lits]
theorem mem_all {H : Type} {P : Program} {e : TypeId} : ∀ {l : List (DataW H)} {d : DataW H} {n : Nat}, d ∈ l → n ∈ d.weights P e → n ∈ DataW.weightsAll P e l
  | [], _, _, h, _ => by cases h
  | x :: r, d, n, h, hn => by
    rw [DataW.weightsAll, List.mem_append]
    rcases List.mem_cons.1 h with h | h
    · subst h; exact .inl hn
    · exact .inr (mem_all h hn)
theorem addr_at {W : World} {a : Addr} {u : Value} (h : W.cell? a = some u) : ∃ b o, a = ⟨b, o, none⟩ ∧ b < W.heap.size := by
  obtain ⟨b, o, sp⟩ := a
  have hs : sp = none := by simpa using World.cell?_spot h
  subst hs
  exact ⟨b, o, rfl, World.block_lt_of_cell? W _ h⟩
theorem spot_add {a : Addr} {u : Value} {W : World} (h : W.cell? (a.add 0) = some u) : a.spot = none := by
  obtain ⟨b, o, sp⟩ := a
  have := World.cell?_spot h
  unfold Addr.add at this
  simpa using this
theorem plain_add (b o r : Nat) : (⟨b, o, none⟩ : Addr).add r = ⟨b, o + r, none⟩ := by
  unfold Addr.add
  split <;> simp_all

section
variable {H : Type} {enc : TypeId × Value → H}

theorem open_ints {W : World} {al : Option Addr} {len cap : Nat} {d : DataW H} {ps : List MemPlace} (h : DataW.Trod enc Try.prog W 0 (fun _ => true) true 25 (.slice al len cap) d ps) (hw : ∀ n ∈ d.weights Try.prog 25, n ≤ reachBytes) :
    ∃ T : List Int, len = T.length ∧ T.length < 4611686018427387904 ∧ (∀ v ∈ T, I64 v) ∧ IntsAt W al T := by
  obtain ⟨fuel, hf⟩ := h
  rcases Go.ChangeShapes.open_ints Try.underlying25 Try.underlying3 cells1_int hf with ⟨hcs, _⟩ | ⟨a, len', cap', zs, hcs, _, hl, hm, hz, hx, hc, hwz⟩
  · simp [Value.cells] at hcs
    obtain ⟨_, rfl, _⟩ := hcs
    exact ⟨[], rfl, by simp, by simp, .inl rfl⟩
  · simp [Value.cells] at hcs
    obtain ⟨rfl, rfl, rfl⟩ := hcs
    simp only [if_true] at hz
    have hd : d = .slice (lits .i64 (zs.take len)) (lits .i64 (zs.drop len)) := congrArg Prod.fst hx
    have hb : cap * 8 ≤ reachBytes := by
      have := hw ((lits (H := H) .i64 (zs.take len)).length + (lits (H := H) .i64 (zs.drop len)).length |> (· * 8)) (by rw [hd, DataW.weights, Try.underlying25]; simp [bytes_int])
      rw [lits_len, lits_len, List.length_take, List.length_drop] at this
      have e : min len zs.length + (zs.length - len) = cap := by omega
      rw [e] at this
      exact this
    rw [show reachBytes = 140737488351232 from rfl] at hb
    refine ⟨zs.take len, by rw [List.length_take]; omega, by rw [List.length_take]; omega, fun v hv => i64_of (hwz v (List.mem_of_mem_take hv)), ?_⟩
    by_cases h0 : len = 0
    · left; subst h0; simp
    · right
      have c0 := hc 0 (by omega)
      have sp := spot_add c0
      obtain ⟨b, o, s⟩ := a
      simp only at sp
      subst sp
      rw [plain_add] at c0
      refine ⟨b, o, rfl, World.block_lt_of_cell? W _ c0, fun j v hj => ?_⟩
      rw [List.getElem?_take] at hj
      by_cases hjl : j < len
      · rw [if_pos hjl] at hj
        have := hc j (by omega)
        rw [plain_add] at this
        rw [this, List.getD_eq_getElem?_getD, hj]; rfl
      · rw [if_neg hjl] at hj; cases hj

theorem open_cnf {W : World} {b0 : Nat} {r : Go.Reach} {v : Value} {d : DataW H} {p : List MemPlace}
    (hv : Value.okWide Try.prog W r b0 24 v) (h : DataW.Trod enc Try.prog W 0 (fun _ => true) true 24 v d p) (hw : ∀ n ∈ d.weights Try.prog 24, n ≤ reachBytes) :
    ∃ (x : Int) (al : Option Addr) (c : Nat) (C : Cl), v = .agg #[.int .i64 x, .slice al C.length c] ∧ I64 x ∧ ClsAt W al C ∧ OkC C ∧ (al = none → c = 0) := by
  obtain ⟨c0, c1, y0, y1, m, rfl, hd, hp, hy0, hy1⟩ := open_agg2 Try.underlying24 (by kernel_rfl) cells_cnf hv h
  obtain ⟨a, e0, hd0, wa⟩ := DataW.trod_int Try.underlying3 hy0
  simp only [List.cons.injEq, and_true] at e0
  subst e0
  have hw1 : ∀ n ∈ y1.1.weights Try.prog 22, n ≤ reachBytes := fun n hn => hw n (by
    rw [hd, DataW.weights, Try.underlying24]
    simp only [List.map_cons, List.map_nil, DataW.weightsEach, List.mem_append]
    exact .inr (.inl hn))
  rcases Go.Deep.open_int_rows Try.underlying22 Try.underlying25 Try.underlying3 cells1_ints cells1_int hy1 with ⟨hcs, _⟩ | ⟨ad, len, cap, A, L, Cc, Z, hcs, _, hl, hm, hx, hrow⟩
  · simp only [List.cons.injEq, and_true] at hcs
    subst hcs
    exact ⟨a, none, 0, [], rfl, i64_of wa, .inl rfl, ⟨by simp, by simp, by simp⟩, fun _ => rfl⟩
  · simp only [List.cons.injEq, and_true] at hcs
    subst hcs
    have hy : y1.1 = .slice ((List.range len).map fun r => Go.Deep.intRow .i64 (A r) (L r) (Z r)) ((List.range (cap - len)).map fun j => Go.Deep.intRow .i64 (A (len + j)) (L (len + j)) (Z (len + j))) := congrArg Prod.fst hx
    have hcap : cap * 24 ≤ reachBytes := by
      have := hw1 ((((List.range len).map fun r => Go.Deep.intRow (H := H) .i64 (A r) (L r) (Z r)).length + ((List.range (cap - len)).map fun j => Go.Deep.intRow (H := H) .i64 (A (len + j)) (L (len + j)) (Z (len + j))).length) * 24) (by rw [hy, DataW.weights, Try.underlying22]; simp [bytes_ints])
      simp only [List.length_map, List.length_range] at this
      have e : len + (cap - len) = cap := by omega
      rw [e] at this
      exact this
    rw [show reachBytes = 140737488351232 from rfl] at hcap
    have hin : ∀ r, r < len → Cc r * 8 ≤ 140737488351232 := fun r hr => by
      obtain ⟨q1, q2, q3, q4, q5, q6, q7⟩ := hrow r (by omega)
      cases hA : A r with
      | none => rw [q6 hA]; omega
      | some a' =>
        have hmem : Go.Deep.intRow (H := H) .i64 (A r) (L r) (Z r) ∈ (List.range len).map fun r => Go.Deep.intRow (H := H) .i64 (A r) (L r) (Z r) := List.mem_map.2 ⟨r, List.mem_range.2 hr, rfl⟩
        have hww : ((Z r).length * 8) ∈ (Go.Deep.intRow (H := H) .i64 (A r) (L r) (Z r)).weights Try.prog 25 := by
          rw [hA]
          show _ ∈ (DataW.slice (lits .i64 ((Z r).take (L r))) (lits .i64 ((Z r).drop (L r)))).weights Try.prog 25
          rw [DataW.weights, Try.underlying25]
          simp only [lits_len, List.length_take, List.length_drop, bytes_int]
          have e : min (L r) (Z r).length + ((Z r).length - L r) = (Z r).length := by omega
          rw [e]
          simp
        have := hw1 ((Z r).length * 8) (by
          rw [hy, DataW.weights, Try.underlying22]
          simp only [List.mem_cons, List.mem_append]
          exact .inr (.inl (mem_all hmem hww)))
        rw [q4] at this
        exact this
    obtain ⟨C, hC⟩ : ∃ C : Cl, C = (List.range len).map fun r => (Z r).take (L r) := ⟨_, rfl⟩
    have hCl : C.length = len := by rw [hC]; simp
    have hCe : ∀ (j : Nat) (k : List Int), C[j]? = some k → j < len ∧ k = (Z j).take (L j) := fun j k hj => by
      rw [hC, List.getElem?_map] at hj
      by_cases hjl : j < len
      · rw [List.getElem?_range hjl] at hj
        exact ⟨hjl, by simpa using hj.symm⟩
      · rw [List.getElem?_eq_none (by simpa using hjl)] at hj; cases hj
    have hk : ∀ k ∈ C, ∃ j, j < len ∧ k = (Z j).take (L j) := fun k hk => by
      obtain ⟨j, hj⟩ := List.getElem?_of_mem hk
      exact ⟨j, hCe j k hj⟩
    refine ⟨a, some ad, cap, C, by rw [hCl], i64_of wa, ?_, ⟨by rw [hCl]; omega, fun k hkk => ?_, fun k hkk l hl' => ?_⟩, fun c => by cases c⟩
    · by_cases h0 : len = 0
      · left; exact List.length_eq_zero_iff.1 (by rw [hCl]; exact h0)
      · right
        have c0 := (hrow 0 (by omega)).1
        have sp := spot_add c0
        obtain ⟨b, o, s⟩ := ad
        simp only at sp
        subst sp
        rw [plain_add] at c0
        refine ⟨b, o, rfl, World.block_lt_of_cell? W _ c0, fun j k hj => ?_⟩
        obtain ⟨hjl, rfl⟩ := hCe j k hj
        obtain ⟨q1, q2, q3, q4, q5, q6, q7⟩ := hrow j (by omega)
        rw [plain_add] at q1
        have hlen : ((Z j).take (L j)).length = L j := by rw [List.length_take]; omega
        refine ⟨A j, Cc j, by rw [hlen]; exact q1, ?_⟩
        by_cases hL0 : L j = 0
        · left; rw [hL0]; simp
        · right
          cases hA : A j with
          | none => have := q6 hA; omega
          | some a' =>
            have z0 := (q7 a' hA).2 0 (by omega)
            have sp := spot_add z0
            obtain ⟨b', o', s'⟩ := a'
            simp only at sp
            subst sp
            rw [plain_add] at z0
            refine ⟨b', o', rfl, World.block_lt_of_cell? W _ z0, fun i x hi => ?_⟩
            rw [List.getElem?_take] at hi
            by_cases hil : i < L j
            · rw [if_pos hil] at hi
              have := (q7 _ hA).2 i (by omega)
              rw [plain_add] at this
              rw [this, List.getD_eq_getElem?_getD, hi]; rfl
            · rw [if_neg hil] at hi; cases hi
    · obtain ⟨j, hj, rfl⟩ := hk k hkk
      have := hin j hj
      obtain ⟨q1, q2, q3, q4, q5, q6, q7⟩ := hrow j (by omega)
      rw [List.length_take]
      omega
    · obtain ⟨j, hj, rfl⟩ := hk k hkk
      obtain ⟨q1, q2, q3, q4, q5, q6, q7⟩ := hrow j (by omega)
      exact i64_of (q5 l (List.mem_of_mem_take hl'))
end
end Cf
end Go.Proofs.Ytmgkgbhkaoflhaa
