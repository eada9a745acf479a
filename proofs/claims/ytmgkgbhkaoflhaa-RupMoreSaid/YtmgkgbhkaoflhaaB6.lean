/-
What the program's Units makes at its start, in memory.
The program's May, as a fact on one call.
-/
import Derived.Test.YtmgkgbhkaoflhaaB5
import Derived.Laws.MakeOwn
import Derived.Laws.Tables
import Derived.Test.YtmgkgbhkaoflhaaB8
import Derived.Test.YtmgkgbhkaoflhaaA3
namespace Go.Proofs.Ytmgkgbhkaoflhaa
open Go.RowKit Go.Maps Go.Sort
namespace Cf
set_option maxHeartbeats 4000000
set_option maxRecDepth 100000

theorem made_ints (n : Nat) : madeCells (Value.int .i64 0).cells (n * 1) = (rowI (List.replicate n 0)).toArray := by
  apply Array.ext_getElem?
  intro j
  by_cases hj : j < n
  · simp [madeCells, rowI, Value.cells, hj, Nat.mod_one]
  · simp [madeCells, rowI, Value.cells, hj]
theorem make_ints (n : Nat) (hn : n ≤ 10000000) (W : World) : (Instr.makeSlice 25 (.int .i64 ((n : Nat) : Int)) (.int .i64 ((n : Nat) : Int))).run Try.prog W = .ok (.slice (some ⟨W.heap.size, 0, none⟩) n n) (W.alloc (.cells (rowI (List.replicate n 0)).toArray 3)) := by
  obtain ⟨i0, hinfo, hz0, hz1, hz2⟩ := infos info_int
  have h := run_makeSlice (P := Try.prog) (w := W) 25 3 i0 (.int .i64 0) Try.underlying25 hinfo hz0 .i64 .i64 (n : Int) (n : Int) (by omega) (Int.le_refl _) (by rw [hz1]; simp; omega) (by rw [hz2]; omega) (by omega)
  rw [hz1] at h
  simp only [Int.toNat_natCast] at h
  rw [made_ints] at h
  exact h
def zero9 : Array Value := #[.slice none 0 0, .int .i64 0, .slice none 0 0, .map none, .slice none 0 0, .slice none 0 0, .slice none 0 0, .slice none 0 0, .bool false]
theorem four (w1 : World) (o1 o2 o3 o4 : Obj) : ((((w1.alloc o1).alloc o2).alloc o3).alloc o4).drew.heap[w1.heap.size]? = some o1 ∧ ((((w1.alloc o1).alloc o2).alloc o3).alloc o4).drew.heap[w1.heap.size + 1]? = some o2 ∧ ((((w1.alloc o1).alloc o2).alloc o3).alloc o4).drew.heap[w1.heap.size + 1 + 1]? = some o3 ∧
    ((((w1.alloc o1).alloc o2).alloc o3).alloc o4).drew.heap[w1.heap.size + 1 + 1 + 1]? = some o4 ∧ ((((w1.alloc o1).alloc o2).alloc o3).alloc o4).drew.heap.size = w1.heap.size + 1 + 1 + 1 + 1 ∧ Below w1.heap.size w1 ((((w1.alloc o1).alloc o2).alloc o3).alloc o4).drew := by
  have e : ((((w1.alloc o1).alloc o2).alloc o3).alloc o4).drew.heap = (((w1.heap.push o1).push o2).push o3).push o4 := rfl
  refine ⟨?_, ?_, ?_, ?_, by rw [e]; simp, ?_⟩
  · rw [e]; simp only [Array.getElem?_push, Array.size_push]; rw [if_neg (by omega), if_neg (by omega), if_neg (by omega), if_pos trivial]
  · rw [e]; simp only [Array.getElem?_push, Array.size_push]; rw [if_neg (by omega), if_neg (by omega), if_pos trivial]
  · rw [e]; simp only [Array.getElem?_push, Array.size_push]; rw [if_neg (by omega), if_pos trivial]
  · rw [e]; simp only [Array.getElem?_push, Array.size_push]; rw [if_pos trivial]
  · exact ((((Below.refl w1.heap.size w1).alloc (Nat.le_refl _) o1).alloc (by simp) o2).alloc (by simp; omega) o3).alloc (by simp; omega) o4 |>.drew
theorem sep4 {a b c d : Nat} (h1 : a ≠ b) (h2 : a ≠ c) (h3 : a ≠ d) (h4 : b ≠ c) (h5 : b ≠ d) (h6 : c ≠ d) : Sep [some a, some b, some c, some d, none, none, none] := by
  intro i j x hx hy
  rcases i with _ | _ | _ | _ | _ | _ | _ | i <;> rcases j with _ | _ | _ | _ | _ | _ | _ | j <;> simp at hx hy <;> omega
theorem low4 {a b c d B z : Nat} (h1 : B ≤ a ∧ a < z) (h2 : B ≤ b ∧ b < z) (h3 : B ≤ c ∧ c < z) (h4 : B ≤ d ∧ d < z) : ∀ (i x : Nat), ([some a, some b, some c, some d, none, none, none] : List (Option Nat))[i]? = some (some x) → B ≤ x ∧ x < z := by
  intro i x hx
  rcases i with _ | _ | _ | _ | _ | _ | _ | i <;> simp at hx <;> omega
/-- The struct, made. -/
theorem uat_made {B : Nat} {Y : World} {u m lb nb : Nat} {al : Option Addr} {n c vn : Nat} (hm : Y.heap[m]? = some (.map #[] 0)) (hl : Y.heap[lb]? = some (.cells (rowI (List.replicate n 0)).toArray 3)) (hn : Y.heap[nb]? = some (.cells (rowI (List.replicate (2 * vn + 1) 0)).toArray 3)) (hu : Y.heap[u]? = some (.cells zero9 65))
    (h1 : u ≠ m) (h2 : u ≠ lb) (h3 : u ≠ nb) (h4 : m ≠ lb) (h5 : m ≠ nb) (h6 : lb ≠ nb) (b1 : B ≤ u) (b2 : B ≤ m) (b3 : B ≤ lb) (b4 : B ≤ nb) :
    UAt B (Y.setRow u (cellsU al n c vn ⟨m, lb, nb, .slice none 0 0, .slice none 0 0, .slice none 0 0⟩ false)) u al n c vn ⟨m, lb, nb, .slice none 0 0, .slice none 0 0, .slice none 0 0⟩ ⟨[], List.replicate n 0, [], List.replicate (2 * vn + 1) 0, [], false⟩ := by
  have ho : ∀ k, k ≠ u → (Y.setRow u (cellsU al n c vn ⟨m, lb, nb, .slice none 0 0, .slice none 0 0, .slice none 0 0⟩ false)).heap[k]? = Y.heap[k]? := fun k hk => by
    unfold World.setRow
    simp only [Array.getElem?_modify]
    rw [if_neg (fun e => hk e.symm)]
  have hz : (Y.setRow u (cellsU al n c vn ⟨m, lb, nb, .slice none 0 0, .slice none 0 0, .slice none 0 0⟩ false)).heap.size = Y.heap.size := by simp [World.setRow]
  have l1 := (Array.getElem?_eq_some_iff.1 hu).1
  have l2 := (Array.getElem?_eq_some_iff.1 hm).1
  have l3 := (Array.getElem?_eq_some_iff.1 hl).1
  have l4 := (Array.getElem?_eq_some_iff.1 hn).1
  refine ⟨?_, ⟨.map [], ?_, decTab_nil⟩, (ho lb h2.symm).trans hl, by simp, (ho nb h3.symm).trans hn, by simp, World.ownsRow_nil _ _ _ _, World.ownsRow_nil _ _ _ _, World.ownsRow_nil _ _ _ _, ?_, sep4 h1 h2 h3 h4 h5 h6⟩
  · unfold World.setRow
    simp only [Array.getElem?_modify, if_true, hu]
    rfl
  · obtain ⟨es, clock, hb, F, hs, hD⟩ := (World.ownsMap_made (H := Unit) Y Try.prog 3 (plainElem Try.prog 3))
    have e : (Y.alloc (.map #[] 0)).heap[Y.heap.size]? = some (.map #[] 0) := by
      show (Y.heap.push (.map #[] 0))[Y.heap.size]? = _
      simp
    rw [e] at hb
    injection hb with hb
    injection hb with e1 e2
    subst e1
    subst e2
    exact ⟨#[], 0, (ho m h1.symm).trans hm, F, hs, hD⟩
  · rw [hz]
    exact low4 ⟨b1, l1⟩ ⟨b2, l2⟩ ⟨b3, l3⟩ ⟨b4, l4⟩
theorem store_row {Y : World} {u : Nat} {cs : Array Value} (hu : Y.heap[u]? = some (.cells zero9 65)) (hs : cs.size = 9) (h1 : cs.all (·.oneCell') = true) : (storeCells ⟨u, 0, none⟩ cs.toList).run Try.prog Y = .ok () (Y.setRow u cs) := by
  have hz : ∀ W, (Go.sizeOf 65).run Try.prog W = .ok 9 W := Try.sizeOf65
  have h := run_storeVar_row (P := Try.prog) Y u 65 65 zero9 cs hu (by rw [hs]; kernel_rfl) (by rw [hs]; rfl) h1
  simpa [storeVar, Value.cells, hz, hs] using h
theorem bel_setRow {B : Nat} {w Y : World} {u : Nat} {cs : Array Value} (h : Below B w Y) (hu : B ≤ u) : Below B w (Y.setRow u cs) :=
  h.trans ⟨rfl, rfl, rfl, by simp [World.setRow], fun k hk => by
    unfold World.setRow
    simp only [Array.getElem?_modify]
    rw [if_neg (by omega)]⟩
end Cf
end Go.Proofs.Ytmgkgbhkaoflhaa

namespace Go.Proofs.Ytmgkgbhkaoflhaa
open Go.RowKit
namespace Cf
set_option maxHeartbeats 1000000
set_option maxRecDepth 100000

theorem cmay_any {W : World} {al : Option Addr} {C : Cl} {v : Int} {c : Nat} (h : ClsAt W al C) (hok : OkC C) :
    Calls Try.prog 16 #[.agg #[.int .i64 v, .slice al C.length c]] W fun e w => e = .returned (.bool (mayC v C)) ∧ Below W.heap.size W w := by
  by_cases hv0 : v < 0
  · have HE := Lib.hid (mayC_out (C := C) (v := v) (by unfold mayV; rw [decide_eq_false (by omega : ¬ 0 ≤ v)]; rfl))
    go_enter Try.func16, Try.ntmps16
    go_wp2_with fail
    go_ret
    exact ⟨ret_bool HE.out.symm, (Below.refl _ _).alloc (Nat.le_refl _) _⟩
  by_cases hv1 : 1000000 < v
  · have HE := Lib.hid (mayC_out (C := C) (v := v) (by unfold mayV; rw [decide_eq_false (by omega : ¬ v ≤ 1000000), Bool.and_false]))
    have hv0 : 0 ≤ v := by omega
    go_enter Try.func16, Try.ntmps16
    go_wp2_with fail
    go_ret
    exact ⟨ret_bool HE.out.symm, (Below.refl _ _).alloc (Nat.le_refl _) _⟩
  have hv0 : 0 ≤ v := by omega
  have hv1 : v ≤ 1000000 := by omega
  have HV : Hid (mayV v = true) := by show _ = _; unfold mayV; rw [decide_eq_true hv0, decide_eq_true hv1]; rfl
  obtain ⟨n, hn⟩ : ∃ n, n = C.length := ⟨_, rfl⟩
  have HCL := Lib.hid h
  have HN := Lib.hid hn
  have HOK := Lib.hid hok
  have hl := hok.n
  rw [← hn] at hl ⊢
  clear hn h hok
  go_enter Try.func16, Try.ntmps16
  go_wp2_with fail
  go_loopg [18] n (fun gk v3 wr => ∃ j q : Nat, v3 = .int .i64 ((j : Nat) : Int) ∧ j + gk = n ∧ wr = (W.alloc (.cells #[.int .i64 v, .slice al n c] 24)).drewN q ∧ (∀ (i : Nat), i < j → ∀ (k : List Int), C[i]? = some k → ∀ (j : Nat) (l : Int), k[j]? = some l → isL l v = true))
  case atStart => exact ⟨0, 0, rfl, by omega, rfl, fun q hq => by omega⟩
  case round =>
    obtain ⟨j, q, rfl, hj, rfl, hno⟩ := hrel
    obtain ⟨gO, hgO⟩ : ∃ gO, gO = gk := ⟨_, rfl⟩
    subst hgO
    have HJ := Lib.hid hj
    have HNO := Lib.hid hno
    have q0 : (0 : Int) ≤ ((j : Nat) : Int) := by omega
    by_cases hlt : j < n
    · obtain ⟨k, hk⟩ : ∃ k, C[j]? = some k := ⟨_, List.getElem?_eq_getElem (by rw [← HN.out]; exact hlt)⟩
      obtain ⟨bl, ol, kal, kc, rfl, hbl, hcell, hI⟩ := cls_at HCL.out hk
      have q1 : ((j : Nat) : Int) < ((n : Nat) : Int) := by omega
      have HS := Lib.hid (step_i (j := j) (by omega))
      have HK := Lib.hid hk
      have HI := Lib.hid hI
      have hkl := HOK.out.k k (List.mem_of_getElem? hk)
      obtain ⟨m, hm⟩ : ∃ m, m = k.length := ⟨_, rfl⟩
      have HM := Lib.hid hm
      rw [← hm] at hcell hkl
      clear hno hj hk hI hm
      go_wp2_with fail
      go_loopg [24] m (fun gk v4 wr => ∃ i q : Nat, v4 = .int .i64 ((i : Nat) : Int) ∧ i + gk = m ∧ wr = (W.alloc (.cells #[.int .i64 v, .slice (some ⟨bl, ol, none⟩) n c] 24)).drewN q ∧ (∀ j l, j < i → k[j]? = some l → isL l v = true))
      case atStart => exact ⟨0, q, rfl, by omega, rfl, fun q _ hq => by omega⟩
      case round =>
        obtain ⟨i, q2, rfl, hi, rfl, hyes⟩ := hrel
        have HI2 := Lib.hid hi
        have HY := Lib.hid hyes
        have p0 : (0 : Int) ≤ ((i : Nat) : Int) := by omega
        by_cases hlt2 : i < m
        · obtain ⟨l, hll⟩ : ∃ l, k[i]? = some l := ⟨_, List.getElem?_eq_getElem (by rw [← HM.out]; exact hlt2)⟩
          obtain ⟨kb, ko, rfl, hkb, hlc⟩ := ints_at HI.out hll
          have p1 : ((i : Nat) : Int) < ((m : Nat) : Int) := by omega
          have HL := Lib.hid hll
          have HS2 := Lib.hid (step_i (j := i) (by omega))
          have HIS := Lib.hid (fun (w : World) => lit_any (l := l) (W := w) hv0 hv1)
          clear hyes hi hll
          cases hil : isL l v with
          | true =>
            rw [hil] at HIS
            have HIL := Lib.hid hil
            clear hil
            go_wp2_with (go_at_call 26; refine (HIS.out _).mono ?_; rintro e w' ⟨rfl, rfl⟩)
            go_roundg (gk - 1)
            case measure => have := HI2.out; omega
            case rel => exact ⟨i + 1, _, by first | rfl | (rw [HS2.out.1]) | (congr 1; exact HS2.out.1), by have := HI2.out; omega, by first | rfl | (rw [World.drewN_drewN]), fun j' l' hj' hl' => by
              rcases Nat.lt_succ_iff_lt_or_eq.1 hj' with c | c
              · exact HY.out j' l' c hl'
              · rw [c, HL.out] at hl'; injection hl' with e; rw [← e]; exact HIL.out⟩
          | false =>
            rw [hil] at HIS
            have HIL := Lib.hid hil
            clear hil
            go_wp2_with (go_at_call 26; refine (HIS.out _).mono ?_; rintro e w' ⟨rfl, rfl⟩)
            go_ret
            exact ⟨ret_bool (mayC_at HK.out HL.out HIL.out).symm, by repeat (first | exact Below.refl _ _ | (refine bel_alloc ?_ _) | (refine bel_drewN ?_ _))⟩
        · have p1 : decide (((i : Nat) : Int) < ((m : Nat) : Int)) = false := decide_eq_false (by omega)
          obtain rfl : i = m := by omega
          clear hyes hi
          go_wp2_with fail
          go_roundg (gO - 1)
          case measure => have := HJ.out; omega
          case rel => exact ⟨j + 1, _, by first | rfl | (rw [HS.out.1]) | (congr 1; exact HS.out.1), by have := HJ.out; omega, rfl, fun i' hi' k' hk' j' l' hl' => by
            rcases Nat.lt_succ_iff_lt_or_eq.1 hi' with c | c
            · exact HNO.out i' c k' hk' j' l' hl'
            · rw [c, HK.out] at hk'
              injection hk' with e
              subst e
              exact HY.out j' l' (by rw [HM.out]; exact (List.getElem?_eq_some_iff.1 hl').1) hl'⟩
    · have q1 : decide (((j : Nat) : Int) < ((n : Nat) : Int)) = false := decide_eq_false (by omega)
      obtain rfl : j = n := by omega
      clear hno hj
      go_wp2_with fail
      go_ret
      exact ⟨ret_bool (mayC_all HV.out (by rw [← HN.out]; exact HNO.out)).symm, by repeat (first | exact Below.refl _ _ | (refine bel_alloc ?_ _) | (refine bel_drewN ?_ _))⟩
end Cf
end Go.Proofs.Ytmgkgbhkaoflhaa
