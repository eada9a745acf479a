/-
  The document's heap: New.
-/
import Derived.Test.YtdajnmlpghgeeaaHpRefC
import Derived.Laws.MakeOwn
import Derived.Laws.Tables
namespace Go.Proofs.Ytdajnmlpghgeeaa
open Go.RowKit
namespace Hp
set_option maxHeartbeats 1600000
set_option maxRecDepth 100000

theorem rnew_no {n : Int} (h : n < 0 ∨ 1000000 < n) (W : World) : Calls Try.prog 8 #[.int .i64 n] W fun e w => e = .returned (.tuple #[.pointer none, .int .i64 2]) ∧ w = W := by
  by_cases h0 : n < 0
  · clear h
    go_enter Try.func8, Try.ntmps8
    go_wp2_with fail
    exact bodyPost_ret (v := .tuple #[.pointer none, .int .i64 2]) (by simp [results, Try.results8, go_sem]) rfl ⟨rfl, rfl⟩
  · have h1 : 1000000 < n := h.resolve_left h0
    clear h
    have e0 : decide (n < 0) = false := decide_eq_false h0
    go_enter Try.func8, Try.ntmps8
    go_wp2_with fail
    exact bodyPost_ret (v := .tuple #[.pointer none, .int .i64 2]) (by simp [results, Try.results8, go_sem]) rfl ⟨rfl, rfl⟩
theorem infos {t : TypeId} {z : Value} {a b : Nat} (h : (Try.prog.info? t).map (fun i => (i.zero, i.size, i.bytes)) = some (some z, a, b)) : ∃ i, Try.prog.info? t = some i ∧ i.zero = some z ∧ i.size = a ∧ i.bytes = b := by
  cases hi : Try.prog.info? t with
  | none => rw [hi] at h; cases h
  | some i =>
    rw [hi] at h
    simp only [Option.map_some, Option.some.injEq, Prod.mk.injEq] at h
    exact ⟨i, rfl, h.1, h.2.1, h.2.2⟩
theorem info_float : (Try.prog.info? 32).map (fun i => (i.zero, i.size, i.bytes)) = some (some (.float .f64 0), 1, 8) := by kernel_rfl
theorem info_bool : (Try.prog.info? 4).map (fun i => (i.zero, i.size, i.bytes)) = some (some (.bool false), 1, 1) := by kernel_rfl
theorem made_one (z : Value) (hz : z.cells = #[z]) (n : Nat) : madeCells z.cells (n * 1) = (List.replicate n z).toArray := by
  apply Array.ext_getElem?
  intro j
  by_cases hj : j < n
  · simp [madeCells, hz, hj, Nat.mod_one]
  · simp [madeCells, hz, hj]
theorem make_floats (n : Nat) (hn : n ≤ 1000000) (W : World) : (Instr.makeSlice 46 (.int .i64 (((n : Nat) : Int) + 1)) (.int .i64 (((n : Nat) : Int) + 1))).run Try.prog W = .ok (.slice (some ⟨W.heap.size, 0, none⟩) (n + 1) (n + 1)) (W.alloc (.cells (List.replicate (n + 1) (Value.float .f64 0)).toArray 32)) := by
  obtain ⟨i0, hinfo, hz0, hz1, hz2⟩ := infos info_float
  have h := run_makeSlice (P := Try.prog) (w := W) 46 32 i0 (.float .f64 0) Try.underlying46 hinfo hz0 .i64 .i64 (((n : Nat) : Int) + 1) (((n : Nat) : Int) + 1) (by omega) (Int.le_refl _) (by rw [hz1]; simp; omega) (by rw [hz2]; omega) (by omega)
  rw [hz1] at h
  have e : (((n : Nat) : Int) + 1).toNat = n + 1 := by omega
  simp only [e] at h
  rw [made_one _ rfl] at h
  exact h
theorem make_bools (n : Nat) (hn : n ≤ 1000000) (W : World) : (Instr.makeSlice 52 (.int .i64 (((n : Nat) : Int) + 1)) (.int .i64 (((n : Nat) : Int) + 1))).run Try.prog W = .ok (.slice (some ⟨W.heap.size, 0, none⟩) (n + 1) (n + 1)) (W.alloc (.cells (List.replicate (n + 1) (Value.bool false)).toArray 4)) := by
  obtain ⟨i0, hinfo, hz0, hz1, hz2⟩ := infos info_bool
  have h := run_makeSlice (P := Try.prog) (w := W) 52 4 i0 (.bool false) Try.underlying52 hinfo hz0 .i64 .i64 (((n : Nat) : Int) + 1) (((n : Nat) : Int) + 1) (by omega) (Int.le_refl _) (by rw [hz1]; simp; omega) (by rw [hz2]; omega) (by omega)
  rw [hz1] at h
  have e : (((n : Nat) : Int) + 1).toNat = n + 1 := by omega
  simp only [e] at h
  rw [made_one _ rfl] at h
  exact h
theorem build_heap (w : World) (a b : Option Addr) (k l c d : Nat) : (Instr.build 54 #[(0, .slice a k l), (1, .slice b c d)]).run Try.prog w = .ok (.agg #[.slice a k l, .slice b c d]) w := run_build w _ _ _ (by kernel_rfl)
theorem cell_of {w : World} {b : Nat} {A : Array Value} {t : TypeId} (h : w.heap[b]? = some (.cells A t)) (j : Nat) : w.cell? ⟨b, j, none⟩ = A[j]? ∧ w.frozen? ⟨b, j, none⟩ = false := by
  unfold World.cell? World.frozen?
  rw [h]
  simp
/-- Which are in, while New puts them in. -/
def inM (n k : Nat) : List Bool := (List.range (n + 1)).map fun j => decide (1 ≤ j ∧ j < k)
theorem inM_zero (n : Nat) : inM n 1 = List.replicate (n + 1) false := by
  unfold inM
  apply List.ext_getElem?
  intro j
  by_cases hj : j < n + 1
  · rw [List.getElem?_map, List.getElem?_range hj, List.getElem?_replicate, if_pos hj]
    simp; omega
  · rw [List.getElem?_eq_none (by simpa using hj), List.getElem?_eq_none (by simpa using hj)]
theorem inM_step {n k : Nat} (h1 : 1 ≤ k) (hk : k ≤ n) : (inM n k).set k true = inM n (k + 1) := by
  apply List.ext_getElem?
  intro j
  by_cases hj : j < n + 1
  · by_cases e : j = k
    · subst e
      rw [List.getElem?_set_self (by simpa [inM] using hj)]
      unfold inM
      rw [List.getElem?_map, List.getElem?_range hj]
      simp [h1]
    · rw [List.getElem?_set_ne (fun x => e x.symm)]
      unfold inM
      rw [List.getElem?_map, List.getElem?_map, List.getElem?_range hj, Option.map_some, Option.map_some]
      congr 1
      rw [decide_eq_decide]
      omega
  · rw [List.getElem?_eq_none (by simpa [inM] using hj), List.getElem?_eq_none (by simpa [inM] using hj)]
theorem inM_end (n : Nat) : inM n (n + 1) = false :: List.replicate n true := by
  apply List.ext_getElem?
  intro j
  by_cases hj : j < n + 1
  · unfold inM
    rw [List.getElem?_map, List.getElem?_range hj]
    cases j with
    | zero => simp
    | succ j =>
      rw [List.getElem?_cons_succ, List.getElem?_replicate, if_pos (by omega)]
      simp; omega
  · rw [List.getElem?_eq_none (by simpa [inM] using hj), List.getElem?_eq_none (by simp; omega)]
theorem rhp_made {U : World} {p sb ib n : Nat} (hp : U.heap[p]? = some (.cells #[.slice (some ⟨sb, 0, none⟩) (n + 1) (n + 1), .slice (some ⟨ib, 0, none⟩) (n + 1) (n + 1)] 54)) (hs : U.heap[sb]? = some (.cells (Array.replicate (n + 1) (.float .f64 0)) 32)) (hi : U.heap[ib]? = some (.cells (Array.replicate (n + 1) (.bool false)) 4)) (hn : n ≤ 1000000)
    (h1 : p ≠ sb) (h2 : p ≠ ib) (h3 : sb ≠ ib) : RHp U p sb ib (List.replicate (n + 1) 0) (inM n 1) := by
  have hlt : ∀ {b : Nat} {o : Obj}, U.heap[b]? = some o → b < U.heap.size := fun h => (Array.getElem?_eq_some_iff.1 h).1
  refine ⟨by rw [(cell_of hp 0).1]; simp, by rw [(cell_of hp 1).1]; simp, fun j x hj => ?_, fun j b hj => ?_, fun j => (cell_of hs j).2, fun j => (cell_of hi j).2, by simp [inM], by simp; omega, ⟨hlt hp, hlt hs, hlt hi⟩, h1, h2, h3⟩
  · rw [List.getElem?_replicate] at hj
    rw [(cell_of hs j).1, Array.getElem?_replicate]
    split at hj
    · injection hj with hj; subst hj; rw [if_pos (by assumption)]
    · cases hj
  · rw [inM_zero, List.getElem?_replicate] at hj
    rw [(cell_of hi j).1, Array.getElem?_replicate]
    split at hj
    · injection hj with hj; subst hj; rw [if_pos (by assumption)]
    · cases hj
theorem three (w1 : World) (o1 o2 o3 : Obj) : (((w1.alloc o1).alloc o2).alloc o3).heap[w1.heap.size]? = some o1 ∧ (((w1.alloc o1).alloc o2).alloc o3).heap[w1.heap.size + 1]? = some o2 ∧ (((w1.alloc o1).alloc o2).alloc o3).heap[w1.heap.size + 1 + 1]? = some o3 := by
  have e : (((w1.alloc o1).alloc o2).alloc o3).heap = ((w1.heap.push o1).push o2).push o3 := rfl
  refine ⟨?_, ?_, ?_⟩
  · rw [e]; simp only [Array.getElem?_push, Array.size_push]; rw [if_neg (by omega), if_neg (by omega), if_pos trivial]
  · rw [e]; simp only [Array.getElem?_push, Array.size_push]; rw [if_neg (by omega), if_pos trivial]
  · rw [e]; simp only [Array.getElem?_push, Array.size_push]; rw [if_pos trivial]
def NewE (W : World) (n : Nat) (e : Ending) (w : World) : Prop := ∃ p sb ib : Nat, e = .returned (.tuple #[.pointer (some ⟨p, 0, none⟩), .int .i64 0]) ∧ RHp w p sb ib (List.replicate (n + 1) 0) (inM n (n + 1)) ∧ Below W.heap.size W w ∧ W.heap.size ≤ p ∧ W.heap.size ≤ sb ∧ W.heap.size ≤ ib
theorem rnew_yes {n : Nat} (h : n ≤ 1000000) (W : World) : Calls Try.prog 8 #[.int .i64 ((n : Nat) : Int)] W (NewE W n) := by
  have e0 : decide (((n : Nat) : Int) < 0) = false := decide_eq_false (by omega)
  have e1 : decide (1000000 < ((n : Nat) : Int)) = false := decide_eq_false (by omega)
  have hs := step_i (j := n) (by omega)
  have hs2 : IntKind.i64.wrap (((n : Nat) : Int) + 1) = ((n : Nat) : Int) + 1 := by rw [IntKind.wrap_i64]; omega
  have hmf := make_floats n h
  have hmb := make_bools n h
  have hbh := build_heap
  go_enter Try.func8, Try.ntmps8
  go_wp2_with fail
  go_region_with (fail)
  · clear hmf hmb hbh
    go_wp2_with fail
    have HR : Hid (RHp (((W.alloc (.cells (Array.replicate (n + 1) (.float .f64 0)) 32)).alloc (.cells (Array.replicate (n + 1) (.bool false)) 4)).alloc (.cells #[.slice (some ⟨W.heap.size, 0, none⟩) (n + 1) (n + 1), .slice (some ⟨W.heap.size + 1, 0, none⟩) (n + 1) (n + 1)] 54)).drew (W.heap.size + 1 + 1) (W.heap.size) (W.heap.size + 1) (List.replicate (n + 1) 0) (inM n 1) ∧ Below W.heap.size W (((W.alloc (.cells (Array.replicate (n + 1) (.float .f64 0)) 32)).alloc (.cells (Array.replicate (n + 1) (.bool false)) 4)).alloc (.cells #[.slice (some ⟨W.heap.size, 0, none⟩) (n + 1) (n + 1), .slice (some ⟨W.heap.size + 1, 0, none⟩) (n + 1) (n + 1)] 54)).drew) := Lib.hid (by
      obtain ⟨t1, t2, t3⟩ := three W (.cells (Array.replicate (n + 1) (.float .f64 0)) 32) (.cells (Array.replicate (n + 1) (.bool false)) 4) (.cells #[.slice (some ⟨W.heap.size, 0, none⟩) (n + 1) (n + 1), .slice (some ⟨W.heap.size + 1, 0, none⟩) (n + 1) (n + 1)] 54)
      exact ⟨(rhp_made t3 t1 t2 h (by omega) (by omega) (by omega)).drewN 1, (((((Below.refl W.heap.size W).alloc (Nat.le_refl _) _).alloc (by simp) _).alloc (by simp; omega) _)).drew⟩)
    have hps : W.heap.size ≤ W.heap.size := by omega
    have hpi : W.heap.size ≤ W.heap.size + 1 := by omega
    have hpp : W.heap.size ≤ W.heap.size + 1 + 1 := by omega
    generalize (((W.alloc (.cells (Array.replicate (n + 1) (.float .f64 0)) 32)).alloc (.cells (Array.replicate (n + 1) (.bool false)) 4)).alloc (.cells #[.slice (some ⟨W.heap.size, 0, none⟩) (n + 1) (n + 1), .slice (some ⟨W.heap.size + 1, 0, none⟩) (n + 1) (n + 1)] 54)).drew = U at HR ⊢
    go_loopg [5] n (fun gk v5 wr => ∃ k : Nat, v5 = .int .i64 ((k : Nat) : Int) ∧ k + gk = n + 1 ∧ 1 ≤ k ∧ Hid (RHp wr (W.heap.size + 1 + 1) W.heap.size (W.heap.size + 1) (List.replicate (n + 1) 0) (inM n k) ∧ Below W.heap.size W wr))
    case atStart => exact ⟨1, rfl, by omega, by omega, HR⟩
    case round =>
      obtain ⟨k, rfl, hk, h1, HR2⟩ := hrel
      have HK := Lib.hid hk
      have q0 : (0 : Int) ≤ ((k : Nat) : Int) := by omega
      have hs3 := step_i (j := k) (by omega)
      have c1 := HR2.out.1.c1
      have hl : (List.replicate (n + 1) 0).length = n + 1 := List.length_replicate
      rw [hl] at c1
      by_cases hlt : k ≤ n
      · have hil : (inM n k).length = n + 1 := by simp [inM]
        obtain ⟨b, hb⟩ : ∃ b, (inM n k)[k]? = some b := ⟨_, List.getElem?_eq_getElem (by omega)⟩
        have hI := HR2.out.1.i k b hb
        have hf := HR2.out.1.fi k
        have q1 : decide (((k : Nat) : Int) ≤ ((n : Nat) : Int)) = true := decide_eq_true (by omega)
        have q2 : ((k : Nat) : Int) ≤ ((n : Nat) : Int) := by omega
        have q3 : ((k : Nat) : Int) < ((n : Nat) : Int) + 1 := by omega
        clear hk hb hl hil
        go_wp2_with fail
        go_roundg (gk - 1)
        case measure => have := HK.out; omega
        case rel => exact ⟨k + 1, rfl, by have := HK.out; omega, by omega, Lib.hid ⟨by rw [← inM_step h1 hlt]; exact HR2.out.1.setI (by rw [List.length_replicate]; omega) true, HR2.out.2.setCell (by first | omega | simp) _⟩⟩
      · have q1 : decide (((k : Nat) : Int) ≤ ((n : Nat) : Int)) = false := decide_eq_false (by omega)
        have q2 : ¬ ((k : Nat) : Int) ≤ ((n : Nat) : Int) := by omega
        obtain rfl : k = n + 1 := by omega
        clear hk hl
        go_wp2_with fail
        exact bodyPost_ret (v := .tuple #[.pointer (some ⟨W.heap.size + 1 + 1, 0, none⟩), .int .i64 0]) (by simp [results, Try.results8, go_sem]) rfl ⟨_, _, _, rfl, HR2.out.1, HR2.out.2, hpp, hps, hpi⟩
  · clear hmf hmb hbh
    go_wp2_with fail
    have HR : Hid (RHp (((W.alloc (.cells (Array.replicate (n + 1) (.bool false)) 4)).alloc (.cells (Array.replicate (n + 1) (.float .f64 0)) 32)).alloc (.cells #[.slice (some ⟨W.heap.size + 1, 0, none⟩) (n + 1) (n + 1), .slice (some ⟨W.heap.size, 0, none⟩) (n + 1) (n + 1)] 54)).drew (W.heap.size + 1 + 1) (W.heap.size + 1) (W.heap.size) (List.replicate (n + 1) 0) (inM n 1) ∧ Below W.heap.size W (((W.alloc (.cells (Array.replicate (n + 1) (.bool false)) 4)).alloc (.cells (Array.replicate (n + 1) (.float .f64 0)) 32)).alloc (.cells #[.slice (some ⟨W.heap.size + 1, 0, none⟩) (n + 1) (n + 1), .slice (some ⟨W.heap.size, 0, none⟩) (n + 1) (n + 1)] 54)).drew) := Lib.hid (by
      obtain ⟨t1, t2, t3⟩ := three W (.cells (Array.replicate (n + 1) (.bool false)) 4) (.cells (Array.replicate (n + 1) (.float .f64 0)) 32) (.cells #[.slice (some ⟨W.heap.size + 1, 0, none⟩) (n + 1) (n + 1), .slice (some ⟨W.heap.size, 0, none⟩) (n + 1) (n + 1)] 54)
      exact ⟨(rhp_made t3 t2 t1 h (by omega) (by omega) (by omega)).drewN 1, (((((Below.refl W.heap.size W).alloc (Nat.le_refl _) _).alloc (by simp) _).alloc (by simp; omega) _)).drew⟩)
    have hps : W.heap.size ≤ W.heap.size + 1 := by omega
    have hpi : W.heap.size ≤ W.heap.size := by omega
    have hpp : W.heap.size ≤ W.heap.size + 1 + 1 := by omega
    generalize (((W.alloc (.cells (Array.replicate (n + 1) (.bool false)) 4)).alloc (.cells (Array.replicate (n + 1) (.float .f64 0)) 32)).alloc (.cells #[.slice (some ⟨W.heap.size + 1, 0, none⟩) (n + 1) (n + 1), .slice (some ⟨W.heap.size, 0, none⟩) (n + 1) (n + 1)] 54)).drew = U at HR ⊢
    go_loopg [5] n (fun gk v5 wr => ∃ k : Nat, v5 = .int .i64 ((k : Nat) : Int) ∧ k + gk = n + 1 ∧ 1 ≤ k ∧ Hid (RHp wr (W.heap.size + 1 + 1) (W.heap.size + 1) W.heap.size (List.replicate (n + 1) 0) (inM n k) ∧ Below W.heap.size W wr))
    case atStart => exact ⟨1, rfl, by omega, by omega, HR⟩
    case round =>
      obtain ⟨k, rfl, hk, h1, HR2⟩ := hrel
      have HK := Lib.hid hk
      have q0 : (0 : Int) ≤ ((k : Nat) : Int) := by omega
      have hs3 := step_i (j := k) (by omega)
      have c1 := HR2.out.1.c1
      have hl : (List.replicate (n + 1) 0).length = n + 1 := List.length_replicate
      rw [hl] at c1
      by_cases hlt : k ≤ n
      · have hil : (inM n k).length = n + 1 := by simp [inM]
        obtain ⟨b, hb⟩ : ∃ b, (inM n k)[k]? = some b := ⟨_, List.getElem?_eq_getElem (by omega)⟩
        have hI := HR2.out.1.i k b hb
        have hf := HR2.out.1.fi k
        have q1 : decide (((k : Nat) : Int) ≤ ((n : Nat) : Int)) = true := decide_eq_true (by omega)
        have q2 : ((k : Nat) : Int) ≤ ((n : Nat) : Int) := by omega
        have q3 : ((k : Nat) : Int) < ((n : Nat) : Int) + 1 := by omega
        clear hk hb hl hil
        go_wp2_with fail
        go_roundg (gk - 1)
        case measure => have := HK.out; omega
        case rel => exact ⟨k + 1, rfl, by have := HK.out; omega, by omega, Lib.hid ⟨by rw [← inM_step h1 hlt]; exact HR2.out.1.setI (by rw [List.length_replicate]; omega) true, HR2.out.2.setCell (by first | omega | simp) _⟩⟩
      · have q1 : decide (((k : Nat) : Int) ≤ ((n : Nat) : Int)) = false := decide_eq_false (by omega)
        have q2 : ¬ ((k : Nat) : Int) ≤ ((n : Nat) : Int) := by omega
        obtain rfl : k = n + 1 := by omega
        clear hk hl
        go_wp2_with fail
        exact bodyPost_ret (v := .tuple #[.pointer (some ⟨W.heap.size + 1 + 1, 0, none⟩), .int .i64 0]) (by simp [results, Try.results8, go_sem]) rfl ⟨_, _, _, rfl, HR2.out.1, HR2.out.2, hpp, hps, hpi⟩
end Hp
end Go.Proofs.Ytdajnmlpghgeeaa
