/-
  The document's memory: New; two lists of bytes compared.
-/
import Derived.Test.YtjcdpdfchjhjhaaRmOnly
import Derived.Laws.MakeOwn
import Derived.Laws.Tables
import Derived.Laws.NewFold
namespace Go.Proofs.Ytjcdpdfchjhjhaa
open Go.RowKit
namespace Rm
set_option maxHeartbeats 1600000
set_option maxRecDepth 100000

/-- May a memory be so great? -/
def sizeP (n : Int) : Prop := 256 ≤ n ∧ n ≤ 4096 ∧ n % 256 = 0
theorem rnew_no {n : Int} (h : ¬ sizeP n) (W : World) : Calls Try.prog 7 #[.int .i64 n] W fun e w => e = .returned (.tuple #[.pointer none, .int .i64 2]) ∧ w = W := by
  by_cases h0 : n < 256
  · have e0 : decide (n < 256) = true := decide_eq_true h0
    clear h
    go_enter Try.func7, Try.ntmps7
    go_wp2_with fail
    exact bodyPost_ret (v := .tuple #[.pointer none, .int .i64 2]) (by simp [results, Try.results7, go_sem]) rfl ⟨rfl, rfl⟩
  · have e0 : decide (n < 256) = false := decide_eq_false h0
    by_cases h1 : 4096 < n
    · have e1 : decide (4096 < n) = true := decide_eq_true h1
      clear h
      go_enter Try.func7, Try.ntmps7
      go_wp2_with fail
      exact bodyPost_ret (v := .tuple #[.pointer none, .int .i64 2]) (by simp [results, Try.results7, go_sem]) rfl ⟨rfl, rfl⟩
    · have e1 : decide (4096 < n) = false := decide_eq_false h1
      have e3 : n.tmod 256 = n % 256 := Int.tmod_eq_emod_of_nonneg (by omega)
      have e2 : (n % 256 != 0) = true := by rw [bne_iff_ne]; unfold sizeP at h; omega
      clear h
      go_enter Try.func7, Try.ntmps7
      go_wp2_with fail
      exact bodyPost_ret (v := .tuple #[.pointer none, .int .i64 2]) (by simp [results, Try.results7, go_sem]) rfl ⟨rfl, rfl⟩
theorem infos {t : TypeId} {z : Value} {a b : Nat} (h : (Try.prog.info? t).map (fun i => (i.zero, i.size, i.bytes)) = some (some z, a, b)) : ∃ i, Try.prog.info? t = some i ∧ i.zero = some z ∧ i.size = a ∧ i.bytes = b := by
  cases hi : Try.prog.info? t with
  | none => rw [hi] at h; cases h
  | some i =>
    rw [hi] at h
    simp only [Option.map_some, Option.some.injEq, Prod.mk.injEq] at h
    exact ⟨i, rfl, h.1, h.2.1, h.2.2⟩
theorem info_u8 : (Try.prog.info? 5).map (fun i => (i.zero, i.size, i.bytes)) = some (some (.int .u8 0), 1, 1) := by kernel_rfl
theorem made_one (z : Value) (hz : z.cells = #[z]) (n : Nat) : madeCells z.cells (n * 1) = Array.replicate n z := by
  apply Array.ext_getElem?
  intro j
  by_cases hj : j < n
  · simp [madeCells, hz, hj, Nat.mod_one]
  · simp [madeCells, hz, hj]
theorem make_bytes (n : Nat) (hn : n ≤ 4096) (W : World) : (Instr.makeSlice 41 (.int .i64 ((n : Nat) : Int)) (.int .i64 ((n : Nat) : Int))).run Try.prog W = .ok (.slice (some ⟨W.heap.size, 0, none⟩) n n) (W.alloc (.cells (Array.replicate n (Value.int .u8 0)) 5)) := by
  obtain ⟨i0, hinfo, hz0, hz1, hz2⟩ := infos info_u8
  have h := run_makeSlice (P := Try.prog) (w := W) 41 5 i0 (.int .u8 0) Try.underlying41 hinfo hz0 .i64 .i64 ((n : Nat) : Int) ((n : Nat) : Int) (by omega) (Int.le_refl _) (by rw [hz1]; simp; omega) (by rw [hz2]; omega) (by omega)
  rw [hz1] at h
  simp only [Int.toNat_natCast] at h
  rw [made_one _ rfl] at h
  exact h
theorem build_ram (w : World) (a : Option Addr) (k l : Nat) : (Instr.build 43 #[(0, .slice a k l)]).run Try.prog w = .ok (.agg #[.slice a k l]) w := run_build w _ _ _ (by kernel_rfl)
theorem cell_of {w : World} {b : Nat} {A : Array Value} {t : TypeId} (h : w.heap[b]? = some (.cells A t)) (j : Nat) : w.cell? ⟨b, j, none⟩ = A[j]? ∧ w.frozen? ⟨b, j, none⟩ = false := by
  unfold World.cell? World.frozen?
  rw [h]
  simp
def zeroF : Nat → Nat := fun _ => 0
def NewE (W : World) (n : Nat) (e : Ending) (w : World) : Prop := ∃ p b : Nat, e = .returned (.tuple #[.pointer (some ⟨p, 0, none⟩), .int .i64 0]) ∧ RfAt w p b n zeroF ∧ Below W.heap.size W w ∧ W.heap.size ≤ p ∧ W.heap.size ≤ b
theorem two (w1 : World) (o1 o2 : Obj) : ((w1.alloc o1).alloc o2).heap[w1.heap.size]? = some o1 ∧ ((w1.alloc o1).alloc o2).heap[w1.heap.size + 1]? = some o2 := by
  have e : ((w1.alloc o1).alloc o2).heap = (w1.heap.push o1).push o2 := rfl
  refine ⟨?_, ?_⟩
  · rw [e]; simp only [Array.getElem?_push, Array.size_push]; rw [if_neg (by omega), if_pos trivial]
  · rw [e]; simp only [Array.getElem?_push, Array.size_push]; rw [if_pos trivial]
theorem rnew_at (W : World) {n : Nat} (h : 256 ≤ n ∧ n ≤ 4096) : RfAt ((W.alloc (.cells (Array.replicate n (.int .u8 0)) 5)).alloc (.cells #[.slice (some ⟨W.heap.size, 0, none⟩) n n] 43)) (W.heap.size + 1) W.heap.size n zeroF := by
  obtain ⟨t1, t2⟩ := two W (.cells (Array.replicate n (.int .u8 0)) 5) (.cells #[.slice (some ⟨W.heap.size, 0, none⟩) n n] 43)
  exact ⟨by rw [(cell_of t2 0).1]; rfl, fun j hj => by rw [(cell_of t1 j).1, Array.getElem?_replicate, if_pos hj]; rfl, fun j => (cell_of t1 j).2, fun _ => by simp [zeroF], h, by simp; omega, by omega⟩
theorem rnew_yes {n : Nat} (h : sizeP ((n : Nat) : Int)) (W : World) : Calls Try.prog 7 #[.int .i64 ((n : Nat) : Int)] W (NewE W n) := by
  obtain ⟨h1, h2, h3⟩ := h
  have e0 : decide (((n : Nat) : Int) < 256) = false := decide_eq_false (by omega)
  have e1 : decide (4096 < ((n : Nat) : Int)) = false := decide_eq_false (by omega)
  have e3 : (((n : Nat) : Int)).tmod 256 = ((n : Nat) : Int) % 256 := Int.tmod_eq_emod_of_nonneg (by omega)
  have hmb := make_bytes n (by omega)
  have hbr := build_ram
  have HA := Lib.hid (rnew_at W (n := n) (by omega))
  go_enter Try.func7, Try.ntmps7
  go_wp2_with fail
  go_ret2
  exact ⟨W.heap.size + 1, W.heap.size, rfl, HA.out, ((Below.refl W.heap.size W).alloc (Nat.le_refl _) _).alloc (by simp) _, by omega, by omega⟩
theorem size_256 : sizeP ((256 : Nat) : Int) := by unfold sizeP; omega
theorem size_100 : ¬ sizeP 100 := by unfold sizeP; omega
end Rm
end Go.Proofs.Ytjcdpdfchjhjhaa
