/-
  Two lists of bytes that are the same.
-/
import Derived.Test.YtjcdpdfchjhjhaaRmNew
import Derived.Test.YtjcdpdfchjhjhaaRmRefB
namespace Go.Proofs.Ytjcdpdfchjhjhaa
open Go.RowKit
namespace Rm
set_option maxHeartbeats 1600000
set_option maxRecDepth 100000

/-- Bytes in memory. -/
structure BAt (w : World) (b o z : Nat) (f : Nat → Nat) : Prop where
  c : ∀ j, j < z → w.cell? ⟨b, o + j, none⟩ = some (.int .u8 ((f j : Nat) : Int))
  lt : b < w.heap.size
theorem BAt.drewN {w : World} {b o z : Nat} {f : Nat → Nat} (h : BAt w b o z f) (q : Nat) : BAt (w.drewN q) b o z f := ⟨fun j hj => by simpa using h.c j hj, by simpa using h.lt⟩
theorem same_any {W : World} {b o c k z d e : Nat} {f g : Nat → Nat} (hz : z ≤ 4096) (h : BAt W b o z f) (h2 : BAt W c k z g) (he : ∀ j, j < z → f j = g j) : Calls Try.prog 15 #[.slice (some ⟨b, o, none⟩) z d, .slice (some ⟨c, k, none⟩) z e] W fun e w => e = .returned (.bool true) ∧ ∃ q, w = W.drewN q := by
  have H1 := Lib.hid h
  have H2 := Lib.hid h2
  have HE := Lib.hid he
  have z0 : (0 : Int) ≤ ((z : Nat) : Int) := by omega
  clear h h2 he
  go_enter Try.func15, Try.ntmps15
  go_wp2_with fail
  go_loopg [5] z (fun gk v5 wr => ∃ i q : Nat, v5 = .int .i64 ((i : Nat) : Int) ∧ i + gk = z ∧ wr = W.drewN q)
  case atStart => exact ⟨0, 0, rfl, by omega, rfl⟩
  case round =>
    obtain ⟨i, q, rfl, hg, rfl⟩ := hrel
    have HG := Lib.hid hg
    have i0 : (0 : Int) ≤ ((i : Nat) : Int) := by omega
    by_cases hlt : i < z
    · have g1 : decide (((i : Nat) : Int) < ((z : Nat) : Int)) = true := decide_eq_true (by omega)
      have g2 : ((i : Nat) : Int) < ((z : Nat) : Int) := by omega
      have c1 := (H1.out.drewN q).c i hlt
      have c2 := (H2.out.drewN q).c i hlt
      rw [HE.out i hlt] at c1
      obtain ⟨V, hV⟩ : ∃ V, V = W.drewN q := ⟨_, rfl⟩
      have HV := Lib.hid hV
      rw [← hV] at c1 c2 ⊢
      clear hg hV
      go_wp2_with fail
      go_quiet (fail)
      go_wp2_with fail
      go_roundg (gk - 1)
      case measure => have := HG.out; omega
      case rel => exact ⟨i + 1, q + nq, by go_num, by have := HG.out; omega, by rw [HV.out]; simp⟩
    · obtain rfl : i = z := by omega
      have g1 : decide (((i : Nat) : Int) < ((i : Nat) : Int)) = false := decide_eq_false (by omega)
      go_wp2_with fail
      go_ret
      exact ⟨rfl, q, rfl⟩
end Rm
end Go.Proofs.Ytjcdpdfchjhjhaa
