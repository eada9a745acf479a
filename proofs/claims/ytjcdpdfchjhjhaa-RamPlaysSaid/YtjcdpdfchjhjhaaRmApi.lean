/-
  What the program's memory answers (Api): what the statements of the layer are walked over.
-/
import Derived.Test.YtjcdpdfchjhjhaaRmSame
namespace Go.Proofs.Ytjcdpdfchjhjhaa
open Go.RowKit
namespace Rm
set_option maxHeartbeats 1600000
set_option maxRecDepth 100000

theorem BAt.only {w w' : World} {b o z : Nat} {f : Nat → Nat} {bs : List Nat} (h : BAt w b o z f) (k : Only bs w w') (h1 : b ∉ bs) : BAt w' b o z f :=
  ⟨fun j hj => (k.box h.lt h1 _).trans (h.c j hj), Nat.lt_of_lt_of_le h.lt k.size⟩
/-- What the program's functions answer; 'At': its memory in memory (pointer, blocks of its own, size, bytes). -/
structure Api (At : World → Nat → List Nat → Nat → (Nat → Nat) → Prop) : Prop where
  own : ∀ {w : World} {p : Nat} {bs : List Nat} {z : Nat} {f : Nat → Nat}, At w p bs z f → ∀ k ∈ bs, k < w.heap.size
  keep : ∀ {w w' : World} {p : Nat} {bs cs : List Nat} {z : Nat} {f : Nat → Nat}, At w p bs z f → Only cs w w' → (∀ k ∈ bs, k ∉ cs) → At w' p bs z f
  byt : ∀ {w : World} {p : Nat} {bs : List Nat} {z : Nat} {f : Nat → Nat}, At w p bs z f → By f ∧ 256 ≤ z ∧ z ≤ 4096
  newNo : ∀ (n : Int) (W : World), ¬ sizeP n → Calls Try.prog 6 #[.int .i64 n] W fun e w => e = .returned (.tuple #[.pointer none, .int .i64 2]) ∧ Only [] W w
  newYes : ∀ (n : Nat) (W : World), sizeP ((n : Nat) : Int) → Calls Try.prog 6 #[.int .i64 ((n : Nat) : Int)] W fun e w => ∃ p bs, e = .returned (.tuple #[.pointer (some ⟨p, 0, none⟩), .int .i64 0]) ∧ At w p bs n zeroF ∧ Only [] W w ∧ ∀ k ∈ bs, W.heap.size ≤ k
  load : ∀ {W : World} {p : Nat} {bs : List Nat} {z : Nat} {f : Nat → Nat} (a : Nat) (n : Int), At W p bs z f → a < 4294967296 → Calls Try.prog 12 #[.pointer (some ⟨p, 0, none⟩), .int .u32 ((a : Nat) : Int), .int .i64 n] W fun e w => e = .returned (.tuple #[.int .u32 ((ldP z f a n : Nat) : Int), .int .i64 ((erP z a n : Nat) : Int)]) ∧ Only [] W w
  store : ∀ {W : World} {p : Nat} {bs : List Nat} {z : Nat} {f : Nat → Nat} (a : Nat) (n : Int) (v : Nat), At W p bs z f → a < 4294967296 → v < 4294967296 → Calls Try.prog 9 #[.pointer (some ⟨p, 0, none⟩), .int .u32 ((a : Nat) : Int), .int .i64 n, .int .u32 ((v : Nat) : Int)] W fun e w => e = .returned (.int .i64 ((erP z a n : Nat) : Int)) ∧ At w p bs z (stP z f a n v) ∧ Only bs W w
  bytes : ∀ {W : World} {p : Nat} {bs : List Nat} {z : Nat} {f : Nat → Nat}, At W p bs z f → Calls Try.prog 16 #[.pointer (some ⟨p, 0, none⟩)] W fun e w => ∃ b c, e = .returned (.slice (some ⟨b, 0, none⟩) z c) ∧ BAt w b 0 z f ∧ W.heap.size ≤ b ∧ (∀ j, w.frozen? ⟨b, j, none⟩ = false) ∧ Only [] W w
  size : ∀ {W : World} {p : Nat} {bs : List Nat} {z : Nat} {f : Nat → Nat}, At W p bs z f → Calls Try.prog 14 #[.pointer (some ⟨p, 0, none⟩)] W fun e w => e = .returned (.int .i64 ((z : Nat) : Int)) ∧ Only [] W w
  copy : ∀ {W : World} {p : Nat} {bs : List Nat} {z : Nat} {f : Nat → Nat}, At W p bs z f → Calls Try.prog 11 #[.pointer (some ⟨p, 0, none⟩)] W fun e w => ∃ q cs, e = .returned (.pointer (some ⟨q, 0, none⟩)) ∧ At w q cs z f ∧ (∀ k ∈ cs, W.heap.size ≤ k) ∧ Only [] W w
theorem ex_0 : erP 256 4350 2 = 0 := by decide +kernel
theorem ex_1 : erP 256 4351 1 = 0 := by decide +kernel
theorem ex_2 : ldP 256 (stP 256 zeroF 4350 2 66051) 4351 1 = 2 := by decide +kernel
theorem ex_3 : erP 256 4351 2 = 9 := by decide +kernel
section
variable {At : World → Nat → List Nat → Nat → (Nat → Nat) → Prop}
theorem lives_any (A : Api At) (W : World) : Calls Try.prog 8 #[] W fun e w => e = .returned (.bool true) ∧ Below W.heap.size W w := by
  have HA := Lib.hid A
  have HN := Lib.hid (fun w => A.newYes 256 w size_256)
  have HM := Lib.hid (fun w => A.newNo 100 w size_100)
  clear A
  go_enter Try.func8, Try.ntmps8
  go_wp2_with fail
  refine (HN.out _).mono ?_
  rintro e w1 ⟨p, bs, rfl, hat, ho, hlo⟩
  have HB1 : Hid (Below W.heap.size W w1) := Lib.hid (ho.below (by simp) (Nat.le_refl _))
  have HLO := Lib.hid hlo
  have HS := Lib.hid (HA.out.store 4350 2 66051 hat (by omega) (by omega))
  rw [ex_0] at HS
  clear hat ho hlo
  go_wp2_with fail
  refine HS.out.mono ?_
  rintro e w2 ⟨rfl, hat, ho⟩
  have HB2 : Hid (Below W.heap.size W w2) := Lib.hid (HB1.out.trans (ho.below HLO.out HB1.out.size))
  have HL := Lib.hid (HA.out.load 4351 1 hat (by omega))
  have HL2 := Lib.hid (fun (w : World) (o : Only [] w2 w) => HA.out.load 4351 2 (HA.out.keep hat o (by simp)) (by omega))
  rw [ex_1, ex_2] at HL
  rw [ex_3] at HL2
  clear hat ho HS
  go_wp2_with fail
  refine HL.out.mono ?_
  rintro e w3 ⟨rfl, ho⟩
  have HB3 : Hid (Below W.heap.size W w3) := Lib.hid (HB2.out.trans (ho.below (by simp) HB2.out.size))
  have HL3 := Lib.hid (HL2.out w3 ho)
  clear ho HL2 HL
  go_wp2_with fail
  refine HL3.out.mono ?_
  rintro e w4 ⟨rfl, ho⟩
  have HB4 : Hid (Below W.heap.size W w4) := Lib.hid (HB3.out.trans (ho.below (by simp) HB3.out.size))
  clear ho HL3
  go_wp2_with fail
  refine (HM.out _).mono ?_
  rintro e w5 ⟨rfl, ho⟩
  have HB5 : Hid (Below W.heap.size W w5) := Lib.hid (HB4.out.trans (ho.below (by simp) HB4.out.size))
  clear ho
  go_wp2_with fail
  go_ret
  exact ⟨rfl, HB5.out⟩
end
end Rm
end Go.Proofs.Ytjcdpdfchjhjhaa
