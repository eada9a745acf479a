/-
  The document's memory: Load.
-/
import Derived.Test.YtjcdpdfchjhjhaaRmRef
namespace Go.Proofs.Ytjcdpdfchjhjhaa
open Go.RowKit
namespace Rm
set_option maxHeartbeats 1600000
set_option maxRecDepth 100000

/-- What a Load answers. -/
def ldP (z : Nat) (f : Nat → Nat) (a : Nat) (n : Int) : Nat := if erP z a n = 0 then ld f (a - 4096) n.toNat else 0
theorem ld_u32 {f : Nat → Nat} (h : By f) {n : Nat} (hn : n ≤ 4) (o : Nat) : ld f o n < 4294967296 := by
  have a := ld_lt h n o
  have b : 256 ^ n ≤ 256 ^ 4 := Nat.pow_le_pow_right (by omega) hn
  have c : (256 : Nat) ^ 4 = 4294967296 := rfl
  omega
theorem rload_any {W : World} {p b z : Nat} {f : Nat → Nat} (h : RfAt W p b z f) {a : Nat} (ha : a < 4294967296) (n : Int) : Calls Try.prog 13 #[.pointer (some ⟨p, 0, none⟩), .int .u32 ((a : Nat) : Int), .int .i64 n] W fun e w => e = .returned (.tuple #[.int .u32 ((ldP z f a n : Nat) : Int), .int .i64 ((erP z a n : Nat) : Int)]) ∧ W = w := by
  have HI := Lib.hid (ris_any h ha n)
  unfold ldP
  by_cases he : erP z a n = 0
  · obtain ⟨k, rfl, hk, ha1, ha2⟩ := erP_yes he
    rw [if_pos he, he]
    rw [he] at HI
    have c0 := h.c0
    have hz := h.le
    have HC := Lib.hid h.c
    have HBY := Lib.hid h.by_
    obtain ⟨o, rfl⟩ : ∃ o, a = 4096 + o := ⟨a - 4096, by omega⟩
    rw [show 4096 + o - 4096 = o by omega, Int.toNat_natCast]
    have o0 : (0 : Int) ≤ ((o : Nat) : Int) := by omega
    have k1 : wrap64 (((k : Nat) : Int) - 1) = ((k : Nat) : Int) - 1 := IntWalk.wrap64_in _ (by omega)
    have e1 : wrap64 (((4096 + o : Nat) : Int) - 4096) = ((o : Nat) : Int) := by rw [IntWalk.wrap64_in _ (by omega)]; omega
    clear h he
    go_enter Try.func13, Try.ntmps13
    go_wp2_with fail
    refine HI.out.mono ?_
    rintro e w ⟨rfl, rfl⟩
    go_wp2_with fail
    go_loopg [9, 10] k (fun gk v9 v10 wr => v9 = .int .u32 ((ld f (o + gk) (k - gk) : Nat) : Int) ∧ v10 = .int .i64 (((gk : Nat) : Int) - 1) ∧ gk ≤ k ∧ W = wr)
    case atStart => exact ⟨by rw [Nat.sub_self]; rfl, rfl, Nat.le_refl _, rfl⟩
    case round =>
      obtain ⟨rfl, rfl, hg, rfl⟩ := hrel
      have HG := Lib.hid hg
      by_cases hlt : 1 ≤ gk
      · obtain ⟨g, rfl⟩ : ∃ g, gk = g + 1 := ⟨gk - 1, by omega⟩
        have g0 : decide (0 ≤ (((g + 1 : Nat)) : Int) - 1) = true := decide_eq_true (by omega)
        have hc : W.cell? ⟨b, o + g, none⟩ = some (.int .u8 ((f (o + g) : Nat) : Int)) := HC.out _ (by omega)
        have hb := HBY.out (o + g)
        have HL := Lib.hid (ld_u32 HBY.out (show k - g ≤ 4 by omega) (o + g))
        have HM : Hid (ld f (o + g) (k - g) = 256 * ld f (o + (g + 1)) (k - (g + 1)) + f (o + g)) := Lib.hid (by rw [show k - g = k - (g + 1) + 1 by omega, ld_more]; rfl)
        go_wp2_with fail
        go_roundg g
        case measure => omega
        case rel =>
          have hl := HL.out
          have hm := HM.out
          exact ⟨by congr 1; rw [hm]; omega, by go_num, by omega, rfl⟩
      · obtain rfl : gk = 0 := by omega
        go_wp2_with fail
        go_ret2
        exact ⟨rfl, rfl⟩
  · rw [if_neg he]
    have g1 : ((((erP z a n : Nat) : Int)) != 0) = true := by rw [bne_iff_ne]; omega
    obtain ⟨x, hx⟩ : ∃ x, x = erP z a n := ⟨_, rfl⟩
    rw [← hx] at HI g1 ⊢
    clear h he hx
    go_enter Try.func13, Try.ntmps13
    go_wp2_with fail
    refine HI.out.mono ?_
    rintro e w ⟨rfl, rfl⟩
    go_wp2_with fail
    go_ret2
    exact ⟨rfl, rfl⟩
end Rm
end Go.Proofs.Ytjcdpdfchjhjhaa
