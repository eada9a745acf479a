/-
  The document's memory: Store.
-/
import Derived.Test.YtjcdpdfchjhjhaaRmOnly
namespace Go.Proofs.Ytjcdpdfchjhjhaa
open Go.RowKit
namespace Rm
set_option maxHeartbeats 1600000
set_option maxRecDepth 100000

theorem rstore_any {W : World} {p b z : Nat} {f : Nat → Nat} (h : RfAt W p b z f) {a : Nat} (ha : a < 4294967296) (n : Int) {v : Nat} (hv : v < 4294967296) : Calls Try.prog 10 #[.pointer (some ⟨p, 0, none⟩), .int .u32 ((a : Nat) : Int), .int .i64 n, .int .u32 ((v : Nat) : Int)] W fun e w => e = .returned (.int .i64 ((erP z a n : Nat) : Int)) ∧ RfAt w p b z (stP z f a n v) ∧ Only [b] W w := by
  have HI := Lib.hid (ris_any h ha n)
  have HH := Lib.hid h
  unfold stP
  by_cases he : erP z a n = 0
  · obtain ⟨k, rfl, hk, ha1, ha2⟩ := erP_yes he
    rw [if_pos he, he]
    rw [he] at HI
    have hz := h.le
    obtain ⟨o, rfl⟩ : ∃ o, a = 4096 + o := ⟨a - 4096, by omega⟩
    rw [show 4096 + o - 4096 = o by omega, Int.toNat_natCast]
    have o0 : (0 : Int) ≤ ((o : Nat) : Int) := by omega
    clear h he
    go_enter Try.func10, Try.ntmps10
    go_wp2_with fail
    refine HI.out.mono ?_
    rintro e w ⟨rfl, rfl⟩
    go_wp2_with fail
    go_loopg [3, 10] k (fun gk v3 v10 wr => ∃ i : Nat, v3 = .int .u32 ((v / 256 ^ i : Nat) : Int) ∧ v10 = .int .i64 ((i : Nat) : Int) ∧ i + gk = k ∧ Hid (RfAt wr p b z (st f o i v)) ∧ Hid (Only [b] W wr))
    case atStart => exact ⟨0, by simp, rfl, by omega, HH, Lib.hid (Only.refl _ _)⟩
    case round =>
      obtain ⟨i, rfl, rfl, hg, HR, HO⟩ := hrel
      have HG := Lib.hid hg
      have i0 : (0 : Int) ≤ ((i : Nat) : Int) := by omega
      by_cases hlt : i < k
      · have g1 : decide (((i : Nat) : Int) < ((k : Nat) : Int)) = true := decide_eq_true (by omega)
        have c0 := HR.out.c0
        have hc := HR.out.c (o + i) (by omega)
        have hf := HR.out.fb (o + i)
        obtain ⟨x, hx⟩ : ∃ x, x = v / 256 ^ i := ⟨_, rfl⟩
        have hx2 : x < 4294967296 := by rw [hx]; exact Nat.lt_of_le_of_lt (Nat.div_le_self _ _) hv
        have HX := Lib.hid hx
        rw [← hx]
        clear hx hg
        go_wp2_with fail
        go_roundg (gk - 1)
        case measure => have := HG.out; omega
        case rel => 
          have e1 : v / 256 ^ (i + 1) = x / 256 := by rw [Nat.pow_succ, ← Nat.div_div_eq_div_mul, ← HX.out]
          have e2 : st f o (i + 1) v = fun j => if j = o + i then x % 256 else st f o i v j := by rw [st_more, ← HX.out]
          have k2 := HR.out.set (i := o + i) (x := x % 256) (by omega) (Nat.mod_lt _ (by omega))
          rw [← e2] at k2
          exact ⟨i + 1, by rw [e1]; go_num, by go_num, by have := HG.out; omega, Lib.hid (by simpa using k2), Lib.hid (HO.out.set (by simp) _)⟩
      · obtain rfl : i = k := by omega
        have g1 : decide (((i : Nat) : Int) < ((i : Nat) : Int)) = false := decide_eq_false (by omega)
        go_wp2_with fail
        go_ret
        exact ⟨rfl, HR.out, HO.out⟩
  · rw [if_neg he]
    have g1 : ((((erP z a n : Nat) : Int)) != 0) = true := by rw [bne_iff_ne]; omega
    obtain ⟨x, hx⟩ : ∃ x, x = erP z a n := ⟨_, rfl⟩
    rw [← hx] at HI g1 ⊢
    clear h he hx
    go_enter Try.func10, Try.ntmps10
    go_wp2_with fail
    refine HI.out.mono ?_
    rintro e w ⟨rfl, rfl⟩
    go_wp2_with fail
    go_ret
    exact ⟨rfl, HH.out, Only.refl _ _⟩
end Rm
end Go.Proofs.Ytjcdpdfchjhjhaa
