/-
  The program's memory: Store.
-/
import Derived.Test.YtjcdpdfchjhjhaaRmPc
namespace Go.Proofs.Ytjcdpdfchjhjhaa
open Go.RowKit
namespace Rm
set_option maxHeartbeats 1600000
set_option maxRecDepth 100000

theorem store_any {W : World} {p b z c : Nat} {f : Nat → Nat} (h : PrAt W p b z c f) {a : Nat} (ha : a < 4294967296) (n : Int) {v : Nat} (hv : v < 4294967296) : Calls Try.prog 9 #[.pointer (some ⟨p, 0, none⟩), .int .u32 ((a : Nat) : Int), .int .i64 n, .int .u32 ((v : Nat) : Int)] W fun e w => e = .returned (.int .i64 ((erP z a n : Nat) : Int)) ∧ PrAt w p b z c (stP z f a n v) ∧ Only [b] W w := by
  have HP := Lib.hid (piece_any h ha n)
  have HH := Lib.hid h
  unfold pcP at HP
  unfold stP
  by_cases he : erP z a n = 0
  · obtain ⟨k, rfl, hk, ha1, ha2⟩ := erP_yes he
    rw [if_pos he, he]
    rw [if_pos he, he] at HP
    have hz := h.le
    obtain ⟨o, rfl⟩ : ∃ o, a = 4096 + o := ⟨a - 4096, by omega⟩
    rw [show 4096 + o - 4096 = o by omega, Int.toNat_natCast] at HP ⊢
    have o0 : (0 : Int) ≤ ((o : Nat) : Int) := by omega
    have hk4 : k ≤ 4 := by omega
    clear h he hk
    go_enter Try.func9, Try.ntmps9
    go_wp2_with fail
    refine HP.out.mono ?_
    rintro e w ⟨rfl, rfl⟩
    go_wp2_with fail
    go_loopg [24] k (fun gk v24 wr => ∃ i : Nat, v24 = .int .i64 ((i : Nat) : Int) ∧ i + gk = k ∧ Hid (PrAt wr p b z c (st f o i v)) ∧ Hid (Only [b] W wr))
    case atStart => exact ⟨0, rfl, by omega, HH, Lib.hid (Only.refl _ _)⟩
    case round =>
      obtain ⟨i, rfl, hg, HR, HO⟩ := hrel
      have HG := Lib.hid hg
      have i0 : (0 : Int) ≤ ((i : Nat) : Int) := by omega
      by_cases hlt : i < k
      · have g1 : decide (((i : Nat) : Int) < ((k : Nat) : Int)) = true := decide_eq_true (by omega)
        have hc := HR.out.cs (o + i) (by omega)
        have hf := HR.out.fb (o + i)
        have HX : Hid (∀ x, x = v / 256 ^ i % 256 → PrAt (wr.setCell ⟨b, o + i, none⟩ (.int .u8 ((x : Nat) : Int))) p b z c (st f o (i + 1) v) ∧ Only [b] W (wr.setCell ⟨b, o + i, none⟩ (.int .u8 ((x : Nat) : Int)))) := Lib.hid (fun x hx => by
          have k2 := HR.out.set (i := o + i) (x := x) (by omega) (by rw [hx]; exact Nat.mod_lt _ (by omega))
          have e2 : st f o (i + 1) v = fun j => if j = o + i then x else st f o i v j := by rw [st_more, hx]
          rw [← e2] at k2
          exact ⟨k2, HO.out.set (by simp) _⟩)
        obtain rfl | rfl | rfl | rfl : i = 0 ∨ i = 1 ∨ i = 2 ∨ i = 3 := by omega
        all_goals
          clear hg
          try simp only [Nat.add_zero] at hc hf
          go_wp2_with fail
          go_roundg (gk - 1)
          case' measure => have := HG.out; omega
          case' rel => first | (obtain ⟨a1, a2⟩ := HX.out (v % 256) (by simp); exact ⟨1, by go_num, by have := HG.out; omega, Lib.hid (by simpa using a1), Lib.hid (by simpa using a2)⟩) | (obtain ⟨a1, a2⟩ := HX.out (v / 256 % 256) (by simp); exact ⟨2, by go_num, by have := HG.out; omega, Lib.hid (by simpa using a1), Lib.hid (by simpa using a2)⟩) | (obtain ⟨a1, a2⟩ := HX.out (v / 65536 % 256) (by simp); exact ⟨3, by go_num, by have := HG.out; omega, Lib.hid (by simpa using a1), Lib.hid (by simpa using a2)⟩) | (obtain ⟨a1, a2⟩ := HX.out (v / 16777216) (by simp; omega); exact ⟨4, by go_num, by have := HG.out; omega, Lib.hid (by simpa using a1), Lib.hid (by simpa using a2)⟩)
      · obtain rfl : i = k := by omega
        have g1 : decide (((i : Nat) : Int) < ((i : Nat) : Int)) = false := decide_eq_false (by omega)
        go_wp2_with fail
        go_ret
        exact ⟨rfl, HR.out, HO.out⟩
  · rw [if_neg he]
    rw [if_neg he] at HP
    have g1 : ((((erP z a n : Nat) : Int)) != 0) = true := by rw [bne_iff_ne]; omega
    obtain ⟨x, hx⟩ : ∃ x, x = erP z a n := ⟨_, rfl⟩
    rw [← hx] at HP g1 ⊢
    clear h he hx
    go_enter Try.func9, Try.ntmps9
    go_wp2_with fail
    refine HP.out.mono ?_
    rintro e w ⟨rfl, rfl⟩
    go_wp2_with fail
    go_ret
    exact ⟨rfl, HH.out, Only.refl _ _⟩
end Rm
end Go.Proofs.Ytjcdpdfchjhjhaa
