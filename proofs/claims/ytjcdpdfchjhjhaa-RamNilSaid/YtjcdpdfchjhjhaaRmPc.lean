/-
  The program's memory, in memory; which bytes a call means.
-/
import Derived.Test.YtjcdpdfchjhjhaaRmApi
import Derived.Lib.SliceRun
namespace Go.Proofs.Ytjcdpdfchjhjhaa
open Go.RowKit
namespace Rm
set_option maxHeartbeats 1600000
set_option maxRecDepth 100000

/-- The program's memory, in memory. -/
structure PrAt (w : World) (p b z c : Nat) (f : Nat → Nat) : Prop where
  c0 : w.cell? ⟨p, 0, none⟩ = some (.slice (some ⟨b, 0, none⟩) z c)
  cs : ∀ j, j < z → w.cell? ⟨b, j, none⟩ = some (.int .u8 ((f j : Nat) : Int))
  fb : ∀ j, w.frozen? ⟨b, j, none⟩ = false
  by_ : By f
  le : 256 ≤ z ∧ z ≤ 4096
  cap : z ≤ c ∧ c ≤ maxLen
  lt : p < w.heap.size ∧ b < w.heap.size
  sep : p ≠ b
theorem PrAt.set {w : World} {p b z c : Nat} {f : Nat → Nat} (h : PrAt w p b z c f) {i x : Nat} (hi : i < z) (hx : x < 256) : PrAt (w.setCell ⟨b, i, none⟩ (.int .u8 ((x : Nat) : Int))) p b z c (fun j => if j = i then x else f j) := by
  refine ⟨(World.cell?_setCell_other _ _ _ _ (by simp; exact fun e => absurd e.symm h.sep)).trans h.c0, fun j hj => ?_, fun j => by rw [World.frozen?_setCell]; exact h.fb j, fun j => ?_, h.le, h.cap, by simpa [World.setCell] using h.lt, h.sep⟩
  · by_cases e : j = i
    · subst e
      rw [if_pos rfl]
      exact World.cell?_setCell_same' _ _ _ (by rw [h.cs j hj]; rfl)
    · rw [if_neg e]
      exact (World.cell?_setCell_other _ _ _ _ (by simp; exact fun q => e q.symm)).trans (h.cs j hj)
  · split
    · exact hx
    · exact h.by_ j
theorem PrAt.only {w w' : World} {p b z c : Nat} {f : Nat → Nat} {bs : List Nat} (h : PrAt w p b z c f) (o : Only bs w w') (h1 : p ∉ bs) (h2 : b ∉ bs) : PrAt w' p b z c f := by
  have k1 := o.blk p h.lt.1 h1
  have k2 := o.blk b h.lt.2 h2
  exact ⟨(cell_blk k1 _).trans h.c0, fun j hj => (cell_blk k2 _).trans (h.cs j hj), fun j => (frozen_blk k2 _).trans (h.fb j), h.by_, h.le, h.cap, ⟨Nat.lt_of_lt_of_le h.lt.1 o.size, Nat.lt_of_lt_of_le h.lt.2 o.size⟩, h.sep⟩
theorem isnone_no {W : World} {p b z c : Nat} {f : Nat → Nat} (h : PrAt W p b z c f) : Calls Try.prog 19 #[.pointer (some ⟨p, 0, none⟩)] W fun e w => e = .returned (.bool false) ∧ W = w := by
  have c0 := h.c0
  clear h
  have hen : ∀ (w : World), (binOp .eql 41 (.slice (some ⟨b, 0, none⟩) z c) (.slice none 0 0)).run Try.prog w = .ok (.bool false) w := fun w => Lib.run_eql_slice_nil w _ _ _ _ _ _ _ Try.underlying41
  go_enter Try.func19, Try.ntmps19
  go_wp2_with fail
  go_ret
  exact ⟨rfl, rfl⟩
theorem isnone_nil (W : World) : Calls Try.prog 19 #[.pointer none] W fun e w => e = .returned (.bool true) ∧ W = w := by
  go_enter Try.func19, Try.ntmps19
  go_wp2_with fail
  go_ret
  exact ⟨rfl, rfl⟩
theorem isnone_zero {W : World} {p : Nat} (c0 : W.cell? ⟨p, 0, none⟩ = some (.slice none 0 0)) : Calls Try.prog 19 #[.pointer (some ⟨p, 0, none⟩)] W fun e w => e = .returned (.bool true) ∧ W = w := by
  have hen : ∀ (w : World), (binOp .eql 41 (.slice none 0 0) (.slice none 0 0)).run Try.prog w = .ok (.bool true) w := fun w => Lib.run_eql_slice_nil w _ _ _ _ _ _ _ Try.underlying41
  go_enter Try.func19, Try.ntmps19
  go_wp2_with fail
  go_ret
  exact ⟨rfl, rfl⟩
theorem ret_sl {b x x' y y' z z' : Nat} (h1 : x = x') (h2 : y = y') (h3 : z = z') : Ending.returned (.tuple #[.slice (some ⟨b, x, none⟩) y z, .int .i64 0]) = .returned (.tuple #[.slice (some ⟨b, x', none⟩) y' z', .int .i64 0]) := by rw [h1, h2, h3]
/-- The bytes that a call means. -/
def pcP (b z a : Nat) (n : Int) : Value := if erP z a n = 0 then .slice (some ⟨b, a - 4096, none⟩) n.toNat n.toNat else .slice none 0 0
theorem piece_any {W : World} {p b z c : Nat} {f : Nat → Nat} (h : PrAt W p b z c f) {a : Nat} (ha : a < 4294967296) (n : Int) : Calls Try.prog 17 #[.pointer (some ⟨p, 0, none⟩), .int .u32 ((a : Nat) : Int), .int .i64 n] W fun e w => e = .returned (.tuple #[pcP b z a n, .int .i64 ((erP z a n : Nat) : Int)]) ∧ W = w := by
  have HN := Lib.hid (isnone_no h)
  have c0 := h.c0
  have hz := h.le
  have hc := h.cap
  have hcm := hc.2
  unfold maxLen at hcm
  clear h
  have a0 : (0 : Int) ≤ ((a : Nat) : Int) := by omega
  unfold pcP
  by_cases n1 : n = 1 ∨ n = 2 ∨ n = 4
  · have hn : 1 ≤ n ∧ n ≤ 4 := by omega
    by_cases lo : a < 4096
    · have HE : erP z a n = 9 := by unfold erP; rw [if_neg (by omega), if_pos (.inl lo)]
      have g1 : decide (((a : Nat) : Int) - 4096 < 0) = true := decide_eq_true (by omega)
      rw [HE, if_neg (by omega)]
      clear HE
      rcases n1 with rfl | rfl | rfl
      all_goals (go_enter Try.func17, Try.ntmps17; go_wp2_with ((with_reducible refine HN.out.mono ?_); rintro e w ⟨rfl, rfl⟩); go_ret2; exact ⟨rfl, rfl⟩)
    · obtain ⟨o, rfl⟩ : ∃ o, a = 4096 + o := ⟨a - 4096, by omega⟩
      have e1 : wrap64 (((4096 + o : Nat) : Int) - 4096) = ((o : Nat) : Int) := by rw [IntWalk.wrap64_in _ (by omega)]; omega
      have o0 : (0 : Int) ≤ ((o : Nat) : Int) := by omega
      have g1 : decide (((o : Nat) : Int) < 0) = false := decide_eq_false (by omega)
      by_cases hi : 4096 + (z : Int) < (4096 + o : Nat) + n
      · have HE : erP z (4096 + o) n = 9 := by unfold erP; rw [if_neg (by omega), if_pos (.inr hi)]
        have g2 : decide (((z : Nat) : Int) < ((o : Nat) : Int) + n) = true := decide_eq_true (by omega)
        rw [HE, if_neg (by omega)]
        clear HE
        rcases n1 with rfl | rfl | rfl
        all_goals (go_enter Try.func17, Try.ntmps17; go_wp2_with ((with_reducible refine HN.out.mono ?_); rintro e w ⟨rfl, rfl⟩); go_ret2; exact ⟨rfl, rfl⟩)
      · have HE : erP z (4096 + o) n = 0 := by unfold erP; rw [if_neg (by omega), if_neg (by omega)]
        have g2 : decide (((z : Nat) : Int) < ((o : Nat) : Int) + n) = false := decide_eq_false (by omega)
        rw [HE, if_pos rfl, show 4096 + o - 4096 = o by omega]
        clear HE
        rcases n1 with rfl | rfl | rfl
        all_goals (go_enter Try.func17, Try.ntmps17; go_wp2_with ((with_reducible refine HN.out.mono ?_); rintro e w ⟨rfl, rfl⟩); go_ret2; exact ⟨ret_sl (by omega) (by omega) (by omega), rfl⟩)
  · have HE : erP z a n = 2 := by unfold erP; rw [if_pos (by omega)]
    rw [HE, if_neg (by omega)]
    clear HE
    have e1 : (n != 1) = true := by rw [bne_iff_ne]; omega
    have e2 : (n != 2) = true := by rw [bne_iff_ne]; omega
    have e4 : (n != 4) = true := by rw [bne_iff_ne]; omega
    clear n1
    go_enter Try.func17, Try.ntmps17
    go_wp2_with ((with_reducible refine HN.out.mono ?_); rintro e w ⟨rfl, rfl⟩)
    go_ret2
    exact ⟨rfl, rfl⟩
end Rm
end Go.Proofs.Ytjcdpdfchjhjhaa
