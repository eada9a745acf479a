/-
  What Unary, Extract, Extend and Ite of layer bv return.
-/
import Derived.Test.YthelkbdiedfmfaaGreatBvMid
import Derived.Test.YthelkbdiedfmfaaGreatBvMathB
import Derived.Laws.ResultCell
namespace Go.Proofs.YthelkbdiedfmfaaGreat
open Go.RowKit
namespace Bv
set_option maxHeartbeats 400000

theorem unary_ok (o w n : Nat) (ho : o = 3 ∨ o = 4) (ha : mayB w n = true) (W : World) :
    Calls Tryz.prog 86 #[.int .u8 o, .agg #[.int .u8 w, .int .u64 n]] W fun e W' => e = .returned (.tuple #[.agg #[.int .u8 w, .int .u64 (low w (numU o n) : Nat)], .int .i64 0]) ∧ Below W.heap.size W W' := by
  obtain ⟨hw1, hw2, hn⟩ := mayB_true ha
  have hn6 : n < 18446744073709551616 := Nat.lt_of_lt_of_le hn (pow_le64 hw2)
  have hu := numU_lt 4 n
  have HA := Lib.hid ha
  clear ha
  rcases ho with rfl | rfl
  · go_enter Tryz.func86, Tryz.ntmps86
    go_wp2_with fail
    refine (may_any w n _).mono ?_; rw [HA.out]; rintro e w1 ⟨rfl, hb1⟩; obtain ⟨hc1, hf1⟩ := bcell hb1
    obtain ⟨z1a, z1b⟩ : W.heap.size < w1.heap.size ∧ W.heap.size + 1 < w1.heap.size := by have := hb1.size; simp at this; omega
    go_wp2_with fail
    rw [notmax hn6]
    refine (cut_any w hw1 hw2 _ (by omega) (by omega) _).mono ?_; rintro e w2 ⟨rfl, hb2⟩; obtain ⟨hc2, hf2⟩ := bcell hb2
    obtain ⟨z2a, z2b⟩ : W.heap.size < w2.heap.size ∧ W.heap.size + 1 < w2.heap.size := by have := hb2.size; omega
    go_wp2_with fail
    refine bodyPost_ret (v := .tuple #[.agg #[.int .u8 w, .int .u64 (low w (numU 3 n) : Nat)], .int .i64 0]) (by simp [results, Tryz.results86, go_sem, hc2, hc1, z1b]; rfl) rfl ⟨rfl, ?_⟩
    have hb := bel_call (bel_call (bel_alloc (bel_alloc (Below.refl _ _) _) _) hb1) hb2
    exact (hb.setCell (by simp) _).setCell (by simp) _
  · go_enter Tryz.func86, Tryz.ntmps86
    go_wp2_with fail
    refine (may_any w n _).mono ?_; rw [HA.out]; rintro e w1 ⟨rfl, hb1⟩; obtain ⟨hc1, hf1⟩ := bcell hb1
    obtain ⟨z1a, z1b⟩ : W.heap.size < w1.heap.size ∧ W.heap.size + 1 < w1.heap.size := by have := hb1.size; simp at this; omega
    go_wp2_with fail
    rw [neg64 hn6]
    refine (cut_any w hw1 hw2 _ (by omega) (by omega) _).mono ?_; rintro e w2 ⟨rfl, hb2⟩; obtain ⟨hc2, hf2⟩ := bcell hb2
    obtain ⟨z2a, z2b⟩ : W.heap.size < w2.heap.size ∧ W.heap.size + 1 < w2.heap.size := by have := hb2.size; omega
    go_wp2_with fail
    refine bodyPost_ret (v := .tuple #[.agg #[.int .u8 w, .int .u64 (low w (numU 4 n) : Nat)], .int .i64 0]) (by simp [results, Tryz.results86, go_sem, hc2, hc1, z1b]) rfl ⟨rfl, ?_⟩
    have hb := bel_call (bel_call (bel_alloc (bel_alloc (Below.refl _ _) _) _) hb1) hb2
    exact (hb.setCell (by simp) _).setCell (by simp) _

theorem unary_bad (o w n : Nat) (h : mayB w n = false ∨ (o ≠ 3 ∧ o ≠ 4)) (W : World) :
    Calls Tryz.prog 86 #[.int .u8 o, .agg #[.int .u8 w, .int .u64 n]] W fun e W' => e = .returned (.tuple #[.agg #[.int .u8 0, .int .u64 0], .int .i64 2]) ∧ Below W.heap.size W W' := by
  cases ha : mayB w n
  · have HA := Lib.hid ha
    clear ha h
    go_enter Tryz.func86, Tryz.ntmps86
    go_wp2_with fail
    refine (may_any w n _).mono ?_; rw [HA.out]; rintro e w1 ⟨rfl, hb1⟩; obtain ⟨hc1, hf1⟩ := bcell hb1
    obtain ⟨z1a, z1b⟩ : W.heap.size < w1.heap.size ∧ W.heap.size + 1 < w1.heap.size := by have := hb1.size; simp at this; omega
    go_wp2_with fail
    refine bodyPost_ret (v := .tuple #[.agg #[.int .u8 0, .int .u64 0], .int .i64 2]) (by simp [results, Tryz.results86, go_sem, hc1]) rfl ⟨rfl, ?_⟩
    have hb := bel_call (bel_alloc (bel_alloc (Below.refl _ _) _) _) hb1
    exact (hb.setCell (by simp) _).setCell (by simp) _
  · have ho : o ≠ 3 ∧ o ≠ 4 := by
      rcases h with h | h
      · rw [ha] at h; cases h
      · exact h
    have d3 : ((o : Int) == 3) = false := by simp; omega
    have d4 : ((o : Int) == 4) = false := by simp; omega
    have HA := Lib.hid ha
    clear ha h ho
    go_enter Tryz.func86, Tryz.ntmps86
    go_wp2_with fail
    refine (may_any w n _).mono ?_; rw [HA.out]; rintro e w1 ⟨rfl, hb1⟩; obtain ⟨hc1, hf1⟩ := bcell hb1
    obtain ⟨z1a, z1b⟩ : W.heap.size < w1.heap.size ∧ W.heap.size + 1 < w1.heap.size := by have := hb1.size; simp at this; omega
    go_wp2_with fail
    refine bodyPost_ret (v := .tuple #[.agg #[.int .u8 0, .int .u64 0], .int .i64 2]) (by simp [results, Tryz.results86, go_sem, hc1]) rfl ⟨rfl, ?_⟩
    have hb := bel_call (bel_alloc (bel_alloc (Below.refl _ _) _) _) hb1
    exact (hb.setCell (by simp) _).setCell (by simp) _

theorem extract_ok (w n l r : Nat) (ha : mayB w n = true) (hr : 1 ≤ r) (hl : l + r ≤ w) (W : World) :
    Calls Tryz.prog 87 #[.agg #[.int .u8 w, .int .u64 n], .int .i64 l, .int .i64 r] W fun e W' => e = .returned (.tuple #[.agg #[.int .u8 r, .int .u64 (low r (n / 2 ^ l) : Nat)], .int .i64 0]) ∧ Below W.heap.size W W' := by
  obtain ⟨hw1, hw2, hn⟩ := mayB_true ha
  have hn6 : n < 18446744073709551616 := Nat.lt_of_lt_of_le hn (pow_le64 hw2)
  have hd : n / 2 ^ l < 18446744073709551616 := Nat.lt_of_le_of_lt (Nat.div_le_self _ _) hn6
  have e : (n : Int) / 2 ^ l = ((n / 2 ^ l : Nat) : Int) := by simp
  generalize n / 2 ^ l = q at *
  have HQ := Lib.hid e
  clear e
  have HA := Lib.hid ha
  clear ha
  go_enter Tryz.func87, Tryz.ntmps87
  go_wp2_with fail
  refine (may_any w n _).mono ?_; rw [HA.out]; rintro e w1 ⟨rfl, hb1⟩; obtain ⟨hc1, hf1⟩ := bcell hb1
  obtain ⟨z1a, z1b⟩ : W.heap.size < w1.heap.size ∧ W.heap.size + 1 < w1.heap.size := by have := hb1.size; simp at this; omega
  go_wp2_with fail
  rw [HQ.out]
  refine (cut_any r hr (by omega) _ (by omega) (by omega) _).mono ?_; rintro e w2 ⟨rfl, hb2⟩; obtain ⟨hc2, hf2⟩ := bcell hb2
  obtain ⟨z2a, z2b⟩ : W.heap.size < w2.heap.size ∧ W.heap.size + 1 < w2.heap.size := by have := hb2.size; omega
  go_wp2_with fail
  refine bodyPost_ret (v := .tuple #[.agg #[.int .u8 r, .int .u64 (low r q : Nat)], .int .i64 0]) (by simp [results, Tryz.results87, go_sem, hc2, hc1, z1b]) rfl ⟨rfl, ?_⟩
  have hb := bel_call (bel_call (bel_alloc (bel_alloc (Below.refl _ _) _) _) hb1) hb2
  exact (hb.setCell (by simp) _).setCell (by simp) _

theorem extend_ok (o w n r : Nat) (ho : o = 23 ∨ o = 24) (ha : mayB w n = true) (hr : w ≤ r) (hl : r ≤ 64) (W : World) :
    Calls Tryz.prog 88 #[.int .u8 o, .agg #[.int .u8 w, .int .u64 n], .int .i64 r] W fun e W' => e = .returned (.tuple #[.agg #[.int .u8 r, .int .u64 (low r (numE o w n) : Nat)], .int .i64 0]) ∧ Below W.heap.size W W' := by
  obtain ⟨hw1, hw2, hn⟩ := mayB_true ha
  have hn6 : n < 18446744073709551616 := Nat.lt_of_lt_of_le hn (pow_le64 hw2)
  have hq := numE_lt 24 w hn6
  have HA := Lib.hid ha
  clear ha
  rcases ho with rfl | rfl
  · go_enter Tryz.func88, Tryz.ntmps88
    go_wp2_with fail
    refine (may_any w n _).mono ?_; rw [HA.out]; rintro e w1 ⟨rfl, hb1⟩; obtain ⟨hc1, hf1⟩ := bcell hb1
    obtain ⟨z1a, z1b⟩ : W.heap.size < w1.heap.size ∧ W.heap.size + 1 < w1.heap.size := by have := hb1.size; simp at this; omega
    go_wp2_with fail
    refine (cut_any r (by omega) hl _ (by omega) (by omega) _).mono ?_; rintro e w2 ⟨rfl, hb2⟩; obtain ⟨hc2, hf2⟩ := bcell hb2
    obtain ⟨z2a, z2b⟩ : W.heap.size < w2.heap.size ∧ W.heap.size + 1 < w2.heap.size := by have := hb2.size; omega
    go_wp2_with fail
    refine bodyPost_ret (v := .tuple #[.agg #[.int .u8 r, .int .u64 (low r n : Nat)], .int .i64 0]) (by simp [results, Tryz.results88, go_sem, hc2, hc1, z1b]) rfl ⟨rfl, ?_⟩
    have hb := bel_call (bel_call (bel_alloc (bel_alloc (Below.refl _ _) _) _) hb1) hb2
    exact (hb.setCell (by simp) _).setCell (by simp) _
  · go_enter Tryz.func88, Tryz.ntmps88
    go_wp2_with fail
    refine (may_any w n _).mono ?_; rw [HA.out]; rintro e w1 ⟨rfl, hb1⟩; obtain ⟨hc1, hf1⟩ := bcell hb1
    obtain ⟨z1a, z1b⟩ : W.heap.size < w1.heap.size ∧ W.heap.size + 1 < w1.heap.size := by have := hb1.size; simp at this; omega
    go_wp2_with fail
    refine (worth_any w n hw1 hw2 hn _).mono ?_; rintro e w2 ⟨rfl, hb2⟩; obtain ⟨hc2, hf2⟩ := bcell hb2
    obtain ⟨z2a, z2b⟩ : W.heap.size < w2.heap.size ∧ W.heap.size + 1 < w2.heap.size := by have := hb2.size; omega
    go_wp2_with fail
    rw [sext64]
    refine (cut_any r (by omega) hl _ (by omega) (by omega) _).mono ?_; rintro e w3 ⟨rfl, hb3⟩; obtain ⟨hc3, hf3⟩ := bcell hb3
    obtain ⟨z3a, z3b⟩ : W.heap.size < w3.heap.size ∧ W.heap.size + 1 < w3.heap.size := by have := hb3.size; omega
    go_wp2_with fail
    refine bodyPost_ret (v := .tuple #[.agg #[.int .u8 r, .int .u64 (low r (numE 24 w n) : Nat)], .int .i64 0]) (by simp [results, Tryz.results88, go_sem, hc3, hc2, hc1, z2b, z1b]) rfl ⟨rfl, ?_⟩
    have hb := bel_call (bel_call (bel_call (bel_alloc (bel_alloc (Below.refl _ _) _) _) hb1) hb2) hb3
    exact (hb.setCell (by simp) _).setCell (by simp) _
end Bv
end Go.Proofs.YthelkbdiedfmfaaGreat
