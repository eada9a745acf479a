/-
  What the document's own answer for layer bv makes of vectors that are 0, each as a fact on one call: the width, or its error.
-/
import Derived.Test.YtjhghfndhpaapaaTmMayA
import Derived.Test.YtjhghfndhpaapaaBvP4
namespace Go.Proofs.Ytjhghfndhpaapaa
open Go.RowKit
namespace Bv
theorem rsame (o w n m : Nat) (h5 : 5 ≤ o) (h20 : o ≤ 20) (ha : mayB w n = true) (hb : mayB w m = true) :
    ∃ r y : Nat, r = widthB o w w ∧ ∀ W : World, Calls Try.prog 37 #[.int .u8 o, .agg #[.int .u8 w, .int .u64 n], .agg #[.int .u8 w, .int .u64 m]] W fun e W' => e = .returned (.tuple #[.agg #[.int .u8 (r : Nat), .int .u64 (y : Nat)], .int .i64 0]) ∧ Below W.heap.size W W' :=
  ⟨_, _, rfl, rv_same o w n m h5 h20 ha hb⟩
end Bv
namespace Tm
open Bv
set_option maxHeartbeats 400000
set_option maxRecDepth 100000
theorem hid0 (w : Nat) (h1 : 1 ≤ w) (h2 : w ≤ 64) : Hid (mayB w 0 = true) := mayB0_t h1 h2

theorem rtells_unary (o w l a b c : Nat) (ho : o = 3 ∨ o = 4) : Tells 36 #[.int .u8 o, .agg #[.int .u8 ((a : Nat) : Int), .int .u64 0]] (vecW o w l a b c) := by
  unfold vecW
  rw [if_pos ho]
  by_cases h : 1 ≤ a ∧ a ≤ 64
  · rw [if_pos h]
    rcases ho with e | e
    · subst e
      exact tells_ok (fun W => runary_3 a 0 (by omega) (hid0 a h.1 h.2) h.2 W) (by omega)
    · subst e
      exact tells_ok (fun W => runary_4 a 0 (by omega) (hid0 a h.1 h.2) h.2 W) (by omega)
  · rw [if_neg h]
    exact tells_bad (fun W => runary_b1 o a 0 (by omega) (mayB0_f h) W) rfl

theorem rtells_extract (w l a b c : Nat) : Tells 34 #[.agg #[.int .u8 ((a : Nat) : Int), .int .u64 0], .int .i64 ((l : Nat) : Int), .int .i64 ((w : Nat) : Int)] (vecW 22 w l a b c) := by
  unfold vecW
  rw [if_neg (by omega), if_pos rfl]
  by_cases h : 1 ≤ a ∧ a ≤ 64
  · by_cases hr : 1 ≤ w ∧ l + w ≤ a
    · rw [if_pos ⟨h.1, h.2, hr.1, hr.2⟩]
      exact tells_ok (fun W => rextract_ok a 0 l w (by omega) (hid0 a h.1 h.2) h.2 hr.1 hr.2 W) (by omega)
    · rw [if_neg (by omega)]
      refine tells_bad (fun W => ?_) rfl
      by_cases h1 : 1 ≤ w
      · by_cases h3 : 64 < w
        · exact rextract_b4 a 0 l w (by omega) (hid0 a h.1 h.2) (by omega) (by omega) (by omega) W
        by_cases h4 : 64 < l
        · exact rextract_b5 a 0 l w (by omega) (hid0 a h.1 h.2) (by omega) (by omega) (by omega) (by omega) W
        · exact rextract_b6 a 0 l w (by omega) (hid0 a h.1 h.2) h.2 (by omega) (by omega) (by omega) (by omega) (by omega) W
      · exact rextract_b3 a 0 l w (by omega) (hid0 a h.1 h.2) (by omega) (by omega) W
  · rw [if_neg (by omega)]
    exact tells_bad (fun W => rextract_b1 a 0 l w (by omega) (mayB0_f h) W) rfl

theorem rtells_extend (o w l a b c : Nat) (ho : o = 23 ∨ o = 24) : Tells 35 #[.int .u8 o, .agg #[.int .u8 ((a : Nat) : Int), .int .u64 0], .int .i64 ((w : Nat) : Int)] (vecW o w l a b c) := by
  unfold vecW
  rw [if_neg (by omega), if_neg (by omega), if_pos ho]
  by_cases h : 1 ≤ a ∧ a ≤ 64
  · by_cases hr : a ≤ w
    · by_cases hq : w ≤ 64
      · rw [if_pos ⟨h.1, hr, hq⟩]
        rcases ho with e | e
        · subst e
          exact tells_ok (fun W => rextend_23_ok a 0 w (by omega) (hid0 a h.1 h.2) h.2 hr hq W) (by omega)
        · subst e
          exact tells_ok (fun W => rextend_24_ok a 0 w (by omega) (hid0 a h.1 h.2) h.2 hr hq W) (by omega)
      · rw [if_neg (by omega)]
        rcases ho with e | e
        · subst e
          exact tells_bad (fun W => rextend_23_b4 a 0 w (by omega) (hid0 a h.1 h.2) h.2 (by omega) (by omega) W) rfl
        · subst e
          exact tells_bad (fun W => rextend_24_b4 a 0 w (by omega) (hid0 a h.1 h.2) h.2 (by omega) (by omega) W) rfl
    · rw [if_neg (by omega)]
      rcases ho with e | e
      · subst e
        exact tells_bad (fun W => rextend_23_b3 a 0 w (by omega) (hid0 a h.1 h.2) h.2 (by omega) W) rfl
      · subst e
        exact tells_bad (fun W => rextend_24_b3 a 0 w (by omega) (hid0 a h.1 h.2) h.2 (by omega) W) rfl
  · rw [if_neg (by omega)]
    exact tells_bad (fun W => rextend_b1 o a 0 w (by omega) (mayB0_f h) W) rfl

theorem rtells_ite (w l a b c : Nat) : Tells 38 #[.agg #[.int .u8 ((a : Nat) : Int), .int .u64 0], .agg #[.int .u8 ((b : Nat) : Int), .int .u64 0], .agg #[.int .u8 ((c : Nat) : Int), .int .u64 0]] (vecW 25 w l a b c) := by
  unfold vecW
  rw [if_neg (by omega), if_neg (by omega), if_neg (by omega), if_pos rfl]
  by_cases ha : 1 ≤ a ∧ a ≤ 64
  · by_cases hb : 1 ≤ b ∧ b ≤ 64
    · by_cases hc : 1 ≤ c ∧ c ≤ 64
      · by_cases h1 : a = 1
        · subst h1
          by_cases h2 : b = c
          · subst h2
            rw [if_pos ⟨rfl, rfl, hb.1, hb.2⟩]
            exact tells_ok (fun W => rite_b 1 0 b 0 b 0 (by omega) (by omega) (by omega) (hid0 1 ha.1 ha.2) (hid0 b hb.1 hb.2) (hid0 b hb.1 hb.2) (by simp) (by simp) (by simp) W) (by omega)
          · rw [if_neg (by omega)]
            exact tells_bad (fun W => rite_b5 1 0 b 0 c 0 (by omega) (by omega) (by omega) (hid0 1 ha.1 ha.2) (hid0 b hb.1 hb.2) (hid0 c hc.1 hc.2) (by simp) (by simp; omega) W) rfl
        · rw [if_neg (by omega)]
          exact tells_bad (fun W => rite_b4 a 0 b 0 c 0 (by omega) (by omega) (by omega) (hid0 a ha.1 ha.2) (hid0 b hb.1 hb.2) (hid0 c hc.1 hc.2) (by simp; omega) W) rfl
      · rw [if_neg (by omega)]
        exact tells_bad (fun W => rite_b3 a 0 b 0 c 0 (by omega) (by omega) (by omega) (hid0 a ha.1 ha.2) (hid0 b hb.1 hb.2) (mayB0_f hc) W) rfl
    · rw [if_neg (by omega)]
      exact tells_bad (fun W => rite_b2 a 0 b 0 c 0 (by omega) (by omega) (hid0 a ha.1 ha.2) (mayB0_f hb) W) rfl
  · rw [if_neg (by omega)]
    exact tells_bad (fun W => rite_b1 a 0 b 0 c 0 (by omega) (mayB0_f ha) W) rfl

theorem rtells_binary (o w l a b c : Nat) (h3 : ¬ (o = 3 ∨ o = 4)) (h22 : ¬ o = 22) (h23 : ¬ (o = 23 ∨ o = 24)) (h25 : ¬ o = 25) : Tells 37 #[.int .u8 o, .agg #[.int .u8 ((a : Nat) : Int), .int .u64 0], .agg #[.int .u8 ((b : Nat) : Int), .int .u64 0]] (vecW o w l a b c) := by
  unfold vecW
  rw [if_neg h3, if_neg h22, if_neg h23, if_neg h25]
  by_cases ha : 1 ≤ a ∧ a ≤ 64
  · by_cases hb : 1 ≤ b ∧ b ≤ 64
    · rw [if_pos ⟨ha.1, ha.2, hb.1, hb.2⟩]
      have HA := hid0 a ha.1 ha.2
      have HB := hid0 b hb.1 hb.2
      by_cases ho : o = 21
      · subst ho
        by_cases hr : a + b ≤ 64
        · rw [wcat hr]
          have h := fun W => rbin_21 a 0 b 0 (by omega) (by omega) HA HB ha.2 hb.2 hr W
          simp only [← Int.natCast_add] at h
          exact tells_ok h (by omega)
        · exact tells_bad (fun W => rbin_b3 a 0 b 0 (by omega) (by omega) HA HB ha.2 hb.2 (by omega) W) (wcat0 hr)
      by_cases hab : a = b
      · subst hab
        by_cases h5 : o < 5
        · exact tells_bad (fun W => rbin_b5 o a 0 a 0 (by omega) (by omega) HA HB (by simp) h5 W) (wno (.inl h5))
        by_cases h21 : 21 < o
        · exact tells_bad (fun W => rbin_b6 o a 0 a 0 (by omega) (by omega) HA HB (by simp) h21 W) (wno (.inr h21))
        obtain ⟨r, y, hr, h⟩ := rsame o a 0 0 (by omega) (by omega) (mayB0_t ha.1 ha.2) (mayB0_t ha.1 ha.2)
        rw [← hr]
        refine tells_ok h ?_
        rw [hr]
        unfold widthB
        split
        · simp; omega
        · split
          · simp
          · omega
      · exact tells_bad (fun W => rbin_b4 o a 0 b 0 (by omega) (by omega) HA HB (by simp; omega) (by simp; omega) W) (wne ho hab)
    · rw [if_neg (by omega)]
      exact tells_bad (fun W => rbin_b2 o a 0 b 0 (by omega) (by omega) (hid0 a ha.1 ha.2) (mayB0_f hb) W) rfl
  · rw [if_neg (by omega)]
    exact tells_bad (fun W => rbin_b1 o a 0 b 0 (by omega) (mayB0_f ha) W) rfl

end Tm
end Go.Proofs.Ytjhghfndhpaapaa
