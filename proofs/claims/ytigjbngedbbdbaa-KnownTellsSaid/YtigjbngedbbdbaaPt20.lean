/-
Plain facts: quotients and rests by worths, by signs.
What the document's own answer for layer bv makes of vectors that may be, each as a fact on one call: the vector.
What the document's own answer for layer bv makes of vectors that are 0, each as a fact on one call: the width, or its error.
-/
import Derived.Test.YtigjbngedbbdbaaPt02
import Derived.Test.YtigjbngedbbdbaaBvRefB
import Derived.Test.YtigjbngedbbdbaaPt16
import Derived.Test.YtigjbngedbbdbaaPt17
import Derived.Test.YtigjbngedbbdbaaPt18
import Derived.Test.YtigjbngedbbdbaaPt19
import Derived.Test.YtigjbngedbbdbaaPt06
namespace Go.Proofs.Ytigjbngedbbdbaa
open Go.RowKit
namespace Bv

theorem neg_low {w n : Nat} (h1 : 1 ≤ w) (h2 : w ≤ 64) (hn : n < 2 ^ w) (hs : 2 ^ (w - 1) ≤ n) : low w (18446744073709551616 - n) = 2 ^ w - n := by
  have hp := pow_pos' (w - 1)
  have hh := pow_half h1
  have hl := pow_le64 h2
  have hsp := pow_split h2
  have e : 18446744073709551616 - n = (2 ^ w - n) + 2 ^ w * (2 ^ (64 - w) - 1) := by
    rw [Nat.mul_sub, hsp, Nat.mul_one]; omega
  unfold low
  rw [e, Nat.add_mul_mod_self_left, Nat.mod_eq_of_lt (by omega)]
/-- The worth's size. -/
def ab (w n : Nat) (s : Bool) : Nat := if s = true then low w (18446744073709551616 - n) else n
theorem wo_ab {w n : Nat} (h1 : 1 ≤ w) (h2 : w ≤ 64) (hn : n < 2 ^ w) : wo w n = if decide (2 ^ (w - 1) ≤ n) = true then -(ab w n true : Int) else (ab w n false : Int) := by
  by_cases hs : 2 ^ (w - 1) ≤ n
  · rw [wo_neg hs]
    simp only [hs, decide_true, if_true, ab]
    rw [neg_low h1 h2 hn hs]; omega
  · rw [wo_pos (by omega)]
    simp [hs, ab]
theorem neg_int {w : Nat} (h2 : w ≤ 64) (q : Nat) : ((low w (18446744073709551616 - low w q) : Nat) : Int) = (-(q : Int)) % ((2 ^ w : Nat) : Int) := by
  have hl := pow_le64 h2
  have hq := low_lt w q
  have hsp := pow_split h2
  rw [low_cast, Int.natCast_sub (by omega), low_cast w q, Int.sub_emod, Int.emod_emod_of_dvd _ (Int.dvd_refl _), ← Int.sub_emod]
  rw [show ((18446744073709551616 : Nat) : Int) - (q : Int) = -(q : Int) + ((2 ^ w : Nat) : Int) * ((2 ^ (64 - w) : Nat) : Int) by rw [← Int.natCast_mul, hsp]; omega]
  rw [Int.add_mul_emod_self_left]

/-- Quotient and rest by worths, out of those of the sizes. -/
theorem signed_is {w n m : Nat} (h1 : 1 ≤ w) (h2 : w ≤ 64) (hn : n < 2 ^ w) (hm : m < 2 ^ w) (h : ¬ m = 0) (sa sb : Bool) (ha : decide (2 ^ (w - 1) ≤ n) = sa) (hb : decide (2 ^ (w - 1) ≤ m) = sb) :
    (if sa = sb then low w (ab w n sa / ab w m sb) else low w (18446744073709551616 - low w (ab w n sa / ab w m sb))) = low w (numB 13 w w n m) ∧
    (if sa = true then low w (18446744073709551616 - low w (ab w n sa % ab w m sb)) else low w (ab w n sa % ab w m sb)) = low w (numB 14 w w n m) := by
  have e13 : numB 13 w w n m = ((wo w n).tdiv (wo w m) % 18446744073709551616).toNat := by show (if m = 0 then _ else _) = _; rw [if_neg h]
  have e14 : numB 14 w w n m = ((wo w n).tmod (wo w m) % 18446744073709551616).toNat := by show (if m = 0 then _ else _) = _; rw [if_neg h]
  have wn := wo_ab h1 h2 hn
  have wm := wo_ab h1 h2 hm
  have hm0 := wo_ne (v := w) hm h
  rw [ha] at wn
  rw [hb] at wm
  rw [e13, e14]
  generalize wo w n = a at *
  generalize wo w m = b at *
  constructor
  all_goals
    apply Int.ofNat_inj.1
    rw [low_int h2]
    cases sa <;> cases sb <;> simp only [Bool.false_eq_true, if_false, if_true, reduceCtorEq] at wn wm ⊢
    all_goals
      subst wn wm
      first
      | rw [neg_int h2]
      | rw [low_cast]
      first
      | (simp [Int.neg_tdiv, Int.tdiv_neg]; done)
      | (simp [Int.neg_tmod, Int.tmod_neg]; rw [Int.tmod_eq_emod_of_nonneg (Int.natCast_nonneg _)])
end Bv
end Go.Proofs.Ytigjbngedbbdbaa

namespace Go.Proofs.Ytigjbngedbbdbaa
open Go.RowKit
namespace Bv
theorem num21_eq {w v n m : Nat} (hr : w + v ≤ 64) (hn : n < 2 ^ w) (hm : m < 2 ^ v) : numB 21 w v n m = n * 2 ^ v + m := by
  have hl := pow_le64 hr
  have hlt := concat_lt hn hm
  show n * 2 ^ v % 18446744073709551616 ||| m = _
  rw [Nat.mod_eq_of_lt (by omega), or_join hm]

theorem sg_any (w n m : Nat) (h1 : 1 ≤ w) (h2 : w ≤ 64) (hn : n < 2 ^ w) (hm : m < 2 ^ w) (W : World) :
    Calls Try.prog 60 #[.agg #[.int .u8 w, .int .u64 n], .agg #[.int .u8 w, .int .u64 m]] W fun e W' => e = .returned (.tuple #[.agg #[.int .u8 w, .int .u64 (low w (numB 13 w w n m) : Nat)], .agg #[.int .u8 w, .int .u64 (low w (numB 14 w w n m) : Nat)]]) ∧ Below W.heap.size W W' := by
  have hn6 := Nat.lt_of_lt_of_le hn (pow_le64 h2)
  have hm6 := Nat.lt_of_lt_of_le hm (pow_le64 h2)
  by_cases h0 : m = 0
  · subst h0
    have h := rsigned_0 w n w h2 W
    rw [show low w (numB 14 w w n 0) = n from low_self hn]
    exact h
  have hb0 : ((m : Int) == 0) = false := by simp; omega
  have key := signed_is h1 h2 hn hm h0 _ _ rfl rfl
  have hp := pow_half h1
  have hl := pow_le64 h2
  have lt6 : ∀ z, low w z < 18446744073709551616 := fun z => Nat.lt_of_lt_of_le (low_lt w z) hl
  cases hs : decide (2 ^ (w - 1) ≤ n) <;> cases ht : decide (2 ^ (w - 1) ≤ m)
  all_goals
    have HS := Lib.hid (rsign_is h1 h2 hn hs)
    have HT := Lib.hid (rsign_is h1 h2 hm ht)
    rw [hs, ht] at key
    simp only [ab, Bool.false_eq_true, if_false, if_true, reduceCtorEq] at key
    rw [← key.1, ← key.2]
  · have h := rsigned_00 w n w m h2 h2 hn6 hm6 (by omega) hn6 hm6 hb0 HS HT W
    rw [dq_end, dr_end] at h
    exact h
  · have hy : 0 < low w (18446744073709551616 - m) := by rw [neg_low h1 h2 hm (of_decide_eq_true ht)]; omega
    have h := rsigned_01 w n w m h2 h2 hn6 hm6 hy hn6 (lt6 _) hb0 HS HT W
    rw [dq_end, dr_end] at h
    exact h
  · have h := rsigned_10 w n w m h2 h2 hn6 hm6 (by omega) (lt6 _) hm6 hb0 HS HT W
    rw [dq_end, dr_end] at h
    exact h
  · have hy : 0 < low w (18446744073709551616 - m) := by rw [neg_low h1 h2 hm (of_decide_eq_true ht)]; omega
    have h := rsigned_11 w n w m h2 h2 hn6 hm6 hy (lt6 _) (lt6 _) hb0 HS HT W
    rw [dq_end, dr_end] at h
    exact h

theorem wself {o w : Nat} (h1 : 5 ≤ o) (h2 : o ≤ 17) : widthB o w w = w := by unfold widthB; rw [if_pos ⟨h1, h2⟩, if_pos rfl]
theorem wone {o w : Nat} (h1 : 18 ≤ o) (h2 : o ≤ 20) : widthB o w w = 1 := by unfold widthB; rw [if_neg (by omega), if_pos ⟨h1, h2⟩, if_pos rfl]
theorem wcat {v w : Nat} (h : v + w ≤ 64) : widthB 21 v w = v + w := by unfold widthB; simp [h]
theorem wcat0 {v w : Nat} (h : ¬ v + w ≤ 64) : widthB 21 v w = 0 := by unfold widthB; simp [h]
theorem wne {o v w : Nat} (h : ¬ o = 21) (hvw : ¬ v = w) : widthB o v w = 0 := by unfold widthB; simp [h, hvw]
theorem wno {o v w : Nat} (h : o < 5 ∨ 21 < o) : widthB o v w = 0 := by
  unfold widthB; rw [if_neg (by omega), if_neg (by omega), if_neg (by omega)]
theorem low_one (b : Bool) : low 1 b.toNat = b.toNat := by cases b <;> rfl


/-- Of two vectors of one width. -/
theorem rv_same (o w n m : Nat) (h5 : 5 ≤ o) (h20 : o ≤ 20) (ha : mayB w n = true) (hb : mayB w m = true) (W : World) :
    Calls Try.prog 46 #[.int .u8 o, .agg #[.int .u8 w, .int .u64 n], .agg #[.int .u8 w, .int .u64 m]] W fun e W' => e = .returned (.tuple #[.agg #[.int .u8 (widthB o w w : Nat), .int .u64 (low (widthB o w w) (numB o w w n m) : Nat)], .int .i64 0]) ∧ Below W.heap.size W W' := by
  have HA := Lib.hid ha
  have HB := Lib.hid hb
  obtain ⟨hw1, hw2, hn⟩ := mayB_true ha
  obtain ⟨_, _, hm⟩ := mayB_true hb
  have hn6 := Nat.lt_of_lt_of_le hn (pow_le64 hw2)
  have hm6 := Nat.lt_of_lt_of_le hm (pow_le64 hw2)
  have d : ((w : Int) != (w : Int)) = false := by simp
  have w0 : ¬ w = 0 := by omega
  obtain rfl | rfl | rfl | rfl | rfl | rfl | rfl | rfl | rfl | rfl | rfl | rfl | rfl | rfl | rfl | rfl : o = 5 ∨ o = 6 ∨ o = 7 ∨ o = 8 ∨ o = 9 ∨ o = 10 ∨ o = 11 ∨ o = 12 ∨ o = 13 ∨ o = 14 ∨ o = 15 ∨ o = 16 ∨ o = 17 ∨ o = 18 ∨ o = 19 ∨ o = 20 := by omega
  · rw [wself (by decide) (by decide)]
    exact rbin_5 w n w m hn6 hm6 HA HB d hw2 W
  · rw [wself (by decide) (by decide)]
    exact rbin_6 w n w m hn6 hm6 HA HB d hw2 W
  · rw [wself (by decide) (by decide)]
    exact rbin_7 w n w m hn6 hm6 HA HB d hw2 W
  · rw [wself (by decide) (by decide)]
    exact rbin_8 w n w m hn6 hm6 HA HB d hw2 W
  · rw [wself (by decide) (by decide)]
    exact rbin_9 w n w m hn6 hm6 HA HB d hw2 W
  · rw [wself (by decide) (by decide)]
    refine rbin_10 w n w m hn6 hm6 HA HB d _ (Lib.hid fun W => ?_) W
    have h := rtimes_any w n w m hw2 hm6 W
    rw [tm_end hm hw2, ← low10 w w n m hw2] at h
    exact h
  · by_cases h0 : m = 0
    · subst h0
      rw [wself (by decide) (by decide)]
      exact rbin_11_0 w n w 0 hn6 hm6 HA HB d hw2 (by simp) W
    · rw [wself (by decide) (by decide)]
      have h := rbin_11_1 w n w m hn6 hm6 HA HB d hw2 (by omega) (by simp; omega) W
      rw [dq_end, ← num11_eq (w := w) (v := w) h0] at h
      exact h
  · by_cases h0 : m = 0
    · subst h0
      rw [wself (by decide) (by decide), show low w (numB 12 w w n 0) = n from low_self hn]
      exact rbin_12_0 w n w 0 hn6 hm6 HA HB d (by simp) W
    · rw [wself (by decide) (by decide)]
      have h := rbin_12_1 w n w m hn6 hm6 HA HB d hw2 (by omega) (by simp; omega) W
      rw [dr_end, ← num12_eq (w := w) (v := w) h0] at h
      exact h
  · rw [wself (by decide) (by decide)]
    exact rbin_13 w n w m hn6 hm6 HA HB d _ _ (Lib.hid (sg_any w n m hw1 hw2 hn hm)) W
  · rw [wself (by decide) (by decide)]
    exact rbin_14 w n w m hn6 hm6 HA HB d _ _ (Lib.hid (sg_any w n m hw1 hw2 hn hm)) W
  · rw [wself (by decide) (by decide)]
    refine rbin_15 w n w m hn6 hm6 HA HB d _ (Lib.hid fun W => ?_) W
    have h := rshift_15 w n w m (low w (numB 15 w w n m)) hw2 hn6 hm6 (Lib.hid fun k hk => shl_bits hw2 hk) W
    rw [sh_end (low_lt w _), low_low] at h
    exact h
  · rw [wself (by decide) (by decide)]
    refine rbin_16 w n w m hn6 hm6 HA HB d _ (Lib.hid fun W => ?_) W
    have h := rshift_16 w n w m (low w (numB 16 w w n m)) hw2 hn6 hm6 (Lib.hid fun k hk => lshr_bits hw2 hn hk) W
    rw [sh_end (low_lt w _), low_low] at h
    exact h
  · rw [wself (by decide) (by decide)]
    refine rbin_17 w n w m hn6 hm6 HA HB d _ (Lib.hid fun W => ?_) W
    have h := rshift_17 w n w m (low w (numB 17 w w n m)) hw2 hn6 hm6 (decide (2 ^ (w - 1) ≤ n)) (Lib.hid (rsign_any w n hw1 hw2 hn)) (Lib.hid fun k hk => ashr_bits hw1 hw2 hn hk) W
    rw [sh_end (low_lt w _), low_low] at h
    exact h
  · rw [wone (by decide) (by decide), show low 1 (numB 18 w w n m) = (n == m).toNat from low_one _]
    have h := rbin_18 w n w m hn6 hm6 HA HB d W
    rw [show ((n : Int) == (m : Int)) = (n == m) from Bool.eq_iff_iff.2 (by simp [Int.ofNat_inj])] at h
    exact h
  · rw [wone (by decide) (by decide), show low 1 (numB 19 w w n m) = (decide (n < m)).toNat from low_one _]
    have h := rbin_19 w n w m hn6 hm6 HA HB d W
    rw [show decide ((n : Int) < (m : Int)) = decide (n < m) by simp] at h
    exact h
  · rw [wone (by decide) (by decide), show low 1 (numB 20 w w n m) = (decide (n ^^^ 2 ^ (w - 1) < m ^^^ 2 ^ (w - 1))).toNat from low_one _]
    rw [slt_is hw1 hn hm]
    exact rbin_20 w n w m hn6 hm6 HA HB d _ (Lib.hid (rless_any w n w m _ _ (Lib.hid (rsign_any w n hw1 hw2 hn)) (Lib.hid (rsign_any w m hw1 hw2 hm)))) W

theorem rv_binary (o w v n m : Nat) (ha : mayB w n = true) (hb : mayB v m = true) (hr : ¬ widthB o w v = 0) (W : World) :
    Calls Try.prog 46 #[.int .u8 o, .agg #[.int .u8 w, .int .u64 n], .agg #[.int .u8 v, .int .u64 m]] W fun e W' => e = .returned (.tuple #[.agg #[.int .u8 (widthB o w v : Nat), .int .u64 (low (widthB o w v) (numB o w v n m) : Nat)], .int .i64 0]) ∧ Below W.heap.size W W' := by
  by_cases h21 : o = 21
  · subst h21
    have hs : w + v ≤ 64 := by
      by_cases h : w + v ≤ 64
      · exact h
      · exact absurd (wcat0 h) hr
    obtain ⟨hw1, hw2, hn⟩ := mayB_true ha
    obtain ⟨hv1, hv2, hm⟩ := mayB_true hb
    have h := rbin_21 w n v m (Nat.lt_of_lt_of_le hn (pow_le64 hw2)) (Nat.lt_of_lt_of_le hm (pow_le64 hv2)) (Lib.hid ha) (Lib.hid hb) hw2 hv2 hs W
    rw [wcat hs, show low (w + v) (numB 21 w v n m) = numB 21 w v n m by rw [num21_eq hs hn hm]; exact low_self (concat_lt hn hm)]
    simp only [← Int.natCast_add] at h
    exact h
  · have ho := widthB_op hr
    by_cases hwv : w = v
    · subst hwv
      exact rv_same o w n m ho.1 (by omega) ha hb W
    · exact absurd (wne h21 hwv) hr
theorem rv_unary (o w n : Nat) (ho : o = 3 ∨ o = 4) (ha : mayB w n = true) (W : World) :
    Calls Try.prog 45 #[.int .u8 o, .agg #[.int .u8 w, .int .u64 n]] W fun e W' => e = .returned (.tuple #[.agg #[.int .u8 w, .int .u64 (low w (numU o n) : Nat)], .int .i64 0]) ∧ Below W.heap.size W W' := by
  obtain ⟨hw1, hw2, hn⟩ := mayB_true ha
  have hn6 := Nat.lt_of_lt_of_le hn (pow_le64 hw2)
  rcases ho with e | e
  · subst e; exact runary_3 w n hn6 (Lib.hid ha) hw2 W
  · subst e
    rw [lowU4 w n hw2]
    exact runary_4 w n hn6 (Lib.hid ha) hw2 W
theorem rv_extract (w n l r : Nat) (ha : mayB w n = true) (hr : 1 ≤ r) (hl : l + r ≤ w) (W : World) :
    Calls Try.prog 43 #[.agg #[.int .u8 w, .int .u64 n], .int .i64 l, .int .i64 r] W fun e W' => e = .returned (.tuple #[.agg #[.int .u8 r, .int .u64 (low r (n / 2 ^ l) : Nat)], .int .i64 0]) ∧ Below W.heap.size W W' := by
  obtain ⟨hw1, hw2, hn⟩ := mayB_true ha
  exact rextract_ok w n l r (Nat.lt_of_lt_of_le hn (pow_le64 hw2)) (Lib.hid ha) hw2 hr hl W
theorem rv_extend (o w n r : Nat) (ho : o = 23 ∨ o = 24) (ha : mayB w n = true) (hr : w ≤ r) (hl : r ≤ 64) (W : World) :
    Calls Try.prog 44 #[.int .u8 o, .agg #[.int .u8 w, .int .u64 n], .int .i64 r] W fun e W' => e = .returned (.tuple #[.agg #[.int .u8 r, .int .u64 (low r (numE o w n) : Nat)], .int .i64 0]) ∧ Below W.heap.size W W' := by
  obtain ⟨hw1, hw2, hn⟩ := mayB_true ha
  have hn6 := Nat.lt_of_lt_of_le hn (pow_le64 hw2)
  rcases ho with e | e
  · subst e; exact rextend_23_ok w n r hn6 (Lib.hid ha) hw2 hr hl W
  · subst e; exact rextend_24_ok w n r hn6 (Lib.hid ha) hw2 hr hl W
theorem rv_ite (cn w n m : Nat) (hc : mayB 1 cn = true) (ha : mayB w n = true) (hb : mayB w m = true) (W : World) :
    Calls Try.prog 47 #[.agg #[.int .u8 ((1 : Nat) : Int), .int .u64 cn], .agg #[.int .u8 w, .int .u64 n], .agg #[.int .u8 w, .int .u64 m]] W fun e W' => e = .returned (.tuple #[.agg #[.int .u8 w, .int .u64 ((if cn = 1 then n else m : Nat) : Int)], .int .i64 0]) ∧ Below W.heap.size W W' := by
  obtain ⟨_, hc2, hcn⟩ := mayB_true hc
  obtain ⟨hw1, hw2, hn⟩ := mayB_true ha
  obtain ⟨_, _, hm⟩ := mayB_true hb
  have hc6 := Nat.lt_of_lt_of_le hcn (pow_le64 hc2)
  have hn6 := Nat.lt_of_lt_of_le hn (pow_le64 hw2)
  have hm6 := Nat.lt_of_lt_of_le hm (pow_le64 hw2)
  by_cases h : cn = 1
  · rw [if_pos h]
    exact rite_a 1 cn w n w m hc6 hn6 hm6 (Lib.hid hc) (Lib.hid ha) (Lib.hid hb) (by simp) (by simp) (by simp; omega) W
  · rw [if_neg h]
    exact rite_b 1 cn w n w m hc6 hn6 hm6 (Lib.hid hc) (Lib.hid ha) (Lib.hid hb) (by simp) (by simp) (by simp; omega) W

end Bv
end Go.Proofs.Ytigjbngedbbdbaa

namespace Go.Proofs.Ytigjbngedbbdbaa
open Go.RowKit
namespace Bv
theorem rsame (o w n m : Nat) (h5 : 5 ≤ o) (h20 : o ≤ 20) (ha : mayB w n = true) (hb : mayB w m = true) :
    ∃ r y : Nat, r = widthB o w w ∧ ∀ W : World, Calls Try.prog 46 #[.int .u8 o, .agg #[.int .u8 w, .int .u64 n], .agg #[.int .u8 w, .int .u64 m]] W fun e W' => e = .returned (.tuple #[.agg #[.int .u8 (r : Nat), .int .u64 (y : Nat)], .int .i64 0]) ∧ Below W.heap.size W W' :=
  ⟨_, _, rfl, rv_same o w n m h5 h20 ha hb⟩
end Bv
namespace Tm
open Bv
set_option maxHeartbeats 400000
set_option maxRecDepth 100000
theorem hid0 (w : Nat) (h1 : 1 ≤ w) (h2 : w ≤ 64) : Hid (mayB w 0 = true) := mayB0_t h1 h2

theorem rtells_unary (o w l a b c : Nat) (ho : o = 3 ∨ o = 4) : Tells 45 #[.int .u8 o, .agg #[.int .u8 ((a : Nat) : Int), .int .u64 0]] (vecW o w l a b c) := by
  unfold vecW
  rw [if_pos ho]
  by_cases h : 1 ≤ a ∧ a ≤ 64
  · rw [if_pos h]
    rcases ho with e | e
    · subst e
      exact tells_ok (fun W => runary_3 a 0 (by omega) (hid0 a h.1 h.2) h.2 W) (by omega)
    · subst e
      exact tells_ok (fun W => runary_4 a 0 (by omega) (hid0 a h.1 h.2) h.2 W) (by omega)
  · rw [if_neg h]
    exact tells_bad (fun W => runary_b1 o a 0 (by omega) (mayB0_f h) W) rfl

theorem rtells_extract (w l a b c : Nat) : Tells 43 #[.agg #[.int .u8 ((a : Nat) : Int), .int .u64 0], .int .i64 ((l : Nat) : Int), .int .i64 ((w : Nat) : Int)] (vecW 22 w l a b c) := by
  unfold vecW
  rw [if_neg (by omega), if_pos rfl]
  by_cases h : 1 ≤ a ∧ a ≤ 64
  · by_cases hr : 1 ≤ w ∧ l + w ≤ a
    · rw [if_pos ⟨h.1, h.2, hr.1, hr.2⟩]
      exact tells_ok (fun W => rextract_ok a 0 l w (by omega) (hid0 a h.1 h.2) h.2 hr.1 hr.2 W) (by omega)
    · rw [if_neg (by omega)]
      refine tells_bad (fun W => ?_) rfl
      by_cases h1 : 1 ≤ w
      · by_cases h3 : 64 < w
        · exact rextract_b4 a 0 l w (by omega) (hid0 a h.1 h.2) (by omega) (by omega) (by omega) W
        by_cases h4 : 64 < l
        · exact rextract_b5 a 0 l w (by omega) (hid0 a h.1 h.2) (by omega) (by omega) (by omega) (by omega) W
        · exact rextract_b6 a 0 l w (by omega) (hid0 a h.1 h.2) h.2 (by omega) (by omega) (by omega) (by omega) (by omega) W
      · exact rextract_b3 a 0 l w (by omega) (hid0 a h.1 h.2) (by omega) (by omega) W
  · rw [if_neg (by omega)]
    exact tells_bad (fun W => rextract_b1 a 0 l w (by omega) (mayB0_f h) W) rfl

theorem rtells_extend (o w l a b c : Nat) (ho : o = 23 ∨ o = 24) : Tells 44 #[.int .u8 o, .agg #[.int .u8 ((a : Nat) : Int), .int .u64 0], .int .i64 ((w : Nat) : Int)] (vecW o w l a b c) := by
  unfold vecW
  rw [if_neg (by omega), if_neg (by omega), if_pos ho]
  by_cases h : 1 ≤ a ∧ a ≤ 64
  · by_cases hr : a ≤ w
    · by_cases hq : w ≤ 64
      · rw [if_pos ⟨h.1, hr, hq⟩]
        rcases ho with e | e
        · subst e
          exact tells_ok (fun W => rextend_23_ok a 0 w (by omega) (hid0 a h.1 h.2) h.2 hr hq W) (by omega)
        · subst e
          exact tells_ok (fun W => rextend_24_ok a 0 w (by omega) (hid0 a h.1 h.2) h.2 hr hq W) (by omega)
      · rw [if_neg (by omega)]
        rcases ho with e | e
        · subst e
          exact tells_bad (fun W => rextend_23_b4 a 0 w (by omega) (hid0 a h.1 h.2) h.2 (by omega) (by omega) W) rfl
        · subst e
          exact tells_bad (fun W => rextend_24_b4 a 0 w (by omega) (hid0 a h.1 h.2) h.2 (by omega) (by omega) W) rfl
    · rw [if_neg (by omega)]
      rcases ho with e | e
      · subst e
        exact tells_bad (fun W => rextend_23_b3 a 0 w (by omega) (hid0 a h.1 h.2) h.2 (by omega) W) rfl
      · subst e
        exact tells_bad (fun W => rextend_24_b3 a 0 w (by omega) (hid0 a h.1 h.2) h.2 (by omega) W) rfl
  · rw [if_neg (by omega)]
    exact tells_bad (fun W => rextend_b1 o a 0 w (by omega) (mayB0_f h) W) rfl

theorem rtells_ite (w l a b c : Nat) : Tells 47 #[.agg #[.int .u8 ((a : Nat) : Int), .int .u64 0], .agg #[.int .u8 ((b : Nat) : Int), .int .u64 0], .agg #[.int .u8 ((c : Nat) : Int), .int .u64 0]] (vecW 25 w l a b c) := by
  unfold vecW
  rw [if_neg (by omega), if_neg (by omega), if_neg (by omega), if_pos rfl]
  by_cases ha : 1 ≤ a ∧ a ≤ 64
  · by_cases hb : 1 ≤ b ∧ b ≤ 64
    · by_cases hc : 1 ≤ c ∧ c ≤ 64
      · by_cases h1 : a = 1
        · subst h1
          by_cases h2 : b = c
          · subst h2
            rw [if_pos ⟨rfl, rfl, hb.1, hb.2⟩]
            exact tells_ok (fun W => rite_b 1 0 b 0 b 0 (by omega) (by omega) (by omega) (hid0 1 ha.1 ha.2) (hid0 b hb.1 hb.2) (hid0 b hb.1 hb.2) (by simp) (by simp) (by simp) W) (by omega)
          · rw [if_neg (by omega)]
            exact tells_bad (fun W => rite_b5 1 0 b 0 c 0 (by omega) (by omega) (by omega) (hid0 1 ha.1 ha.2) (hid0 b hb.1 hb.2) (hid0 c hc.1 hc.2) (by simp) (by simp; omega) W) rfl
        · rw [if_neg (by omega)]
          exact tells_bad (fun W => rite_b4 a 0 b 0 c 0 (by omega) (by omega) (by omega) (hid0 a ha.1 ha.2) (hid0 b hb.1 hb.2) (hid0 c hc.1 hc.2) (by simp; omega) W) rfl
      · rw [if_neg (by omega)]
        exact tells_bad (fun W => rite_b3 a 0 b 0 c 0 (by omega) (by omega) (by omega) (hid0 a ha.1 ha.2) (hid0 b hb.1 hb.2) (mayB0_f hc) W) rfl
    · rw [if_neg (by omega)]
      exact tells_bad (fun W => rite_b2 a 0 b 0 c 0 (by omega) (by omega) (hid0 a ha.1 ha.2) (mayB0_f hb) W) rfl
  · rw [if_neg (by omega)]
    exact tells_bad (fun W => rite_b1 a 0 b 0 c 0 (by omega) (mayB0_f ha) W) rfl

theorem rtells_binary (o w l a b c : Nat) (h3 : ¬ (o = 3 ∨ o = 4)) (h22 : ¬ o = 22) (h23 : ¬ (o = 23 ∨ o = 24)) (h25 : ¬ o = 25) : Tells 46 #[.int .u8 o, .agg #[.int .u8 ((a : Nat) : Int), .int .u64 0], .agg #[.int .u8 ((b : Nat) : Int), .int .u64 0]] (vecW o w l a b c) := by
  unfold vecW
  rw [if_neg h3, if_neg h22, if_neg h23, if_neg h25]
  by_cases ha : 1 ≤ a ∧ a ≤ 64
  · by_cases hb : 1 ≤ b ∧ b ≤ 64
    · rw [if_pos ⟨ha.1, ha.2, hb.1, hb.2⟩]
      have HA := hid0 a ha.1 ha.2
      have HB := hid0 b hb.1 hb.2
      by_cases ho : o = 21
      · subst ho
        by_cases hr : a + b ≤ 64
        · rw [wcat hr]
          have h := fun W => rbin_21 a 0 b 0 (by omega) (by omega) HA HB ha.2 hb.2 hr W
          simp only [← Int.natCast_add] at h
          exact tells_ok h (by omega)
        · exact tells_bad (fun W => rbin_b3 a 0 b 0 (by omega) (by omega) HA HB ha.2 hb.2 (by omega) W) (wcat0 hr)
      by_cases hab : a = b
      · subst hab
        by_cases h5 : o < 5
        · exact tells_bad (fun W => rbin_b5 o a 0 a 0 (by omega) (by omega) HA HB (by simp) h5 W) (wno (.inl h5))
        by_cases h21 : 21 < o
        · exact tells_bad (fun W => rbin_b6 o a 0 a 0 (by omega) (by omega) HA HB (by simp) h21 W) (wno (.inr h21))
        obtain ⟨r, y, hr, h⟩ := rsame o a 0 0 (by omega) (by omega) (mayB0_t ha.1 ha.2) (mayB0_t ha.1 ha.2)
        rw [← hr]
        refine tells_ok h ?_
        rw [hr]
        unfold widthB
        split
        · simp; omega
        · split
          · simp
          · omega
      · exact tells_bad (fun W => rbin_b4 o a 0 b 0 (by omega) (by omega) HA HB (by simp; omega) (by simp; omega) W) (wne ho hab)
    · rw [if_neg (by omega)]
      exact tells_bad (fun W => rbin_b2 o a 0 b 0 (by omega) (by omega) (hid0 a ha.1 ha.2) (mayB0_f hb) W) rfl
  · rw [if_neg (by omega)]
    exact tells_bad (fun W => rbin_b1 o a 0 b 0 (by omega) (mayB0_f ha) W) rfl

end Tm
end Go.Proofs.Ytigjbngedbbdbaa
