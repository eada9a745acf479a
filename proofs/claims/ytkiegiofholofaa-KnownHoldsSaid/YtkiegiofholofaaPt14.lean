/-
Of layer known refuses: of a number that no node has, of no store; and the statements' own small check: each as a fact on one call.
Plain facts for layer known: under whatever assignment the bits that are sure are so.
-/
import Derived.Test.YtkiegiofholofaaPt13
import Derived.Test.YtkiegiofholofaaPt11
import Derived.Test.YtkiegiofholofaaPt02
namespace Go.Proofs.Ytkiegiofholofaa
open Go.RowKit Go.Maps Bv Tm
namespace Kn
set_option maxHeartbeats 800000
set_option maxRecDepth 100000

theorem of_err {ptr : Value} {id : Int} {er : Nat} {nd : Value} {W : World} (her : er ≠ 0) (hnd : ∃ a b c d e f g : Int, nd = .agg #[.int .u8 a, .int .u8 b, .int .i64 c, .int .i64 d, .int .i64 e, .int .u64 f, .int .u8 g])
    (hn : ∀ v, Below W.heap.size W v → Calls Try.prog 15 #[ptr, .int .i64 id] v fun e v' => e = .returned (.tuple #[nd, .int .i64 ((er : Nat) : Int)]) ∧ Below v.heap.size v v') :
    Calls Try.prog 7 #[ptr, .int .i64 id] W fun e W' => e = .returned (.tuple #[.agg #[.int .u64 0, .int .u64 0], .int .i64 ((er : Nat) : Int)]) ∧ Below W.heap.size W W' := by
  obtain ⟨a, b, c, d, e, f, g, rfl⟩ := hnd
  have HB0 := Lib.hid (bel_alloc (Below.refl W.heap.size W) (.cells #[.int .u64 0, .int .u64 0] 29))
  have HN := Lib.hid (hn _ HB0.out)
  have d0 : (((er : Nat) : Int) != 0) = true := by simp; omega
  have d1 : ¬ ((er : Nat) : Int) = 0 := by omega
  clear hn her
  go_enter Try.func7, Try.ntmps7
  go_wp2_with fail
  refine HN.out.mono ?_
  rintro e w1 ⟨rfl, hb1⟩
  have a0 : w1.cell? ⟨W.heap.size, 0, none⟩ = some (.int .u64 0) := (hb1.cell (p := ⟨W.heap.size, 0, none⟩) (by simp)).trans (by simp [go_sem])
  have a1 : w1.cell? ⟨W.heap.size, 1, none⟩ = some (.int .u64 0) := (hb1.cell (p := ⟨W.heap.size, 1, none⟩) (by simp)).trans (by simp [go_sem])
  have f0 : w1.frozen? ⟨W.heap.size, 0, none⟩ = false := (hb1.frozen (p := ⟨W.heap.size, 0, none⟩) (by simp)).trans (by simp [go_sem])
  have f1 : w1.frozen? ⟨W.heap.size, 1, none⟩ = false := (hb1.frozen (p := ⟨W.heap.size, 1, none⟩) (by simp)).trans (by simp [go_sem])
  have al : W.heap.size < w1.heap.size := by have := hb1.size; simp at this; omega
  have HB1 := Lib.hid (bel_call HB0.out hb1)
  clear hb1
  go_wp2_with fail
  exact bodyPost_ret (v := .tuple #[.agg #[.int .u64 0, .int .u64 0], .int .i64 ((er : Nat) : Int)]) (by simp [results, Try.results7, go_sem, a0, a1, al]) rfl ⟨rfl, by first | exact (bel_alloc ((HB1.out.setCell (Nat.le_refl _) _).setCell (Nat.le_refl _) _) _) | exact (((bel_alloc HB1.out _).setCell (Nat.le_refl _) _).setCell (Nat.le_refl _) _)⟩

theorem of_no {B p m : Nat} {id : Int} {sv : Value} {L : List Nd} {W : World} (S : StoreAt B W p m sv L) (hi : inB L id = false) :
    Calls Try.prog 7 #[.pointer (some ⟨p, 0, none⟩), .int .i64 id] W fun e W' => e = .returned (.tuple #[.agg #[.int .u64 0, .int .u64 0], .int .i64 2]) ∧ Below W.heap.size W W' :=
  of_err (er := 2) (by decide) ⟨_, _, _, _, _, _, _, rfl⟩ (fun _ hv => node_no (S.call hv) hi)
theorem of_none (ptr : Value) (id : Int) (W : World) (h : NoneAt W ptr) :
    Calls Try.prog 7 #[ptr, .int .i64 id] W fun e W' => e = .returned (.tuple #[.agg #[.int .u64 0, .int .u64 0], .int .i64 1]) ∧ Below W.heap.size W W' :=
  of_err (er := 1) (by decide) ⟨_, _, _, _, _, _, _, rfl⟩ (fun v hv => node_none ptr id v (h.keep hv))

def kw1 : Nd := ⟨2, 8, 0, 0, 0, 0, 0⟩
def kw2 : Nd := ⟨1, 8, 0, 0, 0, 15, 0⟩
def kw3 : Nd := ⟨5, 8, 0, 1, 0, 0, 0⟩
def kw4 : Nd := ⟨23, 16, 0, 0, 0, 0, 0⟩
def kwL : List Nd := [kw1, kw2, kw3, kw4]
theorem kw3_ok : kw3.Ok := ⟨by decide, by decide, by simp [kw3, I64], by simp [kw3, I64], by simp [kw3, I64], by decide, by decide⟩
theorem kw4_ok : kw4.Ok := ⟨by decide, by decide, by simp [kw4, I64], by simp [kw4, I64], by simp [kw4, I64], by decide, by decide⟩
theorem kw_may : MayL kwL := by
  have g1 := mayL_step mayL_nil kw1
  rw [show (mk [] kw1).1 = [kw1] by decide] at g1
  have g2 := mayL_step g1 kw2
  rw [show (mk [kw1] kw2).1 = [kw1, kw2] by decide] at g2
  have g3 := mayL_step g2 kw3
  rw [show (mk [kw1, kw2] kw3).1 = [kw1, kw2, kw3] by decide] at g3
  have g4 := mayL_step g3 kw4
  rw [show (mk [kw1, kw2, kw3] kw4).1 = kwL by decide] at g4
  exact g4
theorem kw_0 : kn kwL 0 = (0, 0) := by decide +kernel
theorem kw_2 : kn kwL 2 = (240, 0) := by decide +kernel
theorem kw_3 : kn kwL 3 = (65280, 0) := by decide +kernel
theorem kof {B p m k z o : Nat} {ki zi oi : Int} {sv : Value} {W : World} (S : StoreAt B W p m sv kwL) (hk : k < kwL.length) (h : kn kwL k = (z, o)) (ek : ki = ((k : Nat) : Int)) (ez : zi = ((z : Nat) : Int)) (eo : oi = ((o : Nat) : Int)) :
    Calls Try.prog 7 #[.pointer (some ⟨p, 0, none⟩), .int .i64 ki] W fun e W' => e = .returned (.tuple #[.agg #[.int .u64 zi, .int .u64 oi], .int .i64 0]) ∧ Below W.heap.size W W' := by
  subst ek; subst ez; subst eo
  have := of_yes S kw_may hk
  rw [h] at this
  exact this

theorem mk3 : mk [kw1, kw2] kw3 = ([kw1, kw2, kw3], 2, 0) := by decide +kernel
theorem mk4 : mk [kw1, kw2, kw3] kw4 = (kwL, 3, 0) := by decide +kernel
theorem make3 {B p m : Nat} {sv : Value} {W : World} (S : StoreAt B W p m sv [kw1, kw2]) (hB : B ≤ W.heap.size) :
    Calls Try.prog 13 #[.pointer (some ⟨p, 0, none⟩), .agg #[.int .u8 5, .int .u8 8, .int .i64 0, .int .i64 1, .int .i64 0, .int .u64 0, .int .u8 0]] W fun e W' => e = .returned (.tuple #[.int .i64 2, .int .i64 0]) ∧ ∃ v, StoreAt B W' p m v [kw1, kw2, kw3] ∧ Below B W W' :=
  made_to S hB (make_any (x := kw3) S hB kw3_ok) (L' := [kw1, kw2, kw3]) (a := 2) (b := 0) (by rw [mk3]) (by rw [mk3]; rfl) (by rw [mk3]; rfl)
theorem make4 {B p m : Nat} {sv : Value} {W : World} (S : StoreAt B W p m sv [kw1, kw2, kw3]) (hB : B ≤ W.heap.size) :
    Calls Try.prog 13 #[.pointer (some ⟨p, 0, none⟩), .agg #[.int .u8 23, .int .u8 16, .int .i64 0, .int .i64 0, .int .i64 0, .int .u64 0, .int .u8 0]] W fun e W' => e = .returned (.tuple #[.int .i64 3, .int .i64 0]) ∧ ∃ v, StoreAt B W' p m v kwL ∧ Below B W W' :=
  made_to S hB (make_any (x := kw4) S hB kw4_ok) (L' := kwL) (a := 3) (b := 0) (by rw [mk4]) (by rw [mk4]; rfl) (by rw [mk4]; rfl)

/-- Two cells, the whole of a variable of known bits. -/
def At2 (w : World) (p : Nat) (x y : Value) : Prop := p < w.heap.size ∧ w.cell? ⟨p, 0, none⟩ = some x ∧ w.cell? ⟨p, 1, none⟩ = some y
theorem At2.keep {w w' : World} {p : Nat} {x y : Value} (h : At2 w p x y) (k : Below w.heap.size w w') : At2 w' p x y :=
  ⟨Nat.lt_of_lt_of_le h.1 k.size, (k.cell (p := ⟨p, 0, none⟩) h.1).trans h.2.1, (k.cell (p := ⟨p, 1, none⟩) h.1).trans h.2.2⟩
theorem At2.new (w : World) (x y : Value) (t : TypeId) : At2 (w.alloc (.cells #[x, y] t)) w.heap.size x y := by
  have h1 := (MapKept.heap_alloc w (.cells #[x, y] t)).1
  refine ⟨by rw [size_alloc]; omega, ?_, ?_⟩ <;> (unfold World.cell?; rw [h1]; rfl)

theorem works_any (W : World) :
    Calls Try.prog 9 #[] W fun e W' => e = .returned (.bool true) ∧ Below W.heap.size W W' := by
  go_enter Try.func9, Try.ntmps9
  go_wp2_with (go_at_call 12; refine (new_at W).mono ?_; rintro e v0 ⟨rfl, S0, hb0⟩)
  have hB0 := hb0.size
  have HC0 := Lib.hid (made_to S0 hB0 (var_any S0 (B := W.heap.size) hB0 8 0) (L' := [kw1]) (a := 0) (b := 0) (by decide +kernel) (by decide +kernel) (by decide +kernel))
  clear S0
  go_wp2_with (go_at_call 20; refine HC0.out.mono ?_; rintro e v1 ⟨rfl, s1, S1, hb1⟩)
  replace hb1 := hb0.trans hb1
  have hB1 := hb1.size
  clear HC0
  have HC1 := Lib.hid (made_to S1 hB1 (const_any S1 hB1 8 15 (by decide)) (L' := [kw1, kw2]) (a := 1) (b := 0) (by decide +kernel) (by decide +kernel) (by decide +kernel))
  clear S1
  go_wp2_with (go_at_call 21; refine HC1.out.mono ?_; rintro e v2 ⟨rfl, s2, S2, hb2⟩)
  replace hb2 := hb1.trans hb2
  have hB2 := hb2.size
  clear HC1
  have HC2 := Lib.hid (make3 S2 hB2)
  clear S2
  go_wp2_with (go_at_call 13; with_reducible refine HC2.out.mono ?_; rintro e v3 ⟨rfl, s3, S3, hb3⟩)
  replace hb3 := hb2.trans hb3
  have hB3 := hb3.size
  clear HC2
  have HC3 := Lib.hid (make4 S3 hB3)
  clear S3
  go_wp2_with (go_at_call 13; with_reducible refine HC3.out.mono ?_; rintro e v4 ⟨rfl, s4, S4, hb4⟩)
  replace hb4 := hb3.trans hb4
  clear HC3 hb0 hb1 hb2 hb3 hB0 hB1 hB2 hB3
  have HS4 := Lib.hid S4
  have HB4 := Lib.hid hb4
  clear S4 hb4
  have HO0 := Lib.hid (kof (ki := 0) (zi := 0) (oi := 0) HS4.out (by decide) kw_0 rfl rfl rfl)
  go_wp2_with fail
  with_reducible refine HO0.out.mono ?_
  rintro e v5 ⟨rfl, hbv5⟩
  have HSv5 := Lib.hid ((HS4.out.call hbv5).call (bel_alloc (Below.refl v5.heap.size v5) (.cells #[.int .u64 0, .int .u64 0] 29)))
  have HBv5 := Lib.hid (bel_alloc (bel_call HB4.out hbv5) (.cells #[.int .u64 0, .int .u64 0] 29))
  have HAv5 := Lib.hid (At2.new v5 (.int .u64 0) (.int .u64 0) 29)
  clear hbv5 HO0
  have HO1 := Lib.hid (kof (ki := 2) (zi := 240) (oi := 0) HSv5.out (by decide) kw_2 rfl rfl rfl)
  go_wp2_with fail
  with_reducible refine HO1.out.mono ?_
  rintro e v6 ⟨rfl, hbv6⟩
  have HSv6 := Lib.hid ((HSv5.out.call hbv6).call (bel_alloc (Below.refl v6.heap.size v6) (.cells #[.int .u64 240, .int .u64 0] 29)))
  have HBv6 := Lib.hid (bel_alloc (bel_call HBv5.out hbv6) (.cells #[.int .u64 240, .int .u64 0] 29))
  have HAv6 := Lib.hid (At2.new v6 (.int .u64 240) (.int .u64 0) 29)
  have HPv6 := Lib.hid ((HAv5.out.keep hbv6).keep (bel_alloc (Below.refl v6.heap.size v6) (.cells #[.int .u64 240, .int .u64 0] 29)))
  clear hbv6 HO1
  have HO2 := Lib.hid (kof (ki := 3) (zi := 65280) (oi := 0) HSv6.out (by decide) kw_3 rfl rfl rfl)
  go_wp2_with fail
  with_reducible refine HO2.out.mono ?_
  rintro e v7 ⟨rfl, hbv7⟩
  have HSv7 := Lib.hid ((HSv6.out.call hbv7).call (bel_alloc (Below.refl v7.heap.size v7) (.cells #[.int .u64 65280, .int .u64 0] 29)))
  have HBv7 := Lib.hid (bel_alloc (bel_call HBv6.out hbv7) (.cells #[.int .u64 65280, .int .u64 0] 29))
  have HAv7 := Lib.hid (At2.new v7 (.int .u64 65280) (.int .u64 0) 29)
  have HQv7 := Lib.hid ((HAv6.out.keep hbv7).keep (bel_alloc (Below.refl v7.heap.size v7) (.cells #[.int .u64 65280, .int .u64 0] 29)))
  have HPv7 := Lib.hid ((HPv6.out.keep hbv7).keep (bel_alloc (Below.refl v7.heap.size v7) (.cells #[.int .u64 65280, .int .u64 0] 29)))
  clear hbv7 HO2
  obtain ⟨la, a0, a1⟩ := HPv7.out
  obtain ⟨lb, b0, b1⟩ := HQv7.out
  obtain ⟨lc, c0, c1⟩ := HAv7.out
  obtain ⟨wz, hwz⟩ : ∃ wz, wz = v7.alloc (.cells #[.int .u64 65280, .int .u64 0] 29) := ⟨_, rfl⟩
  go_wp2_with fail
  rw [← hwz] at HBv7 a0 a1 b0 b1 c0 c1 la lb lc
  rw [← hwz]
  clear hwz HSv5 HSv6 HSv7 HBv5 HBv6 HPv6 HPv7 HQv7 HAv5 HAv6 HAv7 HS4 HB4
  go_ret
  exact ⟨rfl, HBv7.out⟩
end Kn
end Go.Proofs.Ytkiegiofholofaa

namespace Go.Proofs.Ytkiegiofholofaa
open Bv Tm
namespace Kn
set_option maxHeartbeats 400000

theorem tb_low (w x b : Nat) : (low w x).testBit b = (decide (b < w) && x.testBit b) := by unfold low; rw [Nat.testBit_mod_two_pow]
theorem tb_not {n b : Nat} (hn : n < 18446744073709551616) (hb : b < 64) : (18446744073709551615 - n).testBit b = !n.testBit b := by
  rw [show 18446744073709551615 - n = 2 ^ 64 - (n + 1) by omega, Nat.testBit_two_pow_sub_succ (by omega)]
  simp [hb]
theorem sure_nil (n : Nat) : Sure (0, 0) n := ⟨fun b h => by simp at h, fun b h => by simp at h⟩
/-- Bits may be told within the width alone. -/
theorem sure_low {w z o n : Nat} (h : ∀ b, b < w → (z.testBit b = true → n.testBit b = false) ∧ (o.testBit b = true → n.testBit b = true)) : Sure (low w z, low w o) (low w n) := by
  refine ⟨fun b hb => ?_, fun b hb => ?_⟩
  · simp only [tb_low, Bool.and_eq_true, decide_eq_true_eq] at hb ⊢
    rw [(h b hb.1).1 hb.2]
    simp
  · simp only [tb_low, Bool.and_eq_true, decide_eq_true_eq] at hb ⊢
    exact ⟨hb.1, (h b hb.1).2 hb.2⟩
theorem sure_low0 {w z n : Nat} (h : ∀ b, b < w → z.testBit b = true → n.testBit b = false) : Sure (low w z, 0) (low w n) := by
  have := sure_low (w := w) (z := z) (o := 0) (n := n) (fun b hb => ⟨h b hb, fun c => by simp at c⟩)
  rw [show low w 0 = 0 by unfold low; simp] at this
  exact this
/-- Low bits that are all nought. -/
theorem low_zero {n b : Nat} (h : ∀ j, j ≤ b → n.testBit j = false) : n % 2 ^ (b + 1) = 0 := by
  apply Nat.eq_of_testBit_eq
  intro j
  rw [Nat.testBit_mod_two_pow]
  by_cases hj : j < b + 1
  · simp [h j (by omega)]
  · simp [hj]
theorem zero_low {n b : Nat} (h : n % 2 ^ (b + 1) = 0) : n.testBit b = false := by
  have : (n % 2 ^ (b + 1)).testBit b = n.testBit b := by rw [Nat.testBit_mod_two_pow]; simp
  rw [← this, h]
  simp
theorem all_ones {m b : Nat} (h : m % 2 ^ b = 2 ^ b - 1) : ∀ j, j < b → m.testBit j = true := by
  intro j hj
  have : (m % 2 ^ b).testBit j = m.testBit j := by rw [Nat.testBit_mod_two_pow]; simp [hj]
  rw [← this, h, Nat.testBit_two_pow_sub_one]
  simp [hj]
/-- What lows tells. -/
theorem lows_bit {m b : Nat} (_hm : m < 18446744073709551616) (hb : b < 64) (h : (lows m).testBit b = true) : ∀ j, j ≤ b → m.testBit j = true := by
  unfold lows at h
  rw [Nat.testBit_and, Bool.and_eq_true, tb_not (Nat.mod_lt _ (by decide)) hb] at h
  obtain ⟨h1, h2⟩ := h
  have h3 : (m + 1).testBit b = false := by
    rw [← mod64_bit (m + 1) b hb]
    simpa using h2
  have hp := pow_pos' b
  have key : m % 2 ^ b = 2 ^ b - 1 := by
    refine Classical.byContradiction fun hne => ?_
    have hlt := Nat.mod_lt m hp
    have e : (m + 1) / 2 ^ b = m / 2 ^ b := by
      have e1 : m + 1 = 2 ^ b * (m / 2 ^ b) + (m % 2 ^ b + 1) := by have := Nat.div_add_mod m (2 ^ b); omega
      rw [e1, Nat.mul_add_div hp, Nat.div_eq_of_lt (show m % 2 ^ b + 1 < 2 ^ b by omega), Nat.add_zero]
    rw [Nat.testBit_eq_decide_div_mod_eq] at h1 h3
    rw [e] at h3
    rw [h1] at h3
    simp at h3
  intro j hj
  by_cases e : j = b
  · rw [e]; exact h1
  · exact all_ones key j (by omega)
theorem sum_zero {n m b : Nat} (h1 : n % 2 ^ (b + 1) = 0) (h2 : m % 2 ^ (b + 1) = 0) : (n + m).testBit b = false := zero_low (by rw [Nat.add_mod, h1, h2]; simp)
theorem prod_zero {n m b : Nat} (h1 : n % 2 ^ (b + 1) = 0 ∨ m % 2 ^ (b + 1) = 0) : (n * m).testBit b = false := by
  refine zero_low ?_
  rcases h1 with h | h
  · rw [Nat.mul_mod, h]; simp
  · rw [Nat.mul_mod, h]; simp
theorem lows_zero {z n b : Nat} (hz : z < 18446744073709551616) (hb : b < 64) (h : (lows z).testBit b = true) (hs : ∀ j, z.testBit j = true → n.testBit j = false) : n % 2 ^ (b + 1) = 0 :=
  low_zero (fun j hj => hs j (lows_bit hz hb h j hj))
theorem hs_add {w z0 z1 n m : Nat} (h2 : w ≤ 64) (hz : z0 < 18446744073709551616) (s0 : ∀ j, z0.testBit j = true → n.testBit j = false) (s1 : ∀ j, z1.testBit j = true → m.testBit j = false) :
    Sure (low w (lows (z0 &&& z1)), 0) (low w ((n + m) % 18446744073709551616)) := by
  refine sure_low0 (fun b hb h => ?_)
  have hzz : z0 &&& z1 < 18446744073709551616 := Nat.lt_of_le_of_lt Nat.and_le_left hz
  rw [mod64_bit _ _ (by omega)]
  exact sum_zero (lows_zero hzz (by omega) h (fun j hj => s0 j (by rw [Nat.testBit_and, Bool.and_eq_true] at hj; exact hj.1))) (lows_zero hzz (by omega) h (fun j hj => s1 j (by rw [Nat.testBit_and, Bool.and_eq_true] at hj; exact hj.2)))
theorem neg_zero {m b : Nat} (hb : b < 64) (_hm : m < 18446744073709551616) (h : m % 2 ^ (b + 1) = 0) : (18446744073709551616 - m) % 2 ^ (b + 1) = 0 := by
  have hd : 2 ^ (b + 1) ∣ m := Nat.dvd_of_mod_eq_zero h
  have he : 2 ^ (b + 1) ∣ 18446744073709551616 := ⟨2 ^ (64 - (b + 1)), (pow_split (by omega)).symm⟩
  exact Nat.mod_eq_zero_of_dvd (Nat.dvd_sub he hd)
theorem hs_sub {w z0 z1 n m : Nat} (h2 : w ≤ 64) (hz : z0 < 18446744073709551616) (hm : m < 18446744073709551616) (s0 : ∀ j, z0.testBit j = true → n.testBit j = false) (s1 : ∀ j, z1.testBit j = true → m.testBit j = false) :
    Sure (low w (lows (z0 &&& z1)), 0) (low w ((n + (18446744073709551616 - m)) % 18446744073709551616)) := by
  refine sure_low0 (fun b hb h => ?_)
  have hzz : z0 &&& z1 < 18446744073709551616 := Nat.lt_of_le_of_lt Nat.and_le_left hz
  rw [mod64_bit _ _ (by omega)]
  exact sum_zero (lows_zero hzz (by omega) h (fun j hj => s0 j (by rw [Nat.testBit_and, Bool.and_eq_true] at hj; exact hj.1))) (neg_zero (by omega) hm (lows_zero hzz (by omega) h (fun j hj => s1 j (by rw [Nat.testBit_and, Bool.and_eq_true] at hj; exact hj.2))))
theorem hs_mul {w z0 z1 n m : Nat} (h2 : w ≤ 64) (hz0 : z0 < 18446744073709551616) (hz1 : z1 < 18446744073709551616) (s0 : ∀ j, z0.testBit j = true → n.testBit j = false) (s1 : ∀ j, z1.testBit j = true → m.testBit j = false) :
    Sure (low w (lows z0 ||| lows z1), 0) (low w (n * m % 18446744073709551616)) := by
  refine sure_low0 (fun b hb h => ?_)
  rw [mod64_bit _ _ (by omega)]
  rw [Nat.testBit_or, Bool.or_eq_true] at h
  refine prod_zero ?_
  rcases h with h | h
  · exact .inl (lows_zero hz0 (by omega) h s0)
  · exact .inr (lows_zero hz1 (by omega) h s1)
theorem hs_ite {w a b c : Nat} {c0 c1 c2 : Kb} (ha : a < 2) (s0 : Sure c0 a) (s1 : Sure c1 b) (s2 : Sure c2 c) (_hb : b < 2 ^ w) (_hc : c < 2 ^ w) : Sure (iteK w c0 c1 c2) (if a = 1 then b else c) := by
  unfold iteK
  split
  · rename_i h
    have : a = 1 := by
      have := s0.2 0 (by rw [h]; decide)
      rw [Nat.testBit_zero] at this
      simp at this
      omega
    rw [if_pos this]
    exact s1
  · split
    · rename_i h
      have : ¬ a = 1 := by
        have := s0.1 0 (by rw [h]; decide)
        rw [Nat.testBit_zero] at this
        simp at this
        omega
      rw [if_neg this]
      exact s2
    · refine ⟨fun j hj => ?_, fun j hj => ?_⟩
      all_goals
        simp only [tb_low, Nat.testBit_and, Bool.and_eq_true, decide_eq_true_eq] at hj
        split
      · exact s1.1 j hj.2.1
      · exact s2.1 j hj.2.2
      · exact s1.2 j hj.2.1
      · exact s2.2 j hj.2.2
theorem hs_eq {w n m : Nat} {a b : Kb} (_h2 : w ≤ 64) (s0 : Sure a n) (s1 : Sure b m) (hn : n < 2 ^ w) (hm : m < 2 ^ w) : Sure (eqK w a b) (n == m).toNat := by
  unfold eqK
  split
  · rename_i h
    have hne : (n == m) = false := by
      rw [beq_eq_false_iff_ne]
      intro e
      subst e
      apply h
      apply Nat.eq_of_testBit_eq
      intro j
      rw [Nat.zero_testBit, Nat.testBit_or, Nat.testBit_and, Nat.testBit_and]
      have p1 := s0.1 j
      have p2 := s0.2 j
      have p3 := s1.1 j
      have p4 := s1.2 j
      revert p1 p2 p3 p4
      cases a.1.testBit j <;> cases a.2.testBit j <;> cases b.1.testBit j <;> cases b.2.testBit j <;> cases n.testBit j <;> simp
    rw [hne]
    exact ⟨fun b _ => by simp, fun b h => by simp at h⟩
  · split
    · rename_i h0 h
      have he : n = m := by
        apply Nat.eq_of_testBit_eq
        intro j
        by_cases hj : j < w
        · have hb : ((a.1 ||| a.2) &&& (b.1 ||| b.2)).testBit j = true := by rw [h, Nat.testBit_two_pow_sub_one]; simp [hj]
          have hz : (a.1 &&& b.2 ||| a.2 &&& b.1).testBit j = false := by rw [Classical.not_not.1 h0]; simp
          rw [Nat.testBit_and, Nat.testBit_or, Nat.testBit_or] at hb
          rw [Nat.testBit_or, Nat.testBit_and, Nat.testBit_and] at hz
          have p1 := s0.1 j
          have p2 := s0.2 j
          have p3 := s1.1 j
          have p4 := s1.2 j
          revert hb hz p1 p2 p3 p4
          cases a.1.testBit j <;> cases a.2.testBit j <;> cases b.1.testBit j <;> cases b.2.testBit j <;> cases n.testBit j <;> cases m.testBit j <;> simp
        · rw [high_bit hn (by omega), high_bit hm (by omega)]
      subst he
      rw [beq_self_eq_true]
      exact ⟨fun b h => by simp at h, fun b h => h⟩
    · exact sure_nil _
theorem numE_bit {w n b : Nat} (h1 : 1 ≤ w) (h2 : w ≤ 64) (hn : n < 2 ^ w) (hb : b < 64) : (numE 24 w n).testBit b = if b < w then n.testBit b else decide (2 ^ (w - 1) ≤ n) := by
  show ((wo w n % 18446744073709551616).toNat).testBit b = _
  have hh := pow_half h1
  have hle := pow_le64 h2
  unfold wo
  by_cases hs : n < 2 ^ (w - 1)
  · rw [if_pos hs]
    have e : (((n : Nat) : Int) % 18446744073709551616).toNat = n := by omega
    rw [e]
    by_cases hbw : b < w
    · rw [if_pos hbw]
    · rw [if_neg hbw, high_bit hn (by omega)]
      symm
      rw [decide_eq_false_iff_not]
      omega
  · rw [if_neg hs]
    have e : ((((n : Nat) : Int) - ((2 ^ w : Nat) : Int)) % 18446744073709551616).toNat = n + (18446744073709551616 - 2 ^ w) := by omega
    rw [e]
    have hd : 18446744073709551616 - 2 ^ w = 2 ^ w * (2 ^ (64 - w) - 1) := by
      rw [Nat.mul_sub, pow_split h2, Nat.mul_one]
    have e2 : n + (18446744073709551616 - 2 ^ w) = 2 ^ w * (2 ^ (64 - w) - 1) + n := by omega
    rw [e2, Nat.testBit_two_pow_mul_add _ hn]
    by_cases hbw : b < w
    · rw [if_pos hbw, if_pos hbw]
    · rw [if_neg hbw, if_neg hbw, Nat.testBit_two_pow_sub_one]
      have a1 : b - w < 64 - w := by omega
      have a2 : 2 ^ (w - 1) ≤ n := by omega
      simp [a1, a2]
theorem sign_bit {w n : Nat} (h1 : 1 ≤ w) (hn : n < 2 ^ w) : decide (2 ^ (w - 1) ≤ n) = n.testBit (w - 1) := (sign_iff h1 hn).symm
theorem hs_sext {w v n : Nat} {a : Kb} (h1 : 1 ≤ v) (hv : v ≤ w) (h2 : w ≤ 64) (s : Sure a n) (ha : a.1 < 2 ^ v ∧ a.2 < 2 ^ v) (hn : n < 2 ^ v) : Sure (low w (numE 24 v a.1), low w (numE 24 v a.2)) (low w (numE 24 v n)) := by
  refine sure_low (fun b hb => ?_)
  rw [numE_bit h1 (by omega) ha.1 (by omega), numE_bit h1 (by omega) ha.2 (by omega), numE_bit h1 (by omega) hn (by omega)]
  by_cases hbv : b < v
  · rw [if_pos hbv, if_pos hbv, if_pos hbv]
    exact ⟨s.1 b, s.2 b⟩
  · rw [if_neg hbv, if_neg hbv, if_neg hbv, sign_bit h1 ha.1, sign_bit h1 ha.2, sign_bit h1 hn]
    exact ⟨s.1 _, s.2 _⟩
theorem hs_zext {w v n : Nat} {a : Kb} (hv : v ≤ w) (h2 : w ≤ 64) (s : Sure a n) (hn : n < 2 ^ v) : Sure (low w (a.1 ||| (18446744073709551615 - (2 ^ v - 1))), low w a.2) (low w n) := by
  refine sure_low (fun b hb => ⟨fun h => ?_, s.2 b⟩)
  rw [Nat.testBit_or, Bool.or_eq_true] at h
  rcases h with h | h
  · exact s.1 b h
  · have hle := pow_le64 (show v ≤ 64 by omega)
    have hp := pow_pos' v
    rw [tb_not (by omega) (by omega), Nat.testBit_two_pow_sub_one] at h
    simp at h
    exact high_bit hn h
theorem shl_bit {n v b : Nat} (hb : b < 64) : (n * 2 ^ v % 18446744073709551616).testBit b = (decide (v ≤ b) && n.testBit (b - v)) := by
  rw [mod64_bit _ _ hb, Nat.testBit_mul_two_pow]
theorem sure_concat' {w v n m : Nat} {a b : Kb} (h2 : w ≤ 64) (hv : v ≤ 64) (s0 : Sure a n) (s1 : Sure b m) (hb1 : b.1 < 2 ^ v) (hm : m < 2 ^ v) : Sure (low w (a.1 * 2 ^ min v 64 % 18446744073709551616 ||| b.1), low w (a.2 * 2 ^ min v 64 % 18446744073709551616 ||| b.2)) (low w (n * 2 ^ v % 18446744073709551616 ||| m)) := by
  rw [Nat.min_eq_left hv]
  refine sure_low (fun j hj => ⟨fun h => ?_, fun h => ?_⟩)
  · rw [Nat.testBit_or, shl_bit (by omega), Bool.or_eq_true] at h
    rw [Nat.testBit_or, shl_bit (by omega), Bool.or_eq_false_iff]
    rcases h with h | h
    · rw [Bool.and_eq_true, decide_eq_true_eq] at h
      exact ⟨by rw [s0.1 _ h.2]; simp, high_bit hm h.1⟩
    · have hjv : j < v := by
        refine Classical.byContradiction fun hn => ?_
        rw [high_bit hb1 (by omega)] at h
        simp at h
      exact ⟨by rw [decide_eq_false (by omega)]; rfl, s1.1 _ h⟩
  · rw [Nat.testBit_or, shl_bit (by omega), Bool.or_eq_true] at h
    rw [Nat.testBit_or, shl_bit (by omega), Bool.or_eq_true]
    rcases h with h | h
    · rw [Bool.and_eq_true] at h
      exact .inl (by rw [Bool.and_eq_true]; exact ⟨h.1, s0.2 _ h.2⟩)
    · exact .inr (s1.2 _ h)
theorem sure_extract' {w l n : Nat} {a : Kb} (hl : l ≤ 64) (s : Sure a n) : Sure (low w (a.1 / 2 ^ min l 64), low w (a.2 / 2 ^ min l 64)) (low w (n / 2 ^ l)) := by
  rw [Nat.min_eq_left hl]
  refine sure_low (fun b _ => ?_)
  rw [Nat.testBit_div_two_pow, Nat.testBit_div_two_pow, Nat.testBit_div_two_pow]
  exact ⟨s.1 _, s.2 _⟩
theorem sure_shl' {w v n far : Nat} {a : Kb} (h2 : w ≤ 64) (s : Sure a n) : Sure (shK 15 w a far) (low w (numB 15 w v n far)) := by
  unfold shK
  rw [if_pos rfl]
  refine sure_low (fun j hj => ?_)
  have e : (numB 15 w v n far).testBit j = (decide (far ≤ j) && n.testBit (j - far)) := by rw [← low_bit w _ j hj]; exact shl_bits h2 hj
  have ez : ∀ x, (x * 2 ^ min far 64 % 18446744073709551616).testBit j = (decide (far ≤ j) && x.testBit (j - far)) := fun x => by
    rw [← low_bit w _ j hj]; exact shl_bits (v := v) h2 hj
  rw [e, Nat.testBit_or, ez, ez, tb_not (Nat.mod_lt _ (by decide)) (by omega), ez]
  refine ⟨fun h => ?_, fun h => ?_⟩
  · rw [Bool.or_eq_true] at h
    rcases h with h | h
    · rw [Bool.and_eq_true] at h
      rw [s.1 _ h.2]
      simp
    · have hall : far ≤ j → (18446744073709551615 : Nat).testBit (j - far) = true := fun _ => by
        rw [show (18446744073709551615 : Nat) = 2 ^ 64 - 1 by decide, Nat.testBit_two_pow_sub_one]
        simp
        omega
      by_cases hf : far ≤ j
      · rw [hall hf] at h; simp [hf] at h
      · simp [hf]
  · rw [Bool.and_eq_true] at h
    rw [Bool.and_eq_true]
    exact ⟨h.1, s.2 _ h.2⟩
theorem sure_lshr' {w v n far : Nat} {a : Kb} (h2 : w ≤ 64) (s : Sure a n) (ha : a.1 < 2 ^ w ∧ a.2 < 2 ^ w) (hn : n < 2 ^ w) : Sure (shK 16 w a far) (low w (numB 16 w v n far)) := by
  unfold shK
  rw [if_neg (by decide), if_pos rfl]
  refine sure_low (fun j hj => ?_)
  have ez : ∀ x, x < 2 ^ w → (x / 2 ^ min far 64).testBit j = (decide (far < w ∧ j + far < w) && x.testBit (j + far)) := fun x hx => by
    rw [← low_bit w _ j hj]; exact lshr_bits (v := v) h2 hx hj
  have e : (numB 16 w v n far).testBit j = (decide (far < w ∧ j + far < w) && n.testBit (j + far)) := ez n hn
  have hp := pow_pos' w
  have hle := pow_le64 h2
  rw [e, Nat.testBit_or, ez _ ha.1, ez _ ha.2, tb_not (Nat.lt_of_le_of_lt (Nat.div_le_self _ _) (by omega)) (by omega), ez _ (by omega)]
  refine ⟨fun h => ?_, fun h => ?_⟩
  · rw [Bool.or_eq_true] at h
    rcases h with h | h
    · rw [Bool.and_eq_true] at h
      rw [s.1 _ h.2]
      simp
    · by_cases hf : far < w ∧ j + far < w
      · rw [Nat.testBit_two_pow_sub_one] at h
        simp [hf] at h
      · simp [hf]
  · rw [Bool.and_eq_true] at h
    rw [Bool.and_eq_true]
    exact ⟨h.1, s.2 _ h.2⟩
theorem sure_ashr' {w v n far : Nat} {a : Kb} (h1 : 1 ≤ w) (h2 : w ≤ 64) (s : Sure a n) (ha : a.1 < 2 ^ w ∧ a.2 < 2 ^ w) (hn : n < 2 ^ w) : Sure (shK 17 w a far) (low w (numB 17 w v n far)) := by
  unfold shK
  rw [if_neg (by decide), if_neg (by decide)]
  refine sure_low (fun j hj => ?_)
  have ez : ∀ v x, x < 2 ^ w → (numB 17 w v x far).testBit j = if far < w ∧ j + far < w then x.testBit (j + far) else x.testBit (w - 1) := fun v x hx => by
    rw [← low_bit w _ j hj, ashr_bits h1 h2 hx hj, sign_bit h1 hx]
  rw [ez _ n hn, ez _ _ ha.1, ez _ _ ha.2]
  split
  · exact ⟨s.1 _, s.2 _⟩
  · exact ⟨s.1 _, s.2 _⟩

/-- Under whatever assignment the bits that are sure are so. -/
theorem sure_kn {L : List Nd} (g : Gd L) (h : MayL L) (asg0 : List Nat) : ∀ (i : Nat) (x : Nd), L[i]? = some x → Sure (kn L i) (evN L asg0 i) := by
  intro i
  induction i using Nat.strongRecOn with
  | _ i ih =>
    intro x hx
    have hop := mayN_op (h i x hx)
    have hw := g.w x (List.mem_of_getElem? hx)
    have hok := g.ok x (List.mem_of_getElem? hx)
    have kid : ∀ j, j < kc x.o → ∃ n, vAt (valsN L asg0 i) (x.kid j) = n ∧ n < 2 ^ widAt L (x.kid j) ∧ Sure (kbAt (kvals L i) (x.kid j)) n ∧ (kbAt (kvals L i) (x.kid j)).1 < 2 ^ widAt L (x.kid j) ∧ (kbAt (kvals L i) (x.kid j)).2 < 2 ^ widAt L (x.kid j) := by
      intro j hj
      obtain ⟨y, hy, hlt, h0, hyw, hv⟩ := kid_in h hx hj
      have hl := kn_lt h _ y hy
      have hm := mayB_true (ev_may g h asg0 _ y hy)
      rw [hv, hyw]
      exact ⟨_, vAt_ev h0 (by omega), hm.2.2, ih _ hlt y hy, hl.1, hl.2⟩
    have far : 1 < kc x.o → ∀ n, farOf L x.k1 = some n → vAt (valsN L asg0 i) (x.kid 1) = n := by
      intro hk n hf
      obtain ⟨y, hy, hlt, h0, _, _⟩ := kid_in h hx hk
      have hk1 : x.kid 1 = x.k1 := rfl
      rw [vAt_ev h0 (by omega), evN_is hy]
      unfold farOf at hf
      rw [← hk1, hy] at hf
      simp only at hf
      split at hf
      · rename_i ho
        unfold oneN
        rw [if_pos ho]
        exact Option.some.inj hf
      · cases hf
    have wun := wd_un h hx
    have wbin := wd_bin h hx
    have wcmp := wd_cmp h hx
    have wcat := wd_cat h hx
    have wcut := wd_cut h hx
    have wwide := wd_wide h hx
    have wite := wd_ite h hx
    rw [kn_is hx, evN_is hx]
    unfold oneK oneN
    obtain ⟨o, w, k0, k1, k2, n, l⟩ := x
    have f0 : Nd.kid ⟨o, w, k0, k1, k2, n, l⟩ 0 = k0 := rfl
    have f1 : Nd.kid ⟨o, w, k0, k1, k2, n, l⟩ 1 = k1 := rfl
    have f2 : Nd.kid ⟨o, w, k0, k1, k2, n, l⟩ 2 = k2 := rfl
    have p0 := kid 0
    have p1 := kid 1
    have p2 := kid 2
    rw [f0] at p0
    rw [f1] at p1
    rw [f2] at p2
    rw [f1] at far
    simp only at *
    clear kid ih f0 f1 f2
    have le : ∀ {a b : Nat}, b ≤ 64 → a < 2 ^ b → a < 18446744073709551616 := fun hb ha => Nat.lt_of_lt_of_le ha (pow_le64 hb)
    have hcases : o = 1 ∨ o = 3 ∨ o = 5 ∨ o = 6 ∨ o = 7 ∨ o = 8 ∨ o = 9 ∨ o = 10 ∨ o = 15 ∨ o = 16 ∨ o = 17 ∨ o = 18 ∨ o = 21 ∨ o = 22 ∨ o = 23 ∨ o = 24 ∨ o = 25 ∨ (o = 2 ∨ o = 4 ∨ (11 ≤ o ∧ o ≤ 14) ∨ o = 19 ∨ o = 20) := by omega
    rcases hcases with rfl | rfl | rfl | rfl | rfl | rfl | rfl | rfl | rfl | rfl | rfl | rfl | rfl | rfl | rfl | rfl | rfl | hn
    · have hm := mayB_true (mayL_const h hx rfl)
      have := sure_low (w := w) (z := 18446744073709551615 - n) (o := n) (n := n) (fun b hb => ⟨fun hc => by rw [tb_not hok.n (by omega)] at hc; simpa using hc, fun hc => hc⟩)
      rw [low_same hm.2.2] at this
      rw [show (opK 1 w n l (widAt L k0) (widAt L k1) (kbAt (kvals L i) k0) (kbAt (kvals L i) k1) (kbAt (kvals L i) k2) (farOf L k1)) = (low w (18446744073709551615 - n), low w n) from rfl, low_same hm.2.2]
      exact this
    · obtain ⟨v0, e0, _, s0, b0⟩ := p0 (by decide)
      rw [e0]
      have hv : v0 < 18446744073709551616 := le hw.2 (by rw [← wun (.inl rfl)]; assumption)
      exact sure_low (fun b hb => ⟨fun hc => by show (18446744073709551615 - v0).testBit b = false; rw [tb_not hv (by omega), s0.2 b hc]; rfl, fun hc => by show (18446744073709551615 - v0).testBit b = true; rw [tb_not hv (by omega), s0.1 b hc]; rfl⟩)
    · obtain ⟨v0, e0, _, s0, b0⟩ := p0 (by decide)
      obtain ⟨v1, e1, _, s1, b1⟩ := p1 (by decide)
      rw [e0, e1]
      refine sure_low (fun b _ => ⟨fun hc => ?_, fun hc => ?_⟩)
      · show (v0 &&& v1).testBit b = false
        rw [Nat.testBit_or, Bool.or_eq_true] at hc
        rw [Nat.testBit_and, Bool.and_eq_false_iff]
        exact hc.imp (s0.1 b) (s1.1 b)
      · show (v0 &&& v1).testBit b = true
        rw [Nat.testBit_and, Bool.and_eq_true] at hc ⊢
        exact ⟨s0.2 b hc.1, s1.2 b hc.2⟩
    · obtain ⟨v0, e0, _, s0, b0⟩ := p0 (by decide)
      obtain ⟨v1, e1, _, s1, b1⟩ := p1 (by decide)
      rw [e0, e1]
      refine sure_low (fun b _ => ⟨fun hc => ?_, fun hc => ?_⟩)
      · show (v0 ||| v1).testBit b = false
        rw [Nat.testBit_and, Bool.and_eq_true] at hc
        rw [Nat.testBit_or, Bool.or_eq_false_iff]
        exact ⟨s0.1 b hc.1, s1.1 b hc.2⟩
      · show (v0 ||| v1).testBit b = true
        rw [Nat.testBit_or, Bool.or_eq_true] at hc ⊢
        exact hc.imp (s0.2 b) (s1.2 b)
    · obtain ⟨v0, e0, _, s0, b0⟩ := p0 (by decide)
      obtain ⟨v1, e1, _, s1, b1⟩ := p1 (by decide)
      rw [e0, e1]
      refine sure_low (fun b _ => ⟨fun hc => ?_, fun hc => ?_⟩)
      · show (v0 ^^^ v1).testBit b = false
        rw [Nat.testBit_or, Nat.testBit_and, Nat.testBit_and, Bool.or_eq_true, Bool.and_eq_true, Bool.and_eq_true] at hc
        rw [Nat.testBit_xor]
        rcases hc with c | c
        · rw [s0.1 b c.1, s1.1 b c.2]; rfl
        · rw [s0.2 b c.1, s1.2 b c.2]; rfl
      · show (v0 ^^^ v1).testBit b = true
        rw [Nat.testBit_or, Nat.testBit_and, Nat.testBit_and, Bool.or_eq_true, Bool.and_eq_true, Bool.and_eq_true] at hc
        rw [Nat.testBit_xor]
        rcases hc with c | c
        · rw [s0.1 b c.1, s1.2 b c.2]; rfl
        · rw [s0.2 b c.1, s1.1 b c.2]; rfl
    · obtain ⟨v0, e0, _, s0, b0⟩ := p0 (by decide)
      obtain ⟨v1, e1, _, s1, b1⟩ := p1 (by decide)
      rw [e0, e1]
      exact hs_add hw.2 (le (show widAt L k0 ≤ 64 by rw [(wbin (by omega)).1]; exact hw.2) b0.1) s0.1 s1.1
    · obtain ⟨v0, e0, _, s0, b0⟩ := p0 (by decide)
      obtain ⟨v1, e1, l1, s1, b1⟩ := p1 (by decide)
      rw [e0, e1]
      exact hs_sub hw.2 (le (show widAt L k0 ≤ 64 by rw [(wbin (by omega)).1]; exact hw.2) b0.1) (le (show widAt L k1 ≤ 64 by rw [(wbin (by omega)).2]; exact hw.2) l1) s0.1 s1.1
    · obtain ⟨v0, e0, _, s0, b0⟩ := p0 (by decide)
      obtain ⟨v1, e1, l1, s1, b1⟩ := p1 (by decide)
      rw [e0, e1]
      exact hs_mul hw.2 (le (show widAt L k0 ≤ 64 by rw [(wbin (by omega)).1]; exact hw.2) b0.1) (le (show widAt L k1 ≤ 64 by rw [(wbin (by omega)).2]; exact hw.2) b1.1) s0.1 s1.1
    · obtain ⟨v0, e0, l0, s0, b0⟩ := p0 (by decide)
      have ww := wbin (by omega)
      rw [ww.1] at l0 b0
      show Sure (farK 15 (widAt L k0) (kbAt (kvals L i) k0) (farOf L k1)) (low w (numB 15 (widAt L k0) (widAt L k1) (vAt (valsN L asg0 i) k0) (vAt (valsN L asg0 i) k1)))
      rw [ww.1, e0]
      cases hf : farOf L k1 with
      | none => exact sure_nil _
      | some m =>
        rw [far (by decide) m hf]
        exact sure_shl' hw.2 s0
    · obtain ⟨v0, e0, l0, s0, b0⟩ := p0 (by decide)
      have ww := wbin (by omega)
      rw [ww.1] at l0 b0
      show Sure (farK 16 (widAt L k0) (kbAt (kvals L i) k0) (farOf L k1)) (low w (numB 16 (widAt L k0) (widAt L k1) (vAt (valsN L asg0 i) k0) (vAt (valsN L asg0 i) k1)))
      rw [ww.1, e0]
      cases hf : farOf L k1 with
      | none => exact sure_nil _
      | some m =>
        rw [far (by decide) m hf]
        exact sure_lshr' hw.2 s0 b0 l0
    · obtain ⟨v0, e0, l0, s0, b0⟩ := p0 (by decide)
      have ww := wbin (by omega)
      rw [ww.1] at l0 b0
      show Sure (farK 17 (widAt L k0) (kbAt (kvals L i) k0) (farOf L k1)) (low w (numB 17 (widAt L k0) (widAt L k1) (vAt (valsN L asg0 i) k0) (vAt (valsN L asg0 i) k1)))
      rw [ww.1, e0]
      cases hf : farOf L k1 with
      | none => exact sure_nil _
      | some m =>
        rw [far (by decide) m hf]
        exact sure_ashr' hw.1 hw.2 s0 b0 l0
    · obtain ⟨v0, e0, l0, s0, b0⟩ := p0 (by decide)
      obtain ⟨v1, e1, l1, s1, b1⟩ := p1 (by decide)
      have ww := wcmp (by omega)
      rw [ww.2.1] at l1
      have R := hs_eq ww.2.2.2 s0 s1 l0 l1
      obtain rfl := ww.1
      rw [e0, e1]
      have e : low 1 (numB 18 (widAt L k0) (widAt L k1) v0 v1) = (v0 == v1).toNat := by
        show low 1 (v0 == v1).toNat = _
        cases (v0 == v1) <;> decide
      show Sure (eqK (widAt L k0) (kbAt (kvals L i) k0) (kbAt (kvals L i) k1)) (low 1 (numB 18 (widAt L k0) (widAt L k1) v0 v1))
      rw [e]
      exact R
    · obtain ⟨v0, e0, l0, s0, b0⟩ := p0 (by decide)
      obtain ⟨v1, e1, l1, s1, b1⟩ := p1 (by decide)
      have ww := wcat rfl
      rw [e0, e1]
      exact sure_concat' hw.2 (by omega) s0 s1 b1.1 l1
    · obtain ⟨v0, e0, l0, s0, b0⟩ := p0 (by decide)
      have ww := wcut rfl
      rw [e0]
      exact sure_extract' (by omega) s0
    · obtain ⟨v0, e0, l0, s0, b0⟩ := p0 (by decide)
      have ww := wwide (.inl rfl)
      rw [e0]
      exact hs_zext ww.2.1 ww.2.2 s0 l0
    · obtain ⟨v0, e0, l0, s0, b0⟩ := p0 (by decide)
      have ww := wwide (.inr rfl)
      rw [e0]
      exact hs_sext ww.1 ww.2.1 ww.2.2 s0 b0 l0
    · obtain ⟨v0, e0, l0, s0, b0⟩ := p0 (by decide)
      obtain ⟨v1, e1, l1, s1, b1⟩ := p1 (by decide)
      obtain ⟨v2, e2, l2, s2, b2⟩ := p2 (by decide)
      have ww := wite rfl
      rw [ww.1] at l0
      rw [ww.2.1] at l1
      rw [ww.2.2] at l2
      show Sure (iteK (widAt L k1) (kbAt (kvals L i) k0) (kbAt (kvals L i) k1) (kbAt (kvals L i) k2)) (if vAt (valsN L asg0 i) k0 = 1 then vAt (valsN L asg0 i) k1 else vAt (valsN L asg0 i) k2)
      rw [ww.2.1, e0, e1, e2]
      exact hs_ite (by simpa using l0) s0 s1 s2 l1 l2
    · have e : opK o w n l (widAt L k0) (widAt L k1) (kbAt (kvals L i) k0) (kbAt (kvals L i) k1) (kbAt (kvals L i) k2) (farOf L k1) = (0, 0) := by
        unfold opK
        rw [if_neg (by omega), if_neg (by omega), if_neg (by omega), if_neg (by omega), if_neg (by omega), if_neg (by omega), if_neg (by omega), if_neg (by omega), if_neg (by omega), if_neg (by omega), if_neg (by omega), if_neg (by omega), if_neg (by omega), if_neg (by omega)]
      rw [e]
      exact sure_nil _
end Kn
end Go.Proofs.Ytkiegiofholofaa
