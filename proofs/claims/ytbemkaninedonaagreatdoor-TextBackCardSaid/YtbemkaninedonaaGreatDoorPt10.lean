/-
Plain facts on long division, products by adding, and shifts bit by bit.
Plain facts on products by adding and shifts bit by bit.
What the reference's product by adding, and its shift bit by bit, return.
What the reference's shift bit by bit returns.
What the reference's shifts down return.
What the reference's order by worths returns.
What the reference's long division returns.
-/
import Derived.Test.YtbemkaninedonaaGreatDoorPt02
import Derived.Test.YtbemkaninedonaaGreatDoorPt09
import Derived.LoopTactic
import Derived.Deep.RegionHeld3
namespace Go.Proofs.YtbemkaninedonaaGreatDoor
open Go.RowKit
namespace Bv

def dq (n m k : Nat) : Nat := n / 2 ^ k / m * 2 ^ k
def dr (n m k : Nat) : Nat := n / 2 ^ k % m
theorem dq_start {n m : Nat} (hn : n < 18446744073709551616) : dq n m 64 = 0 := by
  have e : n / 2 ^ 64 = 0 := Nat.div_eq_of_lt (by simpa using hn)
  unfold dq; rw [e]; simp
theorem dr_start {n m : Nat} (hn : n < 18446744073709551616) : dr n m 64 = 0 := by
  have e : n / 2 ^ 64 = 0 := Nat.div_eq_of_lt (by simpa using hn)
  unfold dr; rw [e]; simp
theorem dq_end (n m : Nat) : dq n m 0 = n / m := by unfold dq; simp
theorem dr_end (n m : Nat) : dr n m 0 = n % m := by unfold dr; simp
theorem dr_lt (n : Nat) {m : Nat} (k : Nat) (h : 0 < m) : dr n m k < m := Nat.mod_lt _ h
/-- The bit that comes next. -/
def db (n j : Nat) : Nat := n / 2 ^ j % 2
theorem db_lt (n j : Nat) : db n j < 2 := Nat.mod_lt _ (by decide)
theorem pre_step (n j : Nat) : n / 2 ^ j = 2 * (n / 2 ^ (j + 1)) + db n j := by
  unfold db
  rw [Nat.pow_succ, ← Nat.div_div_eq_div_mul]
  omega
theorem dr_yes {n m j : Nat} (hm : 0 < m) (h : m ≤ 2 * dr n m (j + 1) + db n j) : dr n m j = 2 * dr n m (j + 1) + db n j - m ∧ n / 2 ^ j / m = 2 * (n / 2 ^ (j + 1) / m) + 1 := by
  have hp := pre_step n j
  have hb := db_lt n j
  have hr := dr_lt n (j + 1) hm
  unfold dr at *
  have e := Nat.div_add_mod (n / 2 ^ (j + 1)) m
  generalize n / 2 ^ (j + 1) = A at *
  generalize n / 2 ^ j = B at *
  generalize db n j = b at *
  generalize hq : A / m = q at *
  generalize A % m = r at *
  have e2 : B = (2 * q + 1) * m + (2 * r + b - m) := by
    rw [hp, ← e, Nat.add_mul, Nat.mul_assoc, Nat.mul_comm q m]; omega
  have hlt : 2 * r + b - m < m := by omega
  rw [e2]
  constructor
  · rw [Nat.add_comm, Nat.add_mul_mod_self_right, Nat.mod_eq_of_lt hlt]
  · rw [Nat.add_comm, Nat.add_mul_div_right _ _ hm, Nat.div_eq_of_lt hlt]; omega
theorem dr_no {n m j : Nat} (hm : 0 < m) (h : 2 * dr n m (j + 1) + db n j < m) : dr n m j = 2 * dr n m (j + 1) + db n j ∧ n / 2 ^ j / m = 2 * (n / 2 ^ (j + 1) / m) := by
  have hp := pre_step n j
  unfold dr at *
  have e := Nat.div_add_mod (n / 2 ^ (j + 1)) m
  generalize n / 2 ^ (j + 1) = A at *
  generalize n / 2 ^ j = B at *
  generalize db n j = b at *
  generalize hq : A / m = q at *
  generalize A % m = r at *
  have e2 : B = (2 * q) * m + (2 * r + b) := by
    rw [hp, ← e, Nat.mul_assoc, Nat.mul_comm q m]; omega
  rw [e2]
  constructor
  · rw [Nat.add_comm, Nat.add_mul_mod_self_right, Nat.mod_eq_of_lt h]
  · rw [Nat.add_comm, Nat.add_mul_div_right _ _ hm, Nat.div_eq_of_lt h]; omega
theorem dq_yes {n m j : Nat} (hm : 0 < m) (h : m ≤ 2 * dr n m (j + 1) + db n j) : dq n m j = dq n m (j + 1) + 2 ^ j := by
  have e := (dr_yes hm h).2
  unfold dq
  rw [e, Nat.pow_succ, Nat.add_mul, Nat.one_mul, Nat.mul_comm 2, Nat.mul_assoc, Nat.mul_comm 2]
theorem dq_no {n m j : Nat} (hm : 0 < m) (h : 2 * dr n m (j + 1) + db n j < m) : dq n m j = dq n m (j + 1) := by
  have e := (dr_no hm h).2
  unfold dq
  rw [e, Nat.pow_succ, Nat.mul_comm 2, Nat.mul_assoc, Nat.mul_comm 2]
theorem dq_le (n m k : Nat) : dq n m k ≤ n := by
  unfold dq
  exact Nat.le_trans (Nat.mul_le_mul_right _ (Nat.div_le_self _ _)) (Nat.div_mul_le_self n (2 ^ k))
theorem dq_or {n m j : Nat} : dq n m (j + 1) ||| 2 ^ j = dq n m (j + 1) + 2 ^ j := by
  unfold dq
  exact or_join (Nat.pow_lt_pow_right (by decide) (Nat.lt_succ_self j))

theorem and_bit {n j : Nat} (hn : n < 18446744073709551616) : bits BinOp.and IntKind.u64 ((n : Int) / 2 ^ j) 1 = (db n j : Int) := by
  have e : (n : Int) / 2 ^ j = ((n / 2 ^ j : Nat) : Int) := by simp
  rw [e, show (1 : Int) = ((1 : Nat) : Int) from rfl, bits_and_u64_nat _ 1 (Nat.lt_of_le_of_lt (Nat.div_le_self _ _) hn) (by decide), Nat.and_one_is_mod]
  rfl
theorem or_bit {n j x : Nat} (hn : n < 18446744073709551616) (hx : 2 * x < 18446744073709551616) : bits BinOp.or IntKind.u64 ((x : Int) * 2) (bits BinOp.and IntKind.u64 ((n : Int) / 2 ^ j) 1) = ((2 * x + db n j : Nat) : Int) := by
  have hb := db_lt n j
  rw [and_bit hn, show (x : Int) * 2 = ((x * 2 : Nat) : Int) by simp, bits_or_u64_nat _ _ (by omega) (by omega)]
  have := or_join (x := x) (m := db n j) (v := 1) (by simpa using hb)
  rw [Nat.pow_one] at this
  rw [this, Nat.mul_comm]
theorem or_bit' {n j x : Nat} (hn : n < 18446744073709551616) : bits BinOp.or IntKind.u64 (IntKind.u64.wrap ((x : Int) * 2)) (bits BinOp.and IntKind.u64 ((n : Int) / 2 ^ j) 1) = ((2 * x % 18446744073709551616 + db n j : Nat) : Int) := by
  have e : IntKind.u64.wrap ((x : Int) * 2) = ((x % 9223372036854775808 : Nat) : Int) * 2 := by rw [IntKind.wrap_u64]; omega
  rw [e, or_bit hn (by omega)]
  congr 2; omega
theorem or_pow {n m j : Nat} (hn : n < 18446744073709551616) (hj : j < 64) : bits BinOp.or IntKind.u64 ((dq n m (j + 1) : Nat) : Int) (IntKind.u64.wrap (2 ^ j)) = ((dq n m (j + 1) + 2 ^ j : Nat) : Int) := by
  have hpow : 2 ^ j < 18446744073709551616 := by
    have := Nat.pow_lt_pow_right (a := 2) (by omega) hj
    simpa using this
  have e : ((2 : Int) ^ j) = ((2 ^ j : Nat) : Int) := by simp
  have e2 : IntKind.u64.wrap ((2 : Int) ^ j) = ((2 ^ j : Nat) : Int) := by
    rw [e, IntKind.wrap_u64]; clear e; generalize 2 ^ j = b at *; omega
  rw [e2, bits_or_u64_nat _ _ (Nat.lt_of_le_of_lt (dq_le n m _) hn) hpow, dq_or]
end Bv
end Go.Proofs.YtbemkaninedonaaGreatDoor

namespace Go.Proofs.YtbemkaninedonaaGreatDoor
open Go.RowKit
namespace Bv

/-- The product with the k lowest bits of m. -/
def tm (n m k : Nat) : Nat := n * (m % 2 ^ k) % 18446744073709551616
theorem tm_start (n m : Nat) : tm n m 0 = 0 := by unfold tm; simp [Nat.mod_one]
theorem tm_lt (n m k : Nat) : tm n m k < 18446744073709551616 := Nat.mod_lt _ (by decide)
theorem mod_step (m k : Nat) : m % 2 ^ (k + 1) = m % 2 ^ k + (m.testBit k).toNat * 2 ^ k := by
  rw [Nat.mod_pow_succ, Nat.testBit_eq_decide_div_mod_eq]
  rcases Nat.mod_two_eq_zero_or_one (m / 2 ^ k) with h | h <;> simp [h]
theorem tm_no {n m k : Nat} (h : m.testBit k = false) : tm n m (k + 1) = tm n m k := by unfold tm; rw [mod_step, h]; simp
theorem tm_yes {n m k : Nat} (h : m.testBit k = true) : IntKind.u64.wrap ((tm n m k : Nat) + IntKind.u64.wrap ((n : Int) * 2 ^ k)) = (tm n m (k + 1) : Nat) := by
  have e : ((2 : Int) ^ k) = ((2 ^ k : Nat) : Int) := by simp
  unfold tm
  rw [mod_step, h, Bool.toNat_true, Nat.one_mul, Nat.mul_add, e, ← Int.natCast_mul, IntKind.wrap_u64, IntKind.wrap_u64]
  generalize n * (m % 2 ^ k) = p
  generalize n * 2 ^ k = q
  omega
theorem tm_end {n m w : Nat} (hm : m < 2 ^ w) (h2 : w ≤ 64) : low w (tm n m w) = low w (n * m) := by
  unfold tm; rw [low_mod64 _ h2, Nat.mod_eq_of_lt hm]

/-- The k lowest bits of T. -/
def sh (T k : Nat) : Nat := T % 2 ^ k
theorem sh_start (T : Nat) : sh T 0 = 0 := by unfold sh; simp [Nat.mod_one]
theorem sh_lt (T : Nat) {k : Nat} (hk : k ≤ 64) : sh T k < 18446744073709551616 := Nat.lt_of_lt_of_le (Nat.mod_lt _ (pow_pos' k)) (pow_le64 hk)
theorem sh_no {T k : Nat} (h : T.testBit k = false) : sh T (k + 1) = sh T k := by unfold sh; rw [mod_step, h]; simp
theorem sh_yes {T k : Nat} (hk : k < 64) (h : T.testBit k = true) : bits BinOp.or IntKind.u64 ((sh T k : Nat) : Int) (IntKind.u64.wrap (2 ^ k)) = (sh T (k + 1) : Nat) := by
  have hpow : 2 ^ k < 18446744073709551616 := by
    have := Nat.pow_lt_pow_right (a := 2) (by omega) hk
    simpa using this
  have e : ((2 : Int) ^ k) = ((2 ^ k : Nat) : Int) := by simp
  have e2 : IntKind.u64.wrap ((2 : Int) ^ k) = ((2 ^ k : Nat) : Int) := by
    rw [e, IntKind.wrap_u64]; clear e; generalize 2 ^ k = b at *; omega
  rw [e2, bits_or_u64_nat _ _ (sh_lt T (by omega)) hpow]
  have hl : sh T k < 2 ^ k := Nat.mod_lt _ (pow_pos' k)
  have := or_join (x := 1) hl
  rw [Nat.one_mul] at this
  rw [Nat.or_comm, this]
  unfold sh
  rw [mod_step, h]; simp; omega
theorem sh_end {T w : Nat} (h : T < 2 ^ w) : sh T w = T := Nat.mod_eq_of_lt h
end Bv
end Go.Proofs.YtbemkaninedonaaGreatDoor

namespace Go.Proofs.YtbemkaninedonaaGreatDoor
open Go.RowKit
namespace Bv
set_option maxHeartbeats 1000000
set_option maxRecDepth 100000

/-- Block p may be written. -/
def Fz (w : World) (p : Nat) : Prop := w.frozen? ⟨p, 0, none⟩ = false ∧ w.frozen? ⟨p, 1, none⟩ = false
theorem Fz.keep {w w' : World} {p : Nat} (h : Fz w p) (hl : p < w.heap.size) (hb : Below w.heap.size w w') : Fz w' p :=
  ⟨(hb.frozen (p := ⟨p, 0, none⟩) hl).trans h.1, (hb.frozen (p := ⟨p, 1, none⟩) hl).trans h.2⟩

theorem rbit_is {w n : Nat} (hn : n < 18446744073709551616) {i : Int} (hi : 0 ≤ i) (hi2 : i < 9223372036854775808) {b : Bool} (hb : n.testBit i.toNat = b) (W : World) :
    Calls Tryz.prog 75 #[.agg #[.int .u8 w, .int .u64 n], .int .i64 i] W fun e W' => e = .returned (.bool b) ∧ Below W.heap.size W W' := by
  have := rbit_any w n hn i hi hi2 W; rw [hb] at this; exact this

theorem rtimes_any (w n v m : Nat) (hw : w ≤ 64) (hm : m < 18446744073709551616) (W : World) :
    Calls Tryz.prog 58 #[.agg #[.int .u8 w, .int .u64 n], .agg #[.int .u8 v, .int .u64 m]] W fun e W' => e = .returned (.agg #[.int .u8 w, .int .u64 (low w (tm n m w) : Nat)]) ∧ Below W.heap.size W W' := by
  go_enter Tryz.func58, Tryz.ntmps58
  go_wp2
  go_loopw [5, 6] (fun acc i wr => ∃ k : Nat, k ≤ w ∧ i = .int .i64 k ∧ acc = .int .u64 (tm n m k : Nat) ∧ Below W.heap.size W wr ∧ At wr W.heap.size (.int .u8 w) (.int .u64 n) ∧ At wr (W.heap.size + 1) (.int .u8 v) (.int .u64 m) ∧ At wr (W.heap.size + 1 + 1) (.int .u8 0) (.int .u64 0) ∧ Fz wr (W.heap.size + 1 + 1)) (fun _ i _ => w - (intOf i).toNat)
  case atStart =>
    refine ⟨0, by omega, rfl, by rw [tm_start]; rfl, bel_alloc (bel_alloc (bel_alloc (Below.refl _ _) _) _) _, ?_, ?_, ?_, ?_⟩
    all_goals constructor <;> simp [go_sem]
  case round =>
    obtain ⟨k, hk, rfl, rfl, hbel, ka, kb, kr, fr⟩ := hrel
    have la := ka.lt
    have lb := kb.lt
    have lr := kr.lt
    have oa := ka
    have ob := kb
    have or_ := kr
    have of_ := fr
    unfold At at oa ob or_
    unfold Fz at of_
    by_cases hlt : k < w
    · cases hbit : m.testBit k
      · have HB := Lib.hid hbit
        clear hbit
        go_wp2_with (first | (go_at_call 75; refine (rbit_is (b := false) hm (by omega) (by omega) (by simpa using HB.out) _).mono ?_; rintro e w1 ⟨rfl, hb1⟩))
        refine ⟨⟨k + 1, by omega, by go_num, by rw [tm_no HB.out], bel_call hbel hb1, ka.keep hb1, kb.keep hb1, kr.keep hb1, fr.keep lr hb1⟩, by simp [intOf]; omega⟩
      · have HB := Lib.hid hbit
        clear hbit
        go_wp2_with (first | (go_at_call 75; refine (rbit_is (b := true) hm (by omega) (by omega) (by simpa using HB.out) _).mono ?_; rintro e w1 ⟨rfl, hb1⟩; have ga := ka.keep hb1; unfold At at ga))
        refine ⟨⟨k + 1, by omega, by go_num, by rw [tm_yes HB.out], bel_call hbel hb1, ka.keep hb1, kb.keep hb1, kr.keep hb1, fr.keep lr hb1⟩, by simp [intOf]; omega⟩
    · obtain rfl : k = w := by omega
      go_wp2_with (first | (go_at_call 55; refine (rcut_any k hw _ (by omega) (by have := tm_lt n m k; omega) _).mono ?_; rintro e w1 ⟨rfl, hb1⟩; have gr := kr.keep hb1; have lr1 := gr.lt; have gf := fr.keep lr hb1; unfold At at gr; unfold Fz at gf))
      refine bodyPost_ret (v := .agg #[.int .u8 k, .int .u64 (low k (tm n m k) : Nat)]) (by simp [results, Tryz.results58, go_sem, gr]) rfl ⟨rfl, ?_⟩
      exact ((bel_call hbel hb1).setCell (by simp; omega) _).setCell (by simp; omega) _
end Bv
end Go.Proofs.YtbemkaninedonaaGreatDoor

namespace Go.Proofs.YtbemkaninedonaaGreatDoor
open Go.RowKit
namespace Bv
set_option maxHeartbeats 1000000
set_option maxRecDepth 100000

theorem rbit_at {w n : Nat} (hn : n < 18446744073709551616) {i : Int} (j : Nat) (hij : i = (j : Int)) (hj : j < 128) {b : Bool} (hb : n.testBit j = b) (W : World) :
    Calls Tryz.prog 75 #[.agg #[.int .u8 w, .int .u64 n], .int .i64 i] W fun e W' => e = .returned (.bool b) ∧ Below W.heap.size W W' := by
  subst hij
  exact rbit_is hn (by omega) (by omega) (by simpa using hb) W

theorem rshift_15 (w n v m T : Nat) (hw : w ≤ 64) (hn : n < 18446744073709551616) (hm : m < 18446744073709551616) (hT : Hid (∀ k, k < w → T.testBit k = (decide (m ≤ k) && n.testBit (k - m)))) (W : World) :
    Calls Tryz.prog 61 #[.int .u8 15, .agg #[.int .u8 w, .int .u64 n], .agg #[.int .u8 v, .int .u64 m]] W fun e W' => e = .returned (.agg #[.int .u8 w, .int .u64 (low w (sh T w) : Nat)]) ∧ Below W.heap.size W W' := by
  go_enter Tryz.func61, Tryz.ntmps61
  go_wp2
  go_loopw [7, 9] (fun acc i wr => ∃ k : Nat, k ≤ w ∧ i = .int .i64 k ∧ acc = .int .u64 (sh T k : Nat) ∧ Below W.heap.size W wr ∧ At wr W.heap.size (.int .u8 w) (.int .u64 n) ∧ At wr (W.heap.size + 1) (.int .u8 v) (.int .u64 m) ∧ At wr (W.heap.size + 1 + 1) (.int .u8 0) (.int .u64 0) ∧ Fz wr (W.heap.size + 1 + 1)) (fun _ i _ => w - (intOf i).toNat)
  case atStart =>
    refine ⟨0, by omega, rfl, by rw [sh_start]; rfl, bel_alloc (bel_alloc (bel_alloc (Below.refl _ _) _) _) _, ?_, ?_, ?_, ?_⟩
    all_goals constructor <;> simp [go_sem]
  case round =>
    obtain ⟨k, hk, rfl, rfl, hbel, ka, kb, kr, fr⟩ := hrel
    have la := ka.lt
    have lb := kb.lt
    have lr := kr.lt
    have oa := ka
    have ob := kb
    have or_ := kr
    have of_ := fr
    unfold At at oa ob or_
    unfold Fz at of_
    by_cases hlt : k < w
    · by_cases hmk : m ≤ k
      · cases hbit : n.testBit (k - m)
        · have HT : Hid (T.testBit k = false) := Lib.hid (by rw [hT.out k hlt, hbit]; simp)
          have HB := Lib.hid hbit
          clear hbit
          go_wp2_with (first | (go_at_call 75; refine (rbit_at (b := false) hn (k - m) (by omega) (by omega) HB.out _).mono ?_; rintro e w1 ⟨rfl, hb1⟩; have ga := ka.keep hb1; have gb := kb.keep hb1; unfold At at ga gb))
          exact ⟨⟨k + 1, by omega, by go_num, by rw [sh_no HT.out], bel_call hbel hb1, ka.keep hb1, kb.keep hb1, kr.keep hb1, fr.keep lr hb1⟩, by simp [intOf]; omega⟩
        · have HT : Hid (T.testBit k = true) := Lib.hid (by rw [hT.out k hlt, hbit]; simp [hmk])
          have HB := Lib.hid hbit
          clear hbit
          go_wp2_with (first | (go_at_call 75; refine (rbit_at (b := true) hn (k - m) (by omega) (by omega) HB.out _).mono ?_; rintro e w1 ⟨rfl, hb1⟩; have ga := ka.keep hb1; have gb := kb.keep hb1; unfold At at ga gb))
          exact ⟨⟨k + 1, by omega, by go_num, by rw [sh_yes (by omega) HT.out], bel_call hbel hb1, ka.keep hb1, kb.keep hb1, kr.keep hb1, fr.keep lr hb1⟩, by simp [intOf]; omega⟩
      · have HT : Hid (T.testBit k = false) := Lib.hid (by rw [hT.out k hlt]; simp [hmk])
        go_wp2_with fail
        exact ⟨⟨k + 1, by omega, by go_num, by rw [sh_no HT.out], hbel, ka, kb, kr, fr⟩, by simp [intOf]; omega⟩
    · obtain rfl : k = w := by omega
      go_wp2_with (first | (go_at_call 55; refine (rcut_any k hw _ (by omega) (by have := sh_lt T hw; omega) _).mono ?_; rintro e w1 ⟨rfl, hb1⟩; have gr := kr.keep hb1; have lr1 := gr.lt; have gf := fr.keep lr hb1; unfold At at gr; unfold Fz at gf))
      refine bodyPost_ret (v := .agg #[.int .u8 k, .int .u64 (low k (sh T k) : Nat)]) (by simp [results, Tryz.results61, go_sem, gr]) rfl ⟨rfl, ?_⟩
      exact ((bel_call hbel hb1).setCell (by simp; omega) _).setCell (by simp; omega) _

end Bv
end Go.Proofs.YtbemkaninedonaaGreatDoor

namespace Go.Proofs.YtbemkaninedonaaGreatDoor
open Go.RowKit
namespace Bv
set_option maxHeartbeats 1000000
set_option maxRecDepth 100000

theorem rshift_16 (w n v m T : Nat) (hw : w ≤ 64) (hn : n < 18446744073709551616) (hm : m < 18446744073709551616) (hT : Hid (∀ k, k < w → T.testBit k = (decide (m < w ∧ k + m < w) && n.testBit (k + m)))) (W : World) :
    Calls Tryz.prog 61 #[.int .u8 16, .agg #[.int .u8 w, .int .u64 n], .agg #[.int .u8 v, .int .u64 m]] W fun e W' => e = .returned (.agg #[.int .u8 w, .int .u64 (low w (sh T w) : Nat)]) ∧ Below W.heap.size W W' := by
  go_enter Tryz.func61, Tryz.ntmps61
  go_wp2
  go_loopw [7, 9] (fun acc i wr => ∃ k : Nat, k ≤ w ∧ i = .int .i64 k ∧ acc = .int .u64 (sh T k : Nat) ∧ Below W.heap.size W wr ∧ At wr W.heap.size (.int .u8 w) (.int .u64 n) ∧ At wr (W.heap.size + 1) (.int .u8 v) (.int .u64 m) ∧ At wr (W.heap.size + 1 + 1) (.int .u8 0) (.int .u64 0) ∧ Fz wr (W.heap.size + 1 + 1)) (fun _ i _ => w - (intOf i).toNat)
  case atStart =>
    refine ⟨0, by omega, rfl, by rw [sh_start]; rfl, bel_alloc (bel_alloc (bel_alloc (Below.refl _ _) _) _) _, ?_, ?_, ?_, ?_⟩
    all_goals constructor <;> simp [go_sem]
  case round =>
    obtain ⟨k, hk, rfl, rfl, hbel, ka, kb, kr, fr⟩ := hrel
    have la := ka.lt
    have lb := kb.lt
    have lr := kr.lt
    have oa := ka
    have ob := kb
    have or_ := kr
    have of_ := fr
    unfold At at oa ob or_
    unfold Fz at of_
    by_cases hlt : k < w
    · by_cases hin : m < w ∧ k + m < w
      · obtain ⟨hi1, hi2⟩ := hin
        cases hbit : n.testBit (k + m)
        · have HT : Hid (T.testBit k = false) := Lib.hid (by rw [hT.out k hlt, hbit]; simp)
          have HB := Lib.hid hbit
          clear hbit
          go_wp2_with (first | (go_at_call 75; refine (rbit_at (b := false) hn (k + m) (by omega) (by omega) HB.out _).mono ?_; rintro e w1 ⟨rfl, hb1⟩; have ga := ka.keep hb1; have gb := kb.keep hb1; unfold At at ga gb))
          exact ⟨⟨k + 1, by omega, by go_num, by rw [sh_no HT.out], bel_call hbel hb1, ka.keep hb1, kb.keep hb1, kr.keep hb1, fr.keep lr hb1⟩, by simp [intOf]; omega⟩
        · have HT : Hid (T.testBit k = true) := Lib.hid (by rw [hT.out k hlt, hbit]; simp [hi1, hi2])
          have HB := Lib.hid hbit
          clear hbit
          go_wp2_with (first | (go_at_call 75; refine (rbit_at (b := true) hn (k + m) (by omega) (by omega) HB.out _).mono ?_; rintro e w1 ⟨rfl, hb1⟩; have ga := ka.keep hb1; have gb := kb.keep hb1; unfold At at ga gb))
          exact ⟨⟨k + 1, by omega, by go_num, by rw [sh_yes (by omega) HT.out], bel_call hbel hb1, ka.keep hb1, kb.keep hb1, kr.keep hb1, fr.keep lr hb1⟩, by simp [intOf]; omega⟩
      · have HT : Hid (T.testBit k = false) := Lib.hid (by rw [hT.out k hlt]; simp [hin])
        by_cases hi1 : m < w
        · have hi2 : ¬ k + m < w := fun h => hin ⟨hi1, h⟩
          clear hin
          go_wp2_with fail
          exact ⟨⟨k + 1, by omega, by go_num, by rw [sh_no HT.out], hbel, ka, kb, kr, fr⟩, by simp [intOf]; omega⟩
        · clear hin
          go_wp2_with fail
          exact ⟨⟨k + 1, by omega, by go_num, by rw [sh_no HT.out], hbel, ka, kb, kr, fr⟩, by simp [intOf]; omega⟩
    · obtain rfl : k = w := by omega
      go_wp2_with (first | (go_at_call 55; refine (rcut_any k hw _ (by omega) (by have := sh_lt T hw; omega) _).mono ?_; rintro e w1 ⟨rfl, hb1⟩; have gr := kr.keep hb1; have lr1 := gr.lt; have gf := fr.keep lr hb1; unfold At at gr; unfold Fz at gf))
      refine bodyPost_ret (v := .agg #[.int .u8 k, .int .u64 (low k (sh T k) : Nat)]) (by simp [results, Tryz.results61, go_sem, gr]) rfl ⟨rfl, ?_⟩
      exact ((bel_call hbel hb1).setCell (by simp; omega) _).setCell (by simp; omega) _

theorem rshift_17 (w n v m T : Nat) (hw : w ≤ 64) (hn : n < 18446744073709551616) (hm : m < 18446744073709551616) (s : Bool) (HS : Hid (∀ W : World, Calls Tryz.prog 74 #[.agg #[.int .u8 w, .int .u64 n]] W fun e W' => e = .returned (.bool s) ∧ Below W.heap.size W W'))
    (hT : Hid (∀ k, k < w → T.testBit k = if m < w ∧ k + m < w then n.testBit (k + m) else s)) (W : World) :
    Calls Tryz.prog 61 #[.int .u8 17, .agg #[.int .u8 w, .int .u64 n], .agg #[.int .u8 v, .int .u64 m]] W fun e W' => e = .returned (.agg #[.int .u8 w, .int .u64 (low w (sh T w) : Nat)]) ∧ Below W.heap.size W W' := by
  go_enter Tryz.func61, Tryz.ntmps61
  go_wp2
  go_loopw [7, 9] (fun acc i wr => ∃ k : Nat, k ≤ w ∧ i = .int .i64 k ∧ acc = .int .u64 (sh T k : Nat) ∧ Below W.heap.size W wr ∧ At wr W.heap.size (.int .u8 w) (.int .u64 n) ∧ At wr (W.heap.size + 1) (.int .u8 v) (.int .u64 m) ∧ At wr (W.heap.size + 1 + 1) (.int .u8 0) (.int .u64 0) ∧ Fz wr (W.heap.size + 1 + 1)) (fun _ i _ => w - (intOf i).toNat)
  case atStart =>
    refine ⟨0, by omega, rfl, by rw [sh_start]; rfl, bel_alloc (bel_alloc (bel_alloc (Below.refl _ _) _) _) _, ?_, ?_, ?_, ?_⟩
    all_goals constructor <;> simp [go_sem]
  case round =>
    obtain ⟨k, hk, rfl, rfl, hbel, ka, kb, kr, fr⟩ := hrel
    have la := ka.lt
    have lb := kb.lt
    have lr := kr.lt
    have oa := ka
    have ob := kb
    have or_ := kr
    have of_ := fr
    unfold At at oa ob or_
    unfold Fz at of_
    by_cases hlt : k < w
    · by_cases hin : m < w ∧ k + m < w
      · obtain ⟨hi1, hi2⟩ := hin
        cases hbit : n.testBit (k + m)
        · have HT : Hid (T.testBit k = false) := Lib.hid (by rw [hT.out k hlt, hbit]; simp [hi1, hi2])
          have HB := Lib.hid hbit
          clear hbit
          go_wp2_with (first | (go_at_call 75; refine (rbit_at (b := false) hn (k + m) (by omega) (by omega) HB.out _).mono ?_; rintro e w1 ⟨rfl, hb1⟩; have ga := ka.keep hb1; have gb := kb.keep hb1; unfold At at ga gb))
          exact ⟨⟨k + 1, by omega, by go_num, by rw [sh_no HT.out], bel_call hbel hb1, ka.keep hb1, kb.keep hb1, kr.keep hb1, fr.keep lr hb1⟩, by simp [intOf]; omega⟩
        · have HT : Hid (T.testBit k = true) := Lib.hid (by rw [hT.out k hlt, hbit]; simp [hi1, hi2])
          have HB := Lib.hid hbit
          clear hbit
          go_wp2_with (first | (go_at_call 75; refine (rbit_at (b := true) hn (k + m) (by omega) (by omega) HB.out _).mono ?_; rintro e w1 ⟨rfl, hb1⟩; have ga := ka.keep hb1; have gb := kb.keep hb1; unfold At at ga gb))
          exact ⟨⟨k + 1, by omega, by go_num, by rw [sh_yes (by omega) HT.out], bel_call hbel hb1, ka.keep hb1, kb.keep hb1, kr.keep hb1, fr.keep lr hb1⟩, by simp [intOf]; omega⟩
      · have HX := Lib.hid (hT.out k hlt)
        rw [show (T.testBit k = if m < w ∧ k + m < w then n.testBit (k + m) else s) = (T.testBit k = s) by rw [if_neg hin]] at HX
        by_cases hi1 : m < w
        · have hi2 : ¬ k + m < w := fun h => hin ⟨hi1, h⟩
          clear hin
          cases s
          · have HT := HX
            clear HX
            go_wp2_with (first | (go_at_call 74; refine (HS.out _).mono ?_; rintro e w1 ⟨rfl, hb1⟩; have ga := ka.keep hb1; have gb := kb.keep hb1; unfold At at ga gb))
            exact ⟨⟨k + 1, by omega, by go_num, by rw [sh_no HT.out], bel_call hbel hb1, ka.keep hb1, kb.keep hb1, kr.keep hb1, fr.keep lr hb1⟩, by simp [intOf]; omega⟩
          · have HT := HX
            clear HX
            go_wp2_with (first | (go_at_call 74; refine (HS.out _).mono ?_; rintro e w1 ⟨rfl, hb1⟩; have ga := ka.keep hb1; have gb := kb.keep hb1; unfold At at ga gb))
            exact ⟨⟨k + 1, by omega, by go_num, by rw [sh_yes (by omega) HT.out], bel_call hbel hb1, ka.keep hb1, kb.keep hb1, kr.keep hb1, fr.keep lr hb1⟩, by simp [intOf]; omega⟩
        · clear hin
          cases s
          · have HT := HX
            clear HX
            go_wp2_with (first | (go_at_call 74; refine (HS.out _).mono ?_; rintro e w1 ⟨rfl, hb1⟩; have ga := ka.keep hb1; have gb := kb.keep hb1; unfold At at ga gb))
            exact ⟨⟨k + 1, by omega, by go_num, by rw [sh_no HT.out], bel_call hbel hb1, ka.keep hb1, kb.keep hb1, kr.keep hb1, fr.keep lr hb1⟩, by simp [intOf]; omega⟩
          · have HT := HX
            clear HX
            go_wp2_with (first | (go_at_call 74; refine (HS.out _).mono ?_; rintro e w1 ⟨rfl, hb1⟩; have ga := ka.keep hb1; have gb := kb.keep hb1; unfold At at ga gb))
            exact ⟨⟨k + 1, by omega, by go_num, by rw [sh_yes (by omega) HT.out], bel_call hbel hb1, ka.keep hb1, kb.keep hb1, kr.keep hb1, fr.keep lr hb1⟩, by simp [intOf]; omega⟩
    · obtain rfl : k = w := by omega
      go_wp2_with (first | (go_at_call 55; refine (rcut_any k hw _ (by omega) (by have := sh_lt T hw; omega) _).mono ?_; rintro e w1 ⟨rfl, hb1⟩; have gr := kr.keep hb1; have lr1 := gr.lt; have gf := fr.keep lr hb1; unfold At at gr; unfold Fz at gf))
      refine bodyPost_ret (v := .agg #[.int .u8 k, .int .u64 (low k (sh T k) : Nat)]) (by simp [results, Tryz.results61, go_sem, gr]) rfl ⟨rfl, ?_⟩
      exact ((bel_call hbel hb1).setCell (by simp; omega) _).setCell (by simp; omega) _

end Bv
end Go.Proofs.YtbemkaninedonaaGreatDoor

namespace Go.Proofs.YtbemkaninedonaaGreatDoor
open Go.RowKit
namespace Bv
set_option maxHeartbeats 1000000
set_option maxRecDepth 100000

theorem rless_any (w n v m : Nat) (s t : Bool) (HS : Hid (∀ W : World, Calls Tryz.prog 74 #[.agg #[.int .u8 w, .int .u64 n]] W fun e W' => e = .returned (.bool s) ∧ Below W.heap.size W W'))
    (HT : Hid (∀ W : World, Calls Tryz.prog 74 #[.agg #[.int .u8 v, .int .u64 m]] W fun e W' => e = .returned (.bool t) ∧ Below W.heap.size W W')) (W : World) :
    Calls Tryz.prog 63 #[.agg #[.int .u8 w, .int .u64 n], .agg #[.int .u8 v, .int .u64 m]] W fun e W' => e = .returned (.bool (if s = t then decide (n < m) else s)) ∧ Below W.heap.size W W' := by
  have ka0 : At ((W.alloc (.cells #[.int .u8 w, .int .u64 n] 77)).alloc (.cells #[.int .u8 v, .int .u64 m] 77)) W.heap.size (.int .u8 w) (.int .u64 n) := (At.new _ _ _ _).alloc _
  have kb0 : At ((W.alloc (.cells #[.int .u8 w, .int .u64 n] 77)).alloc (.cells #[.int .u8 v, .int .u64 m] 77)) (W.heap.size + 1) (.int .u8 v) (.int .u64 m) := by
    have h0 := At.new (W.alloc (.cells #[.int .u8 w, .int .u64 n] 77)) (.int .u8 v) (.int .u64 m) 77
    simpa using h0
  have KA := Lib.hid ka0
  have KB := Lib.hid kb0
  clear ka0 kb0
  cases s <;> cases t
  all_goals
    go_enter Tryz.func63, Tryz.ntmps63
    go_wp2_with fail
    go_region_held3 (fun w' => w'.cell? ⟨W.heap.size, 0, none⟩ = some (.int .u8 w) ∧ w'.cell? ⟨W.heap.size, 1, none⟩ = some (.int .u64 n) ∧ w'.cell? ⟨W.heap.size + 1, 0, none⟩ = some (.int .u8 v) ∧ w'.cell? ⟨W.heap.size + 1, 1, none⟩ = some (.int .u64 m))
      (first | exact ⟨KA.out.drew.1, KA.out.drew.2, KB.out.drew.1, KB.out.drew.2⟩ | ((try dsimp only); (try go_split_ands); refine ⟨?_, ?_, ?_, ?_⟩ <;> (rw [(bcell hb).1 _ _ (by first | (simp; done) | (simp; omega) | omega)]; first | assumption | (simp [go_sem]; done))))
      (first | (go_at_call 74; (first | (with_reducible refine (HS.out _).mono ?_) | (with_reducible refine (HT.out _).mono ?_)); rintro e w1 ⟨rfl, hb⟩; have hz : W.heap.size + 1 < w1.heap.size := by have := hb.size; (try simp at this); omega))
    all_goals
      have ka : At w1 W.heap.size (.int .u8 w) (.int .u64 n) := by (try go_split_ands); constructor <;> assumption
      have hbel : Below W.heap.size W w1 := by
        refine bel_call ?_ hb
        refine bel_call ?_ (by assumption)
        exact (bel_alloc (bel_alloc (Below.refl _ _) _) _).drew
      go_wp2_with (first | (go_at_call 74; refine (HS.out _).mono ?_; rintro e w2 ⟨rfl, hb2⟩; have hbel2 := bel_call hbel hb2))
      go_ret
      first | exact ⟨ret_bool (by simp), hbel⟩ | exact ⟨ret_bool (by simp), hbel2⟩
end Bv
end Go.Proofs.YtbemkaninedonaaGreatDoor

namespace Go.Proofs.YtbemkaninedonaaGreatDoor
open Go.RowKit
namespace Bv
set_option maxHeartbeats 400000

theorem rdivide_any (n m : Nat) (hn : n < 18446744073709551616) (hm : m < 18446744073709551616) (hm0 : 0 < m) (W : World) :
    Calls Tryz.prog 59 #[.int .u64 n, .int .u64 m] W fun e W' => e = .returned (.tuple #[.int .u64 (dq n m 0 : Nat), .int .u64 (dr n m 0 : Nat)]) ∧ W = W' := by
  go_enter Tryz.func59, Tryz.ntmps59
  go_wp2
  go_loop [6, 7, 8] (fun q r i => ∃ k : Nat, k ≤ 64 ∧ i = .int .i64 ((k : Int) - 1) ∧ q = .int .u64 (dq n m k : Nat) ∧ r = .int .u64 (dr n m k : Nat)) (fun _ _ i => (intOf i + 1).toNat)
  case atStart => exact ⟨64, by omega, rfl, by rw [dq_start hn]; rfl, by rw [dr_start hn]; rfl⟩
  case round =>
    obtain ⟨k, hk, rfl, rfl, rfl⟩ := hrel
    rcases Nat.eq_zero_or_pos k with rfl | hk0
    · go_wp2
      go_ret2
      exact ⟨rfl, rfl⟩
    · obtain ⟨j, rfl⟩ : ∃ j, k = j + 1 := ⟨k - 1, by omega⟩
      have hr := dr_lt n (j + 1) hm0
      go_wp2
      · rename_i ht hc
        have ht' : dr n m (j + 1) < 9223372036854775808 := by omega
        rw [or_bit hn (by omega)] at hc
        have hc' : m ≤ 2 * dr n m (j + 1) + db n j := by omega
        have hb := db_lt n j
        refine ⟨⟨j, by omega, rfl, by rw [or_pow hn (by omega), ← dq_yes hm0 hc'], ?_⟩, by simp [intOf]⟩
        rw [or_bit hn (by omega), (dr_yes hm0 hc').1, IntKind.wrap_u64]
        congr 1; omega
      · rename_i ht hc
        have ht' : dr n m (j + 1) < 9223372036854775808 := by omega
        rw [or_bit hn (by omega)] at hc
        have hc' : 2 * dr n m (j + 1) + db n j < m := by omega
        refine ⟨⟨j, by omega, rfl, by rw [← dq_no hm0 hc'], ?_⟩, by simp [intOf]⟩
        rw [or_bit' hn, (dr_no hm0 hc').1, Nat.mod_eq_of_lt (by omega)]
      · rename_i ht
        have ht' : 9223372036854775808 ≤ dr n m (j + 1) := by omega
        have hc' : m ≤ 2 * dr n m (j + 1) + db n j := by omega
        have hb := db_lt n j
        refine ⟨⟨j, by omega, rfl, by rw [or_pow hn (by omega), ← dq_yes hm0 hc'], ?_⟩, by simp [intOf]⟩
        rw [or_bit' hn, (dr_yes hm0 hc').1, IntKind.wrap_u64]
        congr 1; omega
end Bv
end Go.Proofs.YtbemkaninedonaaGreatDoor
