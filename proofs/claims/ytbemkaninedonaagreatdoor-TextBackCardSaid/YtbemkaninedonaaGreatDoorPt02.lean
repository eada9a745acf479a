/-
Numbers in tens, there and back: what is put is read as the same number, what is read is put as the same text.
Plain facts that the statement on what fits together needs.
Plain facts that the statement on quotients and rests needs.
Plain facts for layer eval: what a node is under an assignment.
-/
import Derived.Test.YtbemkaninedonaaGreatDoorPt01
namespace Go.Proofs.YtbemkaninedonaaGreatDoor
open Bv Tm
namespace Tx
set_option maxHeartbeats 400000

theorem dig_nat {d : Nat} (h : d < 10) : (UInt8.ofNat (48 + d)).toNat = 48 + d := by
  simp
  omega
theorem dec_small {u : Nat} (h : u < 10) : dec u = [UInt8.ofNat (48 + u)] := Lib.decDigits_one h
theorem dec_big {u : Nat} (h : ¬ u < 10) : dec u = dec (u / 10) ++ [UInt8.ofNat (48 + u % 10)] := by
  unfold dec
  rw [Lib.decDigits, dif_neg h]

theorem dec_digits (u : Nat) : ∀ c ∈ dec u, inR 48 57 c = true := by
  induction u using Nat.strongRecOn with
  | _ u ih =>
    intro c hc
    by_cases h : u < 10
    · rw [dec_small h] at hc
      simp only [List.mem_singleton] at hc
      subst hc
      unfold inR
      rw [dig_nat h]
      simp
      omega
    · rw [dec_big h, List.mem_append] at hc
      rcases hc with hc | hc
      · exact ih (u / 10) (by omega) c hc
      · simp only [List.mem_singleton] at hc
        subst hc
        unfold inR
        rw [dig_nat (by omega)]
        simp
        omega
theorem dec_ne (u : Nat) : dec u ≠ [] := by
  by_cases h : u < 10
  · rw [dec_small h]; simp
  · rw [dec_big h]; simp
theorem dec_head {u : Nat} (h1 : 1 ≤ u) (r : By) : (dec u ++ r).getD 0 0 ≠ 48 := by
  induction u using Nat.strongRecOn generalizing r with
  | _ u ih =>
    by_cases h : u < 10
    · rw [dec_small h]
      intro c
      have hc : UInt8.ofNat (48 + u) = 48 := by simpa using c
      have := congrArg UInt8.toNat hc
      rw [dig_nat h] at this
      simp at this
      omega
    · rw [dec_big h, List.append_assoc]
      exact ih (u / 10) (by omega) (by omega) _
theorem dec_long {u : Nat} (h : 1 < (dec u).length) : 1 ≤ u := by
  by_cases h0 : u < 10
  · rw [dec_small h0] at h; simp at h
  · omega

theorem parse_dec {M u : Nat} (hM : M < 18446744073709551616) (l : By) (hu : u ≤ M) : Lib.parseUintM M 0 (dec u ++ l) = Lib.parseUintM M u l := by
  induction u using Nat.strongRecOn generalizing l with
  | _ u ih =>
    by_cases h : u < 10
    · rw [dec_small h]
      simp only [List.cons_append, List.nil_append, Lib.parseUintM]
      rw [dig_nat h, if_pos (by omega), if_neg (by omega), if_neg (by omega)]
      congr 1
      omega
    · rw [dec_big h, List.append_assoc, ih (u / 10) (by omega) _ (by omega)]
      simp only [List.cons_append, List.nil_append, Lib.parseUintM]
      rw [dig_nat (by omega), if_pos (by omega), if_neg (by omega), if_neg (by omega)]
      congr 1
      omega

/-- No digit comes next. -/
def NoDig (r : By) : Prop := ∀ c s, r = c :: s → inR 48 57 c = false
theorem noDig_nil : NoDig [] := fun c s h => by cases h
theorem noDig_cons {c : UInt8} {s : By} (h : inR 48 57 c = false) : NoDig (c :: s) := fun c' s' e => by
  injection e with e1 e2
  rw [← e1]; exact h

theorem take_dig {p : UInt8 → Bool} {a r : By} (ha : ∀ c ∈ a, p c = true) (hr : ∀ c s, r = c :: s → p c = false) : (a ++ r).takeWhile p = a ∧ (a ++ r).dropWhile p = r := by
  induction a with
  | nil =>
    cases r with
    | nil => simp
    | cons c s => simp [hr c s rfl]
  | cons x xs ih =>
    have hx := ha x (by simp)
    have := ih (fun c hc => ha c (by simp [hc]))
    simp [hx, this]

theorem num_dec {u : Nat} (hu : u < 18446744073709551616) {r : By} (hr : NoDig r) : num (dec u ++ r) = some (u, r) := by
  obtain ⟨h1, h2⟩ := take_dig (dec_digits u) hr
  have hp : Lib.parseUintB 64 (dec u) = .ok u := by
    unfold Lib.parseUintB
    rw [if_neg (dec_ne u)]
    have := parse_dec (M := 2 ^ 64 - 1) (u := u) (by decide) [] (by omega)
    rw [List.append_nil] at this
    rw [this]
    rfl
  unfold num
  rw [h1, h2]
  simp only [hp]
  rw [if_neg]
  rintro ⟨ha, hb⟩
  have := dec_head (dec_long ha) []
  rw [List.append_nil] at this
  exact this hb

theorem dec_of_parse {M : Nat} : ∀ (l : By) (acc n : Nat), 1 ≤ acc → Lib.parseUintM M acc l = .ok n → dec n = dec acc ++ l
  | [], acc, n, _, h => by
    unfold Lib.parseUintM at h
    injection h with h
    rw [h]; simp
  | c :: r, acc, n, ha, h => by
    unfold Lib.parseUintM at h
    by_cases hd : 48 ≤ c.toNat ∧ c.toNat ≤ 57
    · rw [if_pos hd] at h
      by_cases h1 : 1844674407370955162 ≤ acc
      · rw [if_pos h1] at h; cases h
      rw [if_neg h1] at h
      by_cases h2 : M < acc * 10 + (c.toNat - 48)
      · rw [if_pos h2] at h; cases h
      rw [if_neg h2] at h
      have ih := dec_of_parse r _ n (by omega) h
      rw [ih, dec_big (by omega)]
      have e1 : (acc * 10 + (c.toNat - 48)) / 10 = acc := by omega
      have e2 : 48 + (acc * 10 + (c.toNat - 48)) % 10 = c.toNat := by omega
      rw [e1, e2]
      simp
    · rw [if_neg hd] at h; cases h
theorem parse_le {M : Nat} : ∀ (l : By) (acc n : Nat), acc ≤ M → Lib.parseUintM M acc l = .ok n → n ≤ M
  | [], acc, n, ha, h => by
    unfold Lib.parseUintM at h
    injection h with h
    omega
  | c :: r, acc, n, ha, h => by
    unfold Lib.parseUintM at h
    by_cases hd : 48 ≤ c.toNat ∧ c.toNat ≤ 57
    · rw [if_pos hd] at h
      by_cases h1 : 1844674407370955162 ≤ acc
      · rw [if_pos h1] at h; cases h
      rw [if_neg h1] at h
      by_cases h2 : M < acc * 10 + (c.toNat - 48)
      · rw [if_pos h2] at h; cases h
      rw [if_neg h2] at h
      exact parse_le r _ n (by omega) h
    · rw [if_neg hd] at h; cases h

theorem num_back {s r : By} {n : Nat} (h : num s = some (n, r)) : s = dec n ++ r ∧ n < 18446744073709551616 := by
  unfold num at h
  obtain ⟨d, hd⟩ : ∃ d, s.takeWhile (inR 48 57) = d := ⟨_, rfl⟩
  have hs : s = d ++ s.dropWhile (inR 48 57) := by rw [← hd]; exact (List.takeWhile_append_dropWhile).symm
  rw [hd] at h
  cases hp : Lib.parseUintB 64 d with
  | ok u =>
    simp only [hp] at h
    by_cases hz : 1 < d.length ∧ d.getD 0 0 = 48
    · rw [if_pos hz] at h; cases h
    rw [if_neg hz] at h
    injection h with h
    injection h with h1 h2
    subst h1
    rw [h2] at hs
    unfold Lib.parseUintB at hp
    by_cases he : d = []
    · rw [if_pos he] at hp; cases hp
    rw [if_neg he] at hp
    have hle := parse_le d 0 u (by omega) hp
    refine ⟨?_, by omega⟩
    rw [hs]
    congr 1
    cases d with
    | nil => exact absurd rfl he
    | cons c q =>
      unfold Lib.parseUintM at hp
      by_cases hdg : 48 ≤ c.toNat ∧ c.toNat ≤ 57
      · rw [if_pos hdg, if_neg (by omega)] at hp
        by_cases h2 : 2 ^ 64 - 1 < 0 * 10 + (c.toNat - 48)
        · rw [if_pos h2] at hp; cases hp
        rw [if_neg h2] at hp
        by_cases h0 : c.toNat = 48
        · have hq : q = [] := by
            cases q with
            | nil => rfl
            | cons a b =>
              exfalso
              refine hz ⟨by simp, ?_⟩
              have : c = 48 := UInt8.toNat_inj.1 (by rw [h0]; rfl)
              simp [this]
          subst hq
          unfold Lib.parseUintM at hp
          injection hp with hp
          have hu : u = 0 := by omega
          subst hu
          rw [dec_small (by omega)]
          have : c = 48 := UInt8.toNat_inj.1 (by rw [h0]; rfl)
          rw [this]
          rfl
        · have := dec_of_parse q _ u (by omega) hp
          rw [this, dec_small (by omega), show 48 + (0 * 10 + (c.toNat - 48)) = c.toNat by omega]
          simp
      · rw [if_neg hdg] at hp; cases hp
  | range => simp only [hp] at h; cases h
  | _ => simp only [hp] at h; cases h

theorem sho_dec {u : Nat} (hu : u ≤ 255) {r : By} (hr : NoDig r) : sho (dec u ++ r) = some (u, r) := by
  unfold sho
  rw [num_dec (by omega) hr]
  simp
  omega
theorem sho_back {s r : By} {n : Nat} (h : sho s = some (n, r)) (hn : n < 255) : s = dec n ++ r := by
  unfold sho at h
  cases hq : num s with
  | none => rw [hq] at h; cases h
  | some p =>
    rw [hq] at h
    simp only [Option.map_some, Option.some.injEq, Prod.mk.injEq] at h
    obtain ⟨h1, h2⟩ := h
    have := (num_back (s := s) (n := p.1) (r := p.2) (by rw [hq])).1
    rw [h2, show p.1 = n by omega] at this
    exact this
end Tx
end Go.Proofs.YtbemkaninedonaaGreatDoor

namespace Go.Proofs.YtbemkaninedonaaGreatDoor
open Go.RowKit
namespace Bv

theorem low_low (w n : Nat) : low w (low w n) = low w n := Nat.mod_mod _ _
theorem may_low {w : Nat} (h1 : 1 ≤ w) (h2 : w ≤ 64) (n : Nat) : mayB w (low w n) = true := mayB_mk h1 h2 (low_lt w n)
theorem may_one {w : Nat} (h1 : 1 ≤ w) (h2 : w ≤ 64) : mayB w 1 = true := mayB_mk h1 h2 (by have := pow_half h1; have := pow_pos' (w - 1); omega)

theorem low_add_left (w a b : Nat) : low w (low w a + b) = low w (a + b) := by unfold low; rw [Nat.mod_add_mod]
theorem low_add_right (w a b : Nat) : low w (a + low w b) = low w (a + b) := by unfold low; rw [Nat.add_mod_mod]

theorem low8 (w v a b : Nat) (h2 : w ≤ 64) : low w (numB 8 w v a b) = low w (a + b) := low_mod64 _ h2
theorem low9 (w v a b : Nat) (h2 : w ≤ 64) : low w (numB 9 w v a b) = low w (a + (18446744073709551616 - b)) := low_mod64 _ h2
theorem lowU4 (w a : Nat) (h2 : w ≤ 64) : low w (numU 4 a) = low w (18446744073709551616 - a) := low_mod64 _ h2

/-- Neg is Not and 1. -/
theorem neg_is {w n : Nat} (h2 : w ≤ 64) (hn : n < 18446744073709551616) : low w (numB 8 w w (low w (numU 3 n)) 1) = low w (numU 4 n) := by
  rw [low8 w w _ _ h2, lowU4 w _ h2, low_add_left]
  show low w (18446744073709551615 - n + 1) = _
  congr 1; omega
/-- Sub is Add of Neg. -/
theorem sub_is {w n m : Nat} (h2 : w ≤ 64) : low w (numB 8 w w n (low w (numU 4 m))) = low w (numB 9 w w n m) := by
  rw [low8 w w _ _ h2, low9 w w _ _ h2, lowU4 w _ h2, low_add_right]

theorem or_join {x m v : Nat} (hm : m < 2 ^ v) : x * 2 ^ v ||| m = x * 2 ^ v + m := by
  have := Nat.two_pow_add_eq_or_of_lt hm x
  rw [Nat.mul_comm] at this
  exact this.symm
/-- Concat is the first one above the second. -/
theorem concat_is {w v n m : Nat} (hr : w + v ≤ 64) (hn : n < 2 ^ w) (hm : m < 2 ^ v) : low (w + v) (numB 21 w v n m) = n * 2 ^ v + m := by
  have hl := pow_le64 hr
  have hlt : n * 2 ^ v + m < 2 ^ (w + v) := by
    rw [Nat.pow_add]
    have h1 : n * 2 ^ v + m < (n + 1) * 2 ^ v := by rw [Nat.succ_mul]; omega
    exact Nat.lt_of_lt_of_le h1 (Nat.mul_le_mul_right _ hn)
  show low (w + v) (n * 2 ^ v % 18446744073709551616 ||| m) = _
  rw [Nat.mod_eq_of_lt (by omega), or_join hm, low_self hlt]
theorem concat_lt {w v n m : Nat} (hn : n < 2 ^ w) (hm : m < 2 ^ v) : n * 2 ^ v + m < 2 ^ (w + v) := by
  rw [Nat.pow_add]
  have h1 : n * 2 ^ v + m < (n + 1) * 2 ^ v := by rw [Nat.succ_mul]; omega
  exact Nat.lt_of_lt_of_le h1 (Nat.mul_le_mul_right _ hn)
theorem concat_low {v n m : Nat} (hm : m < 2 ^ v) : low v ((n * 2 ^ v + m) / 2 ^ 0) = m := by
  unfold low
  rw [Nat.pow_zero, Nat.div_one, Nat.add_comm, Nat.add_mul_mod_self_right, Nat.mod_eq_of_lt hm]
theorem concat_high {w v n m : Nat} (hn : n < 2 ^ w) (hm : m < 2 ^ v) : low w ((n * 2 ^ v + m) / 2 ^ v) = n := by
  unfold low
  rw [Nat.mul_comm, Nat.mul_add_div (pow_pos' v), Nat.div_eq_of_lt hm, Nat.add_zero, Nat.mod_eq_of_lt hn]

theorem low64 {n : Nat} (hn : n < 18446744073709551616) : low 64 n = n := low_self (by simpa using hn)
theorem low_div0 {w n : Nat} (hn : n < 2 ^ w) : low w (n / 2 ^ 0) = n := by rw [Nat.pow_zero, Nat.div_one, low_self hn]
/-- A vector that is made wider with its sign begins with it. -/
theorem sext_low {w n : Nat} (h2 : w ≤ 64) (hn : n < 2 ^ w) : low w (numE 24 w n / 2 ^ 0) = n := by
  rw [Nat.pow_zero, Nat.div_one]
  show (wo w n % 18446744073709551616).toNat % 2 ^ w = n
  have hl := pow_le64 h2
  unfold wo
  split
  · rw [show ((n : Int) % 18446744073709551616).toNat = n by omega, Nat.mod_eq_of_lt hn]
  · have hs := pow_split h2
    have e : (((n : Int) - (2 ^ w : Nat)) % 18446744073709551616).toNat = n + (18446744073709551616 - 2 ^ w) := by omega
    rw [e]
    have e2 : 18446744073709551616 - 2 ^ w = 2 ^ w * (2 ^ (64 - w) - 1) := by rw [Nat.mul_sub, hs, Nat.mul_one]
    rw [e2, Nat.add_mul_mod_self_left, Nat.mod_eq_of_lt hn]
theorem sext_worth {w n : Nat} (h1 : 1 ≤ w) (h2 : w ≤ 64) (hn : n < 2 ^ w) : wrap64 (numE 24 w n : Int) = wo w n := by
  have hb := wo_bd h1 h2 hn
  show wrap64 (((wo w n % 18446744073709551616).toNat : Nat) : Int) = wo w n
  unfold wrap64
  omega

/-- One of less, greater, equal. -/
theorem one_of (w n m : Nat) : low 1 (numB 19 w w n m) + low 1 (numB 19 w w m n) + low 1 (numB 18 w w n m) = 1 := by
  show (decide (n < m)).toNat % 2 + (decide (m < n)).toNat % 2 + (n == m).toNat % 2 = 1
  rcases Nat.lt_trichotomy n m with h | h | h
  · have a : ¬ m < n := by omega
    have b : (n == m) = false := by simp; omega
    simp [h, a, b]
  · subst h; simp
  · have a : ¬ n < m := by omega
    have b : (n == m) = false := by simp; omega
    simp [h, a, b]
end Bv
end Go.Proofs.YtbemkaninedonaaGreatDoor

namespace Go.Proofs.YtbemkaninedonaaGreatDoor
open Go.RowKit
namespace Bv

theorem low10 (w v a b : Nat) (h2 : w ≤ 64) : low w (numB 10 w v a b) = low w (a * b) := low_mod64 _ h2
theorem num11_eq {w v n m : Nat} (h : ¬ m = 0) : numB 11 w v n m = n / m := by show (if m = 0 then _ else n / m) = _; rw [if_neg h]
theorem num12_eq {w v n m : Nat} (h : ¬ m = 0) : numB 12 w v n m = n % m := by show (if m = 0 then _ else n % m) = _; rw [if_neg h]
theorem low_mul_left (w a b : Nat) : low w (low w a * b) = low w (a * b) := by unfold low; rw [Nat.mod_mul_mod]

/-- Of numbers: the quotient times the second, and the rest, are the first. -/
theorem udiv_is {w n m : Nat} (h2 : w ≤ 64) (hn : n < 2 ^ w) (h : ¬ m = 0) :
    low w (numB 8 w w (low w (numB 10 w w (low w (numB 11 w w n m)) m)) (low w (numB 12 w w n m))) = n := by
  rw [low8 w w _ _ h2, low10 w w _ _ h2, low_mul_left, low_add_left, low_add_right, num11_eq h, num12_eq h, Nat.mul_comm, Nat.div_add_mod]
  exact low_self hn
theorem urem_lt {w n m : Nat} (hn : n < 2 ^ w) (h : ¬ m = 0) : low 1 (numB 19 w w (low w (numB 12 w w n m)) m) = 1 := by
  have hr : low w (numB 12 w w n m) < m := by
    rw [num12_eq h, low_self (Nat.lt_of_le_of_lt (Nat.mod_le _ _) hn)]
    exact Nat.mod_lt _ (by omega)
  generalize low w (numB 12 w w n m) = r at *
  show low 1 (decide (r < m)).toNat = 1
  rw [decide_eq_true hr]; rfl

/-- What a number of 64 bits is modulo 2^w, over Int. -/
theorem low_int {w : Nat} (h2 : w ≤ 64) (x : Int) : ((low w (x % 18446744073709551616).toNat : Nat) : Int) = x % ((2 ^ w : Nat) : Int) := by
  unfold low
  have h0 : 0 ≤ x % 18446744073709551616 := Int.emod_nonneg _ (by decide)
  rw [Int.natCast_emod, Int.toNat_of_nonneg h0]
  exact Int.emod_emod_of_dvd x ⟨((2 ^ (64 - w) : Nat) : Int), by rw [← Int.natCast_mul, pow_split h2]; rfl⟩
theorem wo_mod (w n : Nat) : wo w n % ((2 ^ w : Nat) : Int) = (n : Int) % ((2 ^ w : Nat) : Int) := by
  unfold wo
  split
  · rfl
  · rw [Int.sub_emod_right]
theorem low_cast (w a : Nat) : ((low w a : Nat) : Int) = (a : Int) % ((2 ^ w : Nat) : Int) := by unfold low; rw [Int.natCast_emod]

/-- Of worths likewise. -/
theorem sdiv_is {w n m : Nat} (h2 : w ≤ 64) (hn : n < 2 ^ w) (h : ¬ m = 0) :
    low w (numB 8 w w (low w (numB 10 w w (low w (numB 13 w w n m)) m)) (low w (numB 14 w w n m))) = n := by
  have e13 : numB 13 w w n m = ((wo w n).tdiv (wo w m) % 18446744073709551616).toNat := by show (if m = 0 then _ else _) = _; rw [if_neg h]
  have e14 : numB 14 w w n m = ((wo w n).tmod (wo w m) % 18446744073709551616).toNat := by show (if m = 0 then _ else _) = _; rw [if_neg h]
  rw [low8 w w _ _ h2, low10 w w _ _ h2, e13, e14]
  have key : ((low w (low w (low w ((wo w n).tdiv (wo w m) % 18446744073709551616).toNat * m) + low w ((wo w n).tmod (wo w m) % 18446744073709551616).toNat) : Nat) : Int) = (n : Int) := by
    rw [low_cast, Int.natCast_add, low_cast w (_ * m), Int.natCast_mul, low_int h2, low_int h2]
    rw [← Int.add_emod, Int.add_emod, Int.mul_emod, Int.emod_emod_of_dvd _ (Int.dvd_refl _), ← wo_mod w m, ← Int.mul_emod, ← Int.add_emod, Int.mul_comm, Int.mul_tdiv_add_tmod, wo_mod]
    exact Int.emod_eq_of_lt (by omega) (by omega)
  exact Int.ofNat_inj.1 key

/-- The worth of a vector whose highest bit is set, with ones above it. -/
theorem worth_or {w n : Nat} (h1 : 1 ≤ w) (h2 : w ≤ 64) (hn : n < 2 ^ w) (hs : 2 ^ (w - 1) ≤ n) :
    IntKind.i64.wrap (bits BinOp.or IntKind.u64 (n : Int) (bits BinOp.xor IntKind.u64 IntKind.u64.max ((2 ^ w - 1 : Nat) : Int))) = wo w n := by
  have hl := pow_le64 h2
  have hh := pow_half h1
  have hp := pow_pos' (w - 1)
  have hsp := pow_split h2
  rw [notmax (by omega), bits_or_u64_nat n _ (by omega) (by omega), Nat.or_comm]
  have e : 18446744073709551615 - (2 ^ w - 1) = (2 ^ (64 - w) - 1) * 2 ^ w := by
    rw [Nat.sub_mul, Nat.mul_comm, hsp, Nat.one_mul]; omega
  rw [e, or_join hn, ← e, IntKind.wrap_i64, wo_neg hs]
  omega
theorem worth_plain {w n : Nat} (h1 : 1 ≤ w) (h2 : w ≤ 64) (hs : ¬ 2 ^ (w - 1) ≤ n) : IntKind.i64.wrap (n : Int) = wo w n := by
  have hl := pow_le64 h2
  have hh := pow_half h1
  rw [wo_pos (by omega), IntKind.wrap_i64]
  omega
end Bv
end Go.Proofs.YtbemkaninedonaaGreatDoor

namespace Go.Proofs.YtbemkaninedonaaGreatDoor
open Bv
namespace Tm
set_option maxHeartbeats 400000

/-- The number of the vector in the place k. -/
def vAt (V : List Nat) (k : Int) : Nat := V.getD k.toNat 0
/-- What is left of the variable's number. -/
def asg (a : List Nat) (w n : Nat) : Nat := if n < a.length then low w (a.getD n 0) else 0
/-- What the node x is, when the nodes ahead of it are V. -/
def oneN (L : List Nd) (V a : List Nat) (x : Nd) : Nat :=
  if x.o = 1 then x.n
  else if x.o = 2 then asg a x.w x.n
  else if x.o = 3 ∨ x.o = 4 then low x.w (numU x.o (vAt V x.k0))
  else if x.o = 22 then low x.w (vAt V x.k0 / 2 ^ x.l)
  else if x.o = 23 ∨ x.o = 24 then low x.w (numE x.o (widAt L x.k0) (vAt V x.k0))
  else if x.o = 25 then (if vAt V x.k0 = 1 then vAt V x.k1 else vAt V x.k2)
  else low x.w (numB x.o (widAt L x.k0) (widAt L x.k1) (vAt V x.k0) (vAt V x.k1))
/-- The first i nodes' numbers. -/
def valsN (L : List Nd) (a : List Nat) : Nat → List Nat
  | 0 => []
  | i + 1 => valsN L a i ++ [match L[i]? with | some x => oneN L (valsN L a i) a x | none => 0]
def evN (L : List Nd) (a : List Nat) (i : Nat) : Nat := (valsN L a (i + 1)).getD i 0

theorem valsN_length (L : List Nd) (a : List Nat) : ∀ i, (valsN L a i).length = i
  | 0 => rfl
  | i + 1 => by simp [valsN, valsN_length L a i]
theorem valsN_get (L : List Nd) (a : List Nat) {j : Nat} : ∀ {i : Nat}, j < i → (valsN L a i).getD j 0 = evN L a j
  | 0, h => by omega
  | i + 1, h => by
    by_cases e : j = i
    · subst e; rfl
    · have hj : j < i := by omega
      have ih := valsN_get L a hj
      rw [← ih]
      simp only [valsN, List.getD_eq_getElem?_getD]
      rw [List.getElem?_append_left (by rw [valsN_length]; exact hj)]
theorem valsN_succ {L : List Nd} {a : List Nat} {i : Nat} {x : Nd} (hx : L[i]? = some x) : valsN L a (i + 1) = valsN L a i ++ [oneN L (valsN L a i) a x] := by
  simp only [valsN, hx]
theorem evN_is {L : List Nd} {a : List Nat} {i : Nat} {x : Nd} (hx : L[i]? = some x) : evN L a i = oneN L (valsN L a i) a x := by
  unfold evN
  rw [valsN_succ hx, List.getD_eq_getElem?_getD, List.getElem?_append_right (by rw [valsN_length]; exact Nat.le_refl _)]
  simp [valsN_length]
theorem vAt_ev {L : List Nd} {a : List Nat} {i : Nat} {k : Int} (h0 : 0 ≤ k) (h : k < ((i : Nat) : Int)) : vAt (valsN L a i) k = evN L a k.toNat := valsN_get L a (by omega)

/-- Each node may be, behind the nodes ahead of it. -/
def MayL (L : List Nd) : Prop := ∀ (i : Nat) (x : Nd), L[i]? = some x → mayN (L.take i) x = true
theorem mayL_nil : MayL [] := fun i x h => by simp at h
theorem mayL_step {L : List Nd} (h : MayL L) (x : Nd) : MayL (mk L x).1 := by
  unfold mk
  split
  · exact h
  rename_i h1
  have hm : mayN L x = true := by simpa using h1
  split
  · exact h
  split
  · exact h
  split
  · exact h
  intro i y hy
  by_cases hi : i < L.length
  · rw [List.getElem?_append_left hi] at hy
    rw [show (L ++ [x]).take i = L.take i by rw [List.take_append_of_le_length (by omega)]]
    exact h i y hy
  · rw [List.getElem?_append_right (by omega)] at hy
    have h0 : i - L.length = 0 := by
      have := (List.getElem?_eq_some_iff.1 hy).1
      simp at this
      omega
    rw [h0] at hy
    simp at hy
    subst hy
    rw [show i = L.length by omega, List.take_append_of_le_length (Nat.le_refl _), List.take_length]
    exact hm

theorem widAt_take {L : List Nd} {i : Nat} {k : Int} (h0 : 0 ≤ k) (h : k < ((i : Nat) : Int)) : widAt (L.take i) k = widAt L k := by
  unfold widAt
  rw [List.getElem?_take, if_pos (by omega)]

/-- What holds of the width, by the operator. -/
theorem mayL_kids {L : List Nd} (h : MayL L) {i : Nat} {x : Nd} (hx : L[i]? = some x) (j : Nat) (hj : j < kc x.o) : 0 ≤ x.kid j ∧ x.kid j < ((i : Nat) : Int) := by
  have := mayN_kid (h i x hx) hj
  have hl : (L.take i).length ≤ i := by rw [List.length_take]; omega
  omega
theorem mayL_vec {L : List Nd} (h : MayL L) {i : Nat} {x : Nd} (hx : L[i]? = some x) (h1 : ¬ x.o = 1) (h2 : ¬ x.o = 2) :
    ¬ vecW x.o x.w x.l (wid L x 0) (wid L x 1) (wid L x 2) = 0 ∧ vecW x.o x.w x.l (wid L x 0) (wid L x 1) (wid L x 2) = x.w := by
  have hw : ∀ j, wid (L.take i) x j = wid L x j := fun j => by
    unfold wid
    by_cases hj : j < kc x.o
    · rw [if_pos hj, if_pos hj, widAt_take (mayL_kids h hx j hj).1 (mayL_kids h hx j hj).2]
    · rw [if_neg hj, if_neg hj]
  have hm := h i x hx
  unfold mayN at hm
  rw [if_neg h1, if_neg h2, hw, hw, hw] at hm
  simp only [Bool.and_eq_true, decide_eq_true_eq] at hm
  exact hm.2
theorem mayL_const {L : List Nd} (h : MayL L) {i : Nat} {x : Nd} (hx : L[i]? = some x) (h1 : x.o = 1) : mayB x.w x.n = true := by
  have hm := h i x hx
  unfold mayN at hm
  rw [if_pos h1] at hm
  simp only [Bool.and_eq_true] at hm
  exact hm.2

/-- Each node's number is one of its width. -/
theorem ev_may {L : List Nd} (g : Gd L) (h : MayL L) (a : List Nat) : ∀ (i : Nat) (x : Nd), L[i]? = some x → mayB x.w (evN L a i) = true := by
  intro i
  induction i using Nat.strongRecOn with
  | _ i ih =>
    intro x hx
    have hw := g.w x (List.mem_of_getElem? hx)
    rw [evN_is hx]
    unfold oneN
    by_cases h1 : x.o = 1
    · rw [if_pos h1]; exact mayL_const h hx h1
    rw [if_neg h1]
    by_cases h2 : x.o = 2
    · rw [if_pos h2]
      unfold asg
      split
      · exact may_low hw.1 hw.2 _
      · exact mayB_mk hw.1 hw.2 (pow_pos' _)
    rw [if_neg h2]
    by_cases h3 : x.o = 3 ∨ x.o = 4
    · rw [if_pos h3]; exact may_low hw.1 hw.2 _
    rw [if_neg h3]
    by_cases h22 : x.o = 22
    · rw [if_pos h22]; exact may_low hw.1 hw.2 _
    rw [if_neg h22]
    by_cases h23 : x.o = 23 ∨ x.o = 24
    · rw [if_pos h23]; exact may_low hw.1 hw.2 _
    rw [if_neg h23]
    by_cases h25 : x.o = 25
    · rw [if_pos h25]
      have hk : kc x.o = 3 := by rw [h25]; decide
      have hv := mayL_vec h hx h1 h2
      unfold vecW at hv
      rw [if_neg h3, if_neg h22, if_neg h23, if_pos h25] at hv
      have kid : ∀ j, j < 3 → ∃ y, L[(x.kid j).toNat]? = some y ∧ wid L x j = y.w ∧ mayB y.w (evN L a (x.kid j).toNat) = true ∧ vAt (valsN L a i) (x.kid j) = evN L a (x.kid j).toNat := by
        intro j hj
        have hkj := mayL_kids h hx j (by omega)
        have hl := (List.getElem?_eq_some_iff.1 hx).1
        obtain ⟨y, hy⟩ : ∃ y, L[(x.kid j).toNat]? = some y := ⟨_, List.getElem?_eq_getElem (by omega)⟩
        refine ⟨y, hy, ?_, ih _ (by omega) y hy, vAt_ev hkj.1 hkj.2⟩
        unfold wid widAt
        rw [if_pos (by omega), hy]
        rfl
      obtain ⟨y1, _, w1, m1, e1⟩ := kid 1 (by omega)
      obtain ⟨y2, _, w2, m2, e2⟩ := kid 2 (by omega)
      by_cases hc : wid L x 0 = 1 ∧ wid L x 1 = wid L x 2 ∧ 1 ≤ wid L x 1 ∧ wid L x 1 ≤ 64
      · rw [if_pos hc] at hv
        split
        · show mayB x.w (vAt (valsN L a i) (x.kid 1)) = true
          rw [e1, ← hv.2, w1]; exact m1
        · show mayB x.w (vAt (valsN L a i) (x.kid 2)) = true
          rw [e2, ← hv.2, hc.2.1, w2]; exact m2
      · rw [if_neg hc] at hv; exact absurd rfl hv.1
    · rw [if_neg h25]; exact may_low hw.1 hw.2 _

end Tm
end Go.Proofs.YtbemkaninedonaaGreatDoor
