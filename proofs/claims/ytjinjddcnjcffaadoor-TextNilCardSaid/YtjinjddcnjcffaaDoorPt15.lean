/-
caught of layer text: what it answers of a function that comes to its end, and of one that leaves by an error.
Plain facts that the statement on quotients and rests needs.
Plain facts for layer eval: what a node is under an assignment.
Put of layer text, of a store that was made, as a fact on one call: the text, or the error.
-/
import Derived.Test.YtjinjddcnjcffaaDoorTxNodeC
import Derived.Tactics
import Derived.Tactics2
import Derived.Defers
import Derived.Recover
import Derived.Laws.Pointers
import Derived.Test.YtjinjddcnjcffaaDoorPt07
import Derived.Test.YtjinjddcnjcffaaDoorPt01
namespace Go.Proofs.YtjinjddcnjcffaaDoor
open Go.RowKit Go.Maps Bv Tm
namespace Tx
set_option maxHeartbeats 1600000
set_option maxRecDepth 100000

theorem assert_errno (n : Int) (w : World) : (Instr.typeAssert (.iface 28 (.int .i64 n)) 20 28 false).run Tryd.prog w = .ok (.int .i64 n) w := by
  first | rfl | kernel_rfl | skip

theorem catch_panicking (p : Addr) (x n : Int) (older : List PanicEntry) (w : World) (hc : w.cell? p = some (.int .i64 x)) (hz : w.frozen? p = false) :
    CallsD Tryd.prog 15 #[.pointer (some p)] (.panicking ({ v := .iface 28 (.int .i64 n), recovered := false } :: older)) w fun e u' w' =>
      e = .returned (.tuple #[]) ∧ u' = .panicking ({ v := .iface 28 (.int .i64 n), recovered := true } :: older) ∧ w' = w.setCell p (.int .i64 n) := by
  have hta := assert_errno
  refine callsD_of_wpS Tryd.func15 rfl fun c₀ cs hu => ?_
  apply wpS_seq
  apply wpS_region
  simp [wpOpsS, go_sem, recoverD, hu, Tryd.ntmps15, Exit.thenS]
  apply wpS_seq
  apply wpS_region
  simp [wpOpsS, go_sem, recoverD, Exit.thenS]
  refine wpS_cond (t := true) (by simp [Act.eval, Array.replicate]) ?_
  simp only [if_true]
  apply wpS_region
  simp [wpOpsS, go_sem, hc, hz, bodyPostS, results, Tryd.results15, hta]

theorem catch_idle (p : Addr) (w : World) :
    CallsD Tryd.prog 15 #[.pointer (some p)] .returning w fun e u' w' => e = .returned (.tuple #[]) ∧ u' = .returning ∧ w' = w := by
  refine callsD_of_wpS Tryd.func15 rfl fun c₀ cs hu => ?_
  apply wpS_seq
  apply wpS_region
  simp [wpOpsS, go_sem, recoverD, hu, Tryd.ntmps15, Exit.thenS]
  apply wpS_seq
  apply wpS_region
  simp [wpOpsS, go_sem, recoverD, hu, Exit.thenS]
  refine wpS_cond (t := false) (by simp [Act.eval, Array.replicate]) ?_
  simp only [Bool.false_eq_true, if_false]
  refine wpS_of_wp (wp_skip ?_)
  cases c₀
  simp_all [bodyPostS, results, Tryd.results15]

theorem caught_put_ok (pw pi : Value) {W : World} {R : World → Prop} (HC : Calls Tryd.prog 8 #[pw, pi] (W.alloc (.cells #[.int .i64 0] 28)) fun e w1 => e = .returned (.tuple #[]) ∧ R w1)
    (HR : ∀ w1, R w1 → w1.cell? ⟨W.heap.size, 0, none⟩ = some (.int .i64 0) ∧ w1.frozen? ⟨W.heap.size, 0, none⟩ = false) :
    Calls Tryd.prog 7 #[.func (.func 8) #[] #[pw, pi]] W fun e W' => e = .returned (.int .i64 0) ∧ ∃ w1, R w1 ∧ W' = w1.setCell ⟨W.heap.size, 0, none⟩ (.int .i64 0) := by
  have hmf : ∀ (fn : Fn) (first cap : Array Value) (w : World), (Instr.makeFunc fn first cap).run Tryd.prog w = .ok (.func fn first cap) w := fun _ _ _ _ => rfl
  have HC := Lib.hid HC
  have HR := Lib.hid HR
  go_enter_defers Tryd.func7, Tryd.ntmps7
  go_wp2_with (go_at_call 8; refine HC.out.mono ?_; rintro e w1 ⟨rfl, h1⟩; obtain ⟨q0, q1⟩ := HR.out _ h1; have H1 := Lib.hid h1; clear h1)
  refine leaves_cons (f := 15) (args := #[.pointer (some ⟨W.heap.size, 0, none⟩)]) (by simp) (by simp [go_sem]) ?_
  refine (catch_idle ⟨W.heap.size, 0, none⟩ _).mono ?_
  rintro e u' w'' ⟨rfl, rfl, rfl⟩
  simp [Leaves, settle, results, Tryd.results7, go_sem, q0]
  exact ⟨w1, H1.out, rfl⟩

theorem caught_put_bad (pw pi : Value) (n : Int) {W : World} {R : World → Prop} (HC : Calls Tryd.prog 8 #[pw, pi] (W.alloc (.cells #[.int .i64 0] 28)) fun e w1 => e = boom n ∧ R w1)
    (HR : ∀ w1, R w1 → w1.cell? ⟨W.heap.size, 0, none⟩ = some (.int .i64 0) ∧ w1.frozen? ⟨W.heap.size, 0, none⟩ = false) :
    Calls Tryd.prog 7 #[.func (.func 8) #[] #[pw, pi]] W fun e W' => e = .returned (.int .i64 n) ∧ ∃ w1, R w1 ∧ W' = w1.setCell ⟨W.heap.size, 0, none⟩ (.int .i64 n) := by
  have hmf : ∀ (fn : Fn) (first cap : Array Value) (w : World), (Instr.makeFunc fn first cap).run Tryd.prog w = .ok (.func fn first cap) w := fun _ _ _ _ => rfl
  have HC := Lib.hid HC
  have HR := Lib.hid HR
  go_enter_defers Tryd.func7, Tryd.ntmps7
  go_wp2_with (go_at_call 8; refine HC.out.mono ?_; rintro e w1 ⟨rfl, h1⟩; obtain ⟨q0, q1⟩ := HR.out _ h1; have H1 := Lib.hid h1; clear h1)
  refine leaves_cons (f := 15) (args := #[.pointer (some ⟨W.heap.size, 0, none⟩)]) (by simp) (by simp [go_sem]) ?_
  refine (catch_panicking ⟨W.heap.size, 0, none⟩ 0 n [] _ q0 q1).mono ?_
  rintro e u' w'' ⟨rfl, rfl, rfl⟩
  simp [Leaves, settle, results, Tryd.results7, go_sem, q0]
  exact ⟨w1, H1.out, rfl⟩

theorem caught_get_ok (pr : Value) {W : World} {R : World → Prop} (HC : Calls Tryd.prog 11 #[pr] (W.alloc (.cells #[.int .i64 0] 28)) fun e w1 => e = .returned (.tuple #[]) ∧ R w1)
    (HR : ∀ w1, R w1 → w1.cell? ⟨W.heap.size, 0, none⟩ = some (.int .i64 0) ∧ w1.frozen? ⟨W.heap.size, 0, none⟩ = false) :
    Calls Tryd.prog 7 #[.func (.func 11) #[pr] #[]] W fun e W' => e = .returned (.int .i64 0) ∧ ∃ w1, R w1 ∧ W' = w1.setCell ⟨W.heap.size, 0, none⟩ (.int .i64 0) := by
  have hmf : ∀ (fn : Fn) (first cap : Array Value) (w : World), (Instr.makeFunc fn first cap).run Tryd.prog w = .ok (.func fn first cap) w := fun _ _ _ _ => rfl
  have HC := Lib.hid HC
  have HR := Lib.hid HR
  go_enter_defers Tryd.func7, Tryd.ntmps7
  go_wp2_with (go_at_call 11; refine HC.out.mono ?_; rintro e w1 ⟨rfl, h1⟩; obtain ⟨q0, q1⟩ := HR.out _ h1; have H1 := Lib.hid h1; clear h1)
  refine leaves_cons (f := 15) (args := #[.pointer (some ⟨W.heap.size, 0, none⟩)]) (by simp) (by simp [go_sem]) ?_
  refine (catch_idle ⟨W.heap.size, 0, none⟩ _).mono ?_
  rintro e u' w'' ⟨rfl, rfl, rfl⟩
  simp [Leaves, settle, results, Tryd.results7, go_sem, q0]
  exact ⟨w1, H1.out, rfl⟩

theorem caught_get_bad (pr : Value) (n : Int) {W : World} {R : World → Prop} (HC : Calls Tryd.prog 11 #[pr] (W.alloc (.cells #[.int .i64 0] 28)) fun e w1 => e = boom n ∧ R w1)
    (HR : ∀ w1, R w1 → w1.cell? ⟨W.heap.size, 0, none⟩ = some (.int .i64 0) ∧ w1.frozen? ⟨W.heap.size, 0, none⟩ = false) :
    Calls Tryd.prog 7 #[.func (.func 11) #[pr] #[]] W fun e W' => e = .returned (.int .i64 n) ∧ ∃ w1, R w1 ∧ W' = w1.setCell ⟨W.heap.size, 0, none⟩ (.int .i64 n) := by
  have hmf : ∀ (fn : Fn) (first cap : Array Value) (w : World), (Instr.makeFunc fn first cap).run Tryd.prog w = .ok (.func fn first cap) w := fun _ _ _ _ => rfl
  have HC := Lib.hid HC
  have HR := Lib.hid HR
  go_enter_defers Tryd.func7, Tryd.ntmps7
  go_wp2_with (go_at_call 11; refine HC.out.mono ?_; rintro e w1 ⟨rfl, h1⟩; obtain ⟨q0, q1⟩ := HR.out _ h1; have H1 := Lib.hid h1; clear h1)
  refine leaves_cons (f := 15) (args := #[.pointer (some ⟨W.heap.size, 0, none⟩)]) (by simp) (by simp [go_sem]) ?_
  refine (catch_panicking ⟨W.heap.size, 0, none⟩ 0 n [] _ q0 q1).mono ?_
  rintro e u' w'' ⟨rfl, rfl, rfl⟩
  simp [Leaves, settle, results, Tryd.results7, go_sem, q0]
  exact ⟨w1, H1.out, rfl⟩
end Tx
end Go.Proofs.YtjinjddcnjcffaaDoor

namespace Go.Proofs.YtjinjddcnjcffaaDoor
open Go.RowKit
namespace Bv

theorem low10 (w v a b : Nat) (h2 : w ≤ 64) : low w (numB 10 w v a b) = low w (a * b) := low_mod64 _ h2
theorem num11_eq {w v n m : Nat} (h : ¬ m = 0) : numB 11 w v n m = n / m := by show (if m = 0 then _ else n / m) = _; rw [if_neg h]
theorem num12_eq {w v n m : Nat} (h : ¬ m = 0) : numB 12 w v n m = n % m := by show (if m = 0 then _ else n % m) = _; rw [if_neg h]
theorem low_mul_left (w a b : Nat) : low w (low w a * b) = low w (a * b) := by unfold low; rw [Nat.mod_mul_mod]

/-- Of numbers: the quotient times the second, and the rest, are the first. -/
theorem udiv_is {w n m : Nat} (h2 : w ≤ 64) (hn : n < 2 ^ w) (h : ¬ m = 0) :
    low w (numB 8 w w (low w (numB 10 w w (low w (numB 11 w w n m)) m)) (low w (numB 12 w w n m))) = n := by
  rw [low8 w w _ _ h2, low10 w w _ _ h2, low_mul_left, low_add_left, low_add_right, num11_eq h, num12_eq h, Nat.mul_comm, Nat.div_add_mod]
  exact low_self hn
theorem urem_lt {w n m : Nat} (hn : n < 2 ^ w) (h : ¬ m = 0) : low 1 (numB 19 w w (low w (numB 12 w w n m)) m) = 1 := by
  have hr : low w (numB 12 w w n m) < m := by
    rw [num12_eq h, low_self (Nat.lt_of_le_of_lt (Nat.mod_le _ _) hn)]
    exact Nat.mod_lt _ (by omega)
  generalize low w (numB 12 w w n m) = r at *
  show low 1 (decide (r < m)).toNat = 1
  rw [decide_eq_true hr]; rfl

/-- What a number of 64 bits is modulo 2^w, over Int. -/
theorem low_int {w : Nat} (h2 : w ≤ 64) (x : Int) : ((low w (x % 18446744073709551616).toNat : Nat) : Int) = x % ((2 ^ w : Nat) : Int) := by
  unfold low
  have h0 : 0 ≤ x % 18446744073709551616 := Int.emod_nonneg _ (by decide)
  rw [Int.natCast_emod, Int.toNat_of_nonneg h0]
  exact Int.emod_emod_of_dvd x ⟨((2 ^ (64 - w) : Nat) : Int), by rw [← Int.natCast_mul, pow_split h2]; rfl⟩
theorem wo_mod (w n : Nat) : wo w n % ((2 ^ w : Nat) : Int) = (n : Int) % ((2 ^ w : Nat) : Int) := by
  unfold wo
  split
  · rfl
  · rw [Int.sub_emod_right]
theorem low_cast (w a : Nat) : ((low w a : Nat) : Int) = (a : Int) % ((2 ^ w : Nat) : Int) := by unfold low; rw [Int.natCast_emod]

/-- Of worths likewise. -/
theorem sdiv_is {w n m : Nat} (h2 : w ≤ 64) (hn : n < 2 ^ w) (h : ¬ m = 0) :
    low w (numB 8 w w (low w (numB 10 w w (low w (numB 13 w w n m)) m)) (low w (numB 14 w w n m))) = n := by
  have e13 : numB 13 w w n m = ((wo w n).tdiv (wo w m) % 18446744073709551616).toNat := by show (if m = 0 then _ else _) = _; rw [if_neg h]
  have e14 : numB 14 w w n m = ((wo w n).tmod (wo w m) % 18446744073709551616).toNat := by show (if m = 0 then _ else _) = _; rw [if_neg h]
  rw [low8 w w _ _ h2, low10 w w _ _ h2, e13, e14]
  have key : ((low w (low w (low w ((wo w n).tdiv (wo w m) % 18446744073709551616).toNat * m) + low w ((wo w n).tmod (wo w m) % 18446744073709551616).toNat) : Nat) : Int) = (n : Int) := by
    rw [low_cast, Int.natCast_add, low_cast w (_ * m), Int.natCast_mul, low_int h2, low_int h2]
    rw [← Int.add_emod, Int.add_emod, Int.mul_emod, Int.emod_emod_of_dvd _ (Int.dvd_refl _), ← wo_mod w m, ← Int.mul_emod, ← Int.add_emod, Int.mul_comm, Int.mul_tdiv_add_tmod, wo_mod]
    exact Int.emod_eq_of_lt (by omega) (by omega)
  exact Int.ofNat_inj.1 key

/-- The worth of a vector whose highest bit is set, with ones above it. -/
theorem worth_or {w n : Nat} (h1 : 1 ≤ w) (h2 : w ≤ 64) (hn : n < 2 ^ w) (hs : 2 ^ (w - 1) ≤ n) :
    IntKind.i64.wrap (bits BinOp.or IntKind.u64 (n : Int) (bits BinOp.xor IntKind.u64 IntKind.u64.max ((2 ^ w - 1 : Nat) : Int))) = wo w n := by
  have hl := pow_le64 h2
  have hh := pow_half h1
  have hp := pow_pos' (w - 1)
  have hsp := pow_split h2
  rw [notmax (by omega), bits_or_u64_nat n _ (by omega) (by omega), Nat.or_comm]
  have e : 18446744073709551615 - (2 ^ w - 1) = (2 ^ (64 - w) - 1) * 2 ^ w := by
    rw [Nat.sub_mul, Nat.mul_comm, hsp, Nat.one_mul]; omega
  rw [e, or_join hn, ← e, IntKind.wrap_i64, wo_neg hs]
  omega
theorem worth_plain {w n : Nat} (h1 : 1 ≤ w) (h2 : w ≤ 64) (hs : ¬ 2 ^ (w - 1) ≤ n) : IntKind.i64.wrap (n : Int) = wo w n := by
  have hl := pow_le64 h2
  have hh := pow_half h1
  rw [wo_pos (by omega), IntKind.wrap_i64]
  omega
end Bv
end Go.Proofs.YtjinjddcnjcffaaDoor

namespace Go.Proofs.YtjinjddcnjcffaaDoor
open Bv
namespace Tm
set_option maxHeartbeats 400000

/-- The number of the vector in the place k. -/
def vAt (V : List Nat) (k : Int) : Nat := V.getD k.toNat 0
/-- What is left of the variable's number. -/
def asg (a : List Nat) (w n : Nat) : Nat := if n < a.length then low w (a.getD n 0) else 0
/-- What the node x is, when the nodes ahead of it are V. -/
def oneN (L : List Nd) (V a : List Nat) (x : Nd) : Nat :=
  if x.o = 1 then x.n
  else if x.o = 2 then asg a x.w x.n
  else if x.o = 3 ∨ x.o = 4 then low x.w (numU x.o (vAt V x.k0))
  else if x.o = 22 then low x.w (vAt V x.k0 / 2 ^ x.l)
  else if x.o = 23 ∨ x.o = 24 then low x.w (numE x.o (widAt L x.k0) (vAt V x.k0))
  else if x.o = 25 then (if vAt V x.k0 = 1 then vAt V x.k1 else vAt V x.k2)
  else low x.w (numB x.o (widAt L x.k0) (widAt L x.k1) (vAt V x.k0) (vAt V x.k1))
/-- The first i nodes' numbers. -/
def valsN (L : List Nd) (a : List Nat) : Nat → List Nat
  | 0 => []
  | i + 1 => valsN L a i ++ [match L[i]? with | some x => oneN L (valsN L a i) a x | none => 0]
def evN (L : List Nd) (a : List Nat) (i : Nat) : Nat := (valsN L a (i + 1)).getD i 0

theorem valsN_length (L : List Nd) (a : List Nat) : ∀ i, (valsN L a i).length = i
  | 0 => rfl
  | i + 1 => by simp [valsN, valsN_length L a i]
theorem valsN_get (L : List Nd) (a : List Nat) {j : Nat} : ∀ {i : Nat}, j < i → (valsN L a i).getD j 0 = evN L a j
  | 0, h => by omega
  | i + 1, h => by
    by_cases e : j = i
    · subst e; rfl
    · have hj : j < i := by omega
      have ih := valsN_get L a hj
      rw [← ih]
      simp only [valsN, List.getD_eq_getElem?_getD]
      rw [List.getElem?_append_left (by rw [valsN_length]; exact hj)]
theorem valsN_succ {L : List Nd} {a : List Nat} {i : Nat} {x : Nd} (hx : L[i]? = some x) : valsN L a (i + 1) = valsN L a i ++ [oneN L (valsN L a i) a x] := by
  simp only [valsN, hx]
theorem evN_is {L : List Nd} {a : List Nat} {i : Nat} {x : Nd} (hx : L[i]? = some x) : evN L a i = oneN L (valsN L a i) a x := by
  unfold evN
  rw [valsN_succ hx, List.getD_eq_getElem?_getD, List.getElem?_append_right (by rw [valsN_length]; exact Nat.le_refl _)]
  simp [valsN_length]
theorem vAt_ev {L : List Nd} {a : List Nat} {i : Nat} {k : Int} (h0 : 0 ≤ k) (h : k < ((i : Nat) : Int)) : vAt (valsN L a i) k = evN L a k.toNat := valsN_get L a (by omega)

/-- Each node may be, behind the nodes ahead of it. -/
def MayL (L : List Nd) : Prop := ∀ (i : Nat) (x : Nd), L[i]? = some x → mayN (L.take i) x = true
theorem mayL_nil : MayL [] := fun i x h => by simp at h
theorem mayL_step {L : List Nd} (h : MayL L) (x : Nd) : MayL (mk L x).1 := by
  unfold mk
  split
  · exact h
  rename_i h1
  have hm : mayN L x = true := by simpa using h1
  split
  · exact h
  split
  · exact h
  split
  · exact h
  intro i y hy
  by_cases hi : i < L.length
  · rw [List.getElem?_append_left hi] at hy
    rw [show (L ++ [x]).take i = L.take i by rw [List.take_append_of_le_length (by omega)]]
    exact h i y hy
  · rw [List.getElem?_append_right (by omega)] at hy
    have h0 : i - L.length = 0 := by
      have := (List.getElem?_eq_some_iff.1 hy).1
      simp at this
      omega
    rw [h0] at hy
    simp at hy
    subst hy
    rw [show i = L.length by omega, List.take_append_of_le_length (Nat.le_refl _), List.take_length]
    exact hm

theorem widAt_take {L : List Nd} {i : Nat} {k : Int} (h0 : 0 ≤ k) (h : k < ((i : Nat) : Int)) : widAt (L.take i) k = widAt L k := by
  unfold widAt
  rw [List.getElem?_take, if_pos (by omega)]

/-- What holds of the width, by the operator. -/
theorem mayL_kids {L : List Nd} (h : MayL L) {i : Nat} {x : Nd} (hx : L[i]? = some x) (j : Nat) (hj : j < kc x.o) : 0 ≤ x.kid j ∧ x.kid j < ((i : Nat) : Int) := by
  have := mayN_kid (h i x hx) hj
  have hl : (L.take i).length ≤ i := by rw [List.length_take]; omega
  omega
theorem mayL_vec {L : List Nd} (h : MayL L) {i : Nat} {x : Nd} (hx : L[i]? = some x) (h1 : ¬ x.o = 1) (h2 : ¬ x.o = 2) :
    ¬ vecW x.o x.w x.l (wid L x 0) (wid L x 1) (wid L x 2) = 0 ∧ vecW x.o x.w x.l (wid L x 0) (wid L x 1) (wid L x 2) = x.w := by
  have hw : ∀ j, wid (L.take i) x j = wid L x j := fun j => by
    unfold wid
    by_cases hj : j < kc x.o
    · rw [if_pos hj, if_pos hj, widAt_take (mayL_kids h hx j hj).1 (mayL_kids h hx j hj).2]
    · rw [if_neg hj, if_neg hj]
  have hm := h i x hx
  unfold mayN at hm
  rw [if_neg h1, if_neg h2, hw, hw, hw] at hm
  simp only [Bool.and_eq_true, decide_eq_true_eq] at hm
  exact hm.2
theorem mayL_const {L : List Nd} (h : MayL L) {i : Nat} {x : Nd} (hx : L[i]? = some x) (h1 : x.o = 1) : mayB x.w x.n = true := by
  have hm := h i x hx
  unfold mayN at hm
  rw [if_pos h1] at hm
  simp only [Bool.and_eq_true] at hm
  exact hm.2

/-- Each node's number is one of its width. -/
theorem ev_may {L : List Nd} (g : Gd L) (h : MayL L) (a : List Nat) : ∀ (i : Nat) (x : Nd), L[i]? = some x → mayB x.w (evN L a i) = true := by
  intro i
  induction i using Nat.strongRecOn with
  | _ i ih =>
    intro x hx
    have hw := g.w x (List.mem_of_getElem? hx)
    rw [evN_is hx]
    unfold oneN
    by_cases h1 : x.o = 1
    · rw [if_pos h1]; exact mayL_const h hx h1
    rw [if_neg h1]
    by_cases h2 : x.o = 2
    · rw [if_pos h2]
      unfold asg
      split
      · exact may_low hw.1 hw.2 _
      · exact mayB_mk hw.1 hw.2 (pow_pos' _)
    rw [if_neg h2]
    by_cases h3 : x.o = 3 ∨ x.o = 4
    · rw [if_pos h3]; exact may_low hw.1 hw.2 _
    rw [if_neg h3]
    by_cases h22 : x.o = 22
    · rw [if_pos h22]; exact may_low hw.1 hw.2 _
    rw [if_neg h22]
    by_cases h23 : x.o = 23 ∨ x.o = 24
    · rw [if_pos h23]; exact may_low hw.1 hw.2 _
    rw [if_neg h23]
    by_cases h25 : x.o = 25
    · rw [if_pos h25]
      have hk : kc x.o = 3 := by rw [h25]; decide
      have hv := mayL_vec h hx h1 h2
      unfold vecW at hv
      rw [if_neg h3, if_neg h22, if_neg h23, if_pos h25] at hv
      have kid : ∀ j, j < 3 → ∃ y, L[(x.kid j).toNat]? = some y ∧ wid L x j = y.w ∧ mayB y.w (evN L a (x.kid j).toNat) = true ∧ vAt (valsN L a i) (x.kid j) = evN L a (x.kid j).toNat := by
        intro j hj
        have hkj := mayL_kids h hx j (by omega)
        have hl := (List.getElem?_eq_some_iff.1 hx).1
        obtain ⟨y, hy⟩ : ∃ y, L[(x.kid j).toNat]? = some y := ⟨_, List.getElem?_eq_getElem (by omega)⟩
        refine ⟨y, hy, ?_, ih _ (by omega) y hy, vAt_ev hkj.1 hkj.2⟩
        unfold wid widAt
        rw [if_pos (by omega), hy]
        rfl
      obtain ⟨y1, _, w1, m1, e1⟩ := kid 1 (by omega)
      obtain ⟨y2, _, w2, m2, e2⟩ := kid 2 (by omega)
      by_cases hc : wid L x 0 = 1 ∧ wid L x 1 = wid L x 2 ∧ 1 ≤ wid L x 1 ∧ wid L x 1 ≤ 64
      · rw [if_pos hc] at hv
        split
        · show mayB x.w (vAt (valsN L a i) (x.kid 1)) = true
          rw [e1, ← hv.2, w1]; exact m1
        · show mayB x.w (vAt (valsN L a i) (x.kid 2)) = true
          rw [e2, ← hv.2, hc.2.1, w2]; exact m2
      · rw [if_neg hc] at hv; exact absurd rfl hv.1
    · rw [if_neg h25]; exact may_low hw.1 hw.2 _

end Tm
end Go.Proofs.YtjinjddcnjcffaaDoor

namespace Go.Proofs.YtjinjddcnjcffaaDoor
open Go.RowKit Go.Maps Bv Tm
namespace Tx
set_option maxHeartbeats 1600000
set_option maxRecDepth 100000

theorem kidsDo {L : List Nd} (hm : MayL L) {B b p mm : Nat} {sv : Value} : ∀ k, k ≤ L.length → KidsDo L k B b p mm sv
  | 0, _ => fun j hj => by omega
  | k + 1, hk => by
    have ih := kidsDo hm (B := B) (b := b) (p := p) (mm := mm) (sv := sv) k (by omega)
    intro j hj F cur u hW hE S hF hl
    by_cases hjk : j < k
    · exact ih j hjk F cur u hW hE S hF hl
    obtain rfl : j = k := by omega
    obtain ⟨x, hx⟩ : ∃ x, L[j]? = some x := ⟨_, List.getElem?_eq_getElem (by omega)⟩
    have hop := mayN_op (hm j x hx)
    have htx := txt_is S.good hx
    obtain ⟨o, w, k0, k1, k2, n, l⟩ := x
    simp only at hop
    by_cases h1 : o = 1
    · subst h1
      rw [htx]
      exact wnode_const hW hE S hx hl
    by_cases h2 : o = 2
    · subst h2
      rw [htx]
      exact wnode_var hW hE S hx hl
    by_cases h22 : o = 22
    · subst h22
      exact wnode_extract ih hW hE S hF hx hl
    by_cases h23 : o = 23
    · subst h23
      exact wnode_zext ih hW hE S hF hx hl
    by_cases h24 : o = 24
    · subst h24
      exact wnode_sext ih hW hE S hF hx hl
    exact wnode_plain ⟨by omega, by omega, h22, h23, h24⟩ ih hW hE S hF hx hl

theorem wnode_err {b : Nat} {st : Value} {k er : Int} {W : World} (hc : W.cell? ⟨b, 0, none⟩ = some st) (her : ¬ er = 0) (HN : Calls Tryd.prog 10 #[st, .int .i64 k] W fun e W' => e = .returned (.tuple #[.agg #[.int .u8 0, .int .u8 0, .int .i64 0, .int .i64 0, .int .i64 0, .int .u64 0, .int .u8 0], .int .i64 er]) ∧ Below W.heap.size W W') :
    Calls Tryd.prog 9 #[.pointer (some ⟨b, 0, none⟩), .int .i64 k] W fun e W' => e = boom er ∧ Below W.heap.size W W' := by
  have HN := Lib.hid HN
  go_enter Tryd.func9, Tryd.ntmps9
  go_wp2_with (go_at_call 10; refine HN.out.mono ?_; rintro e W1 ⟨rfl, hb1⟩; have HB1 := Lib.hid hb1; clear hb1)
  exact ⟨rfl, rfl, bel_alloc HB1.out _⟩

theorem put1_any {b ib : Nat} {k : Int} {w : World} {R : Ending → World → Prop} (hc : w.cell? ⟨ib, 0, none⟩ = some (.int .i64 k)) (H : Calls Tryd.prog 9 #[.pointer (some ⟨b, 0, none⟩), .int .i64 k] w fun e w' => R e w' ∧ (e = .returned (.tuple #[]) ∨ ∃ n, e = boom n)) :
    Calls Tryd.prog 8 #[.pointer (some ⟨b, 0, none⟩), .pointer (some ⟨ib, 0, none⟩)] w R := by
  have H := Lib.hid H
  go_enter Tryd.func8, Tryd.ntmps8
  go_wp2_with (go_at_call 9; refine H.out.mono ?_; rintro e w1 ⟨h, rfl | ⟨n, rfl⟩⟩)
  · exact bodyPost_ret (v := .tuple #[]) (by simp [results, Tryd.results8, go_sem]) rfl h
  · exact ⟨rfl, h⟩

theorem conv_text {w : World} {v : Value} {bs : By} (row : w.ownsRow 0 5 1 v bs.length (bc bs)) (hne : bs ≠ []) : (convert 35 9 v).run Tryd.prog w = .ok (.string ⟨bs.toArray⟩) w := by
  have hr := row
  rcases row with ⟨_, ⟨h1, h2⟩ | ⟨g, cap, cur, rfl, _⟩⟩
  · exact absurd (List.eq_nil_of_length_eq_zero h2) hne
  · refine run_convert_bytes_back (P := Tryd.prog) w 35 9 5 ⟨g, 0, none⟩ cap bs Tryd.underlying35 Tryd.underlying5 Tryd.underlying9 (fun j hj => ?_)
    exact hr.cells (g := g) rfl j _ (by simp [bc, hj])

theorem txt_ne {L : List Nd} (g : Gd L) {k : Nat} (h : k < L.length) : txt L k ≠ [] := by
  rw [txt_is g (List.getElem?_eq_getElem h)]
  unfold bodyT hd
  split
  · simp
  · split <;> simp

/-- What Put answers of a node that is there. -/
def putR (L : List Nd) (k : Nat) : Value := if (txt L k).length ≤ 10000 then .tuple #[.string ⟨(txt L k).toArray⟩, .int .i64 0] else .tuple #[.string ⟨#[]⟩, .int .i64 3]
/-- Blocks that may change in Put: the writer's, and new ones. -/
def PF (W : World) (i : Nat) : Prop := i = W.heap.size + 1 ∨ W.heap.size + 1 + 1 + 1 ≤ i

theorem put_yes {B p m k : Nat} {sv : Value} {L : List Nd} {W : World} (S : StoreAt B W p m sv L) (hm : MayL L) (hE : EnvAt (fun i => W.heap.size ≤ i) W) (hk : k < L.length) :
    Calls Tryd.prog 4 #[.pointer (some ⟨p, 0, none⟩), .int .i64 ((k : Nat) : Int)] W fun e W' => e = .returned (putR L k) ∧ Below W.heap.size W W' := by
  have hmf : ∀ (fn : Fn) (first cap : Array Value) (w : World), (Instr.makeFunc fn first cap).run Tryd.prog w = .ok (.func fn first cap) w := fun _ _ _ _ => rfl
  obtain ⟨W3, hW3⟩ : ∃ W3, W3 = ((W.alloc (.cells #[.int .i64 ((k : Nat) : Int)] 3)).alloc (.cells #[.pointer (some ⟨p, 0, none⟩), .slice none 0 0] 37)).alloc (.cells #[.int .i64 0] 28) := ⟨_, rfl⟩
  have b3 : Below W.heap.size W W3 := by rw [hW3]; exact bel_alloc (bel_alloc (bel_alloc (Below.refl _ _) _) _) _
  have s3 : W3.heap.size = W.heap.size + 1 + 1 + 1 := by rw [hW3]; simp
  have hfoot : ∀ i, foot p m sv i → ¬ PF W i := by
    intro i c d
    have : i < W.heap.size := by
      rcases c with c | c | c
      · subst c; exact S.lt
      · subst c; exact S.lm
      · exact (S.row.lt i c).2
    unfold PF at d
    omega
  have E3 : EnvAt (PF W) W3 := (hE.call b3).mono (fun i c => by unfold PF at c; omega)
  have S3 := S.call b3
  have c1 : W3.cell? ⟨W.heap.size, 0, none⟩ = some (.int .i64 ((k : Nat) : Int)) := by rw [hW3]; simp [go_sem]
  have c2 : W3.cell? ⟨W.heap.size + 1, 0, none⟩ = some (.pointer (some ⟨p, 0, none⟩)) := by rw [hW3]; simp [go_sem]
  have c3 : W3.cell? ⟨W.heap.size + 1, 1, none⟩ = some (.slice none 0 0) := by rw [hW3]; simp [go_sem]
  have c4 : ∀ o, W3.frozen? ⟨W.heap.size + 1, o, none⟩ = false := fun o => by rw [hW3]; simp [go_sem]
  have c5 : W3.cell? ⟨W.heap.size + 1 + 1, 0, none⟩ = some (.int .i64 0) := by rw [hW3]; simp [go_sem]
  have c6 : W3.frozen? ⟨W.heap.size + 1 + 1, 0, none⟩ = false := by rw [hW3]; simp [go_sem]
  have hWr : WrE (PF W) (W.heap.size + 1) (.pointer (some ⟨p, 0, none⟩)) [] W3 :=
    ⟨.slice none 0 0, c2, c3, c4, World.ownsRow_nil _ _ _ _, by simp [Value.ownBlock], .inl rfl, fun g e => by simp [Value.ownBlock] at e, fun i hi => .inr (by omega)⟩
  have hnode := kidsDo hm (B := B) (b := W.heap.size + 1) (p := p) (mm := m) (sv := sv) L.length (Nat.le_refl _) k hk (PF W) [] W3 hWr E3 S3 hfoot (by simp)
  have hput1 : Calls Tryd.prog 8 #[.pointer (some ⟨W.heap.size + 1, 0, none⟩), .pointer (some ⟨W.heap.size, 0, none⟩)] W3 (Wrote (PF W) (W.heap.size + 1) (.pointer (some ⟨p, 0, none⟩)) ([] ++ txt L k) W3) := by
    refine put1_any c1 (hnode.mono ?_)
    intro e w' h
    refine ⟨h, ?_⟩
    rcases h with ⟨_, h, _⟩ | ⟨_, h, _⟩
    · exact .inl h
    · exact .inr ⟨3, h⟩
  have hne := txt_ne S.good hk
  unfold putR
  rw [List.nil_append] at hput1
  generalize txt L k = t at hput1 hne ⊢
  have hnPF : ¬ PF W (W.heap.size + 1 + 1) := by unfold PF; omega
  have HB3 := Lib.hid b3
  have HS3 := Lib.hid s3
  by_cases ht : t.length ≤ 10000
  · rw [if_pos ht]
    have hc := caught_put_ok (.pointer (some ⟨W.heap.size + 1, 0, none⟩)) (.pointer (some ⟨W.heap.size, 0, none⟩)) (W := (W.alloc (.cells #[.int .i64 ((k : Nat) : Int)] 3)).alloc (.cells #[.pointer (some ⟨p, 0, none⟩), .slice none 0 0] 37))
      (R := fun w1 => WrE (PF W) (W.heap.size + 1) (.pointer (some ⟨p, 0, none⟩)) t w1 ∧ Kept (PF W) W3 w1) (by
        rw [← hW3]
        refine hput1.mono ?_
        rintro e w1 (⟨_, rfl, h, kk⟩ | ⟨h, _⟩)
        · exact ⟨rfl, And.intro h kk⟩
        · omega) (by
        rintro w1 ⟨_, kk⟩
        have hsz : ((W.alloc (.cells #[.int .i64 ((k : Nat) : Int)] 3)).alloc (.cells #[.pointer (some ⟨p, 0, none⟩), .slice none 0 0] 37)).heap.size = W.heap.size + 1 + 1 := by simp
        rw [hsz]
        exact ⟨(kk.cell (x := ⟨W.heap.size + 1 + 1, 0, none⟩) (show _ < _ by rw [s3]; exact Nat.lt_succ_self _) hnPF).trans c5, (kk.frozen (x := ⟨W.heap.size + 1 + 1, 0, none⟩) (show _ < _ by rw [s3]; exact Nat.lt_succ_self _) hnPF).trans c6⟩)
    have HC := Lib.hid hc
    have HNE := Lib.hid hne
    clear hc hput1 hnode hWr S3 E3 S hE c1 c2 c3 c4 c5 c6 hW3 b3 s3 hfoot hne
    go_enter Tryd.func4, Tryd.ntmps4
    go_wp2_with (go_at_call 7; refine HC.out.mono ?_; rintro e W4 ⟨rfl, w1, ⟨⟨v, hv⟩, k1⟩, hW4⟩; have HW4 := Lib.hid hW4; clear hW4; refine Hid.out ?_)
    refine Lib.hid ?_
    have hsz : ((W.alloc (.cells #[.int .i64 ((k : Nat) : Int)] 3)).alloc (.cells #[.pointer (some ⟨p, 0, none⟩), .slice none 0 0] 37)).heap.size = W.heap.size + 1 + 1 := by simp
    have hW4 := HW4.out
    rw [hsz] at hW4
    have hov : v.ownBlock ≠ some (W.heap.size + 1 + 1) := fun e => hnPF (hv.fo _ e)
    have d1 : W4.cell? ⟨W.heap.size + 1, 1, none⟩ = some v := by rw [hW4, World.cell?_setCell_far _ _ _ _ (by simp)]; exact hv.c1
    have hcv : (convert 35 9 v).run Tryd.prog W4 = .ok (.string ⟨t.toArray⟩) W4 := by
      rw [hW4]
      exact conv_text (row_setCell hv.row (a := ⟨W.heap.size + 1 + 1, 0, none⟩) _ hov) HNE.out
    have hb4 : Below W.heap.size W W4 := by
      rw [hW4]
      exact (HB3.out.trans (k1.below (fun i hi c => by unfold PF at c; omega) HB3.out.size)).setCell (by simp; omega) _
    obtain ⟨sa, sn, sc, rfl⟩ := row_shape3 hv.row
    have HB4 := Lib.hid hb4
    clear hb4 hv k1 hW4 hov hsz hnPF HW4
    go_wp2_with fail
    exact bodyPost_ret (v := .tuple #[.string ⟨t.toArray⟩, .int .i64 0]) (by simp [results, Tryd.results4, go_sem]) rfl ⟨rfl, HB4.out⟩
  · rw [if_neg ht]
    have hc := caught_put_bad (.pointer (some ⟨W.heap.size + 1, 0, none⟩)) (.pointer (some ⟨W.heap.size, 0, none⟩)) 3 (W := (W.alloc (.cells #[.int .i64 ((k : Nat) : Int)] 3)).alloc (.cells #[.pointer (some ⟨p, 0, none⟩), .slice none 0 0] 37))
      (R := fun w1 => Kept (PF W) W3 w1) (by
        rw [← hW3]
        refine hput1.mono ?_
        rintro e w1 (⟨h, _⟩ | ⟨_, rfl, kk⟩)
        · omega
        · exact ⟨rfl, kk⟩) (by
        rintro w1 kk
        have hsz : ((W.alloc (.cells #[.int .i64 ((k : Nat) : Int)] 3)).alloc (.cells #[.pointer (some ⟨p, 0, none⟩), .slice none 0 0] 37)).heap.size = W.heap.size + 1 + 1 := by simp
        rw [hsz]
        exact ⟨(kk.cell (x := ⟨W.heap.size + 1 + 1, 0, none⟩) (show _ < _ by rw [s3]; exact Nat.lt_succ_self _) hnPF).trans c5, (kk.frozen (x := ⟨W.heap.size + 1 + 1, 0, none⟩) (show _ < _ by rw [s3]; exact Nat.lt_succ_self _) hnPF).trans c6⟩)
    have HC := Lib.hid hc
    clear hc hput1 hnode hWr S3 E3 S hE c1 c2 c3 c4 c5 c6 hW3 b3 s3 hfoot hne
    go_enter Tryd.func4, Tryd.ntmps4
    go_wp2_with (go_at_call 7; refine HC.out.mono ?_; rintro e W4 ⟨rfl, w1, k1, hW4⟩; have HW4 := Lib.hid hW4; clear hW4; refine Hid.out ?_)
    refine Lib.hid ?_
    have hsz : ((W.alloc (.cells #[.int .i64 ((k : Nat) : Int)] 3)).alloc (.cells #[.pointer (some ⟨p, 0, none⟩), .slice none 0 0] 37)).heap.size = W.heap.size + 1 + 1 := by simp
    have hW4 := HW4.out
    rw [hsz] at hW4
    have hb4 : Below W.heap.size W W4 := by
      rw [hW4]
      exact (HB3.out.trans (k1.below (fun i hi c => by unfold PF at c; omega) HB3.out.size)).setCell (by simp; omega) _
    have HB4 := Lib.hid hb4
    clear hb4 k1 hW4 hsz hnPF HW4
    go_wp2_with fail
    exact bodyPost_ret (v := .tuple #[.string ⟨#[]⟩, .int .i64 3]) (by simp [results, Tryd.results4, go_sem]) rfl ⟨rfl, HB4.out⟩

/-- Of a number that is none, and of no store. -/
theorem put_err {st : Value} {k er : Int} {W : World} (her : ¬ er = 0) (hst : st = .pointer none ∨ ∃ p, st = .pointer (some ⟨p, 0, none⟩)) (HN : ∀ w, Below W.heap.size W w → Calls Tryd.prog 10 #[st, .int .i64 k] w fun e W' => e = .returned (.tuple #[.agg #[.int .u8 0, .int .u8 0, .int .i64 0, .int .i64 0, .int .i64 0, .int .u64 0, .int .u8 0], .int .i64 er]) ∧ Below w.heap.size w W') :
    Calls Tryd.prog 4 #[st, .int .i64 k] W fun e W' => e = .returned (.tuple #[.string ⟨#[]⟩, .int .i64 er]) ∧ Below W.heap.size W W' := by
  have hmf : ∀ (fn : Fn) (first cap : Array Value) (w : World), (Instr.makeFunc fn first cap).run Tryd.prog w = .ok (.func fn first cap) w := fun _ _ _ _ => rfl
  have d : (er == 0) = false := by simpa using her
  obtain ⟨W3, hW3⟩ : ∃ W3, W3 = ((W.alloc (.cells #[.int .i64 k] 3)).alloc (.cells #[st, .slice none 0 0] 37)).alloc (.cells #[.int .i64 0] 28) := ⟨_, rfl⟩
  have b3 : Below W.heap.size W W3 := by rw [hW3]; exact bel_alloc (bel_alloc (bel_alloc (Below.refl _ _) _) _) _
  have s3 : W3.heap.size = W.heap.size + 1 + 1 + 1 := by rw [hW3]; simp
  have c1 : W3.cell? ⟨W.heap.size, 0, none⟩ = some (.int .i64 k) := by rw [hW3]; simp [go_sem]
  have c2 : W3.cell? ⟨W.heap.size + 1, 0, none⟩ = some st := by rw [hW3]; simp [go_sem]
  have c5 : W3.cell? ⟨W.heap.size + 1 + 1, 0, none⟩ = some (.int .i64 0) := by rw [hW3]; simp [go_sem]
  have c6 : W3.frozen? ⟨W.heap.size + 1 + 1, 0, none⟩ = false := by rw [hW3]; simp [go_sem]
  have hput1 : Calls Tryd.prog 8 #[.pointer (some ⟨W.heap.size + 1, 0, none⟩), .pointer (some ⟨W.heap.size, 0, none⟩)] W3 (fun e w1 => e = boom er ∧ Below W3.heap.size W3 w1) :=
    put1_any c1 ((wnode_err c2 her (HN W3 b3)).mono (fun e w' h => ⟨h, .inr ⟨er, h.1⟩⟩))
  have HB3 := Lib.hid b3
  have hc := caught_put_bad (.pointer (some ⟨W.heap.size + 1, 0, none⟩)) (.pointer (some ⟨W.heap.size, 0, none⟩)) er (W := (W.alloc (.cells #[.int .i64 k] 3)).alloc (.cells #[st, .slice none 0 0] 37))
      (R := fun w1 => Below W3.heap.size W3 w1) (by rw [← hW3]; exact hput1) (by
        rintro w1 kk
        have hsz : ((W.alloc (.cells #[.int .i64 k] 3)).alloc (.cells #[st, .slice none 0 0] 37)).heap.size = W.heap.size + 1 + 1 := by simp
        rw [hsz]
        exact ⟨(kk.cell (p := ⟨W.heap.size + 1 + 1, 0, none⟩) (show _ < _ by rw [s3]; exact Nat.lt_succ_self _)).trans c5, (kk.frozen (p := ⟨W.heap.size + 1 + 1, 0, none⟩) (show _ < _ by rw [s3]; exact Nat.lt_succ_self _)).trans c6⟩)
  have HC := Lib.hid hc
  clear hc hput1 c1 c2 c5 c6 hW3 b3 s3 HN her
  rcases hst with rfl | ⟨p, rfl⟩
  all_goals
    go_enter Tryd.func4, Tryd.ntmps4
    go_wp2_with (go_at_call 7; refine HC.out.mono ?_; rintro e W4 ⟨rfl, w1, k1, hW4⟩; have HW4 := Lib.hid hW4; clear hW4; refine Hid.out ?_)
    refine Lib.hid ?_
    have hW4 := HW4.out
    have hb4 : Below W.heap.size W W4 := by
      rw [hW4]
      exact (bel_call HB3.out k1).setCell (by simp; omega) _
    have HB4 := Lib.hid hb4
    clear hb4 k1 hW4 HW4
    go_wp2_with fail
    exact bodyPost_ret (v := .tuple #[.string ⟨#[]⟩, .int .i64 er]) (by simp [results, Tryd.results4, go_sem]) rfl ⟨rfl, HB4.out⟩
end Tx
end Go.Proofs.YtjinjddcnjcffaaDoor
