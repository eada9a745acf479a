/-
What the reference's product by adding, and its shift bit by bit, return.
What the reference's shift bit by bit returns.
What the reference's shifts down return.
What the reference's order by worths returns.
What the reference's long division returns.
What Binary of the reference returns, operator by operator.
-/
import Derived.Test.YtigjbngedbbdbaaPt14
import Derived.Test.YtigjbngedbbdbaaPt02
import Derived.LoopTactic
import Derived.Deep.RegionHeld3
import Derived.Test.YtigjbngedbbdbaaBvRefB
import Derived.Test.YtigjbngedbbdbaaPt05
namespace Go.Proofs.Ytigjbngedbbdbaa
open Go.RowKit
namespace Bv
set_option maxHeartbeats 1000000
set_option maxRecDepth 100000

/-- Block p may be written. -/
def Fz (w : World) (p : Nat) : Prop := w.frozen? ⟨p, 0, none⟩ = false ∧ w.frozen? ⟨p, 1, none⟩ = false
theorem Fz.keep {w w' : World} {p : Nat} (h : Fz w p) (hl : p < w.heap.size) (hb : Below w.heap.size w w') : Fz w' p :=
  ⟨(hb.frozen (p := ⟨p, 0, none⟩) hl).trans h.1, (hb.frozen (p := ⟨p, 1, none⟩) hl).trans h.2⟩

theorem rbit_is {w n : Nat} (hn : n < 18446744073709551616) {i : Int} (hi : 0 ≤ i) (hi2 : i < 9223372036854775808) {b : Bool} (hb : n.testBit i.toNat = b) (W : World) :
    Calls Try.prog 82 #[.agg #[.int .u8 w, .int .u64 n], .int .i64 i] W fun e W' => e = .returned (.bool b) ∧ Below W.heap.size W W' := by
  have := rbit_any w n hn i hi hi2 W; rw [hb] at this; exact this

theorem rtimes_any (w n v m : Nat) (hw : w ≤ 64) (hm : m < 18446744073709551616) (W : World) :
    Calls Try.prog 58 #[.agg #[.int .u8 w, .int .u64 n], .agg #[.int .u8 v, .int .u64 m]] W fun e W' => e = .returned (.agg #[.int .u8 w, .int .u64 (low w (tm n m w) : Nat)]) ∧ Below W.heap.size W W' := by
  go_enter Try.func58, Try.ntmps58
  go_wp2
  go_loopw [5, 6] (fun acc i wr => ∃ k : Nat, k ≤ w ∧ i = .int .i64 k ∧ acc = .int .u64 (tm n m k : Nat) ∧ Below W.heap.size W wr ∧ At wr W.heap.size (.int .u8 w) (.int .u64 n) ∧ At wr (W.heap.size + 1) (.int .u8 v) (.int .u64 m) ∧ At wr (W.heap.size + 1 + 1) (.int .u8 0) (.int .u64 0) ∧ Fz wr (W.heap.size + 1 + 1)) (fun _ i _ => w - (intOf i).toNat)
  case atStart =>
    refine ⟨0, by omega, rfl, by rw [tm_start]; rfl, bel_alloc (bel_alloc (bel_alloc (Below.refl _ _) _) _) _, ?_, ?_, ?_, ?_⟩
    all_goals constructor <;> simp [go_sem]
  case round =>
    obtain ⟨k, hk, rfl, rfl, hbel, ka, kb, kr, fr⟩ := hrel
    have la := ka.lt
    have lb := kb.lt
    have lr := kr.lt
    have oa := ka
    have ob := kb
    have or_ := kr
    have of_ := fr
    unfold At at oa ob or_
    unfold Fz at of_
    by_cases hlt : k < w
    · cases hbit : m.testBit k
      · have HB := Lib.hid hbit
        clear hbit
        go_wp2_with (first | (go_at_call 82; refine (rbit_is (b := false) hm (by omega) (by omega) (by simpa using HB.out) _).mono ?_; rintro e w1 ⟨rfl, hb1⟩))
        refine ⟨⟨k + 1, by omega, by go_num, by rw [tm_no HB.out], bel_call hbel hb1, ka.keep hb1, kb.keep hb1, kr.keep hb1, fr.keep lr hb1⟩, by simp [intOf]; omega⟩
      · have HB := Lib.hid hbit
        clear hbit
        go_wp2_with (first | (go_at_call 82; refine (rbit_is (b := true) hm (by omega) (by omega) (by simpa using HB.out) _).mono ?_; rintro e w1 ⟨rfl, hb1⟩; have ga := ka.keep hb1; unfold At at ga))
        refine ⟨⟨k + 1, by omega, by go_num, by rw [tm_yes HB.out], bel_call hbel hb1, ka.keep hb1, kb.keep hb1, kr.keep hb1, fr.keep lr hb1⟩, by simp [intOf]; omega⟩
    · obtain rfl : k = w := by omega
      go_wp2_with (first | (go_at_call 42; refine (rcut_any k hw _ (by omega) (by have := tm_lt n m k; omega) _).mono ?_; rintro e w1 ⟨rfl, hb1⟩; have gr := kr.keep hb1; have lr1 := gr.lt; have gf := fr.keep lr hb1; unfold At at gr; unfold Fz at gf))
      refine bodyPost_ret (v := .agg #[.int .u8 k, .int .u64 (low k (tm n m k) : Nat)]) (by simp [results, Try.results58, go_sem, gr]) rfl ⟨rfl, ?_⟩
      exact ((bel_call hbel hb1).setCell (by simp; omega) _).setCell (by simp; omega) _
end Bv
end Go.Proofs.Ytigjbngedbbdbaa

namespace Go.Proofs.Ytigjbngedbbdbaa
open Go.RowKit
namespace Bv
set_option maxHeartbeats 1000000
set_option maxRecDepth 100000

theorem rbit_at {w n : Nat} (hn : n < 18446744073709551616) {i : Int} (j : Nat) (hij : i = (j : Int)) (hj : j < 128) {b : Bool} (hb : n.testBit j = b) (W : World) :
    Calls Try.prog 82 #[.agg #[.int .u8 w, .int .u64 n], .int .i64 i] W fun e W' => e = .returned (.bool b) ∧ Below W.heap.size W W' := by
  subst hij
  exact rbit_is hn (by omega) (by omega) (by simpa using hb) W

theorem rshift_15 (w n v m T : Nat) (hw : w ≤ 64) (hn : n < 18446744073709551616) (hm : m < 18446744073709551616) (hT : Hid (∀ k, k < w → T.testBit k = (decide (m ≤ k) && n.testBit (k - m)))) (W : World) :
    Calls Try.prog 61 #[.int .u8 15, .agg #[.int .u8 w, .int .u64 n], .agg #[.int .u8 v, .int .u64 m]] W fun e W' => e = .returned (.agg #[.int .u8 w, .int .u64 (low w (sh T w) : Nat)]) ∧ Below W.heap.size W W' := by
  go_enter Try.func61, Try.ntmps61
  go_wp2
  go_loopw [7, 9] (fun acc i wr => ∃ k : Nat, k ≤ w ∧ i = .int .i64 k ∧ acc = .int .u64 (sh T k : Nat) ∧ Below W.heap.size W wr ∧ At wr W.heap.size (.int .u8 w) (.int .u64 n) ∧ At wr (W.heap.size + 1) (.int .u8 v) (.int .u64 m) ∧ At wr (W.heap.size + 1 + 1) (.int .u8 0) (.int .u64 0) ∧ Fz wr (W.heap.size + 1 + 1)) (fun _ i _ => w - (intOf i).toNat)
  case atStart =>
    refine ⟨0, by omega, rfl, by rw [sh_start]; rfl, bel_alloc (bel_alloc (bel_alloc (Below.refl _ _) _) _) _, ?_, ?_, ?_, ?_⟩
    all_goals constructor <;> simp [go_sem]
  case round =>
    obtain ⟨k, hk, rfl, rfl, hbel, ka, kb, kr, fr⟩ := hrel
    have la := ka.lt
    have lb := kb.lt
    have lr := kr.lt
    have oa := ka
    have ob := kb
    have or_ := kr
    have of_ := fr
    unfold At at oa ob or_
    unfold Fz at of_
    by_cases hlt : k < w
    · by_cases hmk : m ≤ k
      · cases hbit : n.testBit (k - m)
        · have HT : Hid (T.testBit k = false) := Lib.hid (by rw [hT.out k hlt, hbit]; simp)
          have HB := Lib.hid hbit
          clear hbit
          go_wp2_with (first | (go_at_call 82; refine (rbit_at (b := false) hn (k - m) (by omega) (by omega) HB.out _).mono ?_; rintro e w1 ⟨rfl, hb1⟩; have ga := ka.keep hb1; have gb := kb.keep hb1; unfold At at ga gb))
          exact ⟨⟨k + 1, by omega, by go_num, by rw [sh_no HT.out], bel_call hbel hb1, ka.keep hb1, kb.keep hb1, kr.keep hb1, fr.keep lr hb1⟩, by simp [intOf]; omega⟩
        · have HT : Hid (T.testBit k = true) := Lib.hid (by rw [hT.out k hlt, hbit]; simp [hmk])
          have HB := Lib.hid hbit
          clear hbit
          go_wp2_with (first | (go_at_call 82; refine (rbit_at (b := true) hn (k - m) (by omega) (by omega) HB.out _).mono ?_; rintro e w1 ⟨rfl, hb1⟩; have ga := ka.keep hb1; have gb := kb.keep hb1; unfold At at ga gb))
          exact ⟨⟨k + 1, by omega, by go_num, by rw [sh_yes (by omega) HT.out], bel_call hbel hb1, ka.keep hb1, kb.keep hb1, kr.keep hb1, fr.keep lr hb1⟩, by simp [intOf]; omega⟩
      · have HT : Hid (T.testBit k = false) := Lib.hid (by rw [hT.out k hlt]; simp [hmk])
        go_wp2_with fail
        exact ⟨⟨k + 1, by omega, by go_num, by rw [sh_no HT.out], hbel, ka, kb, kr, fr⟩, by simp [intOf]; omega⟩
    · obtain rfl : k = w := by omega
      go_wp2_with (first | (go_at_call 42; refine (rcut_any k hw _ (by omega) (by have := sh_lt T hw; omega) _).mono ?_; rintro e w1 ⟨rfl, hb1⟩; have gr := kr.keep hb1; have lr1 := gr.lt; have gf := fr.keep lr hb1; unfold At at gr; unfold Fz at gf))
      refine bodyPost_ret (v := .agg #[.int .u8 k, .int .u64 (low k (sh T k) : Nat)]) (by simp [results, Try.results61, go_sem, gr]) rfl ⟨rfl, ?_⟩
      exact ((bel_call hbel hb1).setCell (by simp; omega) _).setCell (by simp; omega) _

end Bv
end Go.Proofs.Ytigjbngedbbdbaa

namespace Go.Proofs.Ytigjbngedbbdbaa
open Go.RowKit
namespace Bv
set_option maxHeartbeats 1000000
set_option maxRecDepth 100000

theorem rshift_16 (w n v m T : Nat) (hw : w ≤ 64) (hn : n < 18446744073709551616) (hm : m < 18446744073709551616) (hT : Hid (∀ k, k < w → T.testBit k = (decide (m < w ∧ k + m < w) && n.testBit (k + m)))) (W : World) :
    Calls Try.prog 61 #[.int .u8 16, .agg #[.int .u8 w, .int .u64 n], .agg #[.int .u8 v, .int .u64 m]] W fun e W' => e = .returned (.agg #[.int .u8 w, .int .u64 (low w (sh T w) : Nat)]) ∧ Below W.heap.size W W' := by
  go_enter Try.func61, Try.ntmps61
  go_wp2
  go_loopw [7, 9] (fun acc i wr => ∃ k : Nat, k ≤ w ∧ i = .int .i64 k ∧ acc = .int .u64 (sh T k : Nat) ∧ Below W.heap.size W wr ∧ At wr W.heap.size (.int .u8 w) (.int .u64 n) ∧ At wr (W.heap.size + 1) (.int .u8 v) (.int .u64 m) ∧ At wr (W.heap.size + 1 + 1) (.int .u8 0) (.int .u64 0) ∧ Fz wr (W.heap.size + 1 + 1)) (fun _ i _ => w - (intOf i).toNat)
  case atStart =>
    refine ⟨0, by omega, rfl, by rw [sh_start]; rfl, bel_alloc (bel_alloc (bel_alloc (Below.refl _ _) _) _) _, ?_, ?_, ?_, ?_⟩
    all_goals constructor <;> simp [go_sem]
  case round =>
    obtain ⟨k, hk, rfl, rfl, hbel, ka, kb, kr, fr⟩ := hrel
    have la := ka.lt
    have lb := kb.lt
    have lr := kr.lt
    have oa := ka
    have ob := kb
    have or_ := kr
    have of_ := fr
    unfold At at oa ob or_
    unfold Fz at of_
    by_cases hlt : k < w
    · by_cases hin : m < w ∧ k + m < w
      · obtain ⟨hi1, hi2⟩ := hin
        cases hbit : n.testBit (k + m)
        · have HT : Hid (T.testBit k = false) := Lib.hid (by rw [hT.out k hlt, hbit]; simp)
          have HB := Lib.hid hbit
          clear hbit
          go_wp2_with (first | (go_at_call 82; refine (rbit_at (b := false) hn (k + m) (by omega) (by omega) HB.out _).mono ?_; rintro e w1 ⟨rfl, hb1⟩; have ga := ka.keep hb1; have gb := kb.keep hb1; unfold At at ga gb))
          exact ⟨⟨k + 1, by omega, by go_num, by rw [sh_no HT.out], bel_call hbel hb1, ka.keep hb1, kb.keep hb1, kr.keep hb1, fr.keep lr hb1⟩, by simp [intOf]; omega⟩
        · have HT : Hid (T.testBit k = true) := Lib.hid (by rw [hT.out k hlt, hbit]; simp [hi1, hi2])
          have HB := Lib.hid hbit
          clear hbit
          go_wp2_with (first | (go_at_call 82; refine (rbit_at (b := true) hn (k + m) (by omega) (by omega) HB.out _).mono ?_; rintro e w1 ⟨rfl, hb1⟩; have ga := ka.keep hb1; have gb := kb.keep hb1; unfold At at ga gb))
          exact ⟨⟨k + 1, by omega, by go_num, by rw [sh_yes (by omega) HT.out], bel_call hbel hb1, ka.keep hb1, kb.keep hb1, kr.keep hb1, fr.keep lr hb1⟩, by simp [intOf]; omega⟩
      · have HT : Hid (T.testBit k = false) := Lib.hid (by rw [hT.out k hlt]; simp [hin])
        by_cases hi1 : m < w
        · have hi2 : ¬ k + m < w := fun h => hin ⟨hi1, h⟩
          clear hin
          go_wp2_with fail
          exact ⟨⟨k + 1, by omega, by go_num, by rw [sh_no HT.out], hbel, ka, kb, kr, fr⟩, by simp [intOf]; omega⟩
        · clear hin
          go_wp2_with fail
          exact ⟨⟨k + 1, by omega, by go_num, by rw [sh_no HT.out], hbel, ka, kb, kr, fr⟩, by simp [intOf]; omega⟩
    · obtain rfl : k = w := by omega
      go_wp2_with (first | (go_at_call 42; refine (rcut_any k hw _ (by omega) (by have := sh_lt T hw; omega) _).mono ?_; rintro e w1 ⟨rfl, hb1⟩; have gr := kr.keep hb1; have lr1 := gr.lt; have gf := fr.keep lr hb1; unfold At at gr; unfold Fz at gf))
      refine bodyPost_ret (v := .agg #[.int .u8 k, .int .u64 (low k (sh T k) : Nat)]) (by simp [results, Try.results61, go_sem, gr]) rfl ⟨rfl, ?_⟩
      exact ((bel_call hbel hb1).setCell (by simp; omega) _).setCell (by simp; omega) _

theorem rshift_17 (w n v m T : Nat) (hw : w ≤ 64) (hn : n < 18446744073709551616) (hm : m < 18446744073709551616) (s : Bool) (HS : Hid (∀ W : World, Calls Try.prog 81 #[.agg #[.int .u8 w, .int .u64 n]] W fun e W' => e = .returned (.bool s) ∧ Below W.heap.size W W'))
    (hT : Hid (∀ k, k < w → T.testBit k = if m < w ∧ k + m < w then n.testBit (k + m) else s)) (W : World) :
    Calls Try.prog 61 #[.int .u8 17, .agg #[.int .u8 w, .int .u64 n], .agg #[.int .u8 v, .int .u64 m]] W fun e W' => e = .returned (.agg #[.int .u8 w, .int .u64 (low w (sh T w) : Nat)]) ∧ Below W.heap.size W W' := by
  go_enter Try.func61, Try.ntmps61
  go_wp2
  go_loopw [7, 9] (fun acc i wr => ∃ k : Nat, k ≤ w ∧ i = .int .i64 k ∧ acc = .int .u64 (sh T k : Nat) ∧ Below W.heap.size W wr ∧ At wr W.heap.size (.int .u8 w) (.int .u64 n) ∧ At wr (W.heap.size + 1) (.int .u8 v) (.int .u64 m) ∧ At wr (W.heap.size + 1 + 1) (.int .u8 0) (.int .u64 0) ∧ Fz wr (W.heap.size + 1 + 1)) (fun _ i _ => w - (intOf i).toNat)
  case atStart =>
    refine ⟨0, by omega, rfl, by rw [sh_start]; rfl, bel_alloc (bel_alloc (bel_alloc (Below.refl _ _) _) _) _, ?_, ?_, ?_, ?_⟩
    all_goals constructor <;> simp [go_sem]
  case round =>
    obtain ⟨k, hk, rfl, rfl, hbel, ka, kb, kr, fr⟩ := hrel
    have la := ka.lt
    have lb := kb.lt
    have lr := kr.lt
    have oa := ka
    have ob := kb
    have or_ := kr
    have of_ := fr
    unfold At at oa ob or_
    unfold Fz at of_
    by_cases hlt : k < w
    · by_cases hin : m < w ∧ k + m < w
      · obtain ⟨hi1, hi2⟩ := hin
        cases hbit : n.testBit (k + m)
        · have HT : Hid (T.testBit k = false) := Lib.hid (by rw [hT.out k hlt, hbit]; simp [hi1, hi2])
          have HB := Lib.hid hbit
          clear hbit
          go_wp2_with (first | (go_at_call 82; refine (rbit_at (b := false) hn (k + m) (by omega) (by omega) HB.out _).mono ?_; rintro e w1 ⟨rfl, hb1⟩; have ga := ka.keep hb1; have gb := kb.keep hb1; unfold At at ga gb))
          exact ⟨⟨k + 1, by omega, by go_num, by rw [sh_no HT.out], bel_call hbel hb1, ka.keep hb1, kb.keep hb1, kr.keep hb1, fr.keep lr hb1⟩, by simp [intOf]; omega⟩
        · have HT : Hid (T.testBit k = true) := Lib.hid (by rw [hT.out k hlt, hbit]; simp [hi1, hi2])
          have HB := Lib.hid hbit
          clear hbit
          go_wp2_with (first | (go_at_call 82; refine (rbit_at (b := true) hn (k + m) (by omega) (by omega) HB.out _).mono ?_; rintro e w1 ⟨rfl, hb1⟩; have ga := ka.keep hb1; have gb := kb.keep hb1; unfold At at ga gb))
          exact ⟨⟨k + 1, by omega, by go_num, by rw [sh_yes (by omega) HT.out], bel_call hbel hb1, ka.keep hb1, kb.keep hb1, kr.keep hb1, fr.keep lr hb1⟩, by simp [intOf]; omega⟩
      · have HX := Lib.hid (hT.out k hlt)
        rw [show (T.testBit k = if m < w ∧ k + m < w then n.testBit (k + m) else s) = (T.testBit k = s) by rw [if_neg hin]] at HX
        by_cases hi1 : m < w
        · have hi2 : ¬ k + m < w := fun h => hin ⟨hi1, h⟩
          clear hin
          cases s
          · have HT := HX
            clear HX
            go_wp2_with (first | (go_at_call 81; refine (HS.out _).mono ?_; rintro e w1 ⟨rfl, hb1⟩; have ga := ka.keep hb1; have gb := kb.keep hb1; unfold At at ga gb))
            exact ⟨⟨k + 1, by omega, by go_num, by rw [sh_no HT.out], bel_call hbel hb1, ka.keep hb1, kb.keep hb1, kr.keep hb1, fr.keep lr hb1⟩, by simp [intOf]; omega⟩
          · have HT := HX
            clear HX
            go_wp2_with (first | (go_at_call 81; refine (HS.out _).mono ?_; rintro e w1 ⟨rfl, hb1⟩; have ga := ka.keep hb1; have gb := kb.keep hb1; unfold At at ga gb))
            exact ⟨⟨k + 1, by omega, by go_num, by rw [sh_yes (by omega) HT.out], bel_call hbel hb1, ka.keep hb1, kb.keep hb1, kr.keep hb1, fr.keep lr hb1⟩, by simp [intOf]; omega⟩
        · clear hin
          cases s
          · have HT := HX
            clear HX
            go_wp2_with (first | (go_at_call 81; refine (HS.out _).mono ?_; rintro e w1 ⟨rfl, hb1⟩; have ga := ka.keep hb1; have gb := kb.keep hb1; unfold At at ga gb))
            exact ⟨⟨k + 1, by omega, by go_num, by rw [sh_no HT.out], bel_call hbel hb1, ka.keep hb1, kb.keep hb1, kr.keep hb1, fr.keep lr hb1⟩, by simp [intOf]; omega⟩
          · have HT := HX
            clear HX
            go_wp2_with (first | (go_at_call 81; refine (HS.out _).mono ?_; rintro e w1 ⟨rfl, hb1⟩; have ga := ka.keep hb1; have gb := kb.keep hb1; unfold At at ga gb))
            exact ⟨⟨k + 1, by omega, by go_num, by rw [sh_yes (by omega) HT.out], bel_call hbel hb1, ka.keep hb1, kb.keep hb1, kr.keep hb1, fr.keep lr hb1⟩, by simp [intOf]; omega⟩
    · obtain rfl : k = w := by omega
      go_wp2_with (first | (go_at_call 42; refine (rcut_any k hw _ (by omega) (by have := sh_lt T hw; omega) _).mono ?_; rintro e w1 ⟨rfl, hb1⟩; have gr := kr.keep hb1; have lr1 := gr.lt; have gf := fr.keep lr hb1; unfold At at gr; unfold Fz at gf))
      refine bodyPost_ret (v := .agg #[.int .u8 k, .int .u64 (low k (sh T k) : Nat)]) (by simp [results, Try.results61, go_sem, gr]) rfl ⟨rfl, ?_⟩
      exact ((bel_call hbel hb1).setCell (by simp; omega) _).setCell (by simp; omega) _

end Bv
end Go.Proofs.Ytigjbngedbbdbaa

namespace Go.Proofs.Ytigjbngedbbdbaa
open Go.RowKit
namespace Bv
set_option maxHeartbeats 1000000
set_option maxRecDepth 100000

theorem rless_any (w n v m : Nat) (s t : Bool) (HS : Hid (∀ W : World, Calls Try.prog 81 #[.agg #[.int .u8 w, .int .u64 n]] W fun e W' => e = .returned (.bool s) ∧ Below W.heap.size W W'))
    (HT : Hid (∀ W : World, Calls Try.prog 81 #[.agg #[.int .u8 v, .int .u64 m]] W fun e W' => e = .returned (.bool t) ∧ Below W.heap.size W W')) (W : World) :
    Calls Try.prog 63 #[.agg #[.int .u8 w, .int .u64 n], .agg #[.int .u8 v, .int .u64 m]] W fun e W' => e = .returned (.bool (if s = t then decide (n < m) else s)) ∧ Below W.heap.size W W' := by
  have ka0 : At ((W.alloc (.cells #[.int .u8 w, .int .u64 n] 43)).alloc (.cells #[.int .u8 v, .int .u64 m] 43)) W.heap.size (.int .u8 w) (.int .u64 n) := (At.new _ _ _ _).alloc _
  have kb0 : At ((W.alloc (.cells #[.int .u8 w, .int .u64 n] 43)).alloc (.cells #[.int .u8 v, .int .u64 m] 43)) (W.heap.size + 1) (.int .u8 v) (.int .u64 m) := by
    have h0 := At.new (W.alloc (.cells #[.int .u8 w, .int .u64 n] 43)) (.int .u8 v) (.int .u64 m) 43
    simpa using h0
  have KA := Lib.hid ka0
  have KB := Lib.hid kb0
  clear ka0 kb0
  cases s <;> cases t
  all_goals
    go_enter Try.func63, Try.ntmps63
    go_wp2_with fail
    go_region_held3 (fun w' => w'.cell? ⟨W.heap.size, 0, none⟩ = some (.int .u8 w) ∧ w'.cell? ⟨W.heap.size, 1, none⟩ = some (.int .u64 n) ∧ w'.cell? ⟨W.heap.size + 1, 0, none⟩ = some (.int .u8 v) ∧ w'.cell? ⟨W.heap.size + 1, 1, none⟩ = some (.int .u64 m))
      (first | exact ⟨KA.out.drew.1, KA.out.drew.2, KB.out.drew.1, KB.out.drew.2⟩ | ((try dsimp only); (try go_split_ands); refine ⟨?_, ?_, ?_, ?_⟩ <;> (rw [(bcell hb).1 _ _ (by first | (simp; done) | (simp; omega) | omega)]; first | assumption | (simp [go_sem]; done))))
      (first | (go_at_call 81; (first | (with_reducible refine (HS.out _).mono ?_) | (with_reducible refine (HT.out _).mono ?_)); rintro e w1 ⟨rfl, hb⟩; have hz : W.heap.size + 1 < w1.heap.size := by have := hb.size; (try simp at this); omega))
    all_goals
      have ka : At w1 W.heap.size (.int .u8 w) (.int .u64 n) := by (try go_split_ands); constructor <;> assumption
      have hbel : Below W.heap.size W w1 := by
        refine bel_call ?_ hb
        refine bel_call ?_ (by assumption)
        exact (bel_alloc (bel_alloc (Below.refl _ _) _) _).drew
      go_wp2_with (first | (go_at_call 81; refine (HS.out _).mono ?_; rintro e w2 ⟨rfl, hb2⟩; have hbel2 := bel_call hbel hb2))
      go_ret
      first | exact ⟨ret_bool (by simp), hbel⟩ | exact ⟨ret_bool (by simp), hbel2⟩
end Bv
end Go.Proofs.Ytigjbngedbbdbaa

namespace Go.Proofs.Ytigjbngedbbdbaa
open Go.RowKit
namespace Bv
set_option maxHeartbeats 400000

theorem rdivide_any (n m : Nat) (hn : n < 18446744073709551616) (hm : m < 18446744073709551616) (hm0 : 0 < m) (W : World) :
    Calls Try.prog 59 #[.int .u64 n, .int .u64 m] W fun e W' => e = .returned (.tuple #[.int .u64 (dq n m 0 : Nat), .int .u64 (dr n m 0 : Nat)]) ∧ W = W' := by
  go_enter Try.func59, Try.ntmps59
  go_wp2
  go_loop [6, 7, 8] (fun q r i => ∃ k : Nat, k ≤ 64 ∧ i = .int .i64 ((k : Int) - 1) ∧ q = .int .u64 (dq n m k : Nat) ∧ r = .int .u64 (dr n m k : Nat)) (fun _ _ i => (intOf i + 1).toNat)
  case atStart => exact ⟨64, by omega, rfl, by rw [dq_start hn]; rfl, by rw [dr_start hn]; rfl⟩
  case round =>
    obtain ⟨k, hk, rfl, rfl, rfl⟩ := hrel
    rcases Nat.eq_zero_or_pos k with rfl | hk0
    · go_wp2
      go_ret2
      exact ⟨rfl, rfl⟩
    · obtain ⟨j, rfl⟩ : ∃ j, k = j + 1 := ⟨k - 1, by omega⟩
      have hr := dr_lt n (j + 1) hm0
      go_wp2
      · rename_i ht hc
        have ht' : dr n m (j + 1) < 9223372036854775808 := by omega
        rw [or_bit hn (by omega)] at hc
        have hc' : m ≤ 2 * dr n m (j + 1) + db n j := by omega
        have hb := db_lt n j
        refine ⟨⟨j, by omega, rfl, by rw [or_pow hn (by omega), ← dq_yes hm0 hc'], ?_⟩, by simp [intOf]⟩
        rw [or_bit hn (by omega), (dr_yes hm0 hc').1, IntKind.wrap_u64]
        congr 1; omega
      · rename_i ht hc
        have ht' : dr n m (j + 1) < 9223372036854775808 := by omega
        rw [or_bit hn (by omega)] at hc
        have hc' : 2 * dr n m (j + 1) + db n j < m := by omega
        refine ⟨⟨j, by omega, rfl, by rw [← dq_no hm0 hc'], ?_⟩, by simp [intOf]⟩
        rw [or_bit' hn, (dr_no hm0 hc').1, Nat.mod_eq_of_lt (by omega)]
      · rename_i ht
        have ht' : 9223372036854775808 ≤ dr n m (j + 1) := by omega
        have hc' : m ≤ 2 * dr n m (j + 1) + db n j := by omega
        have hb := db_lt n j
        refine ⟨⟨j, by omega, rfl, by rw [or_pow hn (by omega), ← dq_yes hm0 hc'], ?_⟩, by simp [intOf]⟩
        rw [or_bit' hn, (dr_yes hm0 hc').1, IntKind.wrap_u64]
        congr 1; omega
end Bv
end Go.Proofs.Ytigjbngedbbdbaa

namespace Go.Proofs.Ytigjbngedbbdbaa
open Go.RowKit
namespace Bv
set_option maxHeartbeats 400000
set_option maxRecDepth 100000

theorem rbin_b1 (o w n v m : Nat) (hn6 : n < 18446744073709551616) (HA : Hid (mayB w n = false)) (W : World) :
    Calls Try.prog 46 #[.int .u8 o, .agg #[.int .u8 w, .int .u64 n], .agg #[.int .u8 v, .int .u64 m]] W fun e W' => e = .returned (.tuple #[.agg #[.int .u8 0, .int .u64 0], .int .i64 2]) ∧ Below W.heap.size W W' := by
  go_enter Try.func46, Try.ntmps46
  go_wp2_with fail
  refine (rmay_no hn6 HA.out _).mono ?_; rintro e w1 ⟨rfl, hb1⟩
  have ka : At w1 (W.heap.size) (.int .u8 w) (.int .u64 n) := by have h0 := ((((At.new _ _ _ _).alloc _).alloc _)).keep hb1; simpa using h0
  have la := ka.lt
  have oa := ka
  unfold At at oa
  have kb : At w1 (W.heap.size + 1) (.int .u8 v) (.int .u64 m) := by have h0 := (((At.new _ _ _ _).alloc _)).keep hb1; simpa using h0
  have lb := kb.lt
  have ob := kb
  unfold At at ob
  have kres : At w1 (W.heap.size + 1 + 1) (.int .u8 0) (.int .u64 0) := by have h0 := ((At.new _ _ _ _)).keep hb1; simpa using h0
  have lres := kres.lt
  have ores := kres
  unfold At at ores
  have fres : w1.frozen? ⟨W.heap.size + 1 + 1, 0, none⟩ = false ∧ w1.frozen? ⟨W.heap.size + 1 + 1, 1, none⟩ = false := by constructor <;> (rw [Below.frozen hb1 (by simp)]; simp [go_sem])
  go_wp2_with fail
  refine bodyPost_ret (v := .tuple #[.agg #[.int .u8 0, .int .u64 0], .int .i64 2]) (by simp [results, Try.results46, go_sem, ores]) rfl ⟨rfl, ?_⟩
  exact ((bel_call (bel_alloc (bel_alloc (bel_alloc (Below.refl _ _) _) _) _) hb1).setCell (by first | (simp; done) | (simp; omega) | omega) _).setCell (by first | (simp; done) | (simp; omega) | omega) _

theorem rbin_b2 (o w n v m : Nat) (hn6 : n < 18446744073709551616) (hm6 : m < 18446744073709551616) (HA : Hid (mayB w n = true)) (HB : Hid (mayB v m = false)) (W : World) :
    Calls Try.prog 46 #[.int .u8 o, .agg #[.int .u8 w, .int .u64 n], .agg #[.int .u8 v, .int .u64 m]] W fun e W' => e = .returned (.tuple #[.agg #[.int .u8 0, .int .u64 0], .int .i64 2]) ∧ Below W.heap.size W W' := by
  go_enter Try.func46, Try.ntmps46
  go_wp2_with fail
  refine (rmay_yes hn6 HA.out _).mono ?_; rintro e w1 ⟨rfl, hb1⟩
  have ka : At w1 (W.heap.size) (.int .u8 w) (.int .u64 n) := by have h0 := ((((At.new _ _ _ _).alloc _).alloc _)).keep hb1; simpa using h0
  have la := ka.lt
  have oa := ka
  unfold At at oa
  have kb : At w1 (W.heap.size + 1) (.int .u8 v) (.int .u64 m) := by have h0 := (((At.new _ _ _ _).alloc _)).keep hb1; simpa using h0
  have lb := kb.lt
  have ob := kb
  unfold At at ob
  have kres : At w1 (W.heap.size + 1 + 1) (.int .u8 0) (.int .u64 0) := by have h0 := ((At.new _ _ _ _)).keep hb1; simpa using h0
  have lres := kres.lt
  have ores := kres
  unfold At at ores
  have fres : w1.frozen? ⟨W.heap.size + 1 + 1, 0, none⟩ = false ∧ w1.frozen? ⟨W.heap.size + 1 + 1, 1, none⟩ = false := by constructor <;> (rw [Below.frozen hb1 (by simp)]; simp [go_sem])
  go_wp2_with fail
  refine (rmay_no hm6 HB.out _).mono ?_; rintro e w2 ⟨rfl, hb2⟩
  replace ka := ka.keep hb2
  replace la := ka.lt
  replace oa := ka
  unfold At at oa
  replace kb := kb.keep hb2
  replace lb := kb.lt
  replace ob := kb
  unfold At at ob
  replace fres : w2.frozen? ⟨W.heap.size + 1 + 1, 0, none⟩ = false ∧ w2.frozen? ⟨W.heap.size + 1 + 1, 1, none⟩ = false := ⟨(Below.frozen hb2 (p := ⟨_, 0, none⟩) lres).trans fres.1, (Below.frozen hb2 (p := ⟨_, 1, none⟩) lres).trans fres.2⟩
  replace kres := kres.keep hb2
  replace lres := kres.lt
  replace ores := kres
  unfold At at ores
  go_wp2_with fail
  refine bodyPost_ret (v := .tuple #[.agg #[.int .u8 0, .int .u64 0], .int .i64 2]) (by simp [results, Try.results46, go_sem, ores]) rfl ⟨rfl, ?_⟩
  exact ((bel_call (bel_call (bel_alloc (bel_alloc (bel_alloc (Below.refl _ _) _) _) _) hb1) hb2).setCell (by first | (simp; done) | (simp; omega) | omega) _).setCell (by first | (simp; done) | (simp; omega) | omega) _

theorem rbin_b3 (w n v m : Nat) (hn6 : n < 18446744073709551616) (hm6 : m < 18446744073709551616) (HA : Hid (mayB w n = true)) (HB : Hid (mayB v m = true)) (hw : w ≤ 64) (hv : v ≤ 64) (h : 64 < w + v) (W : World) :
    Calls Try.prog 46 #[.int .u8 21, .agg #[.int .u8 w, .int .u64 n], .agg #[.int .u8 v, .int .u64 m]] W fun e W' => e = .returned (.tuple #[.agg #[.int .u8 0, .int .u64 0], .int .i64 2]) ∧ Below W.heap.size W W' := by
  go_enter Try.func46, Try.ntmps46
  go_wp2_with fail
  refine (rmay_yes hn6 HA.out _).mono ?_; rintro e w1 ⟨rfl, hb1⟩
  have ka : At w1 (W.heap.size) (.int .u8 w) (.int .u64 n) := by have h0 := ((((At.new _ _ _ _).alloc _).alloc _)).keep hb1; simpa using h0
  have la := ka.lt
  have oa := ka
  unfold At at oa
  have kb : At w1 (W.heap.size + 1) (.int .u8 v) (.int .u64 m) := by have h0 := (((At.new _ _ _ _).alloc _)).keep hb1; simpa using h0
  have lb := kb.lt
  have ob := kb
  unfold At at ob
  have kres : At w1 (W.heap.size + 1 + 1) (.int .u8 0) (.int .u64 0) := by have h0 := ((At.new _ _ _ _)).keep hb1; simpa using h0
  have lres := kres.lt
  have ores := kres
  unfold At at ores
  have fres : w1.frozen? ⟨W.heap.size + 1 + 1, 0, none⟩ = false ∧ w1.frozen? ⟨W.heap.size + 1 + 1, 1, none⟩ = false := by constructor <;> (rw [Below.frozen hb1 (by simp)]; simp [go_sem])
  go_wp2_with fail
  refine (rmay_yes hm6 HB.out _).mono ?_; rintro e w2 ⟨rfl, hb2⟩
  replace ka := ka.keep hb2
  replace la := ka.lt
  replace oa := ka
  unfold At at oa
  replace kb := kb.keep hb2
  replace lb := kb.lt
  replace ob := kb
  unfold At at ob
  replace fres : w2.frozen? ⟨W.heap.size + 1 + 1, 0, none⟩ = false ∧ w2.frozen? ⟨W.heap.size + 1 + 1, 1, none⟩ = false := ⟨(Below.frozen hb2 (p := ⟨_, 0, none⟩) lres).trans fres.1, (Below.frozen hb2 (p := ⟨_, 1, none⟩) lres).trans fres.2⟩
  replace kres := kres.keep hb2
  replace lres := kres.lt
  replace ores := kres
  unfold At at ores
  go_wp2_with fail
  refine bodyPost_ret (v := .tuple #[.agg #[.int .u8 0, .int .u64 0], .int .i64 2]) (by simp [results, Try.results46, go_sem, ores]) rfl ⟨rfl, ?_⟩
  exact ((bel_call (bel_call (bel_alloc (bel_alloc (bel_alloc (Below.refl _ _) _) _) _) hb1) hb2).setCell (by first | (simp; done) | (simp; omega) | omega) _).setCell (by first | (simp; done) | (simp; omega) | omega) _

theorem rbin_b4 (o w n v m : Nat) (hn6 : n < 18446744073709551616) (hm6 : m < 18446744073709551616) (HA : Hid (mayB w n = true)) (HB : Hid (mayB v m = true)) (d : ((o : Int) == 21) = false) (h : ((w : Int) != (v : Int)) = true) (W : World) :
    Calls Try.prog 46 #[.int .u8 o, .agg #[.int .u8 w, .int .u64 n], .agg #[.int .u8 v, .int .u64 m]] W fun e W' => e = .returned (.tuple #[.agg #[.int .u8 0, .int .u64 0], .int .i64 2]) ∧ Below W.heap.size W W' := by
  go_enter Try.func46, Try.ntmps46
  go_wp2_with fail
  refine (rmay_yes hn6 HA.out _).mono ?_; rintro e w1 ⟨rfl, hb1⟩
  have ka : At w1 (W.heap.size) (.int .u8 w) (.int .u64 n) := by have h0 := ((((At.new _ _ _ _).alloc _).alloc _)).keep hb1; simpa using h0
  have la := ka.lt
  have oa := ka
  unfold At at oa
  have kb : At w1 (W.heap.size + 1) (.int .u8 v) (.int .u64 m) := by have h0 := (((At.new _ _ _ _).alloc _)).keep hb1; simpa using h0
  have lb := kb.lt
  have ob := kb
  unfold At at ob
  have kres : At w1 (W.heap.size + 1 + 1) (.int .u8 0) (.int .u64 0) := by have h0 := ((At.new _ _ _ _)).keep hb1; simpa using h0
  have lres := kres.lt
  have ores := kres
  unfold At at ores
  have fres : w1.frozen? ⟨W.heap.size + 1 + 1, 0, none⟩ = false ∧ w1.frozen? ⟨W.heap.size + 1 + 1, 1, none⟩ = false := by constructor <;> (rw [Below.frozen hb1 (by simp)]; simp [go_sem])
  go_wp2_with fail
  refine (rmay_yes hm6 HB.out _).mono ?_; rintro e w2 ⟨rfl, hb2⟩
  replace ka := ka.keep hb2
  replace la := ka.lt
  replace oa := ka
  unfold At at oa
  replace kb := kb.keep hb2
  replace lb := kb.lt
  replace ob := kb
  unfold At at ob
  replace fres : w2.frozen? ⟨W.heap.size + 1 + 1, 0, none⟩ = false ∧ w2.frozen? ⟨W.heap.size + 1 + 1, 1, none⟩ = false := ⟨(Below.frozen hb2 (p := ⟨_, 0, none⟩) lres).trans fres.1, (Below.frozen hb2 (p := ⟨_, 1, none⟩) lres).trans fres.2⟩
  replace kres := kres.keep hb2
  replace lres := kres.lt
  replace ores := kres
  unfold At at ores
  go_wp2_with fail
  refine bodyPost_ret (v := .tuple #[.agg #[.int .u8 0, .int .u64 0], .int .i64 2]) (by simp [results, Try.results46, go_sem, ores]) rfl ⟨rfl, ?_⟩
  exact ((bel_call (bel_call (bel_alloc (bel_alloc (bel_alloc (Below.refl _ _) _) _) _) hb1) hb2).setCell (by first | (simp; done) | (simp; omega) | omega) _).setCell (by first | (simp; done) | (simp; omega) | omega) _

end Bv
end Go.Proofs.Ytigjbngedbbdbaa
