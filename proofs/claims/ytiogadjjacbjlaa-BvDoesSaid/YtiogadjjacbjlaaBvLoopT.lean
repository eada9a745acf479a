/-
  What the reference's product by adding, and its shift bit by bit, return.
-/
import Derived.Test.YtiogadjjacbjlaaBvRefA
import Derived.Test.YtiogadjjacbjlaaBvMathF
import Derived.LoopTactic
namespace Go.Proofs.Ytiogadjjacbjlaa
open Go.RowKit
namespace Bv
set_option maxHeartbeats 1000000
set_option maxRecDepth 100000

/-- Block p may be written. -/
def Fz (w : World) (p : Nat) : Prop := w.frozen? ⟨p, 0, none⟩ = false ∧ w.frozen? ⟨p, 1, none⟩ = false
theorem Fz.keep {w w' : World} {p : Nat} (h : Fz w p) (hl : p < w.heap.size) (hb : Below w.heap.size w w') : Fz w' p :=
  ⟨(hb.frozen (p := ⟨p, 0, none⟩) hl).trans h.1, (hb.frozen (p := ⟨p, 1, none⟩) hl).trans h.2⟩

theorem rbit_is {w n : Nat} (hn : n < 18446744073709551616) {i : Int} (hi : 0 ≤ i) (hi2 : i < 9223372036854775808) {b : Bool} (hb : n.testBit i.toNat = b) (W : World) :
    Calls Try.prog 39 #[.agg #[.int .u8 w, .int .u64 n], .int .i64 i] W fun e W' => e = .returned (.bool b) ∧ Below W.heap.size W W' := by
  have := rbit_any w n hn i hi hi2 W; rw [hb] at this; exact this

theorem rtimes_any (w n v m : Nat) (hw : w ≤ 64) (hm : m < 18446744073709551616) (W : World) :
    Calls Try.prog 27 #[.agg #[.int .u8 w, .int .u64 n], .agg #[.int .u8 v, .int .u64 m]] W fun e W' => e = .returned (.agg #[.int .u8 w, .int .u64 (low w (tm n m w) : Nat)]) ∧ Below W.heap.size W W' := by
  go_enter Try.func27, Try.ntmps27
  go_wp2
  go_loopw [5, 6] (fun acc i wr => ∃ k : Nat, k ≤ w ∧ i = .int .i64 k ∧ acc = .int .u64 (tm n m k : Nat) ∧ Below W.heap.size W wr ∧ At wr W.heap.size (.int .u8 w) (.int .u64 n) ∧ At wr (W.heap.size + 1) (.int .u8 v) (.int .u64 m) ∧ At wr (W.heap.size + 1 + 1) (.int .u8 0) (.int .u64 0) ∧ Fz wr (W.heap.size + 1 + 1)) (fun _ i _ => w - (intOf i).toNat)
  case atStart =>
    refine ⟨0, by omega, rfl, by rw [tm_start]; rfl, bel_alloc (bel_alloc (bel_alloc (Below.refl _ _) _) _) _, ?_, ?_, ?_, ?_⟩
    all_goals constructor <;> simp [go_sem]
  case round =>
    obtain ⟨k, hk, rfl, rfl, hbel, ka, kb, kr, fr⟩ := hrel
    have la := ka.lt
    have lb := kb.lt
    have lr := kr.lt
    have oa := ka
    have ob := kb
    have or_ := kr
    have of_ := fr
    unfold At at oa ob or_
    unfold Fz at of_
    by_cases hlt : k < w
    · cases hbit : m.testBit k
      · have HB := Lib.hid hbit
        clear hbit
        go_wp2_with (first | (go_at_call 39; refine (rbit_is (b := false) hm (by omega) (by omega) (by simpa using HB.out) _).mono ?_; rintro e w1 ⟨rfl, hb1⟩))
        refine ⟨⟨k + 1, by omega, by go_num, by rw [tm_no HB.out], bel_call hbel hb1, ka.keep hb1, kb.keep hb1, kr.keep hb1, fr.keep lr hb1⟩, by simp [intOf]; omega⟩
      · have HB := Lib.hid hbit
        clear hbit
        go_wp2_with (first | (go_at_call 39; refine (rbit_is (b := true) hm (by omega) (by omega) (by simpa using HB.out) _).mono ?_; rintro e w1 ⟨rfl, hb1⟩; have ga := ka.keep hb1; unfold At at ga))
        refine ⟨⟨k + 1, by omega, by go_num, by rw [tm_yes HB.out], bel_call hbel hb1, ka.keep hb1, kb.keep hb1, kr.keep hb1, fr.keep lr hb1⟩, by simp [intOf]; omega⟩
    · obtain rfl : k = w := by omega
      go_wp2_with (first | (go_at_call 23; refine (rcut_any k hw _ (by omega) (by have := tm_lt n m k; omega) _).mono ?_; rintro e w1 ⟨rfl, hb1⟩; have gr := kr.keep hb1; have lr1 := gr.lt; have gf := fr.keep lr hb1; unfold At at gr; unfold Fz at gf))
      refine bodyPost_ret (v := .agg #[.int .u8 k, .int .u64 (low k (tm n m k) : Nat)]) (by simp [results, Try.results27, go_sem, gr]) rfl ⟨rfl, ?_⟩
      exact ((bel_call hbel hb1).setCell (by simp; omega) _).setCell (by simp; omega) _
end Bv
end Go.Proofs.Ytiogadjjacbjlaa
