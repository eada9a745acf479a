/-
  What the reference's shift bit by bit returns.
-/
import Derived.Test.YtiogadjjacbjlaaBvLoopT
namespace Go.Proofs.Ytiogadjjacbjlaa
open Go.RowKit
namespace Bv
set_option maxHeartbeats 1000000
set_option maxRecDepth 100000

theorem rbit_at {w n : Nat} (hn : n < 18446744073709551616) {i : Int} (j : Nat) (hij : i = (j : Int)) (hj : j < 128) {b : Bool} (hb : n.testBit j = b) (W : World) :
    Calls Try.prog 39 #[.agg #[.int .u8 w, .int .u64 n], .int .i64 i] W fun e W' => e = .returned (.bool b) ∧ Below W.heap.size W W' := by
  subst hij
  exact rbit_is hn (by omega) (by omega) (by simpa using hb) W

theorem rshift_15 (w n v m T : Nat) (hw : w ≤ 64) (hn : n < 18446744073709551616) (hm : m < 18446744073709551616) (hT : Hid (∀ k, k < w → T.testBit k = (decide (m ≤ k) && n.testBit (k - m)))) (W : World) :
    Calls Try.prog 30 #[.int .u8 15, .agg #[.int .u8 w, .int .u64 n], .agg #[.int .u8 v, .int .u64 m]] W fun e W' => e = .returned (.agg #[.int .u8 w, .int .u64 (low w (sh T w) : Nat)]) ∧ Below W.heap.size W W' := by
  go_enter Try.func30, Try.ntmps30
  go_wp2
  go_loopw [7, 9] (fun acc i wr => ∃ k : Nat, k ≤ w ∧ i = .int .i64 k ∧ acc = .int .u64 (sh T k : Nat) ∧ Below W.heap.size W wr ∧ At wr W.heap.size (.int .u8 w) (.int .u64 n) ∧ At wr (W.heap.size + 1) (.int .u8 v) (.int .u64 m) ∧ At wr (W.heap.size + 1 + 1) (.int .u8 0) (.int .u64 0) ∧ Fz wr (W.heap.size + 1 + 1)) (fun _ i _ => w - (intOf i).toNat)
  case atStart =>
    refine ⟨0, by omega, rfl, by rw [sh_start]; rfl, bel_alloc (bel_alloc (bel_alloc (Below.refl _ _) _) _) _, ?_, ?_, ?_, ?_⟩
    all_goals constructor <;> simp [go_sem]
  case round =>
    obtain ⟨k, hk, rfl, rfl, hbel, ka, kb, kr, fr⟩ := hrel
    have la := ka.lt
    have lb := kb.lt
    have lr := kr.lt
    have oa := ka
    have ob := kb
    have or_ := kr
    have of_ := fr
    unfold At at oa ob or_
    unfold Fz at of_
    by_cases hlt : k < w
    · by_cases hmk : m ≤ k
      · cases hbit : n.testBit (k - m)
        · have HT : Hid (T.testBit k = false) := Lib.hid (by rw [hT.out k hlt, hbit]; simp)
          have HB := Lib.hid hbit
          clear hbit
          go_wp2_with (first | (go_at_call 39; refine (rbit_at (b := false) hn (k - m) (by omega) (by omega) HB.out _).mono ?_; rintro e w1 ⟨rfl, hb1⟩; have ga := ka.keep hb1; have gb := kb.keep hb1; unfold At at ga gb))
          exact ⟨⟨k + 1, by omega, by go_num, by rw [sh_no HT.out], bel_call hbel hb1, ka.keep hb1, kb.keep hb1, kr.keep hb1, fr.keep lr hb1⟩, by simp [intOf]; omega⟩
        · have HT : Hid (T.testBit k = true) := Lib.hid (by rw [hT.out k hlt, hbit]; simp [hmk])
          have HB := Lib.hid hbit
          clear hbit
          go_wp2_with (first | (go_at_call 39; refine (rbit_at (b := true) hn (k - m) (by omega) (by omega) HB.out _).mono ?_; rintro e w1 ⟨rfl, hb1⟩; have ga := ka.keep hb1; have gb := kb.keep hb1; unfold At at ga gb))
          exact ⟨⟨k + 1, by omega, by go_num, by rw [sh_yes (by omega) HT.out], bel_call hbel hb1, ka.keep hb1, kb.keep hb1, kr.keep hb1, fr.keep lr hb1⟩, by simp [intOf]; omega⟩
      · have HT : Hid (T.testBit k = false) := Lib.hid (by rw [hT.out k hlt]; simp [hmk])
        go_wp2_with fail
        exact ⟨⟨k + 1, by omega, by go_num, by rw [sh_no HT.out], hbel, ka, kb, kr, fr⟩, by simp [intOf]; omega⟩
    · obtain rfl : k = w := by omega
      go_wp2_with (first | (go_at_call 23; refine (rcut_any k hw _ (by omega) (by have := sh_lt T hw; omega) _).mono ?_; rintro e w1 ⟨rfl, hb1⟩; have gr := kr.keep hb1; have lr1 := gr.lt; have gf := fr.keep lr hb1; unfold At at gr; unfold Fz at gf))
      refine bodyPost_ret (v := .agg #[.int .u8 k, .int .u64 (low k (sh T k) : Nat)]) (by simp [results, Try.results30, go_sem, gr]) rfl ⟨rfl, ?_⟩
      exact ((bel_call hbel hb1).setCell (by simp; omega) _).setCell (by simp; omega) _

end Bv
end Go.Proofs.Ytiogadjjacbjlaa
