/-
  Whether a row of the program's has a word, walked.
-/
import Derived.Test.YtbgcgomefdblpaaDoorDqRow
namespace Go.Proofs.YtbgcgomefdblpaaDoor
open Go.RowKit
namespace De
set_option maxHeartbeats 3200000
set_option maxRecDepth 100000

theorem has_any {q : Qr} (hq : q ∈ rowsQ) {w : Nat} (hw : w < 4294967296) (W : World) (hE : EnvAt W) :
    Calls Tryd.prog 14 #[.agg (qrV q), .int .u32 ((w : Nat) : Int)] W fun e W' => e = .returned (.bool (hasP q w)) ∧ Below W.heap.size W W' := by
  obtain ⟨h1, h2, h3, hf, h5⟩ := rowQ_ok q hq
  have HA := Lib.hid (fun W hE => above_any hq hw W hE)
  have HB := Lib.hid (alloc_below W (.cells (qrV q) 37))
  have HQ := Lib.hid (QrAt.new W q 37)
  have HE := Lib.hid (hE.below HB.out)
  have HP : Hid (hasP q w = decide (aboveP q w % 4096 = 0 ∧ aboveP q w / 4096 ≤ q.hi - q.lo)) := Lib.hid rfl
  have hl : aboveP q w < 4294967296 := Nat.mod_lt _ (by decide)
  clear hw hE hq
  generalize hasP q w = ha at HP ⊢
  generalize aboveP q w = ab at *
  obtain ⟨d, hd⟩ : ∃ d, d = q.hi - q.lo := ⟨_, rfl⟩
  rw [← hd] at HP
  have e1 : IntKind.u8.wrap (((q.hi : Nat) : Int) - ((q.lo : Nat) : Int)) = ((d : Nat) : Int) := by
    rw [show ((q.hi : Nat) : Int) - ((q.lo : Nat) : Int) = ((d : Nat) : Int) by omega]
    exact wu8 (by omega)
  have hd2 : d < 256 := by omega
  have e2 : IntKind.u32.wrap ((d : Nat) : Int) = ((d : Nat) : Int) := by rw [IntKind.wrap_u32]; omega
  clear hd h1 h2 h3 h5 hf
  unfold qrV at HA HB HQ HE ⊢
  go_enter Tryd.func14, Tryd.ntmps14
  go_upto_region 1 with fail
  generalize W.alloc _ = w1 at HB HQ HE ⊢
  have q0 := HQ.out.q0
  have q1 := HQ.out.q1
  have q2 := HQ.out.q2
  have q3 := HQ.out.q3
  go_wp2_with fail
  refine (HA.out _ (by exact HE.out)).mono ?_
  rintro e w2 ⟨rfl, hb⟩
  have HQ2 := Lib.hid (HQ.out.below hb)
  have HB2 := Lib.hid (on HB.out hb)
  have p0 := HQ2.out.q0
  have p1 := HQ2.out.q1
  clear hb q0 q1 q2 q3 HQ HB HA HE
  by_cases c : ab % 4096 = 0
  · have g1 : (((ab : Nat) : Int) % 4096 == 0) = true := by rw [beq_iff_eq]; omega
    have g2 : ((ab : Nat) : Int) % 4096 = 0 := by omega
    by_cases c2 : ab / 4096 ≤ d
    · have g3 : ((ab : Nat) : Int) / 4096 ≤ ((d : Nat) : Int) := by omega
      have hr := HP.out.trans (decide_eq_true ⟨c, c2⟩)
      subst hr
      clear HP c c2
      go_wp2_with fail
      go_ret
      exact ⟨rfl, HB2.out⟩
    · have g3 : decide (((ab : Nat) : Int) / 4096 ≤ ((d : Nat) : Int)) = false := decide_eq_false (by omega)
      have g4 : ¬ ((ab : Nat) : Int) / 4096 ≤ ((d : Nat) : Int) := by omega
      have hr := HP.out.trans (decide_eq_false (fun h => c2 h.2))
      subst hr
      clear HP c c2
      go_wp2_with fail
      go_ret
      exact ⟨rfl, HB2.out⟩
  · have g1 : (((ab : Nat) : Int) % 4096 == 0) = false := by rw [beq_eq_false_iff_ne]; omega
    have g2 : ¬ ((ab : Nat) : Int) % 4096 = 0 := by omega
    have hr := HP.out.trans (decide_eq_false (fun h => c h.1))
    subst hr
    clear HP c
    go_wp2_with fail
    go_ret
    exact ⟨rfl, HB2.out⟩
end De
end Go.Proofs.YtbgcgomefdblpaaDoor
