/-
The document's bits of a node by its kids' bits: operators none0, none1, none2.
The document's bits of a node by its kids' bits: operators eq, const.
The document's bits of a node, by the rows of those below it: a fact on one call.
The document's rows of bits, one by one, in memory.
-/
import Derived.Test.YtigjbngedbbdbaaPt24
import Derived.Test.YtigjbngedbbdbaaKrAllB
import Derived.Test.YtigjbngedbbdbaaPt25
namespace Go.Proofs.Ytigjbngedbbdbaa
open Go.RowKit Go.Maps Bv Tm Kn
namespace Kr
set_option maxHeartbeats 1600000
set_option maxRecDepth 100000

theorem rall_none0 {W : World} {bl ln lc w n l : Nat} (x0 x1 x2 : Value) {o : Nat} (h1 : 1 ≤ w) (h64 : w ≤ 64) (hbl : bl < W.heap.size) (ho : o = 2) :
    Calls Try.prog 18 #[.agg #[.int .u8 ((o : Nat) : Int), .int .u8 ((w : Nat) : Int), x0, x1, x2, .int .u64 ((n : Nat) : Int), .int .u8 ((l : Nat) : Int)], .slice (some ⟨bl, 0, none⟩) ln lc] W (NewRow W w (fun _ => 2)) := by
  have HBL := Lib.hid hbl
  have hmb := make_bytes w (by omega)
  have H0 : Hid (Told W ((W.alloc (.cells #[.int .u8 ((o : Nat) : Int), .int .u8 ((w : Nat) : Int), x0, x1, x2, .int .u64 ((n : Nat) : Int), .int .u8 ((l : Nat) : Int)] 57)).alloc (.cells (Array.replicate w (Value.int .u8 0)) 5)) (.int .u8 ((o : Nat) : Int)) (.int .u8 ((w : Nat) : Int)) (x0) (x1) (x2) (.int .u64 ((n : Nat) : Int)) (.int .u8 ((l : Nat) : Int)) w (fun _ => 2) 0) := Lib.hid ⟨_, out_new W (.int .u8 ((o : Nat) : Int)) (.int .u8 ((w : Nat) : Int)) (x0) (x1) (x2) (.int .u64 ((n : Nat) : Int)) (.int .u8 ((l : Nat) : Int)) w, fun j hj => by omega⟩
  have HKD : Hid (∀ W, Calls Try.prog 27 #[.int .u8 ((o : Nat) : Int)] W fun e W' => e = .returned (.int .i64 0) ∧ W = W') := Lib.hid (fun W => by have := rkids_any o W; rw [show rk o = 0 by unfold rk; repeat (first | (rw [if_pos (by omega)]) | (rw [if_neg (by omega)]))] at this; exact this)
  have d1 : (((o : Nat) : Int) == 1) = false := by rw [beq_eq_false_iff_ne]; omega
  have d3 : (((o : Nat) : Int) == 3) = false := by rw [beq_eq_false_iff_ne]; omega
  have d5 : (((o : Nat) : Int) == 5) = false := by rw [beq_eq_false_iff_ne]; omega
  have d6 : (((o : Nat) : Int) == 6) = false := by rw [beq_eq_false_iff_ne]; omega
  have d7 : (((o : Nat) : Int) == 7) = false := by rw [beq_eq_false_iff_ne]; omega
  have d21 : (((o : Nat) : Int) == 21) = false := by rw [beq_eq_false_iff_ne]; omega
  have d22 : (((o : Nat) : Int) == 22) = false := by rw [beq_eq_false_iff_ne]; omega
  have d23 : (((o : Nat) : Int) == 23) = false := by rw [beq_eq_false_iff_ne]; omega
  have d24 : (((o : Nat) : Int) == 24) = false := by rw [beq_eq_false_iff_ne]; omega
  have d8 : (((o : Nat) : Int) == 8) = false := by rw [beq_eq_false_iff_ne]; omega
  have d9 : (((o : Nat) : Int) == 9) = false := by rw [beq_eq_false_iff_ne]; omega
  have d10 : (((o : Nat) : Int) == 10) = false := by rw [beq_eq_false_iff_ne]; omega
  have d25 : (((o : Nat) : Int) == 25) = false := by rw [beq_eq_false_iff_ne]; omega
  have d18 : (((o : Nat) : Int) == 18) = false := by rw [beq_eq_false_iff_ne]; omega
  clear ho
  have w0 : (0 : Int) ≤ ((w : Nat) : Int) := by omega
  clear hbl 
  go_enter Try.func18, Try.ntmps18
  go_wp2_with fail
  go_loopg [7] w (fun gk v7 wr => ∃ i : Nat, v7 = .int .i64 ((i : Nat) : Int) ∧ i + gk = w ∧ Told W wr (.int .u8 ((o : Nat) : Int)) (.int .u8 ((w : Nat) : Int)) (x0) (x1) (x2) (.int .u64 ((n : Nat) : Int)) (.int .u8 ((l : Nat) : Int)) w (fun _ => 2) i)
  case atStart => exact ⟨0, rfl, by omega, H0.out⟩
  case round =>
    obtain ⟨i, rfl, hgk, hT⟩ := hrel
    have HGK := Lib.hid hgk
    have HT := Lib.hid hT
    have i0 : (0 : Int) ≤ ((i : Nat) : Int) := by omega
    clear H0
    by_cases hlt : i < w
    · have g1 : decide (((i : Nat) : Int) < ((w : Nat) : Int)) = true := decide_eq_true (by omega)
      have g2 : ((i : Nat) : Int) < ((w : Nat) : Int) := by omega
      obtain ⟨F, hO, _⟩ := hT
      have hc := hO.cs i hlt
      have hf := hO.fr i
      have HLT := Lib.hid hlt
      clear hgk hO hlt
      go_wp2_with fail
      go_roundg (gk - 1)
      case measure => have := HGK.out; have := HLT.out; omega
      case rel => exact ⟨i + 1, by go_num, by have := HGK.out; have := HLT.out; omega, HT.out.one HLT.out rfl⟩
    · obtain rfl : i = w := by omega
      have g1 : decide (((i : Nat) : Int) < ((i : Nat) : Int)) = false := decide_eq_false (by omega)
      obtain ⟨wA, hwA⟩ : ∃ wA, wA = wr := ⟨_, rfl⟩
      subst hwA
      obtain ⟨F, hO, hF⟩ := hT
      have HO := Lib.hid (hO.ext (g := fun _ => 2) hF)
      have hx := hO.box
      unfold At7 at hx
      obtain ⟨y0, y1, y2, y3, y4, y5, y6⟩ := hx
      have OLD := Lib.hid (fun (b : Nat) (hb : b < W.heap.size) (j : Nat) => hO.old hb j)
      clear hgk hO hF HT g1
      go_wp2_with ((with_reducible refine (HKD.out _).mono ?_); rintro e wk ⟨rfl, rfl⟩)
      go_ret
      exact ⟨_, rfl, by omega, ⟨HO.out.lt, HO.out.cs⟩, HO.out.bel⟩
theorem rall_none1 {W : World} {bl ln lc w n l : Nat} {a na ca p0 : Nat} {f : Nat → Nat} (x1 x2 : Value) {o : Nat} (h1 : 1 ≤ w) (h64 : w ≤ 64) (hbl : bl < W.heap.size) (hp0 : p0 < ln) (hr0 : W.cell? ⟨bl, p0, none⟩ = some (.slice (some ⟨a, 0, none⟩) na ca)) (hw0 : RowAt W a na f) (ho : o = 4) :
    Calls Try.prog 18 #[.agg #[.int .u8 ((o : Nat) : Int), .int .u8 ((w : Nat) : Int), .int .i64 ((p0 : Nat) : Int), x1, x2, .int .u64 ((n : Nat) : Int), .int .u8 ((l : Nat) : Int)], .slice (some ⟨bl, 0, none⟩) ln lc] W (NewRow W w (fun _ => 2)) := by
  have HBL := Lib.hid hbl
  have hmb := make_bytes w (by omega)
  have H0 : Hid (Told W ((W.alloc (.cells #[.int .u8 ((o : Nat) : Int), .int .u8 ((w : Nat) : Int), .int .i64 ((p0 : Nat) : Int), x1, x2, .int .u64 ((n : Nat) : Int), .int .u8 ((l : Nat) : Int)] 57)).alloc (.cells (Array.replicate w (Value.int .u8 0)) 5)) (.int .u8 ((o : Nat) : Int)) (.int .u8 ((w : Nat) : Int)) (.int .i64 ((p0 : Nat) : Int)) (x1) (x2) (.int .u64 ((n : Nat) : Int)) (.int .u8 ((l : Nat) : Int)) w (fun _ => 2) 0) := Lib.hid ⟨_, out_new W (.int .u8 ((o : Nat) : Int)) (.int .u8 ((w : Nat) : Int)) (.int .i64 ((p0 : Nat) : Int)) (x1) (x2) (.int .u64 ((n : Nat) : Int)) (.int .u8 ((l : Nat) : Int)) w, fun j hj => by omega⟩
  have HKD : Hid (∀ W, Calls Try.prog 27 #[.int .u8 ((o : Nat) : Int)] W fun e W' => e = .returned (.int .i64 1) ∧ W = W') := Lib.hid (fun W => by have := rkids_any o W; rw [show rk o = 1 by unfold rk; repeat (first | (rw [if_pos (by omega)]) | (rw [if_neg (by omega)]))] at this; exact this)
  have HR0 := Lib.hid hr0
  have HW0 := Lib.hid hw0
  have d1 : (((o : Nat) : Int) == 1) = false := by rw [beq_eq_false_iff_ne]; omega
  have d3 : (((o : Nat) : Int) == 3) = false := by rw [beq_eq_false_iff_ne]; omega
  have d5 : (((o : Nat) : Int) == 5) = false := by rw [beq_eq_false_iff_ne]; omega
  have d6 : (((o : Nat) : Int) == 6) = false := by rw [beq_eq_false_iff_ne]; omega
  have d7 : (((o : Nat) : Int) == 7) = false := by rw [beq_eq_false_iff_ne]; omega
  have d21 : (((o : Nat) : Int) == 21) = false := by rw [beq_eq_false_iff_ne]; omega
  have d22 : (((o : Nat) : Int) == 22) = false := by rw [beq_eq_false_iff_ne]; omega
  have d23 : (((o : Nat) : Int) == 23) = false := by rw [beq_eq_false_iff_ne]; omega
  have d24 : (((o : Nat) : Int) == 24) = false := by rw [beq_eq_false_iff_ne]; omega
  have d8 : (((o : Nat) : Int) == 8) = false := by rw [beq_eq_false_iff_ne]; omega
  have d9 : (((o : Nat) : Int) == 9) = false := by rw [beq_eq_false_iff_ne]; omega
  have d10 : (((o : Nat) : Int) == 10) = false := by rw [beq_eq_false_iff_ne]; omega
  have d25 : (((o : Nat) : Int) == 25) = false := by rw [beq_eq_false_iff_ne]; omega
  have d18 : (((o : Nat) : Int) == 18) = false := by rw [beq_eq_false_iff_ne]; omega
  clear ho
  have w0 : (0 : Int) ≤ ((w : Nat) : Int) := by omega
  clear hbl hr0 hw0
  go_enter Try.func18, Try.ntmps18
  go_wp2_with fail
  go_loopg [7] w (fun gk v7 wr => ∃ i : Nat, v7 = .int .i64 ((i : Nat) : Int) ∧ i + gk = w ∧ Told W wr (.int .u8 ((o : Nat) : Int)) (.int .u8 ((w : Nat) : Int)) (.int .i64 ((p0 : Nat) : Int)) (x1) (x2) (.int .u64 ((n : Nat) : Int)) (.int .u8 ((l : Nat) : Int)) w (fun _ => 2) i)
  case atStart => exact ⟨0, rfl, by omega, H0.out⟩
  case round =>
    obtain ⟨i, rfl, hgk, hT⟩ := hrel
    have HGK := Lib.hid hgk
    have HT := Lib.hid hT
    have i0 : (0 : Int) ≤ ((i : Nat) : Int) := by omega
    clear H0
    by_cases hlt : i < w
    · have g1 : decide (((i : Nat) : Int) < ((w : Nat) : Int)) = true := decide_eq_true (by omega)
      have g2 : ((i : Nat) : Int) < ((w : Nat) : Int) := by omega
      obtain ⟨F, hO, _⟩ := hT
      have hc := hO.cs i hlt
      have hf := hO.fr i
      have HLT := Lib.hid hlt
      clear hgk hO hlt
      go_wp2_with fail
      go_roundg (gk - 1)
      case measure => have := HGK.out; have := HLT.out; omega
      case rel => exact ⟨i + 1, by go_num, by have := HGK.out; have := HLT.out; omega, HT.out.one HLT.out rfl⟩
    · obtain rfl : i = w := by omega
      have g1 : decide (((i : Nat) : Int) < ((i : Nat) : Int)) = false := decide_eq_false (by omega)
      obtain ⟨wA, hwA⟩ : ∃ wA, wA = wr := ⟨_, rfl⟩
      subst hwA
      obtain ⟨F, hO, hF⟩ := hT
      have HO := Lib.hid (hO.ext (g := fun _ => 2) hF)
      have hx := hO.box
      unfold At7 at hx
      obtain ⟨y0, y1, y2, y3, y4, y5, y6⟩ := hx
      have OLD := Lib.hid (fun (b : Nat) (hb : b < W.heap.size) (j : Nat) => hO.old hb j)
      have r0 : wA.cell? ⟨bl, p0, none⟩ = some (.slice (some ⟨a, 0, none⟩) na ca) := (OLD.out bl HBL.out p0).trans HR0.out
      have hi0 : (0 : Int) ≤ ((p0 : Nat) : Int) := by omega
      clear hgk hO hF HT g1
      go_wp2_with ((with_reducible refine (HKD.out _).mono ?_); rintro e wk ⟨rfl, rfl⟩)
      go_ret
      exact ⟨_, rfl, by omega, ⟨HO.out.lt, HO.out.cs⟩, HO.out.bel⟩
theorem rall_none2 {W : World} {bl ln lc w n l : Nat} {a na ca p0 : Nat} {f : Nat → Nat} {b nb cb p1 : Nat} {g : Nat → Nat} (x2 : Value) {o : Nat} (h1 : 1 ≤ w) (h64 : w ≤ 64) (hbl : bl < W.heap.size) (hp0 : p0 < ln) (hr0 : W.cell? ⟨bl, p0, none⟩ = some (.slice (some ⟨a, 0, none⟩) na ca)) (hw0 : RowAt W a na f) (hp1 : p1 < ln) (hr1 : W.cell? ⟨bl, p1, none⟩ = some (.slice (some ⟨b, 0, none⟩) nb cb)) (hw1 : RowAt W b nb g) (ho : (11 ≤ o ∧ o ≤ 17) ∨ o = 19 ∨ o = 20) :
    Calls Try.prog 18 #[.agg #[.int .u8 ((o : Nat) : Int), .int .u8 ((w : Nat) : Int), .int .i64 ((p0 : Nat) : Int), .int .i64 ((p1 : Nat) : Int), x2, .int .u64 ((n : Nat) : Int), .int .u8 ((l : Nat) : Int)], .slice (some ⟨bl, 0, none⟩) ln lc] W (NewRow W w (fun _ => 2)) := by
  have HBL := Lib.hid hbl
  have hmb := make_bytes w (by omega)
  have H0 : Hid (Told W ((W.alloc (.cells #[.int .u8 ((o : Nat) : Int), .int .u8 ((w : Nat) : Int), .int .i64 ((p0 : Nat) : Int), .int .i64 ((p1 : Nat) : Int), x2, .int .u64 ((n : Nat) : Int), .int .u8 ((l : Nat) : Int)] 57)).alloc (.cells (Array.replicate w (Value.int .u8 0)) 5)) (.int .u8 ((o : Nat) : Int)) (.int .u8 ((w : Nat) : Int)) (.int .i64 ((p0 : Nat) : Int)) (.int .i64 ((p1 : Nat) : Int)) (x2) (.int .u64 ((n : Nat) : Int)) (.int .u8 ((l : Nat) : Int)) w (fun _ => 2) 0) := Lib.hid ⟨_, out_new W (.int .u8 ((o : Nat) : Int)) (.int .u8 ((w : Nat) : Int)) (.int .i64 ((p0 : Nat) : Int)) (.int .i64 ((p1 : Nat) : Int)) (x2) (.int .u64 ((n : Nat) : Int)) (.int .u8 ((l : Nat) : Int)) w, fun j hj => by omega⟩
  have HKD : Hid (∀ W, Calls Try.prog 27 #[.int .u8 ((o : Nat) : Int)] W fun e W' => e = .returned (.int .i64 2) ∧ W = W') := Lib.hid (fun W => by have := rkids_any o W; rw [show rk o = 2 by unfold rk; repeat (first | (rw [if_pos (by omega)]) | (rw [if_neg (by omega)]))] at this; exact this)
  have HR0 := Lib.hid hr0
  have HW0 := Lib.hid hw0
  have HR1 := Lib.hid hr1
  have HW1 := Lib.hid hw1
  have d1 : (((o : Nat) : Int) == 1) = false := by rw [beq_eq_false_iff_ne]; omega
  have d3 : (((o : Nat) : Int) == 3) = false := by rw [beq_eq_false_iff_ne]; omega
  have d5 : (((o : Nat) : Int) == 5) = false := by rw [beq_eq_false_iff_ne]; omega
  have d6 : (((o : Nat) : Int) == 6) = false := by rw [beq_eq_false_iff_ne]; omega
  have d7 : (((o : Nat) : Int) == 7) = false := by rw [beq_eq_false_iff_ne]; omega
  have d21 : (((o : Nat) : Int) == 21) = false := by rw [beq_eq_false_iff_ne]; omega
  have d22 : (((o : Nat) : Int) == 22) = false := by rw [beq_eq_false_iff_ne]; omega
  have d23 : (((o : Nat) : Int) == 23) = false := by rw [beq_eq_false_iff_ne]; omega
  have d24 : (((o : Nat) : Int) == 24) = false := by rw [beq_eq_false_iff_ne]; omega
  have d8 : (((o : Nat) : Int) == 8) = false := by rw [beq_eq_false_iff_ne]; omega
  have d9 : (((o : Nat) : Int) == 9) = false := by rw [beq_eq_false_iff_ne]; omega
  have d10 : (((o : Nat) : Int) == 10) = false := by rw [beq_eq_false_iff_ne]; omega
  have d25 : (((o : Nat) : Int) == 25) = false := by rw [beq_eq_false_iff_ne]; omega
  have d18 : (((o : Nat) : Int) == 18) = false := by rw [beq_eq_false_iff_ne]; omega
  clear ho
  have w0 : (0 : Int) ≤ ((w : Nat) : Int) := by omega
  clear hbl hr0 hw0 hr1 hw1
  go_enter Try.func18, Try.ntmps18
  go_wp2_with fail
  go_loopg [7] w (fun gk v7 wr => ∃ i : Nat, v7 = .int .i64 ((i : Nat) : Int) ∧ i + gk = w ∧ Told W wr (.int .u8 ((o : Nat) : Int)) (.int .u8 ((w : Nat) : Int)) (.int .i64 ((p0 : Nat) : Int)) (.int .i64 ((p1 : Nat) : Int)) (x2) (.int .u64 ((n : Nat) : Int)) (.int .u8 ((l : Nat) : Int)) w (fun _ => 2) i)
  case atStart => exact ⟨0, rfl, by omega, H0.out⟩
  case round =>
    obtain ⟨i, rfl, hgk, hT⟩ := hrel
    have HGK := Lib.hid hgk
    have HT := Lib.hid hT
    have i0 : (0 : Int) ≤ ((i : Nat) : Int) := by omega
    clear H0
    by_cases hlt : i < w
    · have g1 : decide (((i : Nat) : Int) < ((w : Nat) : Int)) = true := decide_eq_true (by omega)
      have g2 : ((i : Nat) : Int) < ((w : Nat) : Int) := by omega
      obtain ⟨F, hO, _⟩ := hT
      have hc := hO.cs i hlt
      have hf := hO.fr i
      have HLT := Lib.hid hlt
      clear hgk hO hlt
      go_wp2_with fail
      go_roundg (gk - 1)
      case measure => have := HGK.out; have := HLT.out; omega
      case rel => exact ⟨i + 1, by go_num, by have := HGK.out; have := HLT.out; omega, HT.out.one HLT.out rfl⟩
    · obtain rfl : i = w := by omega
      have g1 : decide (((i : Nat) : Int) < ((i : Nat) : Int)) = false := decide_eq_false (by omega)
      obtain ⟨wA, hwA⟩ : ∃ wA, wA = wr := ⟨_, rfl⟩
      subst hwA
      obtain ⟨F, hO, hF⟩ := hT
      have HO := Lib.hid (hO.ext (g := fun _ => 2) hF)
      have hx := hO.box
      unfold At7 at hx
      obtain ⟨y0, y1, y2, y3, y4, y5, y6⟩ := hx
      have OLD := Lib.hid (fun (b : Nat) (hb : b < W.heap.size) (j : Nat) => hO.old hb j)
      have r0 : wA.cell? ⟨bl, p0, none⟩ = some (.slice (some ⟨a, 0, none⟩) na ca) := (OLD.out bl HBL.out p0).trans HR0.out
      have hi0 : (0 : Int) ≤ ((p0 : Nat) : Int) := by omega
      have r1 : wA.cell? ⟨bl, p1, none⟩ = some (.slice (some ⟨b, 0, none⟩) nb cb) := (OLD.out bl HBL.out p1).trans HR1.out
      have hi1 : (0 : Int) ≤ ((p1 : Nat) : Int) := by omega
      clear hgk hO hF HT g1
      go_wp2_with ((with_reducible refine (HKD.out _).mono ?_); rintro e wk ⟨rfl, rfl⟩)
      go_ret
      exact ⟨_, rfl, by omega, ⟨HO.out.lt, HO.out.cs⟩, HO.out.bel⟩
end Kr
end Go.Proofs.Ytigjbngedbbdbaa

namespace Go.Proofs.Ytigjbngedbbdbaa
open Go.RowKit Go.Maps Bv Tm Kn
namespace Kr
set_option maxHeartbeats 1600000
set_option maxRecDepth 100000

theorem rall_eq {W : World} {bl ln lc w n l : Nat} {a na ca p0 : Nat} {f : Nat → Nat} {b cb p1 : Nat} {g : Nat → Nat} (x2 : Value) (h1 : 1 ≤ w) (h64 : w ≤ 64) (hbl : bl < W.heap.size) (hp0 : p0 < ln) (hr0 : W.cell? ⟨bl, p0, none⟩ = some (.slice (some ⟨a, 0, none⟩) na ca)) (hw0 : RowAt W a na f) (hp1 : p1 < ln) (hr1 : W.cell? ⟨bl, p1, none⟩ = some (.slice (some ⟨b, 0, none⟩) na cb)) (hw1 : RowAt W b na g) (hs1 : w = 1) (hn64 : na ≤ 64) (hqa : ∀ j, f j ≤ 2) (hqb : ∀ j, g j ≤ 2) :
    Calls Try.prog 18 #[.agg #[.int .u8 18, .int .u8 ((w : Nat) : Int), .int .i64 ((p0 : Nat) : Int), .int .i64 ((p1 : Nat) : Int), x2, .int .u64 ((n : Nat) : Int), .int .u8 ((l : Nat) : Int)], .slice (some ⟨bl, 0, none⟩) ln lc] W (NewRow W w (fun _ => eqT na f g)) := by
  have HBL := Lib.hid hbl
  have hmb := make_bytes w (by omega)
  have H0 : Hid (Told W ((W.alloc (.cells #[.int .u8 18, .int .u8 ((w : Nat) : Int), .int .i64 ((p0 : Nat) : Int), .int .i64 ((p1 : Nat) : Int), x2, .int .u64 ((n : Nat) : Int), .int .u8 ((l : Nat) : Int)] 57)).alloc (.cells (Array.replicate w (Value.int .u8 0)) 5)) (.int .u8 18) (.int .u8 ((w : Nat) : Int)) (.int .i64 ((p0 : Nat) : Int)) (.int .i64 ((p1 : Nat) : Int)) (x2) (.int .u64 ((n : Nat) : Int)) (.int .u8 ((l : Nat) : Int)) w (fun _ => 2) 0) := Lib.hid ⟨_, out_new W (.int .u8 18) (.int .u8 ((w : Nat) : Int)) (.int .i64 ((p0 : Nat) : Int)) (.int .i64 ((p1 : Nat) : Int)) (x2) (.int .u64 ((n : Nat) : Int)) (.int .u8 ((l : Nat) : Int)) w, fun j hj => by omega⟩
  have HKD : Hid (∀ W, Calls Try.prog 27 #[.int .u8 18] W fun e W' => e = .returned (.int .i64 2) ∧ W = W') := Lib.hid (fun W => rkids_any 18 W)
  have HR0 := Lib.hid hr0
  have HW0 := Lib.hid hw0
  have HR1 := Lib.hid hr1
  have HW1 := Lib.hid hw1
  have HS1 := Lib.hid hs1
  clear hs1
  have HQA := Lib.hid hqa
  have HQB := Lib.hid hqb
  clear hqa hqb
  have w0 : (0 : Int) ≤ ((w : Nat) : Int) := by omega
  clear hbl hr0 hw0 hr1 hw1
  go_enter Try.func18, Try.ntmps18
  go_wp2_with fail
  go_loopg [7] w (fun gk v7 wr => ∃ i : Nat, v7 = .int .i64 ((i : Nat) : Int) ∧ i + gk = w ∧ Told W wr (.int .u8 18) (.int .u8 ((w : Nat) : Int)) (.int .i64 ((p0 : Nat) : Int)) (.int .i64 ((p1 : Nat) : Int)) (x2) (.int .u64 ((n : Nat) : Int)) (.int .u8 ((l : Nat) : Int)) w (fun _ => 2) i)
  case atStart => exact ⟨0, rfl, by omega, H0.out⟩
  case round =>
    obtain ⟨i, rfl, hgk, hT⟩ := hrel
    have HGK := Lib.hid hgk
    have HT := Lib.hid hT
    have i0 : (0 : Int) ≤ ((i : Nat) : Int) := by omega
    clear H0
    by_cases hlt : i < w
    · have g1 : decide (((i : Nat) : Int) < ((w : Nat) : Int)) = true := decide_eq_true (by omega)
      have g2 : ((i : Nat) : Int) < ((w : Nat) : Int) := by omega
      obtain ⟨F, hO, _⟩ := hT
      have hc := hO.cs i hlt
      have hf := hO.fr i
      have HLT := Lib.hid hlt
      clear hgk hO hlt
      go_wp2_with fail
      go_roundg (gk - 1)
      case measure => have := HGK.out; have := HLT.out; omega
      case rel => exact ⟨i + 1, by go_num, by have := HGK.out; have := HLT.out; omega, HT.out.one HLT.out rfl⟩
    · obtain rfl : i = w := by omega
      have g1 : decide (((i : Nat) : Int) < ((i : Nat) : Int)) = false := decide_eq_false (by omega)
      obtain ⟨wA, hwA⟩ : ∃ wA, wA = wr := ⟨_, rfl⟩
      subst hwA
      obtain ⟨F, hO, hF⟩ := hT
      have HO := Lib.hid (hO.ext (g := fun _ => 2) hF)
      have hx := hO.box
      unfold At7 at hx
      obtain ⟨y0, y1, y2, y3, y4, y5, y6⟩ := hx
      have OLD := Lib.hid (fun (b : Nat) (hb : b < W.heap.size) (j : Nat) => hO.old hb j)
      have r0 : wA.cell? ⟨bl, p0, none⟩ = some (.slice (some ⟨a, 0, none⟩) na ca) := (OLD.out bl HBL.out p0).trans HR0.out
      have hi0 : (0 : Int) ≤ ((p0 : Nat) : Int) := by omega
      have r1 : wA.cell? ⟨bl, p1, none⟩ = some (.slice (some ⟨b, 0, none⟩) na cb) := (OLD.out bl HBL.out p1).trans HR1.out
      have hi1 : (0 : Int) ≤ ((p1 : Nat) : Int) := by omega
      clear hgk hO hF HT g1
      go_wp2_with ((with_reducible refine (HKD.out _).mono ?_); rintro e wk ⟨rfl, rfl⟩)
      refine (requal_any hn64 (HW0.out.call HO.out.bel HW0.out.1) (HW1.out.call HO.out.bel HW1.out.1) HQA.out HQB.out).mono ?_
      rintro e wb ⟨rfl, hb⟩
      have HMB := Lib.hid (HO.out.call hb)
      have hi0 : 0 < i := by omega
      have hc2 := HMB.out.cs 0 hi0
      have hf2 := HMB.out.fr 0
      have lz2 := HMB.out.lt
      clear hb
      go_wp2_with fail
      go_ret
      have hfin := (HMB.out.set (i := 0) (y := eqT na f g) (by omega)).ext (g := fun _ => eqT na f g) (fun j hj => by have := HS1.out; rw [if_pos (by omega)])
      exact ⟨_, rfl, by omega, ⟨hfin.lt, hfin.cs⟩, hfin.bel⟩
theorem rall_const {W : World} {bl ln lc w n l : Nat} (x0 x1 x2 : Value) (h1 : 1 ≤ w) (h64 : w ≤ 64) (hbl : bl < W.heap.size) (hn : n < 18446744073709551616) :
    Calls Try.prog 18 #[.agg #[.int .u8 1, .int .u8 ((w : Nat) : Int), x0, x1, x2, .int .u64 ((n : Nat) : Int), .int .u8 ((l : Nat) : Int)], .slice (some ⟨bl, 0, none⟩) ln lc] W (NewRow W w (fun j => n / 2 ^ j % 2)) := by
  have HBL := Lib.hid hbl
  have hmb := make_bytes w (by omega)
  have H0 : Hid (Told W ((W.alloc (.cells #[.int .u8 1, .int .u8 ((w : Nat) : Int), x0, x1, x2, .int .u64 ((n : Nat) : Int), .int .u8 ((l : Nat) : Int)] 57)).alloc (.cells (Array.replicate w (Value.int .u8 0)) 5)) (.int .u8 1) (.int .u8 ((w : Nat) : Int)) (x0) (x1) (x2) (.int .u64 ((n : Nat) : Int)) (.int .u8 ((l : Nat) : Int)) w (fun _ => 2) 0) := Lib.hid ⟨_, out_new W (.int .u8 1) (.int .u8 ((w : Nat) : Int)) (x0) (x1) (x2) (.int .u64 ((n : Nat) : Int)) (.int .u8 ((l : Nat) : Int)) w, fun j hj => by omega⟩
  have HKD : Hid (∀ W, Calls Try.prog 27 #[.int .u8 1] W fun e W' => e = .returned (.int .i64 0) ∧ W = W') := Lib.hid (fun W => rkids_any 1 W)
  have HN := Lib.hid hn
  clear hn
  have w0 : (0 : Int) ≤ ((w : Nat) : Int) := by omega
  clear hbl 
  go_enter Try.func18, Try.ntmps18
  go_wp2_with fail
  go_loopg [7] w (fun gk v7 wr => ∃ i : Nat, v7 = .int .i64 ((i : Nat) : Int) ∧ i + gk = w ∧ Told W wr (.int .u8 1) (.int .u8 ((w : Nat) : Int)) (x0) (x1) (x2) (.int .u64 ((n : Nat) : Int)) (.int .u8 ((l : Nat) : Int)) w (fun _ => 2) i)
  case atStart => exact ⟨0, rfl, by omega, H0.out⟩
  case round =>
    obtain ⟨i, rfl, hgk, hT⟩ := hrel
    have HGK := Lib.hid hgk
    have HT := Lib.hid hT
    have i0 : (0 : Int) ≤ ((i : Nat) : Int) := by omega
    clear H0
    by_cases hlt : i < w
    · have g1 : decide (((i : Nat) : Int) < ((w : Nat) : Int)) = true := decide_eq_true (by omega)
      have g2 : ((i : Nat) : Int) < ((w : Nat) : Int) := by omega
      obtain ⟨F, hO, _⟩ := hT
      have hc := hO.cs i hlt
      have hf := hO.fr i
      have HLT := Lib.hid hlt
      clear hgk hO hlt
      go_wp2_with fail
      go_roundg (gk - 1)
      case measure => have := HGK.out; have := HLT.out; omega
      case rel => exact ⟨i + 1, by go_num, by have := HGK.out; have := HLT.out; omega, HT.out.one HLT.out rfl⟩
    · obtain rfl : i = w := by omega
      have g1 : decide (((i : Nat) : Int) < ((i : Nat) : Int)) = false := decide_eq_false (by omega)
      obtain ⟨wA, hwA⟩ : ∃ wA, wA = wr := ⟨_, rfl⟩
      subst hwA
      obtain ⟨F, hO, hF⟩ := hT
      have HO := Lib.hid (hO.ext (g := fun _ => 2) hF)
      have hx := hO.box
      unfold At7 at hx
      obtain ⟨y0, y1, y2, y3, y4, y5, y6⟩ := hx
      have OLD := Lib.hid (fun (b : Nat) (hb : b < W.heap.size) (j : Nat) => hO.old hb j)
      clear hgk hO hF HT g1
      go_wp2_with ((with_reducible refine (HKD.out _).mono ?_); rintro e wk ⟨rfl, rfl⟩)
      go_loopg [12] i (fun gk v12 wr => ∃ m : Nat, v12 = .int .i64 ((m : Nat) : Int) ∧ m + gk = i ∧ OutAt W wr (.int .u8 1) (.int .u8 ((i : Nat) : Int)) (x0) (x1) (x2) (.int .u64 ((n : Nat) : Int)) (.int .u8 ((l : Nat) : Int)) i (mix (fun j => n / 2 ^ j % 2) m))
      case atStart => exact ⟨0, rfl, by omega, by rw [mix_zero]; exact HO.out⟩
      case round =>
        obtain ⟨m, rfl, hgk, hO⟩ := hrel
        have HGK := Lib.hid hgk
        have HM := Lib.hid hO
        have m0 : (0 : Int) ≤ ((m : Nat) : Int) := by omega
        by_cases hlt : m < i
        · have g1 : decide (((m : Nat) : Int) < ((i : Nat) : Int)) = true := decide_eq_true (by omega)
          have g2 : ((m : Nat) : Int) < ((i : Nat) : Int) := by omega
          have HLT := Lib.hid hlt
          have hx := hO.box
          unfold At7 at hx
          obtain ⟨z0, z1, z2, z3, z4, z5, z6⟩ := hx
          have hc := hO.cs m hlt
          have hf := hO.fr m
          have lz := hO.lt
          clear hgk hlt hO
          go_wp2_with fail
          go_roundg (gk - 1)
          case measure => have := HGK.out; have := HLT.out; omega
          case rel =>
            rw [and_shr HN.out]
            exact ⟨m + 1, by go_num, by have := HGK.out; have := HLT.out; omega, HM.out.step HLT.out rfl⟩
        · obtain rfl : m = i := by omega
          have g1 : decide (((m : Nat) : Int) < ((m : Nat) : Int)) = false := decide_eq_false (by omega)
          clear hgk hO
          go_wp2_with fail
          go_ret
          exact ⟨_, rfl, by omega, HM.out.done.1, HM.out.done.2⟩
end Kr
end Go.Proofs.Ytigjbngedbbdbaa

namespace Go.Proofs.Ytigjbngedbbdbaa
open Go.RowKit Go.Maps Bv Tm Kn
namespace Kr
set_option maxHeartbeats 1600000
set_option maxRecDepth 100000

theorem tri_nil (j : Nat) : 2 = tri (0, 0) j := by unfold tri; simp
theorem opK_nil {o : Nat} (h : (11 ≤ o ∧ o ≤ 14) ∨ o = 19 ∨ o = 20) {w n l w0 w1 : Nat} {a b c : Kb} {far : Option Nat} : opK o w n l w0 w1 a b c far = (0, 0) := by
  unfold opK
  rw [if_neg (by omega), if_neg (by omega), if_neg (by omega), if_neg (by omega), if_neg (by omega), if_neg (by omega), if_neg (by omega), if_neg (by omega), if_neg (by omega), if_neg (by omega), if_neg (by omega), if_neg (by omega), if_neg (by omega), if_neg (by omega)]
/-- The rows of the nodes below i stand in the list bl. -/
def Rows (W : World) (L : List Nd) (bl i : Nat) : Prop := ∀ k, k < i → ∃ y b c, L[k]? = some y ∧ W.cell? ⟨bl, k, none⟩ = some (.slice (some ⟨b, 0, none⟩) y.w c) ∧ RowAt W b y.w (tri (kn L k))
theorem NewRow.ext {W w : World} {n : Nat} {T U : Nat → Nat} {e : Ending} (h : NewRow W n T e w) (k : ∀ j, j < n → T j = U j) : NewRow W n U e w := by
  obtain ⟨b, h1, h2, h3, h4⟩ := h
  exact ⟨b, h1, h2, ⟨h3.1, fun j hj => by rw [h3.2 j hj, k j hj]⟩, h4⟩
/-- What 'all' answers of the node i. -/
def docA (L : List Nd) (i o : Nat) : Nat → Nat := if 15 ≤ o ∧ o ≤ 17 then fun _ => 2 else tri (kn L i)
theorem docA_no {L : List Nd} {i o : Nat} (h : ¬ (15 ≤ o ∧ o ≤ 17)) : docA L i o = tri (kn L i) := if_neg h
theorem docA_yes {L : List Nd} {i o : Nat} (h : 15 ≤ o ∧ o ≤ 17) : docA L i o = fun _ => 2 := if_pos h
theorem rall_any {W : World} {L : List Nd} {i : Nat} {x : Nd} (g : Gd L) (h : MayL L) (hx : L[i]? = some x) {bl ln lc : Nat} (hbl : bl < W.heap.size) (hln : i < ln) (hR : Rows W L bl i) :
    Calls Try.prog 18 #[x.val, .slice (some ⟨bl, 0, none⟩) ln lc] W (NewRow W x.w (docA L i x.o)) := by
  have hop := mayN_op (h i x hx)
  have hw := g.w x (List.mem_of_getElem? hx)
  have hok := g.ok x (List.mem_of_getElem? hx)
  have kid : ∀ j, j < kc x.o → ∃ (p : Nat) (y : Nd) (b c : Nat), x.kid j = ((p : Nat) : Int) ∧ p < ln ∧ widAt L (x.kid j) = y.w ∧ kbAt (kvals L i) (x.kid j) = kn L p ∧ W.cell? ⟨bl, p, none⟩ = some (.slice (some ⟨b, 0, none⟩) y.w c) ∧ RowAt W b y.w (tri (kn L p)) ∧ Dj (kn L p) ∧ (kn L p).1 < 2 ^ y.w ∧ (kn L p).2 < 2 ^ y.w := by
    intro j hj
    obtain ⟨y, hy, hlt, h0, hyw, hv⟩ := kid_in h hx hj
    obtain ⟨y', b, c, hy', hc, hrow⟩ := hR _ hlt
    rw [hy] at hy'
    obtain rfl := Option.some.inj hy'
    have hl := kn_lt h _ y hy
    exact ⟨(x.kid j).toNat, y, b, c, by omega, by omega, hyw, hv, hc, hrow, dj_kn g h hy, hl.1, hl.2⟩
  have le : ∀ {a b : Nat}, b ≤ 64 → a < 2 ^ b → a < 18446744073709551616 := fun hb ha => Nat.lt_of_lt_of_le ha (pow_le64 hb)
  have wun := wd_un h hx
  have wbin := wd_bin h hx
  have wcmp := wd_cmp h hx
  have wcat := wd_cat h hx
  have wcut := wd_cut h hx
  have wwide := wd_wide h hx
  have wite := wd_ite h hx
  have hkn := kn_is hx
  unfold oneK at hkn
  have hlow : x.l < 256 := by have := hok.l; omega
  obtain ⟨o, w, k0, k1, k2, n, l⟩ := x
  have f0 : Nd.kid ⟨o, w, k0, k1, k2, n, l⟩ 0 = k0 := rfl
  have f1 : Nd.kid ⟨o, w, k0, k1, k2, n, l⟩ 1 = k1 := rfl
  have f2 : Nd.kid ⟨o, w, k0, k1, k2, n, l⟩ 2 = k2 := rfl
  have p0 := kid 0
  have p1 := kid 1
  have p2 := kid 2
  rw [f0] at p0
  rw [f1] at p1
  rw [f2] at p2
  unfold Nd.val
  simp only at *
  clear kid f0 f1 f2 hR hx
  have three2 : ∀ (K : Kb) j, tri K j ≤ 2 := tri_le
  have hcases : o = 1 ∨ o = 3 ∨ o = 5 ∨ o = 6 ∨ o = 7 ∨ o = 8 ∨ o = 9 ∨ o = 10 ∨ o = 18 ∨ o = 21 ∨ o = 22 ∨ o = 23 ∨ o = 24 ∨ o = 25 ∨ o = 2 ∨ o = 4 ∨ ((11 ≤ o ∧ o ≤ 17) ∨ o = 19 ∨ o = 20) := by omega
  rcases hcases with rfl | rfl | rfl | rfl | rfl | rfl | rfl | rfl | rfl | rfl | rfl | rfl | rfl | rfl | rfl | rfl | ho
  · rw [docA_no (by omega)]
    refine (rall_const _ _ _ hw.1 hw.2 hbl hok.n).mono fun e wz hr => hr.ext (fun j hj => ?_)
    rw [hkn]
    exact (tri_const hok.n hw.2 hj).symm
  · rw [docA_no (by omega)]
    obtain ⟨q0, y0, b0, c0, rfl, hl0, e0, v0, r0, m0, d0, t0, u0⟩ := p0 (by decide)
    have ww := wun (.inl rfl)
    refine (rall_not _ _ hw.1 hw.2 hbl hl0 r0 m0 (by omega) (three2 _)).mono fun e wz hr => hr.ext (fun j hj => ?_)
    rw [hkn, v0]
    show _ = tri (low w (kn L q0).2, low w (kn L q0).1) j
    rw [tri_low hj]
    exact (tri_not d0 j 0).symm
  · rw [docA_no (by omega)]
    obtain ⟨q0, y0, b0, c0, rfl, hl0, e0, v0, r0, m0, d0, t0, u0⟩ := p0 (by decide)
    obtain ⟨q1, y1, b1, c1, rfl, hl1, e1, v1, r1, m1, d1, t1, u1⟩ := p1 (by decide)
    have ww := wbin (by omega)
    refine (rall_and _ hw.1 hw.2 hbl hl0 r0 m0 hl1 r1 m1 (by omega) (three2 _) (by omega) (three2 _)).mono fun e wz hr => hr.ext (fun j hj => ?_)
    rw [hkn, v0, v1]
    show _ = tri (low w ((kn L q0).1 ||| (kn L q1).1), low w ((kn L q0).2 &&& (kn L q1).2)) j
    rw [tri_low hj]
    exact (tri_and _ _ j).symm
  · rw [docA_no (by omega)]
    obtain ⟨q0, y0, b0, c0, rfl, hl0, e0, v0, r0, m0, d0, t0, u0⟩ := p0 (by decide)
    obtain ⟨q1, y1, b1, c1, rfl, hl1, e1, v1, r1, m1, d1, t1, u1⟩ := p1 (by decide)
    have ww := wbin (by omega)
    refine (rall_or _ hw.1 hw.2 hbl hl0 r0 m0 hl1 r1 m1 (by omega) (three2 _) (by omega) (three2 _)).mono fun e wz hr => hr.ext (fun j hj => ?_)
    rw [hkn, v0, v1]
    show _ = tri (low w ((kn L q0).1 &&& (kn L q1).1), low w ((kn L q0).2 ||| (kn L q1).2)) j
    rw [tri_low hj]
    exact (tri_or d0 d1 j).symm
  · rw [docA_no (by omega)]
    obtain ⟨q0, y0, b0, c0, rfl, hl0, e0, v0, r0, m0, d0, t0, u0⟩ := p0 (by decide)
    obtain ⟨q1, y1, b1, c1, rfl, hl1, e1, v1, r1, m1, d1, t1, u1⟩ := p1 (by decide)
    have ww := wbin (by omega)
    refine (rall_xor _ hw.1 hw.2 hbl hl0 r0 m0 hl1 r1 m1 (by omega) (three2 _) (by omega) (three2 _)).mono fun e wz hr => hr.ext (fun j hj => ?_)
    rw [hkn, v0, v1]
    show _ = tri (low w ((kn L q0).1 &&& (kn L q1).1 ||| (kn L q0).2 &&& (kn L q1).2), low w ((kn L q0).1 &&& (kn L q1).2 ||| (kn L q0).2 &&& (kn L q1).1)) j
    rw [tri_low hj]
    exact (tri_xor d0 d1 j).symm
  · rw [docA_no (by omega)]
    obtain ⟨q0, y0, b0, c0, rfl, hl0, e0, v0, r0, m0, d0, t0, u0⟩ := p0 (by decide)
    obtain ⟨q1, y1, b1, c1, rfl, hl1, e1, v1, r1, m1, d1, t1, u1⟩ := p1 (by decide)
    have ww := wbin (by omega)
    refine (rall_add _ hw.1 hw.2 hbl hl0 r0 m0 hl1 r1 m1 (by omega) (by omega)).mono fun e wz hr => hr.ext (fun j hj => ?_)
    rw [hkn, v0, v1]
    show _ = tri (low w (lows ((kn L q0).1 &&& (kn L q1).1)), 0) j
    rw [tri_low0 hj]
    exact (tri_add (le (by omega) t0) (by omega)).symm
  · rw [docA_no (by omega)]
    obtain ⟨q0, y0, b0, c0, rfl, hl0, e0, v0, r0, m0, d0, t0, u0⟩ := p0 (by decide)
    obtain ⟨q1, y1, b1, c1, rfl, hl1, e1, v1, r1, m1, d1, t1, u1⟩ := p1 (by decide)
    have ww := wbin (by omega)
    refine (rall_sub _ hw.1 hw.2 hbl hl0 r0 m0 hl1 r1 m1 (by omega) (by omega)).mono fun e wz hr => hr.ext (fun j hj => ?_)
    rw [hkn, v0, v1]
    show _ = tri (low w (lows ((kn L q0).1 &&& (kn L q1).1)), 0) j
    rw [tri_low0 hj]
    exact (tri_add (le (by omega) t0) (by omega)).symm
  · rw [docA_no (by omega)]
    obtain ⟨q0, y0, b0, c0, rfl, hl0, e0, v0, r0, m0, d0, t0, u0⟩ := p0 (by decide)
    obtain ⟨q1, y1, b1, c1, rfl, hl1, e1, v1, r1, m1, d1, t1, u1⟩ := p1 (by decide)
    have ww := wbin (by omega)
    refine (rall_mul _ hw.1 hw.2 hbl hl0 r0 m0 hl1 r1 m1 (by omega) (by omega)).mono fun e wz hr => hr.ext (fun j hj => ?_)
    rw [hkn, v0, v1]
    show _ = tri (low w (lows (kn L q0).1 ||| lows (kn L q1).1), 0) j
    rw [tri_low0 hj]
    exact (tri_mul (le (by omega) t0) (le (by omega) t1) (by omega)).symm
  · rw [docA_no (by omega)]
    obtain ⟨q0, y0, b0, c0, rfl, hl0, e0, v0, r0, m0, d0, t0, u0⟩ := p0 (by decide)
    obtain ⟨q1, y1, b1, c1, rfl, hl1, e1, v1, r1, m1, d1, t1, u1⟩ := p1 (by decide)
    have ww := wcmp (by omega)
    have hyy : y1.w = y0.w := by omega
    refine (rall_eq _ hw.1 hw.2 hbl hl0 r0 m0 hl1 (by rw [← hyy]; exact r1) (by rw [← hyy]; exact m1) ww.1 (by omega) (three2 _) (three2 _)).mono fun e wz hr => hr.ext (fun j hj => ?_)
    rw [hkn, v0, v1, e0]
    obtain rfl : j = 0 := by omega
    show _ = tri (eqK y0.w (kn L q0) (kn L q1)) 0
    exact (tri_eq d0 d1 t0 u0 (by rw [← hyy]; exact t1) (by rw [← hyy]; exact u1)).symm
  · rw [docA_no (by omega)]
    obtain ⟨q0, y0, b0, c0, rfl, hl0, e0, v0, r0, m0, d0, t0, u0⟩ := p0 (by decide)
    obtain ⟨q1, y1, b1, c1, rfl, hl1, e1, v1, r1, m1, d1, t1, u1⟩ := p1 (by decide)
    have ww := wcat rfl
    refine (rall_concat _ hw.1 hw.2 hbl hl0 r0 m0 hl1 r1 m1 (by omega)).mono fun e wz hr => hr.ext (fun j hj => ?_)
    rw [hkn, v0, v1, e1]
    show _ = tri (low w ((kn L q0).1 * 2 ^ min y1.w 64 % 18446744073709551616 ||| (kn L q1).1), low w ((kn L q0).2 * 2 ^ min y1.w 64 % 18446744073709551616 ||| (kn L q1).2)) j
    rw [tri_low hj]
    exact (tri_concat (by omega) (by omega) t1 u1).symm
  · rw [docA_no (by omega)]
    obtain ⟨q0, y0, b0, c0, rfl, hl0, e0, v0, r0, m0, d0, t0, u0⟩ := p0 (by decide)
    have ww := wcut rfl
    refine (rall_extract _ _ hw.1 hw.2 hbl hl0 r0 m0 (by omega) hlow).mono fun e wz hr => hr.ext (fun j hj => ?_)
    rw [hkn, v0]
    show _ = tri (low w ((kn L q0).1 / 2 ^ min l 64), low w ((kn L q0).2 / 2 ^ min l 64)) j
    rw [tri_low hj]
    exact (tri_extract (by omega)).symm
  · rw [docA_no (by omega)]
    obtain ⟨q0, y0, b0, c0, rfl, hl0, e0, v0, r0, m0, d0, t0, u0⟩ := p0 (by decide)
    have ww := wwide (.inl rfl)
    refine (rall_zext _ _ hw.1 hw.2 hbl hl0 r0 m0 (by omega) (by omega)).mono fun e wz hr => hr.ext (fun j hj => ?_)
    rw [hkn, v0, e0]
    show _ = tri (low w ((kn L q0).1 ||| (18446744073709551615 - (2 ^ y0.w - 1))), low w (kn L q0).2) j
    rw [tri_low hj]
    exact (tri_zext (by omega) (by omega)).symm
  · rw [docA_no (by omega)]
    obtain ⟨q0, y0, b0, c0, rfl, hl0, e0, v0, r0, m0, d0, t0, u0⟩ := p0 (by decide)
    have ww := wwide (.inr rfl)
    refine (rall_sext _ _ hw.1 hw.2 hbl hl0 r0 m0 (by omega) (by omega)).mono fun e wz hr => hr.ext (fun j hj => ?_)
    rw [hkn, v0, e0]
    show _ = tri (low w (numE 24 y0.w (kn L q0).1), low w (numE 24 y0.w (kn L q0).2)) j
    rw [tri_low hj]
    exact (tri_sext (by omega) (by omega) (by omega) t0 u0).symm
  · rw [docA_no (by omega)]
    obtain ⟨q0, y0, b0, c0, rfl, hl0, e0, v0, r0, m0, d0, t0, u0⟩ := p0 (by decide)
    obtain ⟨q1, y1, b1, c1, rfl, hl1, e1, v1, r1, m1, d1, t1, u1⟩ := p1 (by decide)
    obtain ⟨q2, y2, b2, c2, rfl, hl2, e2, v2, r2, m2, d2, t2, u2⟩ := p2 (by decide)
    have ww := wite rfl
    have h21 : y0.w = 1 := by omega
    rw [h21] at t0 u0
    refine (rall_ite hw.1 hw.2 hbl hl0 r0 m0 hl1 r1 m1 hl2 r2 m2 (by omega) (by omega) (by omega) (three2 _ _)).mono fun e wz hr => hr.ext (fun j hj => ?_)
    rw [hkn, v0, v1, v2, e1]
    show _ = tri (iteK y1.w (kn L q0) (kn L q1) (kn L q2)) j
    exact (tri_ite d0 (by simpa using t0) (by simpa using u0) d1 d2 (by omega)).symm
  · rw [docA_no (by omega)]
    refine (rall_none0 (o := 2) _ _ _ hw.1 hw.2 hbl rfl).mono fun e wz hr => hr.ext (fun j hj => ?_)
    rw [hkn]
    exact tri_nil j
  · rw [docA_no (by omega)]
    obtain ⟨q0, y0, b0, c0, rfl, hl0, e0, v0, r0, m0, d0, t0, u0⟩ := p0 (by decide)
    refine (rall_none1 (o := 4) _ _ hw.1 hw.2 hbl hl0 r0 m0 rfl).mono fun e wz hr => hr.ext (fun j hj => ?_)
    rw [hkn]
    exact tri_nil j
  · clear p2
    have hk2 : kc o = 2 := by unfold kc; rw [if_neg (by omega), if_pos (by omega)]
    obtain ⟨q0, y0, b0, c0, rfl, hl0, e0, v0, r0, m0, d0, t0, u0⟩ := p0 (by omega)
    obtain ⟨q1, y1, b1, c1, rfl, hl1, e1, v1, r1, m1, d1, t1, u1⟩ := p1 (by omega)
    clear p0 p1
    refine (rall_none2 _ hw.1 hw.2 hbl hl0 r0 m0 hl1 r1 m1 ho).mono fun e wz hr => hr.ext (fun j hj => ?_)
    by_cases hs : 15 ≤ o ∧ o ≤ 17
    · rw [docA_yes hs]
    · rw [docA_no hs, hkn]
      rw [opK_nil (by omega)]
      exact tri_nil j
end Kr
end Go.Proofs.Ytigjbngedbbdbaa

namespace Go.Proofs.Ytigjbngedbbdbaa
open Go.RowKit Go.Maps Bv Tm Kn
namespace Kr
set_option maxHeartbeats 1000000
set_option maxRecDepth 100000

theorem info_rows : (Try.prog.info? 68).map (fun i => (i.zero, i.size, i.bytes)) = some (some (.slice none 0 0), 1, 24) := by kernel_rfl
theorem make_rows (n : Nat) (hn : n ≤ 200001) (W : World) : (Instr.makeSlice 67 (.int .i64 ((n : Nat) : Int)) (.int .i64 ((n : Nat) : Int))).run Try.prog W = .ok (.slice (some ⟨W.heap.size, 0, none⟩) n n) (W.alloc (.cells (Array.replicate n (Value.slice none 0 0)) 68)) := by
  obtain ⟨i0, hinfo, hz0, hz1, hz2⟩ := info_parts info_rows
  have h := run_makeSlice (P := Try.prog) (w := W) 67 68 i0 (.slice none 0 0) Try.underlying67 hinfo hz0 .i64 .i64 ((n : Nat) : Int) ((n : Nat) : Int) (by omega) (Int.le_refl _) (by rw [hz1]; simp; omega) (by rw [hz2]; omega) (by omega)
  rw [hz1] at h
  simp only [Int.toNat_natCast] at h
  rw [made_one _ rfl] at h
  exact h
/-- The rows of the first i nodes stand; m is how many there will be. -/
structure LfAt (W w : World) (L : List Nd) (m i : Nat) : Prop where
  bel : Below W.heap.size W w
  r0 : w.cell? ⟨W.heap.size, 0, none⟩ = some (.int .u64 0)
  r1 : w.cell? ⟨W.heap.size, 1, none⟩ = some (.int .u64 0)
  rf : ∀ o, w.frozen? ⟨W.heap.size, o, none⟩ = false
  rows : ∀ k, k < i → ∃ y b c, L[k]? = some y ∧ w.cell? ⟨W.heap.size + 1, k, none⟩ = some (.slice (some ⟨b, 0, none⟩) y.w c) ∧ W.heap.size + 1 < b ∧ RowAt w b y.w (tri (kn L k))
  rest : ∀ k, k < m → ∃ v, w.cell? ⟨W.heap.size + 1, k, none⟩ = some v
  fr : ∀ o, w.frozen? ⟨W.heap.size + 1, o, none⟩ = false
  lt : W.heap.size + 1 < w.heap.size
section
variable {W w w' : World} {L : List Nd} {m i : Nat}
theorem lf_new (W : World) (L : List Nd) (m : Nat) : LfAt W ((W.alloc (.cells #[.int .u64 0, .int .u64 0] 29)).alloc (.cells (Array.replicate m (Value.slice none 0 0)) 68)) L m 0 := by
  have h1 := (MapKept.heap_alloc W (.cells #[.int .u64 0, .int .u64 0] 29)).1
  have h2 := (MapKept.heap_alloc (W.alloc (.cells #[.int .u64 0, .int .u64 0] 29)) (.cells (Array.replicate m (Value.slice none 0 0)) 68)).1
  have hk : ((W.alloc (.cells #[.int .u64 0, .int .u64 0] 29)).alloc (.cells (Array.replicate m (Value.slice none 0 0)) 68)).heap[W.heap.size]? = some (.cells #[.int .u64 0, .int .u64 0] 29) :=
    ((bel_alloc (Below.refl (W.alloc (.cells #[.int .u64 0, .int .u64 0] 29)).heap.size _) _).block W.heap.size (by simp)).trans h1
  rw [size_alloc] at h2
  refine ⟨bel_alloc (bel_alloc (Below.refl _ _) _) _, ?_, ?_, fun o => (cell_of hk o).2, fun k hk => by omega, fun k hk => ⟨.slice none 0 0, ?_⟩, fun o => (cell_of h2 o).2, by rw [size_alloc, size_alloc]; omega⟩
  · rw [(cell_of hk 0).1]; rfl
  · rw [(cell_of hk 1).1]; rfl
  · rw [(cell_of h2 k).1, Array.getElem?_replicate, if_pos hk]
theorem LfAt.call (h : LfAt W w L m i) (k : Below w.heap.size w w') : LfAt W w' L m i := by
  have l := h.lt
  refine ⟨bel_call h.bel k, (k.cell (p := ⟨W.heap.size, 0, none⟩) (show W.heap.size < _ by omega)).trans h.r0, (k.cell (p := ⟨W.heap.size, 1, none⟩) (show W.heap.size < _ by omega)).trans h.r1, fun o => (k.frozen (p := ⟨W.heap.size, o, none⟩) (show W.heap.size < _ by omega)).trans (h.rf o), fun j hj => ?_, fun j hj => ?_, fun o => (k.frozen (p := ⟨W.heap.size + 1, o, none⟩) l).trans (h.fr o), Nat.lt_of_lt_of_le l k.size⟩
  · obtain ⟨y, b, c, h1, h2, h3, h4⟩ := h.rows j hj
    exact ⟨y, b, c, h1, (k.cell (p := ⟨W.heap.size + 1, j, none⟩) l).trans h2, h3, h4.call k h4.1⟩
  · obtain ⟨v, hv⟩ := h.rest j hj
    exact ⟨v, (k.cell (p := ⟨W.heap.size + 1, j, none⟩) l).trans hv⟩
theorem LfAt.alloc (h : LfAt W w L m i) (o : Obj) : LfAt W (w.alloc o) L m i := h.call (bel_alloc (Below.refl _ _) o)
theorem LfAt.get (h : LfAt W w L m i) : Rows w L (W.heap.size + 1) i := fun k hk => by
  obtain ⟨y, b, c, h1, h2, _, h4⟩ := h.rows k hk
  exact ⟨y, b, c, h1, h2, h4⟩
/-- A row is put in its place; where T is not yet the bits, the row may be put once more. -/
theorem LfAt.put (h : LfAt W w L m i) (hi : i < m) (v : Value) : LfAt W (w.setCell ⟨W.heap.size + 1, i, none⟩ v) L m i := by
  obtain ⟨u, hu⟩ := h.rest i hi
  refine ⟨h.bel.setCell (by simp) _, (World.cell?_setCell_other _ _ _ _ (by simp)).trans h.r0, (World.cell?_setCell_other _ _ _ _ (by simp)).trans h.r1, fun o => by rw [World.frozen?_setCell]; exact h.rf o, fun j hj => ?_, fun j hj => ?_, fun o => by rw [World.frozen?_setCell]; exact h.fr o, by simpa [World.setCell] using h.lt⟩
  · obtain ⟨y, b, c, h1, h2, h3, h4⟩ := h.rows j hj
    refine ⟨y, b, c, h1, (World.cell?_setCell_other _ _ _ _ (by first | (simp; done) | (simp; omega))).trans h2, h3, by simpa [World.setCell] using h4.1, fun q hq => (World.cell?_setCell_other _ _ _ _ (by first | (simp; done) | (simp; omega))).trans (h4.2 q hq)⟩
  · by_cases e : j = i
    · subst e
      exact ⟨v, World.cell?_setCell_same' _ _ _ (by rw [hu]; rfl)⟩
    · obtain ⟨u2, hu2⟩ := h.rest j hj
      exact ⟨u2, (World.cell?_setCell_other _ _ _ _ (by first | (simp; done) | (simp; exact fun q => e q.symm))).trans hu2⟩
theorem LfAt.step {x : Nd} {b c : Nat} (h : LfAt W w L m i) (hi : i < m) (hx : L[i]? = some x) (hb : W.heap.size + 1 < b) (hr : RowAt w b x.w (tri (kn L i))) : LfAt W (w.setCell ⟨W.heap.size + 1, i, none⟩ (.slice (some ⟨b, 0, none⟩) x.w c)) L m (i + 1) := by
  have p := h.put hi (.slice (some ⟨b, 0, none⟩) x.w c)
  obtain ⟨u, hu⟩ := h.rest i hi
  refine ⟨p.bel, p.r0, p.r1, p.rf, fun j hj => ?_, p.rest, p.fr, p.lt⟩
  by_cases e : j = i
  · subst e
    exact ⟨x, b, c, hx, World.cell?_setCell_same' _ _ _ (by rw [hu]; rfl), hb, by simpa [World.setCell] using hr.1, fun q hq => (World.cell?_setCell_other _ _ _ _ (by first | (simp; done) | (simp; omega))).trans (hr.2 q hq)⟩
  · exact p.rows j (by omega)
end
theorem mod_up (m i : Nat) : m % 2 ^ (i + 1) = if m.testBit i = true then m % 2 ^ i ||| 2 ^ i else m % 2 ^ i := by
  by_cases h : m.testBit i = true
  · rw [if_pos h]
    apply Nat.eq_of_testBit_eq
    intro j
    rw [Nat.testBit_mod_two_pow, Nat.testBit_or, Nat.testBit_mod_two_pow, Nat.testBit_two_pow]
    by_cases e : j = i
    · subst e; simp [h]
    · have e2 : decide (i = j) = false := decide_eq_false (fun q => e q.symm)
      by_cases c : j < i
      · simp [c, show j < i + 1 by omega, e2]
      · simp [c, show ¬ j < i + 1 by omega, e2]
  · rw [if_neg h]
    apply Nat.eq_of_testBit_eq
    intro j
    rw [Nat.testBit_mod_two_pow, Nat.testBit_mod_two_pow]
    by_cases e : j = i
    · subst e; simp [h]
    · by_cases c : j < i
      · simp [c, show j < i + 1 by omega]
      · simp [c, show ¬ j < i + 1 by omega]
theorem up_0 {K : Kb} (d : Dj K) {i : Nat} (h : tri K i = 0) : K.1 % 2 ^ (i + 1) = K.1 % 2 ^ i ||| 2 ^ i ∧ K.2 % 2 ^ (i + 1) = K.2 % 2 ^ i := by
  have h1 := tri_zero.1 h
  have h2 := d i h1
  rw [mod_up, mod_up, if_pos h1, h2]
  simp
theorem up_1 {K : Kb} {i : Nat} (h : tri K i = 1) : K.1 % 2 ^ (i + 1) = K.1 % 2 ^ i ∧ K.2 % 2 ^ (i + 1) = K.2 % 2 ^ i ||| 2 ^ i := by
  rw [mod_up, mod_up]
  unfold tri at h
  revert h
  cases K.1.testBit i <;> cases K.2.testBit i <;> simp
theorem up_2 {K : Kb} {i : Nat} (h : tri K i = 2) : K.1 % 2 ^ (i + 1) = K.1 % 2 ^ i ∧ K.2 % 2 ^ (i + 1) = K.2 % 2 ^ i := by
  rw [mod_up, mod_up]
  unfold tri at h
  revert h
  cases K.1.testBit i <;> cases K.2.testBit i <;> simp
end Kr
end Go.Proofs.Ytigjbngedbbdbaa
