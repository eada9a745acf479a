/-
The document's bits of a node by its kids' bits: operators add, sub, mul.
The document's bits of a node by its kids' bits: operators ite.
-/
import Derived.Test.YtigjbngedbbdbaaPt24
namespace Go.Proofs.Ytigjbngedbbdbaa
open Go.RowKit Go.Maps Bv Tm Kn
namespace Kr
set_option maxHeartbeats 1600000
set_option maxRecDepth 100000

theorem rall_add {W : World} {bl ln lc w n l : Nat} {a na ca p0 : Nat} {f : Nat → Nat} {b nb cb p1 : Nat} {g : Nat → Nat} (x2 : Value) (h1 : 1 ≤ w) (h64 : w ≤ 64) (hbl : bl < W.heap.size) (hp0 : p0 < ln) (hr0 : W.cell? ⟨bl, p0, none⟩ = some (.slice (some ⟨a, 0, none⟩) na ca)) (hw0 : RowAt W a na f) (hp1 : p1 < ln) (hr1 : W.cell? ⟨bl, p1, none⟩ = some (.slice (some ⟨b, 0, none⟩) nb cb)) (hw1 : RowAt W b nb g) (hsa : w ≤ na) (hsb : w ≤ nb) :
    Calls Try.prog 18 #[.agg #[.int .u8 8, .int .u8 ((w : Nat) : Int), .int .i64 ((p0 : Nat) : Int), .int .i64 ((p1 : Nat) : Int), x2, .int .u64 ((n : Nat) : Int), .int .u8 ((l : Nat) : Int)], .slice (some ⟨bl, 0, none⟩) ln lc] W (NewRow W w (addT f g)) := by
  have HBL := Lib.hid hbl
  have hmb := make_bytes w (by omega)
  have H0 : Hid (Told W ((W.alloc (.cells #[.int .u8 8, .int .u8 ((w : Nat) : Int), .int .i64 ((p0 : Nat) : Int), .int .i64 ((p1 : Nat) : Int), x2, .int .u64 ((n : Nat) : Int), .int .u8 ((l : Nat) : Int)] 57)).alloc (.cells (Array.replicate w (Value.int .u8 0)) 5)) (.int .u8 8) (.int .u8 ((w : Nat) : Int)) (.int .i64 ((p0 : Nat) : Int)) (.int .i64 ((p1 : Nat) : Int)) (x2) (.int .u64 ((n : Nat) : Int)) (.int .u8 ((l : Nat) : Int)) w (fun _ => 2) 0) := Lib.hid ⟨_, out_new W (.int .u8 8) (.int .u8 ((w : Nat) : Int)) (.int .i64 ((p0 : Nat) : Int)) (.int .i64 ((p1 : Nat) : Int)) (x2) (.int .u64 ((n : Nat) : Int)) (.int .u8 ((l : Nat) : Int)) w, fun j hj => by omega⟩
  have HKD : Hid (∀ W, Calls Try.prog 27 #[.int .u8 8] W fun e W' => e = .returned (.int .i64 2) ∧ W = W') := Lib.hid (fun W => rkids_any 8 W)
  have HR0 := Lib.hid hr0
  have HW0 := Lib.hid hw0
  have HR1 := Lib.hid hr1
  have HW1 := Lib.hid hw1
  have w0 : (0 : Int) ≤ ((w : Nat) : Int) := by omega
  clear hbl hr0 hw0 hr1 hw1
  go_enter Try.func18, Try.ntmps18
  go_wp2_with fail
  go_loopg [7] w (fun gk v7 wr => ∃ i : Nat, v7 = .int .i64 ((i : Nat) : Int) ∧ i + gk = w ∧ Told W wr (.int .u8 8) (.int .u8 ((w : Nat) : Int)) (.int .i64 ((p0 : Nat) : Int)) (.int .i64 ((p1 : Nat) : Int)) (x2) (.int .u64 ((n : Nat) : Int)) (.int .u8 ((l : Nat) : Int)) w (fun _ => 2) i)
  case atStart => exact ⟨0, rfl, by omega, H0.out⟩
  case round =>
    obtain ⟨i, rfl, hgk, hT⟩ := hrel
    have HGK := Lib.hid hgk
    have HT := Lib.hid hT
    have i0 : (0 : Int) ≤ ((i : Nat) : Int) := by omega
    clear H0
    by_cases hlt : i < w
    · have g1 : decide (((i : Nat) : Int) < ((w : Nat) : Int)) = true := decide_eq_true (by omega)
      have g2 : ((i : Nat) : Int) < ((w : Nat) : Int) := by omega
      obtain ⟨F, hO, _⟩ := hT
      have hc := hO.cs i hlt
      have hf := hO.fr i
      have HLT := Lib.hid hlt
      clear hgk hO hlt
      go_wp2_with fail
      go_roundg (gk - 1)
      case measure => have := HGK.out; have := HLT.out; omega
      case rel => exact ⟨i + 1, by go_num, by have := HGK.out; have := HLT.out; omega, HT.out.one HLT.out rfl⟩
    · obtain rfl : i = w := by omega
      have g1 : decide (((i : Nat) : Int) < ((i : Nat) : Int)) = false := decide_eq_false (by omega)
      obtain ⟨wA, hwA⟩ : ∃ wA, wA = wr := ⟨_, rfl⟩
      subst hwA
      obtain ⟨F, hO, hF⟩ := hT
      have HO := Lib.hid (hO.ext (g := fun _ => 2) hF)
      have hx := hO.box
      unfold At7 at hx
      obtain ⟨y0, y1, y2, y3, y4, y5, y6⟩ := hx
      have OLD := Lib.hid (fun (b : Nat) (hb : b < W.heap.size) (j : Nat) => hO.old hb j)
      have r0 : wA.cell? ⟨bl, p0, none⟩ = some (.slice (some ⟨a, 0, none⟩) na ca) := (OLD.out bl HBL.out p0).trans HR0.out
      have hi0 : (0 : Int) ≤ ((p0 : Nat) : Int) := by omega
      have r1 : wA.cell? ⟨bl, p1, none⟩ = some (.slice (some ⟨b, 0, none⟩) nb cb) := (OLD.out bl HBL.out p1).trans HR1.out
      have hi1 : (0 : Int) ≤ ((p1 : Nat) : Int) := by omega
      clear hgk hO hF HT g1
      go_wp2_with ((with_reducible refine (HKD.out _).mono ?_); rintro e wk ⟨rfl, rfl⟩)
      go_loopg [17] i (fun gk v17 wr => ∃ m : Nat, v17 = .int .i64 ((m : Nat) : Int) ∧ m + gk = i ∧ OutAt W wr (.int .u8 8) (.int .u8 ((i : Nat) : Int)) (.int .i64 ((p0 : Nat) : Int)) (.int .i64 ((p1 : Nat) : Int)) (x2) (.int .u64 ((n : Nat) : Int)) (.int .u8 ((l : Nat) : Int)) i (mix (fun _ => 0) m) ∧ ∀ j, j < m → f j = 0 ∧ g j = 0)
      case atStart => exact ⟨0, rfl, by omega, by rw [mix_zero]; exact HO.out, fun j hj => by omega⟩
      case round =>
        obtain ⟨m, rfl, hgk, hO, hz⟩ := hrel
        have HGK := Lib.hid hgk
        have HM := Lib.hid hO
        have m0 : (0 : Int) ≤ ((m : Nat) : Int) := by omega
        by_cases hlt : m < i
        · have g1 : decide (((m : Nat) : Int) < ((i : Nat) : Int)) = true := decide_eq_true (by omega)
          have g2 : ((m : Nat) : Int) < ((i : Nat) : Int) := by omega
          have HLT := Lib.hid hlt
          have hx := hO.box
          unfold At7 at hx
          obtain ⟨z0, z1, z2, z3, z4, z5, z6⟩ := hx
          have hc := hO.cs m hlt
          have hf := hO.fr m
          have lz := hO.lt
          have k0 : wr.cell? ⟨a, m, none⟩ = some (.int .u8 ((f (m) : Nat) : Int)) := (hO.old HW0.out.1 _).trans (HW0.out.2 _ (by omega))
          have lk0 : ¬ a = W.heap.size + 1 := by have := HW0.out.1; omega
          have k1 : wr.cell? ⟨b, m, none⟩ = some (.int .u8 ((g (m) : Nat) : Int)) := (hO.old HW1.out.1 _).trans (HW1.out.2 _ (by omega))
          have lk1 : ¬ b = W.heap.size + 1 := by have := HW1.out.1; omega
          have q1 : m < na := by omega
          have q2 : m < nb := by omega
          by_cases za : f m = 0
          · by_cases zb : g m = 0
            · have t0 : (((f m : Nat) : Int) == 0) = true := by rw [beq_iff_eq]; omega
              have t1 : (((g m : Nat) : Int) == 0) = true := by rw [beq_iff_eq]; omega
              have HZ : Hid (∀ j, j < m + 1 → f j = 0 ∧ g j = 0) := Lib.hid (fun j hj => by
                by_cases e : j = m
                · subst e; exact ⟨za, zb⟩
                · exact hz j (by omega))
              clear hgk hlt hO hz za zb
              go_wp2_with fail
              go_roundg (gk - 1)
              case measure => have := HGK.out; have := HLT.out; omega
              case rel => exact ⟨m + 1, by go_num, by have := HGK.out; have := HLT.out; omega, HM.out.step HLT.out rfl, HZ.out⟩
            · have t0 : (((f m : Nat) : Int) == 0) = true := by rw [beq_iff_eq]; omega
              have t1 : (((g m : Nat) : Int) == 0) = false := by rw [beq_eq_false_iff_ne]; omega
              have HZ := Lib.hid (show f m = 0 ∧ g m = 0 → False from fun c => zb c.2)
              have HZ2 := Lib.hid hz
              clear hgk hlt hO hz za zb
              go_wp2_with fail
              go_ret
              have hfin := HM.out.ext (g := addT f g) (add_mix HZ2.out HZ.out)
              exact ⟨_, rfl, by omega, ⟨hfin.lt, hfin.cs⟩, hfin.bel⟩
          · have t0 : (((f m : Nat) : Int) == 0) = false := by rw [beq_eq_false_iff_ne]; omega
            have HZ := Lib.hid (show f m = 0 ∧ g m = 0 → False from fun c => za c.1)
            have HZ2 := Lib.hid hz
            clear hgk hlt hO hz za
            go_wp2_with fail
            go_ret
            have hfin := HM.out.ext (g := addT f g) (add_mix HZ2.out HZ.out)
            exact ⟨_, rfl, by omega, ⟨hfin.lt, hfin.cs⟩, hfin.bel⟩
        · obtain rfl : m = i := by omega
          have g1 : decide (((m : Nat) : Int) < ((m : Nat) : Int)) = false := decide_eq_false (by omega)
          clear hgk hO
          have HZ2 := Lib.hid hz
          clear hz
          go_wp2_with fail
          go_ret
          have hfin := HM.out.ext (g := addT f g) (add_full HZ2.out)
          exact ⟨_, rfl, by omega, ⟨hfin.lt, hfin.cs⟩, hfin.bel⟩
theorem rall_sub {W : World} {bl ln lc w n l : Nat} {a na ca p0 : Nat} {f : Nat → Nat} {b nb cb p1 : Nat} {g : Nat → Nat} (x2 : Value) (h1 : 1 ≤ w) (h64 : w ≤ 64) (hbl : bl < W.heap.size) (hp0 : p0 < ln) (hr0 : W.cell? ⟨bl, p0, none⟩ = some (.slice (some ⟨a, 0, none⟩) na ca)) (hw0 : RowAt W a na f) (hp1 : p1 < ln) (hr1 : W.cell? ⟨bl, p1, none⟩ = some (.slice (some ⟨b, 0, none⟩) nb cb)) (hw1 : RowAt W b nb g) (hsa : w ≤ na) (hsb : w ≤ nb) :
    Calls Try.prog 18 #[.agg #[.int .u8 9, .int .u8 ((w : Nat) : Int), .int .i64 ((p0 : Nat) : Int), .int .i64 ((p1 : Nat) : Int), x2, .int .u64 ((n : Nat) : Int), .int .u8 ((l : Nat) : Int)], .slice (some ⟨bl, 0, none⟩) ln lc] W (NewRow W w (addT f g)) := by
  have HBL := Lib.hid hbl
  have hmb := make_bytes w (by omega)
  have H0 : Hid (Told W ((W.alloc (.cells #[.int .u8 9, .int .u8 ((w : Nat) : Int), .int .i64 ((p0 : Nat) : Int), .int .i64 ((p1 : Nat) : Int), x2, .int .u64 ((n : Nat) : Int), .int .u8 ((l : Nat) : Int)] 57)).alloc (.cells (Array.replicate w (Value.int .u8 0)) 5)) (.int .u8 9) (.int .u8 ((w : Nat) : Int)) (.int .i64 ((p0 : Nat) : Int)) (.int .i64 ((p1 : Nat) : Int)) (x2) (.int .u64 ((n : Nat) : Int)) (.int .u8 ((l : Nat) : Int)) w (fun _ => 2) 0) := Lib.hid ⟨_, out_new W (.int .u8 9) (.int .u8 ((w : Nat) : Int)) (.int .i64 ((p0 : Nat) : Int)) (.int .i64 ((p1 : Nat) : Int)) (x2) (.int .u64 ((n : Nat) : Int)) (.int .u8 ((l : Nat) : Int)) w, fun j hj => by omega⟩
  have HKD : Hid (∀ W, Calls Try.prog 27 #[.int .u8 9] W fun e W' => e = .returned (.int .i64 2) ∧ W = W') := Lib.hid (fun W => rkids_any 9 W)
  have HR0 := Lib.hid hr0
  have HW0 := Lib.hid hw0
  have HR1 := Lib.hid hr1
  have HW1 := Lib.hid hw1
  have w0 : (0 : Int) ≤ ((w : Nat) : Int) := by omega
  clear hbl hr0 hw0 hr1 hw1
  go_enter Try.func18, Try.ntmps18
  go_wp2_with fail
  go_loopg [7] w (fun gk v7 wr => ∃ i : Nat, v7 = .int .i64 ((i : Nat) : Int) ∧ i + gk = w ∧ Told W wr (.int .u8 9) (.int .u8 ((w : Nat) : Int)) (.int .i64 ((p0 : Nat) : Int)) (.int .i64 ((p1 : Nat) : Int)) (x2) (.int .u64 ((n : Nat) : Int)) (.int .u8 ((l : Nat) : Int)) w (fun _ => 2) i)
  case atStart => exact ⟨0, rfl, by omega, H0.out⟩
  case round =>
    obtain ⟨i, rfl, hgk, hT⟩ := hrel
    have HGK := Lib.hid hgk
    have HT := Lib.hid hT
    have i0 : (0 : Int) ≤ ((i : Nat) : Int) := by omega
    clear H0
    by_cases hlt : i < w
    · have g1 : decide (((i : Nat) : Int) < ((w : Nat) : Int)) = true := decide_eq_true (by omega)
      have g2 : ((i : Nat) : Int) < ((w : Nat) : Int) := by omega
      obtain ⟨F, hO, _⟩ := hT
      have hc := hO.cs i hlt
      have hf := hO.fr i
      have HLT := Lib.hid hlt
      clear hgk hO hlt
      go_wp2_with fail
      go_roundg (gk - 1)
      case measure => have := HGK.out; have := HLT.out; omega
      case rel => exact ⟨i + 1, by go_num, by have := HGK.out; have := HLT.out; omega, HT.out.one HLT.out rfl⟩
    · obtain rfl : i = w := by omega
      have g1 : decide (((i : Nat) : Int) < ((i : Nat) : Int)) = false := decide_eq_false (by omega)
      obtain ⟨wA, hwA⟩ : ∃ wA, wA = wr := ⟨_, rfl⟩
      subst hwA
      obtain ⟨F, hO, hF⟩ := hT
      have HO := Lib.hid (hO.ext (g := fun _ => 2) hF)
      have hx := hO.box
      unfold At7 at hx
      obtain ⟨y0, y1, y2, y3, y4, y5, y6⟩ := hx
      have OLD := Lib.hid (fun (b : Nat) (hb : b < W.heap.size) (j : Nat) => hO.old hb j)
      have r0 : wA.cell? ⟨bl, p0, none⟩ = some (.slice (some ⟨a, 0, none⟩) na ca) := (OLD.out bl HBL.out p0).trans HR0.out
      have hi0 : (0 : Int) ≤ ((p0 : Nat) : Int) := by omega
      have r1 : wA.cell? ⟨bl, p1, none⟩ = some (.slice (some ⟨b, 0, none⟩) nb cb) := (OLD.out bl HBL.out p1).trans HR1.out
      have hi1 : (0 : Int) ≤ ((p1 : Nat) : Int) := by omega
      clear hgk hO hF HT g1
      go_wp2_with ((with_reducible refine (HKD.out _).mono ?_); rintro e wk ⟨rfl, rfl⟩)
      go_loopg [17] i (fun gk v17 wr => ∃ m : Nat, v17 = .int .i64 ((m : Nat) : Int) ∧ m + gk = i ∧ OutAt W wr (.int .u8 9) (.int .u8 ((i : Nat) : Int)) (.int .i64 ((p0 : Nat) : Int)) (.int .i64 ((p1 : Nat) : Int)) (x2) (.int .u64 ((n : Nat) : Int)) (.int .u8 ((l : Nat) : Int)) i (mix (fun _ => 0) m) ∧ ∀ j, j < m → f j = 0 ∧ g j = 0)
      case atStart => exact ⟨0, rfl, by omega, by rw [mix_zero]; exact HO.out, fun j hj => by omega⟩
      case round =>
        obtain ⟨m, rfl, hgk, hO, hz⟩ := hrel
        have HGK := Lib.hid hgk
        have HM := Lib.hid hO
        have m0 : (0 : Int) ≤ ((m : Nat) : Int) := by omega
        by_cases hlt : m < i
        · have g1 : decide (((m : Nat) : Int) < ((i : Nat) : Int)) = true := decide_eq_true (by omega)
          have g2 : ((m : Nat) : Int) < ((i : Nat) : Int) := by omega
          have HLT := Lib.hid hlt
          have hx := hO.box
          unfold At7 at hx
          obtain ⟨z0, z1, z2, z3, z4, z5, z6⟩ := hx
          have hc := hO.cs m hlt
          have hf := hO.fr m
          have lz := hO.lt
          have k0 : wr.cell? ⟨a, m, none⟩ = some (.int .u8 ((f (m) : Nat) : Int)) := (hO.old HW0.out.1 _).trans (HW0.out.2 _ (by omega))
          have lk0 : ¬ a = W.heap.size + 1 := by have := HW0.out.1; omega
          have k1 : wr.cell? ⟨b, m, none⟩ = some (.int .u8 ((g (m) : Nat) : Int)) := (hO.old HW1.out.1 _).trans (HW1.out.2 _ (by omega))
          have lk1 : ¬ b = W.heap.size + 1 := by have := HW1.out.1; omega
          have q1 : m < na := by omega
          have q2 : m < nb := by omega
          by_cases za : f m = 0
          · by_cases zb : g m = 0
            · have t0 : (((f m : Nat) : Int) == 0) = true := by rw [beq_iff_eq]; omega
              have t1 : (((g m : Nat) : Int) == 0) = true := by rw [beq_iff_eq]; omega
              have HZ : Hid (∀ j, j < m + 1 → f j = 0 ∧ g j = 0) := Lib.hid (fun j hj => by
                by_cases e : j = m
                · subst e; exact ⟨za, zb⟩
                · exact hz j (by omega))
              clear hgk hlt hO hz za zb
              go_wp2_with fail
              go_roundg (gk - 1)
              case measure => have := HGK.out; have := HLT.out; omega
              case rel => exact ⟨m + 1, by go_num, by have := HGK.out; have := HLT.out; omega, HM.out.step HLT.out rfl, HZ.out⟩
            · have t0 : (((f m : Nat) : Int) == 0) = true := by rw [beq_iff_eq]; omega
              have t1 : (((g m : Nat) : Int) == 0) = false := by rw [beq_eq_false_iff_ne]; omega
              have HZ := Lib.hid (show f m = 0 ∧ g m = 0 → False from fun c => zb c.2)
              have HZ2 := Lib.hid hz
              clear hgk hlt hO hz za zb
              go_wp2_with fail
              go_ret
              have hfin := HM.out.ext (g := addT f g) (add_mix HZ2.out HZ.out)
              exact ⟨_, rfl, by omega, ⟨hfin.lt, hfin.cs⟩, hfin.bel⟩
          · have t0 : (((f m : Nat) : Int) == 0) = false := by rw [beq_eq_false_iff_ne]; omega
            have HZ := Lib.hid (show f m = 0 ∧ g m = 0 → False from fun c => za c.1)
            have HZ2 := Lib.hid hz
            clear hgk hlt hO hz za
            go_wp2_with fail
            go_ret
            have hfin := HM.out.ext (g := addT f g) (add_mix HZ2.out HZ.out)
            exact ⟨_, rfl, by omega, ⟨hfin.lt, hfin.cs⟩, hfin.bel⟩
        · obtain rfl : m = i := by omega
          have g1 : decide (((m : Nat) : Int) < ((m : Nat) : Int)) = false := decide_eq_false (by omega)
          clear hgk hO
          have HZ2 := Lib.hid hz
          clear hz
          go_wp2_with fail
          go_ret
          have hfin := HM.out.ext (g := addT f g) (add_full HZ2.out)
          exact ⟨_, rfl, by omega, ⟨hfin.lt, hfin.cs⟩, hfin.bel⟩
theorem rall_mul {W : World} {bl ln lc w n l : Nat} {a na ca p0 : Nat} {f : Nat → Nat} {b nb cb p1 : Nat} {g : Nat → Nat} (x2 : Value) (h1 : 1 ≤ w) (h64 : w ≤ 64) (hbl : bl < W.heap.size) (hp0 : p0 < ln) (hr0 : W.cell? ⟨bl, p0, none⟩ = some (.slice (some ⟨a, 0, none⟩) na ca)) (hw0 : RowAt W a na f) (hp1 : p1 < ln) (hr1 : W.cell? ⟨bl, p1, none⟩ = some (.slice (some ⟨b, 0, none⟩) nb cb)) (hw1 : RowAt W b nb g) (hsa : w ≤ na) (hsb : w ≤ nb) :
    Calls Try.prog 18 #[.agg #[.int .u8 10, .int .u8 ((w : Nat) : Int), .int .i64 ((p0 : Nat) : Int), .int .i64 ((p1 : Nat) : Int), x2, .int .u64 ((n : Nat) : Int), .int .u8 ((l : Nat) : Int)], .slice (some ⟨bl, 0, none⟩) ln lc] W (NewRow W w (mulT f g)) := by
  have HBL := Lib.hid hbl
  have hmb := make_bytes w (by omega)
  have H0 : Hid (Told W ((W.alloc (.cells #[.int .u8 10, .int .u8 ((w : Nat) : Int), .int .i64 ((p0 : Nat) : Int), .int .i64 ((p1 : Nat) : Int), x2, .int .u64 ((n : Nat) : Int), .int .u8 ((l : Nat) : Int)] 57)).alloc (.cells (Array.replicate w (Value.int .u8 0)) 5)) (.int .u8 10) (.int .u8 ((w : Nat) : Int)) (.int .i64 ((p0 : Nat) : Int)) (.int .i64 ((p1 : Nat) : Int)) (x2) (.int .u64 ((n : Nat) : Int)) (.int .u8 ((l : Nat) : Int)) w (fun _ => 2) 0) := Lib.hid ⟨_, out_new W (.int .u8 10) (.int .u8 ((w : Nat) : Int)) (.int .i64 ((p0 : Nat) : Int)) (.int .i64 ((p1 : Nat) : Int)) (x2) (.int .u64 ((n : Nat) : Int)) (.int .u8 ((l : Nat) : Int)) w, fun j hj => by omega⟩
  have HKD : Hid (∀ W, Calls Try.prog 27 #[.int .u8 10] W fun e W' => e = .returned (.int .i64 2) ∧ W = W') := Lib.hid (fun W => rkids_any 10 W)
  have HR0 := Lib.hid hr0
  have HW0 := Lib.hid hw0
  have HR1 := Lib.hid hr1
  have HW1 := Lib.hid hw1
  have w0 : (0 : Int) ≤ ((w : Nat) : Int) := by omega
  clear hbl hr0 hw0 hr1 hw1
  go_enter Try.func18, Try.ntmps18
  go_wp2_with fail
  go_loopg [7] w (fun gk v7 wr => ∃ i : Nat, v7 = .int .i64 ((i : Nat) : Int) ∧ i + gk = w ∧ Told W wr (.int .u8 10) (.int .u8 ((w : Nat) : Int)) (.int .i64 ((p0 : Nat) : Int)) (.int .i64 ((p1 : Nat) : Int)) (x2) (.int .u64 ((n : Nat) : Int)) (.int .u8 ((l : Nat) : Int)) w (fun _ => 2) i)
  case atStart => exact ⟨0, rfl, by omega, H0.out⟩
  case round =>
    obtain ⟨i, rfl, hgk, hT⟩ := hrel
    have HGK := Lib.hid hgk
    have HT := Lib.hid hT
    have i0 : (0 : Int) ≤ ((i : Nat) : Int) := by omega
    clear H0
    by_cases hlt : i < w
    · have g1 : decide (((i : Nat) : Int) < ((w : Nat) : Int)) = true := decide_eq_true (by omega)
      have g2 : ((i : Nat) : Int) < ((w : Nat) : Int) := by omega
      obtain ⟨F, hO, _⟩ := hT
      have hc := hO.cs i hlt
      have hf := hO.fr i
      have HLT := Lib.hid hlt
      clear hgk hO hlt
      go_wp2_with fail
      go_roundg (gk - 1)
      case measure => have := HGK.out; have := HLT.out; omega
      case rel => exact ⟨i + 1, by go_num, by have := HGK.out; have := HLT.out; omega, HT.out.one HLT.out rfl⟩
    · obtain rfl : i = w := by omega
      have g1 : decide (((i : Nat) : Int) < ((i : Nat) : Int)) = false := decide_eq_false (by omega)
      obtain ⟨wA, hwA⟩ : ∃ wA, wA = wr := ⟨_, rfl⟩
      subst hwA
      obtain ⟨F, hO, hF⟩ := hT
      have HO := Lib.hid (hO.ext (g := fun _ => 2) hF)
      have hx := hO.box
      unfold At7 at hx
      obtain ⟨y0, y1, y2, y3, y4, y5, y6⟩ := hx
      have OLD := Lib.hid (fun (b : Nat) (hb : b < W.heap.size) (j : Nat) => hO.old hb j)
      have r0 : wA.cell? ⟨bl, p0, none⟩ = some (.slice (some ⟨a, 0, none⟩) na ca) := (OLD.out bl HBL.out p0).trans HR0.out
      have hi0 : (0 : Int) ≤ ((p0 : Nat) : Int) := by omega
      have r1 : wA.cell? ⟨bl, p1, none⟩ = some (.slice (some ⟨b, 0, none⟩) nb cb) := (OLD.out bl HBL.out p1).trans HR1.out
      have hi1 : (0 : Int) ≤ ((p1 : Nat) : Int) := by omega
      clear hgk hO hF HT g1
      go_wp2_with ((with_reducible refine (HKD.out _).mono ?_); rintro e wk ⟨rfl, rfl⟩)
      go_loopg [18] i (fun gk v18 wr => ∃ m : Nat, v18 = .int .i64 ((m : Nat) : Int) ∧ m + gk = i ∧ OutAt W wr (.int .u8 10) (.int .u8 ((i : Nat) : Int)) (.int .i64 ((p0 : Nat) : Int)) (.int .i64 ((p1 : Nat) : Int)) (x2) (.int .u64 ((n : Nat) : Int)) (.int .u8 ((l : Nat) : Int)) i (mix (fun _ => 0) m) ∧ ∀ j, j < m → f j = 0)
      case atStart => exact ⟨0, rfl, by omega, by rw [mix_zero]; exact HO.out, fun j hj => by omega⟩
      case round =>
        obtain ⟨m, rfl, hgk, hO, hz⟩ := hrel
        have HGK := Lib.hid hgk
        have HM := Lib.hid hO
        have m0 : (0 : Int) ≤ ((m : Nat) : Int) := by omega
        by_cases hlt : m < i
        · have g1 : decide (((m : Nat) : Int) < ((i : Nat) : Int)) = true := decide_eq_true (by omega)
          have g2 : ((m : Nat) : Int) < ((i : Nat) : Int) := by omega
          have HLT := Lib.hid hlt
          have hx := hO.box
          unfold At7 at hx
          obtain ⟨z0, z1, z2, z3, z4, z5, z6⟩ := hx
          have hc := hO.cs m hlt
          have hf := hO.fr m
          have lz := hO.lt
          have k0 : wr.cell? ⟨a, m, none⟩ = some (.int .u8 ((f (m) : Nat) : Int)) := (hO.old HW0.out.1 _).trans (HW0.out.2 _ (by omega))
          have lk0 : ¬ a = W.heap.size + 1 := by have := HW0.out.1; omega
          have q1 : m < na := by omega
          by_cases za : f m = 0
          · have t0 : (((f m : Nat) : Int) == 0) = true := by rw [beq_iff_eq]; omega
            have HZ : Hid (∀ j, j < m + 1 → f j = 0) := Lib.hid (fun j hj => by
              by_cases e : j = m
              · subst e; exact za
              · exact hz j (by omega))
            clear hgk hlt hO hz za
            go_wp2_with fail
            go_roundg (gk - 1)
            case measure => have := HGK.out; have := HLT.out; omega
            case rel => exact ⟨m + 1, by go_num, by have := HGK.out; have := HLT.out; omega, HM.out.step HLT.out rfl, HZ.out⟩
          · have t0 : (((f m : Nat) : Int) == 0) = false := by rw [beq_eq_false_iff_ne]; omega
            have HC := Lib.hid (show (∀ j, j < m → f j = 0) ∧ (m = i ∨ f m ≠ 0) from ⟨hz, .inr za⟩)
            obtain ⟨wB, hwB⟩ : ∃ wB, wB = wr := ⟨_, rfl⟩
            obtain ⟨gB, hgB⟩ : ∃ gB, gB = gk := ⟨_, rfl⟩
            subst hwB
            subst hgB
            clear hgk hlt hO hz za
            go_wp2_with fail
            go_loopg [19] i (fun gk v19 wr => ∃ q : Nat, v19 = .int .i64 ((q : Nat) : Int) ∧ q + gk = i ∧ OutAt W wr (.int .u8 10) (.int .u8 ((i : Nat) : Int)) (.int .i64 ((p0 : Nat) : Int)) (.int .i64 ((p1 : Nat) : Int)) (x2) (.int .u64 ((n : Nat) : Int)) (.int .u8 ((l : Nat) : Int)) i (two m q) ∧ ∀ j, j < q → g j = 0)
            case atStart => exact ⟨0, rfl, by omega, by rw [two_zero]; exact HM.out, fun j hj => by omega⟩
            case round =>
              obtain ⟨q, rfl, hgk, hO, hz⟩ := hrel
              have HGK := Lib.hid hgk
              have HM2 := Lib.hid hO
              have m0 : (0 : Int) ≤ ((q : Nat) : Int) := by omega
              by_cases hlt : q < i
              · have g1 : decide (((q : Nat) : Int) < ((i : Nat) : Int)) = true := decide_eq_true (by omega)
                have g2 : ((q : Nat) : Int) < ((i : Nat) : Int) := by omega
                have HLT := Lib.hid hlt
                have hx := hO.box
                unfold At7 at hx
                obtain ⟨z0, z1, z2, z3, z4, z5, z6⟩ := hx
                have hc := hO.cs q hlt
                have hf := hO.fr q
                have lz := hO.lt
                have k1 : wr.cell? ⟨b, q, none⟩ = some (.int .u8 ((g q : Nat) : Int)) := (hO.old HW1.out.1 _).trans (HW1.out.2 _ (by omega))
                have lk1 : ¬ b = W.heap.size + 1 := by have := HW1.out.1; omega
                have q2 : q < nb := by omega
                by_cases zb : g q = 0
                · have t1 : (((g q : Nat) : Int) == 0) = true := by rw [beq_iff_eq]; omega
                  have HZ : Hid (∀ j, j < q + 1 → g j = 0) := Lib.hid (fun j hj => by
                    by_cases e : j = q
                    · subst e; exact zb
                    · exact hz j (by omega))
                  clear hgk hlt hO hz zb
                  go_wp2_with fail
                  go_roundg (gk - 1)
                  case measure => have := HGK.out; have := HLT.out; omega
                  case rel => exact ⟨q + 1, by go_num, by have := HGK.out; have := HLT.out; omega, (HM2.out.set HLT.out).ext (two_step m q), HZ.out⟩
                · have t1 : (((g q : Nat) : Int) == 0) = false := by rw [beq_eq_false_iff_ne]; omega
                  have HZ := Lib.hid zb
                  have HZ2 := Lib.hid hz
                  clear hgk hlt hO hz zb
                  go_wp2_with fail
                  go_ret
                  have hfin := HM2.out.ext (g := mulT f g) (mul_two HC.out (.inr HZ.out) HZ2.out)
                  exact ⟨_, rfl, by omega, ⟨hfin.lt, hfin.cs⟩, hfin.bel⟩
              · obtain rfl : q = i := by omega
                have g1 : decide (((q : Nat) : Int) < ((q : Nat) : Int)) = false := decide_eq_false (by omega)
                have HZ2 := Lib.hid hz
                clear hgk hO hz
                go_wp2_with fail
                go_ret
                have hfin := HM2.out.ext (g := mulT f g) (mul_two HC.out (.inl rfl) HZ2.out)
                exact ⟨_, rfl, by omega, ⟨hfin.lt, hfin.cs⟩, hfin.bel⟩
        · obtain rfl : m = i := by omega
          have g1 : decide (((m : Nat) : Int) < ((m : Nat) : Int)) = false := decide_eq_false (by omega)
          clear hgk hO
          have HC := Lib.hid (show (∀ j, j < m → f j = 0) ∧ (m = m ∨ f m ≠ 0) from ⟨hz, .inl rfl⟩)
          obtain ⟨wB, hwB⟩ : ∃ wB, wB = wr := ⟨_, rfl⟩
          obtain ⟨gB, hgB⟩ : ∃ gB, gB = gk := ⟨_, rfl⟩
          subst hwB
          subst hgB
          clear hz
          go_wp2_with fail
          go_loopg [19] m (fun gk v19 wr => ∃ q : Nat, v19 = .int .i64 ((q : Nat) : Int) ∧ q + gk = m ∧ OutAt W wr (.int .u8 10) (.int .u8 ((m : Nat) : Int)) (.int .i64 ((p0 : Nat) : Int)) (.int .i64 ((p1 : Nat) : Int)) (x2) (.int .u64 ((n : Nat) : Int)) (.int .u8 ((l : Nat) : Int)) m (two m q) ∧ ∀ j, j < q → g j = 0)
          case atStart => exact ⟨0, rfl, by omega, by rw [two_zero]; exact HM.out, fun j hj => by omega⟩
          case round =>
            obtain ⟨q, rfl, hgk, hO, hz⟩ := hrel
            have HGK := Lib.hid hgk
            have HM2 := Lib.hid hO
            have m0 : (0 : Int) ≤ ((q : Nat) : Int) := by omega
            by_cases hlt : q < m
            · have g1 : decide (((q : Nat) : Int) < ((m : Nat) : Int)) = true := decide_eq_true (by omega)
              have g2 : ((q : Nat) : Int) < ((m : Nat) : Int) := by omega
              have HLT := Lib.hid hlt
              have hx := hO.box
              unfold At7 at hx
              obtain ⟨z0, z1, z2, z3, z4, z5, z6⟩ := hx
              have hc := hO.cs q hlt
              have hf := hO.fr q
              have lz := hO.lt
              have k1 : wr.cell? ⟨b, q, none⟩ = some (.int .u8 ((g q : Nat) : Int)) := (hO.old HW1.out.1 _).trans (HW1.out.2 _ (by omega))
              have lk1 : ¬ b = W.heap.size + 1 := by have := HW1.out.1; omega
              have q2 : q < nb := by omega
              by_cases zb : g q = 0
              · have t1 : (((g q : Nat) : Int) == 0) = true := by rw [beq_iff_eq]; omega
                have HZ : Hid (∀ j, j < q + 1 → g j = 0) := Lib.hid (fun j hj => by
                  by_cases e : j = q
                  · subst e; exact zb
                  · exact hz j (by omega))
                clear hgk hlt hO hz zb
                go_wp2_with fail
                go_roundg (gk - 1)
                case measure => have := HGK.out; have := HLT.out; omega
                case rel => exact ⟨q + 1, by go_num, by have := HGK.out; have := HLT.out; omega, (HM2.out.set HLT.out).ext (two_step m q), HZ.out⟩
              · have t1 : (((g q : Nat) : Int) == 0) = false := by rw [beq_eq_false_iff_ne]; omega
                have HZ := Lib.hid zb
                have HZ2 := Lib.hid hz
                clear hgk hlt hO hz zb
                go_wp2_with fail
                go_ret
                have hfin := HM2.out.ext (g := mulT f g) (mul_two ⟨HC.out.1, .inl rfl⟩ (.inr HZ.out) HZ2.out)
                exact ⟨_, rfl, by omega, ⟨hfin.lt, hfin.cs⟩, hfin.bel⟩
            · obtain rfl : q = m := by omega
              have g1 : decide (((q : Nat) : Int) < ((q : Nat) : Int)) = false := decide_eq_false (by omega)
              have HZ2 := Lib.hid hz
              clear hgk hO hz
              go_wp2_with fail
              go_ret
              have hfin := HM2.out.ext (g := mulT f g) (mul_two ⟨HC.out.1, .inl rfl⟩ (.inl rfl) HZ2.out)
              exact ⟨_, rfl, by omega, ⟨hfin.lt, hfin.cs⟩, hfin.bel⟩
end Kr
end Go.Proofs.Ytigjbngedbbdbaa

namespace Go.Proofs.Ytigjbngedbbdbaa
open Go.RowKit Go.Maps Bv Tm Kn
namespace Kr
set_option maxHeartbeats 1600000
set_option maxRecDepth 100000

theorem rall_ite {W : World} {bl ln lc w n l : Nat} {a na ca p0 : Nat} {f : Nat → Nat} {b nb cb p1 : Nat} {g : Nat → Nat} {c nc cc p2 : Nat} {h : Nat → Nat} (h1 : 1 ≤ w) (h64 : w ≤ 64) (hbl : bl < W.heap.size) (hp0 : p0 < ln) (hr0 : W.cell? ⟨bl, p0, none⟩ = some (.slice (some ⟨a, 0, none⟩) na ca)) (hw0 : RowAt W a na f) (hp1 : p1 < ln) (hr1 : W.cell? ⟨bl, p1, none⟩ = some (.slice (some ⟨b, 0, none⟩) nb cb)) (hw1 : RowAt W b nb g) (hp2 : p2 < ln) (hr2 : W.cell? ⟨bl, p2, none⟩ = some (.slice (some ⟨c, 0, none⟩) nc cc)) (hw2 : RowAt W c nc h) (hsa : 0 < na) (hsb : w ≤ nb) (hsc : w ≤ nc) (hqa : f 0 ≤ 2) :
    Calls Try.prog 18 #[.agg #[.int .u8 25, .int .u8 ((w : Nat) : Int), .int .i64 ((p0 : Nat) : Int), .int .i64 ((p1 : Nat) : Int), .int .i64 ((p2 : Nat) : Int), .int .u64 ((n : Nat) : Int), .int .u8 ((l : Nat) : Int)], .slice (some ⟨bl, 0, none⟩) ln lc] W (NewRow W w (iteT f g h)) := by
  have HBL := Lib.hid hbl
  have hmb := make_bytes w (by omega)
  have H0 : Hid (Told W ((W.alloc (.cells #[.int .u8 25, .int .u8 ((w : Nat) : Int), .int .i64 ((p0 : Nat) : Int), .int .i64 ((p1 : Nat) : Int), .int .i64 ((p2 : Nat) : Int), .int .u64 ((n : Nat) : Int), .int .u8 ((l : Nat) : Int)] 57)).alloc (.cells (Array.replicate w (Value.int .u8 0)) 5)) (.int .u8 25) (.int .u8 ((w : Nat) : Int)) (.int .i64 ((p0 : Nat) : Int)) (.int .i64 ((p1 : Nat) : Int)) (.int .i64 ((p2 : Nat) : Int)) (.int .u64 ((n : Nat) : Int)) (.int .u8 ((l : Nat) : Int)) w (fun _ => 2) 0) := Lib.hid ⟨_, out_new W (.int .u8 25) (.int .u8 ((w : Nat) : Int)) (.int .i64 ((p0 : Nat) : Int)) (.int .i64 ((p1 : Nat) : Int)) (.int .i64 ((p2 : Nat) : Int)) (.int .u64 ((n : Nat) : Int)) (.int .u8 ((l : Nat) : Int)) w, fun j hj => by omega⟩
  have HKD : Hid (∀ W, Calls Try.prog 27 #[.int .u8 25] W fun e W' => e = .returned (.int .i64 3) ∧ W = W') := Lib.hid (fun W => rkids_any 25 W)
  have HR0 := Lib.hid hr0
  have HW0 := Lib.hid hw0
  have HR1 := Lib.hid hr1
  have HW1 := Lib.hid hw1
  have HR2 := Lib.hid hr2
  have HW2 := Lib.hid hw2
  have w0 : (0 : Int) ≤ ((w : Nat) : Int) := by omega
  clear hbl hr0 hw0 hr1 hw1 hr2 hw2
  go_enter Try.func18, Try.ntmps18
  go_wp2_with fail
  go_loopg [7] w (fun gk v7 wr => ∃ i : Nat, v7 = .int .i64 ((i : Nat) : Int) ∧ i + gk = w ∧ Told W wr (.int .u8 25) (.int .u8 ((w : Nat) : Int)) (.int .i64 ((p0 : Nat) : Int)) (.int .i64 ((p1 : Nat) : Int)) (.int .i64 ((p2 : Nat) : Int)) (.int .u64 ((n : Nat) : Int)) (.int .u8 ((l : Nat) : Int)) w (fun _ => 2) i)
  case atStart => exact ⟨0, rfl, by omega, H0.out⟩
  case round =>
    obtain ⟨i, rfl, hgk, hT⟩ := hrel
    have HGK := Lib.hid hgk
    have HT := Lib.hid hT
    have i0 : (0 : Int) ≤ ((i : Nat) : Int) := by omega
    clear H0
    by_cases hlt : i < w
    · have g1 : decide (((i : Nat) : Int) < ((w : Nat) : Int)) = true := decide_eq_true (by omega)
      have g2 : ((i : Nat) : Int) < ((w : Nat) : Int) := by omega
      obtain ⟨F, hO, _⟩ := hT
      have hc := hO.cs i hlt
      have hf := hO.fr i
      have HLT := Lib.hid hlt
      clear hgk hO hlt
      go_wp2_with fail
      go_roundg (gk - 1)
      case measure => have := HGK.out; have := HLT.out; omega
      case rel => exact ⟨i + 1, by go_num, by have := HGK.out; have := HLT.out; omega, HT.out.one HLT.out rfl⟩
    · obtain rfl : i = w := by omega
      have g1 : decide (((i : Nat) : Int) < ((i : Nat) : Int)) = false := decide_eq_false (by omega)
      obtain ⟨wA, hwA⟩ : ∃ wA, wA = wr := ⟨_, rfl⟩
      subst hwA
      obtain ⟨F, hO, hF⟩ := hT
      have HO := Lib.hid (hO.ext (g := fun _ => 2) hF)
      have hx := hO.box
      unfold At7 at hx
      obtain ⟨y0, y1, y2, y3, y4, y5, y6⟩ := hx
      have OLD := Lib.hid (fun (b : Nat) (hb : b < W.heap.size) (j : Nat) => hO.old hb j)
      have r0 : wA.cell? ⟨bl, p0, none⟩ = some (.slice (some ⟨a, 0, none⟩) na ca) := (OLD.out bl HBL.out p0).trans HR0.out
      have hi0 : (0 : Int) ≤ ((p0 : Nat) : Int) := by omega
      have r1 : wA.cell? ⟨bl, p1, none⟩ = some (.slice (some ⟨b, 0, none⟩) nb cb) := (OLD.out bl HBL.out p1).trans HR1.out
      have hi1 : (0 : Int) ≤ ((p1 : Nat) : Int) := by omega
      have r2 : wA.cell? ⟨bl, p2, none⟩ = some (.slice (some ⟨c, 0, none⟩) nc cc) := (OLD.out bl HBL.out p2).trans HR2.out
      have hi2 : (0 : Int) ≤ ((p2 : Nat) : Int) := by omega
      clear hgk hO hF HT g1
      go_wp2_with ((with_reducible refine (HKD.out _).mono ?_); rintro e wk ⟨rfl, rfl⟩)
      go_loopg [20] i (fun gk v20 wr => ∃ m : Nat, v20 = .int .i64 ((m : Nat) : Int) ∧ m + gk = i ∧ OutAt W wr (.int .u8 25) (.int .u8 ((i : Nat) : Int)) (.int .i64 ((p0 : Nat) : Int)) (.int .i64 ((p1 : Nat) : Int)) (.int .i64 ((p2 : Nat) : Int)) (.int .u64 ((n : Nat) : Int)) (.int .u8 ((l : Nat) : Int)) i (mix (iteT f g h) m))
      case atStart => exact ⟨0, rfl, by omega, by rw [mix_zero]; exact HO.out⟩
      case round =>
        obtain ⟨m, rfl, hgk, hO⟩ := hrel
        have HGK := Lib.hid hgk
        have HM := Lib.hid hO
        have m0 : (0 : Int) ≤ ((m : Nat) : Int) := by omega
        by_cases hlt : m < i
        · have g1 : decide (((m : Nat) : Int) < ((i : Nat) : Int)) = true := decide_eq_true (by omega)
          have g2 : ((m : Nat) : Int) < ((i : Nat) : Int) := by omega
          have HLT := Lib.hid hlt
          have hx := hO.box
          unfold At7 at hx
          obtain ⟨z0, z1, z2, z3, z4, z5, z6⟩ := hx
          have hc := hO.cs m hlt
          have hf := hO.fr m
          have lz := hO.lt
          have k0 : wr.cell? ⟨a, 0, none⟩ = some (.int .u8 ((f (0) : Nat) : Int)) := (hO.old HW0.out.1 _).trans (HW0.out.2 _ (by omega))
          have lk0 : ¬ a = W.heap.size + 1 := by have := HW0.out.1; omega
          have k1 : wr.cell? ⟨b, m, none⟩ = some (.int .u8 ((g (m) : Nat) : Int)) := (hO.old HW1.out.1 _).trans (HW1.out.2 _ (by omega))
          have lk1 : ¬ b = W.heap.size + 1 := by have := HW1.out.1; omega
          have k2 : wr.cell? ⟨c, m, none⟩ = some (.int .u8 ((h (m) : Nat) : Int)) := (hO.old HW2.out.1 _).trans (HW2.out.2 _ (by omega))
          have lk2 : ¬ c = W.heap.size + 1 := by have := HW2.out.1; omega
          have q1 : m < nb := by omega
          have q2 : m < nc := by omega
          rcases three hqa with q | q | q
          · have kz : wr.cell? ⟨a, 0, none⟩ = some (.int .u8 0) := by rw [k0, q]; rfl
            have HQ := Lib.hid q
            clear hgk hlt hO k0 q
            go_wp2_with fail
            go_roundg (gk - 1)
            case measure => have := HGK.out; have := HLT.out; omega
            case rel => exact ⟨m + 1, by go_num, by have := HGK.out; have := HLT.out; omega, HM.out.step HLT.out (by unfold iteT; rw [if_neg (by rw [HQ.out]; decide), if_pos HQ.out])⟩
          · have kz : wr.cell? ⟨a, 0, none⟩ = some (.int .u8 1) := by rw [k0, q]; rfl
            have HQ := Lib.hid q
            clear hgk hlt hO k0 q
            go_wp2_with fail
            go_roundg (gk - 1)
            case measure => have := HGK.out; have := HLT.out; omega
            case rel => exact ⟨m + 1, by go_num, by have := HGK.out; have := HLT.out; omega, HM.out.step HLT.out (by unfold iteT; rw [if_pos HQ.out])⟩
          · have kz : wr.cell? ⟨a, 0, none⟩ = some (.int .u8 2) := by rw [k0, q]; rfl
            have HQ := Lib.hid q
            have hi : m < i := hlt
            obtain ⟨x, hx⟩ : ∃ x, g m = x := ⟨_, rfl⟩
            obtain ⟨y, hy⟩ : ∃ y, h m = y := ⟨_, rfl⟩
            rw [hx] at k1
            rw [hy] at k2
            have HXY := Lib.hid (And.intro hx hy)
            clear hgk hlt hO k0 q hx hy
            by_cases e : x = y
            · subst e
              go_wp2_with fail
              go_quiet (fail)
              go_wp2_with fail
              go_roundg (gk - 1)
              case measure => have := HGK.out; have := HLT.out; omega
              case rel => exact ⟨m + 1, by go_num, by have := HGK.out; have := HLT.out; omega, (HM.out.drewN _).step HLT.out (by unfold iteT; rw [if_neg (by rw [HQ.out]; decide), if_neg (by rw [HQ.out]; decide), if_pos (by rw [HXY.out.1, HXY.out.2]), HXY.out.1])⟩
            · have e1 : (((x : Nat) : Int) == ((y : Nat) : Int)) = false := by rw [beq_eq_false_iff_ne]; omega
              have HE := Lib.hid e
              clear e
              go_wp2_with fail
              go_quiet (fail)
              go_wp2_with fail
              go_roundg (gk - 1)
              case measure => have := HGK.out; have := HLT.out; omega
              case rel => exact ⟨m + 1, by go_num, by have := HGK.out; have := HLT.out; omega, (HM.out.drewN _).skip (by unfold iteT; rw [if_neg (by rw [HQ.out]; decide), if_neg (by rw [HQ.out]; decide), if_neg (by rw [HXY.out.1, HXY.out.2]; exact HE.out)])⟩
        · obtain rfl : m = i := by omega
          have g1 : decide (((m : Nat) : Int) < ((m : Nat) : Int)) = false := decide_eq_false (by omega)
          clear hgk hO
          go_wp2_with fail
          go_ret
          exact ⟨_, rfl, by omega, HM.out.done.1, HM.out.done.2⟩
end Kr
end Go.Proofs.Ytigjbngedbbdbaa
