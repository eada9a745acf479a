/-
  The document's bits of a node by its kids' bits: operators extract, zext, sext, concat.
-/
import Derived.Test.YtigjbngedbbdbaaPt24
namespace Go.Proofs.Ytigjbngedbbdbaa
open Go.RowKit Go.Maps Bv Tm Kn
namespace Kr
set_option maxHeartbeats 1600000
set_option maxRecDepth 100000

theorem rall_extract {W : World} {bl ln lc w n l : Nat} {a na ca p0 : Nat} {f : Nat → Nat} (x1 x2 : Value) (h1 : 1 ≤ w) (h64 : w ≤ 64) (hbl : bl < W.heap.size) (hp0 : p0 < ln) (hr0 : W.cell? ⟨bl, p0, none⟩ = some (.slice (some ⟨a, 0, none⟩) na ca)) (hw0 : RowAt W a na f) (hs : l + w ≤ na) (hl : l < 256) :
    Calls Try.prog 18 #[.agg #[.int .u8 22, .int .u8 ((w : Nat) : Int), .int .i64 ((p0 : Nat) : Int), x1, x2, .int .u64 ((n : Nat) : Int), .int .u8 ((l : Nat) : Int)], .slice (some ⟨bl, 0, none⟩) ln lc] W (NewRow W w (fun j => f (l + j))) := by
  have HBL := Lib.hid hbl
  have hmb := make_bytes w (by omega)
  have H0 : Hid (Told W ((W.alloc (.cells #[.int .u8 22, .int .u8 ((w : Nat) : Int), .int .i64 ((p0 : Nat) : Int), x1, x2, .int .u64 ((n : Nat) : Int), .int .u8 ((l : Nat) : Int)] 57)).alloc (.cells (Array.replicate w (Value.int .u8 0)) 5)) (.int .u8 22) (.int .u8 ((w : Nat) : Int)) (.int .i64 ((p0 : Nat) : Int)) (x1) (x2) (.int .u64 ((n : Nat) : Int)) (.int .u8 ((l : Nat) : Int)) w (fun _ => 2) 0) := Lib.hid ⟨_, out_new W (.int .u8 22) (.int .u8 ((w : Nat) : Int)) (.int .i64 ((p0 : Nat) : Int)) (x1) (x2) (.int .u64 ((n : Nat) : Int)) (.int .u8 ((l : Nat) : Int)) w, fun j hj => by omega⟩
  have HKD : Hid (∀ W, Calls Try.prog 27 #[.int .u8 22] W fun e W' => e = .returned (.int .i64 1) ∧ W = W') := Lib.hid (fun W => rkids_any 22 W)
  have HR0 := Lib.hid hr0
  have HW0 := Lib.hid hw0
  have w0 : (0 : Int) ≤ ((w : Nat) : Int) := by omega
  clear hbl hr0 hw0
  go_enter Try.func18, Try.ntmps18
  go_wp2_with fail
  go_loopg [7] w (fun gk v7 wr => ∃ i : Nat, v7 = .int .i64 ((i : Nat) : Int) ∧ i + gk = w ∧ Told W wr (.int .u8 22) (.int .u8 ((w : Nat) : Int)) (.int .i64 ((p0 : Nat) : Int)) (x1) (x2) (.int .u64 ((n : Nat) : Int)) (.int .u8 ((l : Nat) : Int)) w (fun _ => 2) i)
  case atStart => exact ⟨0, rfl, by omega, H0.out⟩
  case round =>
    obtain ⟨i, rfl, hgk, hT⟩ := hrel
    have HGK := Lib.hid hgk
    have HT := Lib.hid hT
    have i0 : (0 : Int) ≤ ((i : Nat) : Int) := by omega
    clear H0
    by_cases hlt : i < w
    · have g1 : decide (((i : Nat) : Int) < ((w : Nat) : Int)) = true := decide_eq_true (by omega)
      have g2 : ((i : Nat) : Int) < ((w : Nat) : Int) := by omega
      obtain ⟨F, hO, _⟩ := hT
      have hc := hO.cs i hlt
      have hf := hO.fr i
      have HLT := Lib.hid hlt
      clear hgk hO hlt
      go_wp2_with fail
      go_roundg (gk - 1)
      case measure => have := HGK.out; have := HLT.out; omega
      case rel => exact ⟨i + 1, by go_num, by have := HGK.out; have := HLT.out; omega, HT.out.one HLT.out rfl⟩
    · obtain rfl : i = w := by omega
      have g1 : decide (((i : Nat) : Int) < ((i : Nat) : Int)) = false := decide_eq_false (by omega)
      obtain ⟨wA, hwA⟩ : ∃ wA, wA = wr := ⟨_, rfl⟩
      subst hwA
      obtain ⟨F, hO, hF⟩ := hT
      have HO := Lib.hid (hO.ext (g := fun _ => 2) hF)
      have hx := hO.box
      unfold At7 at hx
      obtain ⟨y0, y1, y2, y3, y4, y5, y6⟩ := hx
      have OLD := Lib.hid (fun (b : Nat) (hb : b < W.heap.size) (j : Nat) => hO.old hb j)
      have r0 : wA.cell? ⟨bl, p0, none⟩ = some (.slice (some ⟨a, 0, none⟩) na ca) := (OLD.out bl HBL.out p0).trans HR0.out
      have hi0 : (0 : Int) ≤ ((p0 : Nat) : Int) := by omega
      clear hgk hO hF HT g1
      go_wp2_with ((with_reducible refine (HKD.out _).mono ?_); rintro e wk ⟨rfl, rfl⟩)
      go_loopg [15] i (fun gk v15 wr => ∃ m : Nat, v15 = .int .i64 ((m : Nat) : Int) ∧ m + gk = i ∧ OutAt W wr (.int .u8 22) (.int .u8 ((i : Nat) : Int)) (.int .i64 ((p0 : Nat) : Int)) (x1) (x2) (.int .u64 ((n : Nat) : Int)) (.int .u8 ((l : Nat) : Int)) i (mix (fun j => f (l + j)) m))
      case atStart => exact ⟨0, rfl, by omega, by rw [mix_zero]; exact HO.out⟩
      case round =>
        obtain ⟨m, rfl, hgk, hO⟩ := hrel
        have HGK := Lib.hid hgk
        have HM := Lib.hid hO
        have m0 : (0 : Int) ≤ ((m : Nat) : Int) := by omega
        by_cases hlt : m < i
        · have g1 : decide (((m : Nat) : Int) < ((i : Nat) : Int)) = true := decide_eq_true (by omega)
          have g2 : ((m : Nat) : Int) < ((i : Nat) : Int) := by omega
          have HLT := Lib.hid hlt
          have hx := hO.box
          unfold At7 at hx
          obtain ⟨z0, z1, z2, z3, z4, z5, z6⟩ := hx
          have hc := hO.cs m hlt
          have hf := hO.fr m
          have lz := hO.lt
          have k0 : wr.cell? ⟨a, l + m, none⟩ = some (.int .u8 ((f (l + m) : Nat) : Int)) := (hO.old HW0.out.1 _).trans (HW0.out.2 _ (by omega))
          have lk0 : ¬ a = W.heap.size + 1 := by have := HW0.out.1; omega
          have l0 : (0 : Int) ≤ ((l : Nat) : Int) := by omega
          clear hgk hlt hO
          go_wp2_with fail
          go_roundg (gk - 1)
          case measure => have := HGK.out; have := HLT.out; omega
          case rel => exact ⟨m + 1, by go_num, by have := HGK.out; have := HLT.out; omega, HM.out.step HLT.out (rfl)⟩
        · obtain rfl : m = i := by omega
          have g1 : decide (((m : Nat) : Int) < ((m : Nat) : Int)) = false := decide_eq_false (by omega)
          clear hgk hO
          go_wp2_with fail
          go_ret
          exact ⟨_, rfl, by omega, HM.out.done.1, HM.out.done.2⟩
theorem rall_zext {W : World} {bl ln lc w n l : Nat} {a na ca p0 : Nat} {f : Nat → Nat} (x1 x2 : Value) (h1 : 1 ≤ w) (h64 : w ≤ 64) (hbl : bl < W.heap.size) (hp0 : p0 < ln) (hr0 : W.cell? ⟨bl, p0, none⟩ = some (.slice (some ⟨a, 0, none⟩) na ca)) (hw0 : RowAt W a na f) (hs : 1 ≤ na) (hna : na ≤ 64) :
    Calls Try.prog 18 #[.agg #[.int .u8 23, .int .u8 ((w : Nat) : Int), .int .i64 ((p0 : Nat) : Int), x1, x2, .int .u64 ((n : Nat) : Int), .int .u8 ((l : Nat) : Int)], .slice (some ⟨bl, 0, none⟩) ln lc] W (NewRow W w (fun j => if j < na then f j else 0)) := by
  have HBL := Lib.hid hbl
  have hmb := make_bytes w (by omega)
  have H0 : Hid (Told W ((W.alloc (.cells #[.int .u8 23, .int .u8 ((w : Nat) : Int), .int .i64 ((p0 : Nat) : Int), x1, x2, .int .u64 ((n : Nat) : Int), .int .u8 ((l : Nat) : Int)] 57)).alloc (.cells (Array.replicate w (Value.int .u8 0)) 5)) (.int .u8 23) (.int .u8 ((w : Nat) : Int)) (.int .i64 ((p0 : Nat) : Int)) (x1) (x2) (.int .u64 ((n : Nat) : Int)) (.int .u8 ((l : Nat) : Int)) w (fun _ => 2) 0) := Lib.hid ⟨_, out_new W (.int .u8 23) (.int .u8 ((w : Nat) : Int)) (.int .i64 ((p0 : Nat) : Int)) (x1) (x2) (.int .u64 ((n : Nat) : Int)) (.int .u8 ((l : Nat) : Int)) w, fun j hj => by omega⟩
  have HKD : Hid (∀ W, Calls Try.prog 27 #[.int .u8 23] W fun e W' => e = .returned (.int .i64 1) ∧ W = W') := Lib.hid (fun W => rkids_any 23 W)
  have HR0 := Lib.hid hr0
  have HW0 := Lib.hid hw0
  have w0 : (0 : Int) ≤ ((w : Nat) : Int) := by omega
  clear hbl hr0 hw0
  go_enter Try.func18, Try.ntmps18
  go_wp2_with fail
  go_loopg [7] w (fun gk v7 wr => ∃ i : Nat, v7 = .int .i64 ((i : Nat) : Int) ∧ i + gk = w ∧ Told W wr (.int .u8 23) (.int .u8 ((w : Nat) : Int)) (.int .i64 ((p0 : Nat) : Int)) (x1) (x2) (.int .u64 ((n : Nat) : Int)) (.int .u8 ((l : Nat) : Int)) w (fun _ => 2) i)
  case atStart => exact ⟨0, rfl, by omega, H0.out⟩
  case round =>
    obtain ⟨i, rfl, hgk, hT⟩ := hrel
    have HGK := Lib.hid hgk
    have HT := Lib.hid hT
    have i0 : (0 : Int) ≤ ((i : Nat) : Int) := by omega
    clear H0
    by_cases hlt : i < w
    · have g1 : decide (((i : Nat) : Int) < ((w : Nat) : Int)) = true := decide_eq_true (by omega)
      have g2 : ((i : Nat) : Int) < ((w : Nat) : Int) := by omega
      obtain ⟨F, hO, _⟩ := hT
      have hc := hO.cs i hlt
      have hf := hO.fr i
      have HLT := Lib.hid hlt
      clear hgk hO hlt
      go_wp2_with fail
      go_roundg (gk - 1)
      case measure => have := HGK.out; have := HLT.out; omega
      case rel => exact ⟨i + 1, by go_num, by have := HGK.out; have := HLT.out; omega, HT.out.one HLT.out rfl⟩
    · obtain rfl : i = w := by omega
      have g1 : decide (((i : Nat) : Int) < ((i : Nat) : Int)) = false := decide_eq_false (by omega)
      obtain ⟨wA, hwA⟩ : ∃ wA, wA = wr := ⟨_, rfl⟩
      subst hwA
      obtain ⟨F, hO, hF⟩ := hT
      have HO := Lib.hid (hO.ext (g := fun _ => 2) hF)
      have hx := hO.box
      unfold At7 at hx
      obtain ⟨y0, y1, y2, y3, y4, y5, y6⟩ := hx
      have OLD := Lib.hid (fun (b : Nat) (hb : b < W.heap.size) (j : Nat) => hO.old hb j)
      have r0 : wA.cell? ⟨bl, p0, none⟩ = some (.slice (some ⟨a, 0, none⟩) na ca) := (OLD.out bl HBL.out p0).trans HR0.out
      have hi0 : (0 : Int) ≤ ((p0 : Nat) : Int) := by omega
      clear hgk hO hF HT g1
      go_wp2_with ((with_reducible refine (HKD.out _).mono ?_); rintro e wk ⟨rfl, rfl⟩)
      go_loopg [16] i (fun gk v16 wr => ∃ m : Nat, v16 = .int .i64 ((m : Nat) : Int) ∧ m + gk = i ∧ OutAt W wr (.int .u8 23) (.int .u8 ((i : Nat) : Int)) (.int .i64 ((p0 : Nat) : Int)) (x1) (x2) (.int .u64 ((n : Nat) : Int)) (.int .u8 ((l : Nat) : Int)) i (mix (fun j => if j < na then f j else 0) m))
      case atStart => exact ⟨0, rfl, by omega, by rw [mix_zero]; exact HO.out⟩
      case round =>
        obtain ⟨m, rfl, hgk, hO⟩ := hrel
        have HGK := Lib.hid hgk
        have HM := Lib.hid hO
        have m0 : (0 : Int) ≤ ((m : Nat) : Int) := by omega
        by_cases hlt : m < i
        · have g1 : decide (((m : Nat) : Int) < ((i : Nat) : Int)) = true := decide_eq_true (by omega)
          have g2 : ((m : Nat) : Int) < ((i : Nat) : Int) := by omega
          have HLT := Lib.hid hlt
          have hx := hO.box
          unfold At7 at hx
          obtain ⟨z0, z1, z2, z3, z4, z5, z6⟩ := hx
          have hc := hO.cs m hlt
          have hf := hO.fr m
          have lz := hO.lt
          by_cases hb : m < na
          · have g3 : decide (((m : Nat) : Int) < ((na : Nat) : Int)) = true := decide_eq_true (by omega)
            have g4 : ((m : Nat) : Int) < ((na : Nat) : Int) := by omega
            have k0 : wr.cell? ⟨a, m, none⟩ = some (.int .u8 ((f (m) : Nat) : Int)) := (hO.old HW0.out.1 _).trans (HW0.out.2 _ (by omega))
            have lk0 : ¬ a = W.heap.size + 1 := by have := HW0.out.1; omega
            have HB := Lib.hid hb
            clear hgk hlt hO hb
            go_wp2_with fail
            go_roundg (gk - 1)
            case measure => have := HGK.out; have := HLT.out; omega
            case rel => exact ⟨m + 1, by go_num, by have := HGK.out; have := HLT.out; omega, HM.out.step HLT.out (if_pos HB.out)⟩
          · have g3 : decide (((m : Nat) : Int) < ((na : Nat) : Int)) = false := decide_eq_false (by omega)
            have HB := Lib.hid hb
            clear hgk hlt hO hb
            go_wp2_with fail
            go_roundg (gk - 1)
            case measure => have := HGK.out; have := HLT.out; omega
            case rel => exact ⟨m + 1, by go_num, by have := HGK.out; have := HLT.out; omega, HM.out.step HLT.out (by rw [if_neg HB.out])⟩
        · obtain rfl : m = i := by omega
          have g1 : decide (((m : Nat) : Int) < ((m : Nat) : Int)) = false := decide_eq_false (by omega)
          clear hgk hO
          go_wp2_with fail
          go_ret
          exact ⟨_, rfl, by omega, HM.out.done.1, HM.out.done.2⟩
theorem rall_sext {W : World} {bl ln lc w n l : Nat} {a na ca p0 : Nat} {f : Nat → Nat} (x1 x2 : Value) (h1 : 1 ≤ w) (h64 : w ≤ 64) (hbl : bl < W.heap.size) (hp0 : p0 < ln) (hr0 : W.cell? ⟨bl, p0, none⟩ = some (.slice (some ⟨a, 0, none⟩) na ca)) (hw0 : RowAt W a na f) (hs : 1 ≤ na) (hna : na ≤ 64) :
    Calls Try.prog 18 #[.agg #[.int .u8 24, .int .u8 ((w : Nat) : Int), .int .i64 ((p0 : Nat) : Int), x1, x2, .int .u64 ((n : Nat) : Int), .int .u8 ((l : Nat) : Int)], .slice (some ⟨bl, 0, none⟩) ln lc] W (NewRow W w (fun j => if j < na then f j else f (na - 1))) := by
  have HBL := Lib.hid hbl
  have hmb := make_bytes w (by omega)
  have H0 : Hid (Told W ((W.alloc (.cells #[.int .u8 24, .int .u8 ((w : Nat) : Int), .int .i64 ((p0 : Nat) : Int), x1, x2, .int .u64 ((n : Nat) : Int), .int .u8 ((l : Nat) : Int)] 57)).alloc (.cells (Array.replicate w (Value.int .u8 0)) 5)) (.int .u8 24) (.int .u8 ((w : Nat) : Int)) (.int .i64 ((p0 : Nat) : Int)) (x1) (x2) (.int .u64 ((n : Nat) : Int)) (.int .u8 ((l : Nat) : Int)) w (fun _ => 2) 0) := Lib.hid ⟨_, out_new W (.int .u8 24) (.int .u8 ((w : Nat) : Int)) (.int .i64 ((p0 : Nat) : Int)) (x1) (x2) (.int .u64 ((n : Nat) : Int)) (.int .u8 ((l : Nat) : Int)) w, fun j hj => by omega⟩
  have HKD : Hid (∀ W, Calls Try.prog 27 #[.int .u8 24] W fun e W' => e = .returned (.int .i64 1) ∧ W = W') := Lib.hid (fun W => rkids_any 24 W)
  have HR0 := Lib.hid hr0
  have HW0 := Lib.hid hw0
  have w0 : (0 : Int) ≤ ((w : Nat) : Int) := by omega
  clear hbl hr0 hw0
  go_enter Try.func18, Try.ntmps18
  go_wp2_with fail
  go_loopg [7] w (fun gk v7 wr => ∃ i : Nat, v7 = .int .i64 ((i : Nat) : Int) ∧ i + gk = w ∧ Told W wr (.int .u8 24) (.int .u8 ((w : Nat) : Int)) (.int .i64 ((p0 : Nat) : Int)) (x1) (x2) (.int .u64 ((n : Nat) : Int)) (.int .u8 ((l : Nat) : Int)) w (fun _ => 2) i)
  case atStart => exact ⟨0, rfl, by omega, H0.out⟩
  case round =>
    obtain ⟨i, rfl, hgk, hT⟩ := hrel
    have HGK := Lib.hid hgk
    have HT := Lib.hid hT
    have i0 : (0 : Int) ≤ ((i : Nat) : Int) := by omega
    clear H0
    by_cases hlt : i < w
    · have g1 : decide (((i : Nat) : Int) < ((w : Nat) : Int)) = true := decide_eq_true (by omega)
      have g2 : ((i : Nat) : Int) < ((w : Nat) : Int) := by omega
      obtain ⟨F, hO, _⟩ := hT
      have hc := hO.cs i hlt
      have hf := hO.fr i
      have HLT := Lib.hid hlt
      clear hgk hO hlt
      go_wp2_with fail
      go_roundg (gk - 1)
      case measure => have := HGK.out; have := HLT.out; omega
      case rel => exact ⟨i + 1, by go_num, by have := HGK.out; have := HLT.out; omega, HT.out.one HLT.out rfl⟩
    · obtain rfl : i = w := by omega
      have g1 : decide (((i : Nat) : Int) < ((i : Nat) : Int)) = false := decide_eq_false (by omega)
      obtain ⟨wA, hwA⟩ : ∃ wA, wA = wr := ⟨_, rfl⟩
      subst hwA
      obtain ⟨F, hO, hF⟩ := hT
      have HO := Lib.hid (hO.ext (g := fun _ => 2) hF)
      have hx := hO.box
      unfold At7 at hx
      obtain ⟨y0, y1, y2, y3, y4, y5, y6⟩ := hx
      have OLD := Lib.hid (fun (b : Nat) (hb : b < W.heap.size) (j : Nat) => hO.old hb j)
      have r0 : wA.cell? ⟨bl, p0, none⟩ = some (.slice (some ⟨a, 0, none⟩) na ca) := (OLD.out bl HBL.out p0).trans HR0.out
      have hi0 : (0 : Int) ≤ ((p0 : Nat) : Int) := by omega
      clear hgk hO hF HT g1
      go_wp2_with ((with_reducible refine (HKD.out _).mono ?_); rintro e wk ⟨rfl, rfl⟩)
      go_loopg [16] i (fun gk v16 wr => ∃ m : Nat, v16 = .int .i64 ((m : Nat) : Int) ∧ m + gk = i ∧ OutAt W wr (.int .u8 24) (.int .u8 ((i : Nat) : Int)) (.int .i64 ((p0 : Nat) : Int)) (x1) (x2) (.int .u64 ((n : Nat) : Int)) (.int .u8 ((l : Nat) : Int)) i (mix (fun j => if j < na then f j else f (na - 1)) m))
      case atStart => exact ⟨0, rfl, by omega, by rw [mix_zero]; exact HO.out⟩
      case round =>
        obtain ⟨m, rfl, hgk, hO⟩ := hrel
        have HGK := Lib.hid hgk
        have HM := Lib.hid hO
        have m0 : (0 : Int) ≤ ((m : Nat) : Int) := by omega
        by_cases hlt : m < i
        · have g1 : decide (((m : Nat) : Int) < ((i : Nat) : Int)) = true := decide_eq_true (by omega)
          have g2 : ((m : Nat) : Int) < ((i : Nat) : Int) := by omega
          have HLT := Lib.hid hlt
          have hx := hO.box
          unfold At7 at hx
          obtain ⟨z0, z1, z2, z3, z4, z5, z6⟩ := hx
          have hc := hO.cs m hlt
          have hf := hO.fr m
          have lz := hO.lt
          by_cases hb : m < na
          · have g3 : decide (((m : Nat) : Int) < ((na : Nat) : Int)) = true := decide_eq_true (by omega)
            have g4 : ((m : Nat) : Int) < ((na : Nat) : Int) := by omega
            have k0 : wr.cell? ⟨a, m, none⟩ = some (.int .u8 ((f (m) : Nat) : Int)) := (hO.old HW0.out.1 _).trans (HW0.out.2 _ (by omega))
            have lk0 : ¬ a = W.heap.size + 1 := by have := HW0.out.1; omega
            have HB := Lib.hid hb
            clear hgk hlt hO hb
            go_wp2_with fail
            go_roundg (gk - 1)
            case measure => have := HGK.out; have := HLT.out; omega
            case rel => exact ⟨m + 1, by go_num, by have := HGK.out; have := HLT.out; omega, HM.out.step HLT.out (if_pos HB.out)⟩
          · have g3 : decide (((m : Nat) : Int) < ((na : Nat) : Int)) = false := decide_eq_false (by omega)
            obtain ⟨d, rfl⟩ : ∃ d, na = d + 1 := ⟨na - 1, by omega⟩
            have g7 : ((d : Nat) : Int) < 64 := by omega
            have g8 : (0 : Int) ≤ ((d : Nat) : Int) := by omega
            have g6 : decide (((m : Nat) : Int) < ((d : Nat) : Int) + 1) = false := decide_eq_false (by omega)
            have k0 : wr.cell? ⟨a, d, none⟩ = some (.int .u8 ((f (d) : Nat) : Int)) := (hO.old HW0.out.1 _).trans (HW0.out.2 _ (by omega))
            have lk0 : ¬ a = W.heap.size + 1 := by have := HW0.out.1; omega
            have kk : wr.cell? ⟨a, d + 1 - 1, none⟩ = some (.int .u8 ((f d : Nat) : Int)) := k0
            have HB := Lib.hid hb
            clear hgk hlt hO hb
            go_wp2_with fail
            go_roundg (gk - 1)
            case measure => have := HGK.out; have := HLT.out; omega
            case rel => exact ⟨m + 1, by go_num, by have := HGK.out; have := HLT.out; omega, HM.out.step HLT.out (by rw [if_neg HB.out]; rfl)⟩
        · obtain rfl : m = i := by omega
          have g1 : decide (((m : Nat) : Int) < ((m : Nat) : Int)) = false := decide_eq_false (by omega)
          clear hgk hO
          go_wp2_with fail
          go_ret
          exact ⟨_, rfl, by omega, HM.out.done.1, HM.out.done.2⟩
theorem rall_concat {W : World} {bl ln lc w n l : Nat} {a na ca p0 : Nat} {f : Nat → Nat} {b nb cb p1 : Nat} {g : Nat → Nat} (x2 : Value) (h1 : 1 ≤ w) (h64 : w ≤ 64) (hbl : bl < W.heap.size) (hp0 : p0 < ln) (hr0 : W.cell? ⟨bl, p0, none⟩ = some (.slice (some ⟨a, 0, none⟩) na ca)) (hw0 : RowAt W a na f) (hp1 : p1 < ln) (hr1 : W.cell? ⟨bl, p1, none⟩ = some (.slice (some ⟨b, 0, none⟩) nb cb)) (hw1 : RowAt W b nb g) (hs : w = na + nb) :
    Calls Try.prog 18 #[.agg #[.int .u8 21, .int .u8 ((w : Nat) : Int), .int .i64 ((p0 : Nat) : Int), .int .i64 ((p1 : Nat) : Int), x2, .int .u64 ((n : Nat) : Int), .int .u8 ((l : Nat) : Int)], .slice (some ⟨bl, 0, none⟩) ln lc] W (NewRow W w (fun j => if j < nb then g j else f (j - nb))) := by
  have HBL := Lib.hid hbl
  have hmb := make_bytes w (by omega)
  have H0 : Hid (Told W ((W.alloc (.cells #[.int .u8 21, .int .u8 ((w : Nat) : Int), .int .i64 ((p0 : Nat) : Int), .int .i64 ((p1 : Nat) : Int), x2, .int .u64 ((n : Nat) : Int), .int .u8 ((l : Nat) : Int)] 57)).alloc (.cells (Array.replicate w (Value.int .u8 0)) 5)) (.int .u8 21) (.int .u8 ((w : Nat) : Int)) (.int .i64 ((p0 : Nat) : Int)) (.int .i64 ((p1 : Nat) : Int)) (x2) (.int .u64 ((n : Nat) : Int)) (.int .u8 ((l : Nat) : Int)) w (fun _ => 2) 0) := Lib.hid ⟨_, out_new W (.int .u8 21) (.int .u8 ((w : Nat) : Int)) (.int .i64 ((p0 : Nat) : Int)) (.int .i64 ((p1 : Nat) : Int)) (x2) (.int .u64 ((n : Nat) : Int)) (.int .u8 ((l : Nat) : Int)) w, fun j hj => by omega⟩
  have HKD : Hid (∀ W, Calls Try.prog 27 #[.int .u8 21] W fun e W' => e = .returned (.int .i64 2) ∧ W = W') := Lib.hid (fun W => rkids_any 21 W)
  have HR0 := Lib.hid hr0
  have HW0 := Lib.hid hw0
  have HR1 := Lib.hid hr1
  have HW1 := Lib.hid hw1
  have HS := Lib.hid hs
  clear hs
  have w0 : (0 : Int) ≤ ((w : Nat) : Int) := by omega
  clear hbl hr0 hw0 hr1 hw1
  go_enter Try.func18, Try.ntmps18
  go_wp2_with fail
  go_loopg [7] w (fun gk v7 wr => ∃ i : Nat, v7 = .int .i64 ((i : Nat) : Int) ∧ i + gk = w ∧ Told W wr (.int .u8 21) (.int .u8 ((w : Nat) : Int)) (.int .i64 ((p0 : Nat) : Int)) (.int .i64 ((p1 : Nat) : Int)) (x2) (.int .u64 ((n : Nat) : Int)) (.int .u8 ((l : Nat) : Int)) w (fun _ => 2) i)
  case atStart => exact ⟨0, rfl, by omega, H0.out⟩
  case round =>
    obtain ⟨i, rfl, hgk, hT⟩ := hrel
    have HGK := Lib.hid hgk
    have HT := Lib.hid hT
    have i0 : (0 : Int) ≤ ((i : Nat) : Int) := by omega
    clear H0
    by_cases hlt : i < w
    · have g1 : decide (((i : Nat) : Int) < ((w : Nat) : Int)) = true := decide_eq_true (by omega)
      have g2 : ((i : Nat) : Int) < ((w : Nat) : Int) := by omega
      obtain ⟨F, hO, _⟩ := hT
      have hc := hO.cs i hlt
      have hf := hO.fr i
      have HLT := Lib.hid hlt
      clear hgk hO hlt
      go_wp2_with fail
      go_roundg (gk - 1)
      case measure => have := HGK.out; have := HLT.out; omega
      case rel => exact ⟨i + 1, by go_num, by have := HGK.out; have := HLT.out; omega, HT.out.one HLT.out rfl⟩
    · obtain rfl : i = w := by omega
      have g1 : decide (((i : Nat) : Int) < ((i : Nat) : Int)) = false := decide_eq_false (by omega)
      obtain ⟨wA, hwA⟩ : ∃ wA, wA = wr := ⟨_, rfl⟩
      subst hwA
      obtain ⟨F, hO, hF⟩ := hT
      have HO := Lib.hid (hO.ext (g := fun _ => 2) hF)
      have hx := hO.box
      unfold At7 at hx
      obtain ⟨y0, y1, y2, y3, y4, y5, y6⟩ := hx
      have OLD := Lib.hid (fun (b : Nat) (hb : b < W.heap.size) (j : Nat) => hO.old hb j)
      have r0 : wA.cell? ⟨bl, p0, none⟩ = some (.slice (some ⟨a, 0, none⟩) na ca) := (OLD.out bl HBL.out p0).trans HR0.out
      have hi0 : (0 : Int) ≤ ((p0 : Nat) : Int) := by omega
      have r1 : wA.cell? ⟨bl, p1, none⟩ = some (.slice (some ⟨b, 0, none⟩) nb cb) := (OLD.out bl HBL.out p1).trans HR1.out
      have hi1 : (0 : Int) ≤ ((p1 : Nat) : Int) := by omega
      clear hgk hO hF HT g1
      go_wp2_with ((with_reducible refine (HKD.out _).mono ?_); rintro e wk ⟨rfl, rfl⟩)
      go_loopg [14] i (fun gk v14 wr => ∃ m : Nat, v14 = .int .i64 ((m : Nat) : Int) ∧ m + gk = i ∧ OutAt W wr (.int .u8 21) (.int .u8 ((i : Nat) : Int)) (.int .i64 ((p0 : Nat) : Int)) (.int .i64 ((p1 : Nat) : Int)) (x2) (.int .u64 ((n : Nat) : Int)) (.int .u8 ((l : Nat) : Int)) i (mix (fun j => if j < nb then g j else f (j - nb)) m))
      case atStart => exact ⟨0, rfl, by omega, by rw [mix_zero]; exact HO.out⟩
      case round =>
        obtain ⟨m, rfl, hgk, hO⟩ := hrel
        have HGK := Lib.hid hgk
        have HM := Lib.hid hO
        have m0 : (0 : Int) ≤ ((m : Nat) : Int) := by omega
        by_cases hlt : m < i
        · have g1 : decide (((m : Nat) : Int) < ((i : Nat) : Int)) = true := decide_eq_true (by omega)
          have g2 : ((m : Nat) : Int) < ((i : Nat) : Int) := by omega
          have HLT := Lib.hid hlt
          have hx := hO.box
          unfold At7 at hx
          obtain ⟨z0, z1, z2, z3, z4, z5, z6⟩ := hx
          have hc := hO.cs m hlt
          have hf := hO.fr m
          have lz := hO.lt
          by_cases hb : m < nb
          · have g3 : decide (((m : Nat) : Int) < ((nb : Nat) : Int)) = true := decide_eq_true (by omega)
            have g4 : ((m : Nat) : Int) < ((nb : Nat) : Int) := by omega
            have k1 : wr.cell? ⟨b, m, none⟩ = some (.int .u8 ((g (m) : Nat) : Int)) := (hO.old HW1.out.1 _).trans (HW1.out.2 _ (by omega))
            have lk1 : ¬ b = W.heap.size + 1 := by have := HW1.out.1; omega
            have HB := Lib.hid hb
            clear hgk hlt hO hb
            go_wp2_with fail
            go_roundg (gk - 1)
            case measure => have := HGK.out; have := HLT.out; omega
            case rel => exact ⟨m + 1, by go_num, by have := HGK.out; have := HLT.out; omega, HM.out.step HLT.out (if_pos HB.out)⟩
          · have g3 : decide (((m : Nat) : Int) < ((nb : Nat) : Int)) = false := decide_eq_false (by omega)
            obtain ⟨d, rfl⟩ : ∃ d, m = nb + d := ⟨m - nb, by omega⟩
            have k0 : wr.cell? ⟨a, d, none⟩ = some (.int .u8 ((f (d) : Nat) : Int)) := (hO.old HW0.out.1 _).trans (HW0.out.2 _ (by have := HS.out; omega))
            have lk0 : ¬ a = W.heap.size + 1 := by have := HW0.out.1; omega
            have kk : wr.cell? ⟨a, nb + d - nb, none⟩ = some (.int .u8 ((f d : Nat) : Int)) := by rw [Nat.add_sub_cancel_left]; exact k0
            have g5 : d < na := by have := HS.out; omega
            clear hgk hlt hO hb
            go_wp2_with fail
            go_roundg (gk - 1)
            case measure => have := HGK.out; have := HLT.out; omega
            case rel => exact ⟨nb + d + 1, by go_num, by have := HGK.out; have := HLT.out; omega, HM.out.step HLT.out (by rw [if_neg (by omega), Nat.add_sub_cancel_left])⟩
        · obtain rfl : m = i := by omega
          have g1 : decide (((m : Nat) : Int) < ((m : Nat) : Int)) = false := decide_eq_false (by omega)
          clear hgk hO
          go_wp2_with fail
          go_ret
          exact ⟨_, rfl, by omega, HM.out.done.1, HM.out.done.2⟩
end Kr
end Go.Proofs.Ytigjbngedbbdbaa
