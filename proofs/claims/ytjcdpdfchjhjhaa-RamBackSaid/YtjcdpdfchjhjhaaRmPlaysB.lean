/-
  RamPlays, walked.
-/
import Derived.Test.YtjcdpdfchjhjhaaRmPlays
namespace Go.Proofs.Ytjcdpdfchjhjhaa
open Go.RowKit
namespace Rm
set_option maxHeartbeats 3200000
set_option maxRecDepth 100000

section
variable {At : World → Nat → List Nat → Nat → (Nat → Nat) → Prop}
/-- Both have done what one act asks: the two calls in their order, whatever else is read between them. -/
theorem pair_calls (A : Api At) {W wr : World} {p pm bm z : Nat} {bs : List Nat} {f : Nat → Nat} (h : Two At W.heap.size wr p bs pm bm z f) (hB : Below W.heap.size W wr) {S : World → Prop} (hS : ∀ w, Below W.heap.size W w → S w) {a v : Nat} (n : Int) (ha : a < 4294967296) (hv : v < 4294967296) :
    (∀ w0, Only [] wr w0 → Calls Try.prog 9 #[.pointer (some ⟨p, 0, none⟩), .int .u32 ((a : Nat) : Int), .int .i64 n, .int .u32 ((v : Nat) : Int)] w0 fun e w1 => e = .returned (.int .i64 ((erP z a n : Nat) : Int)) ∧ S w1 ∧ Hid (At w1 p bs z (stP z f a n v) ∧ Only bs wr w1)) ∧
    (∀ w1 w0, Hid (At w1 p bs z (stP z f a n v) ∧ Only bs wr w1) → Only [] w1 w0 → Calls Try.prog 10 #[.pointer (some ⟨pm, 0, none⟩), .int .u32 ((a : Nat) : Int), .int .i64 n, .int .u32 ((v : Nat) : Int)] w0 fun e w2 => e = .returned (.int .i64 ((erP z a n : Nat) : Int)) ∧ S w2 ∧ Hid (Two At W.heap.size w2 p bs pm bm z (stP z f a n v) ∧ Below W.heap.size W w2)) := by
  refine ⟨fun w0 o0 => ?_, fun w1 w0 HM o0 => ?_⟩
  · refine (A.store a n v (A.keep h.h o0 (by simp)) ha hv).mono ?_
    rintro e w1 ⟨rfl, hat, ho⟩
    have o1 : Only bs wr w1 := o0.any.trans ho
    exact ⟨rfl, hS _ (hB.trans (o1.below h.b.1 hB.size)), Lib.hid ⟨hat, o1⟩⟩
  · have hr0 : RfAt w0 pm bm z f := (h.r.only HM.out.2 h.d.1 h.d.2).only o0 (by simp) (by simp)
    refine (rstore_any hr0 ha n hv).mono ?_
    rintro e w2 ⟨rfl, hr, ho⟩
    have o2 : Only [bm] w1 w2 := o0.any.trans ho
    have hB1 : Below W.heap.size W w1 := hB.trans (HM.out.2.below h.b.1 hB.size)
    have hB2 : Below W.heap.size W w2 := hB1.trans (o2.below (by simp; exact h.b.2.2) hB1.size)
    exact ⟨rfl, hS _ hB2, Lib.hid ⟨h.stored A HM.out.1 hr o2, hB2⟩⟩
/-- What is loaded of both. -/
theorem load_calls (A : Api At) {B : Nat} {wr : World} {p pm bm z : Nat} {bs : List Nat} {f : Nat → Nat} (h : Two At B wr p bs pm bm z f) {S : World → Prop} (hS : ∀ w, Only [] wr w → S w) {a : Nat} (n : Int) (ha : a < 4294967296) :
    (∀ w0, Only [] wr w0 → Calls Try.prog 12 #[.pointer (some ⟨p, 0, none⟩), .int .u32 ((a : Nat) : Int), .int .i64 n] w0 fun e w1 => e = .returned (.tuple #[.int .u32 ((ldP z f a n : Nat) : Int), .int .i64 ((erP z a n : Nat) : Int)]) ∧ S w1 ∧ Hid (Only [] wr w1)) ∧
    (∀ w1 w0, Hid (Only [] wr w1) → Only [] w1 w0 → Calls Try.prog 13 #[.pointer (some ⟨pm, 0, none⟩), .int .u32 ((a : Nat) : Int), .int .i64 n] w0 fun e w2 => e = .returned (.tuple #[.int .u32 ((ldP z f a n : Nat) : Int), .int .i64 ((erP z a n : Nat) : Int)]) ∧ S w2 ∧ Hid (Only [] wr w2)) := by
  refine ⟨fun w0 o0 => ?_, fun w1 w0 HM o0 => ?_⟩
  · refine (A.load a n (A.keep h.h o0 (by simp)) ha).mono ?_
    rintro e w1 ⟨rfl, ho⟩
    have o1 := o0.trans ho
    exact ⟨rfl, hS _ o1, Lib.hid o1⟩
  · have o1 := HM.out.trans o0
    refine (rload_any (h.r.only o1 (by simp) (by simp)) ha n).mono ?_
    rintro e w2 ⟨rfl, rfl⟩
    exact ⟨rfl, hS _ o1, Lib.hid o1⟩
/-- What the last row calls. -/
theorem last_calls (A : Api At) {B : Nat} {wr : World} {p pm bm z : Nat} {bs : List Nat} {f : Nat → Nat} (h : Two At B wr p bs pm bm z f) {S : World → Prop} (hS : ∀ w, Only [] wr w → S w) :
    (∀ w0, Only [] wr w0 → Calls Try.prog 14 #[.pointer (some ⟨p, 0, none⟩)] w0 fun e w1 => e = .returned (.int .i64 ((z : Nat) : Int)) ∧ S w1 ∧ Hid (Only [] wr w1)) ∧
    (∀ w1 w0, Hid (Only [] wr w1) → Only [] w1 w0 → Calls Try.prog 16 #[.pointer (some ⟨p, 0, none⟩)] w0 fun e w2 => ∃ b c, e = .returned (.slice (some ⟨b, 0, none⟩) z c) ∧ S w2 ∧ Hid (Only [] wr w2 ∧ BAt w2 b 0 z f)) ∧
    (∀ b c w1 w0, Hid (Only [] wr w1 ∧ BAt w1 b 0 z f) → Only [] w1 w0 → Calls Try.prog 15 #[.slice (some ⟨b, 0, none⟩) z c, .slice (some ⟨bm, 0, none⟩) z z] w0 fun e w2 => e = .returned (.bool true) ∧ S w2 ∧ Hid (Only [] wr w2)) ∧
    (∀ w1 w0, Hid (Only [] wr w1) → Only [] w1 w0 → Calls Try.prog 8 #[] w0 fun e w2 => e = .returned (.bool true) ∧ S w2 ∧ Hid (Only [] wr w2)) := by
  refine ⟨fun w0 o0 => ?_, fun w1 w0 HM o0 => ?_, fun b c w1 w0 HM o0 => ?_, fun w1 w0 HM o0 => ?_⟩
  · refine (A.size (A.keep h.h o0 (by simp))).mono ?_
    rintro e w1 ⟨rfl, ho⟩
    have o1 := o0.trans ho
    exact ⟨rfl, hS _ o1, Lib.hid o1⟩
  · have o1 := HM.out.trans o0
    refine (A.bytes (A.keep h.h o1 (by simp))).mono ?_
    rintro e w2 ⟨b, c, rfl, hb, _, _, ho⟩
    exact ⟨b, c, rfl, hS _ (o1.trans ho), Lib.hid ⟨o1.trans ho, hb⟩⟩
  · have o1 := HM.out.1.trans o0
    have hr := h.r.only o1 (by simp) (by simp)
    refine (same_any hr.le.2 (HM.out.2.only o0 (by simp)) ⟨fun j hj => by rw [Nat.zero_add]; exact hr.c j hj, hr.lt.2⟩ (fun _ _ => rfl)).mono ?_
    rintro e w2 ⟨rfl, q, rfl⟩
    exact ⟨rfl, hS _ (o1.drewN q), Lib.hid (o1.drewN q)⟩
  · have o1 := HM.out.trans o0
    refine (lives_any A w0).mono ?_
    rintro e w2 ⟨rfl, hb⟩
    have o2 := o1.trans (Only.of_below hb)
    exact ⟨rfl, hS _ o2, Lib.hid o2⟩
theorem plays_yes (A : Api At) {n : Nat} (h : sizeP ((n : Nat) : Int)) {al a2 a3 : Option Addr} {X : List Ac} {Y : List Nat} {Z : List Int} {len cap l2 c2 l3 c3 : Nat} {W : World} (hX : ActsAt W al X) (hx : len = X.length) (hY : U32At W a2 Y) (hy : l2 = Y.length) (hZ : I64At W a3 Z) (hz : l3 = Z.length) : Calls Try.prog 3 #[.int .i64 ((n : Nat) : Int), .slice al len cap, .slice a2 l2 c2, .slice a3 l3 c3] W fun e w => e = .returned (.bool true) ∧ Below W.heap.size W w := by
  have HA := Lib.hid A
  have HN := Lib.hid (A.newYes n W h)
  have HR := Lib.hid (fun w => rnew_yes h w)
  have HX := Lib.hid hX
  have HLX := Lib.hid hx
  have HY := Lib.hid hY
  have HLY := Lib.hid hy
  have HZ := Lib.hid hZ
  have HLZ := Lib.hid hz
  have hn : 256 ≤ n ∧ n ≤ 4096 := by unfold sizeP at h; omega
  clear A h hX hx hY hy hZ hz
  go_enter Try.func3, Try.ntmps3
  go_wp2_with fail
  refine HN.out.mono ?_
  rintro e w1 ⟨p, bs, rfl, hat, ho, hlo⟩
  have H1 : Hid (Below W.heap.size W w1 ∧ At w1 p bs n zeroF ∧ ∀ k ∈ bs, W.heap.size ≤ k) := Lib.hid ⟨ho.below (by simp) (Nat.le_refl _), hat, hlo⟩
  clear ho hat hlo HN
  go_wp2_with fail
  refine (HR.out w1).mono ?_
  rintro e w2 ⟨pm, bm, rfl, hr, hb, hpm, hbm⟩
  have H2 : Hid (Below W.heap.size W w2 ∧ Two At W.heap.size w2 p bs pm bm n zeroF) := Lib.hid (by
    have hs := H1.out.1.size
    exact ⟨H1.out.1.trans (hb.mono hs), HA.out.keep H1.out.2.1 (Only.of_below hb) (by simp), hr, ⟨H1.out.2.2, Nat.le_trans hs hpm, Nat.le_trans hs hbm⟩, ⟨fun c => by have := HA.out.own H1.out.2.1 _ c; omega, fun c => by have := HA.out.own H1.out.2.1 _ c; omega⟩⟩)
  clear hr hb hpm hbm H1 HR
  go_wp2_with fail
  go_loopg [9, 13, 14] (min len 40) (fun gk v9 v13 v14 wr => ∃ i p : Nat, v9 = .pointer (some ⟨p, 0, none⟩) ∧ v13 = .int .i64 ((i : Nat) : Int) ∧ i + gk = min len 40 ∧ Hid (Below W.heap.size W wr ∧ ∃ bs f, Two At W.heap.size wr p bs pm bm n f))
  case atStart => exact ⟨0, p, rfl, rfl, by omega, Lib.hid ⟨H2.out.1, _, _, H2.out.2⟩⟩
  case round =>
    obtain ⟨i, p, rfl, rfl, hgk, HR⟩ := hrel
    clear H2
    have HG := Lib.hid hgk
    have i0 : (0 : Int) ≤ ((i : Nat) : Int) := by omega
    by_cases hlt : i < len ∧ i < 40
    · have g1 : decide (((i : Nat) : Int) < ((len : Nat) : Int)) = true := decide_eq_true (by omega)
      have g2 : ((i : Nat) : Int) < ((len : Nat) : Int) := by omega
      have g3 : decide (((i : Nat) : Int) < 40) = true := decide_eq_true (by omega)
      have g4 : ((i : Nat) : Int) < 40 := by omega
      obtain ⟨x, hx⟩ : ∃ x, X[i]? = some x := ⟨_, List.getElem?_eq_getElem (by rw [← HLX.out]; exact hlt.1)⟩
      obtain ⟨bl, ol, rfl, ha, hv, HCE⟩ : ∃ bl ol, al = some ⟨bl, ol, none⟩ ∧ x.a < 4294967296 ∧ x.v < 4294967296 ∧ Hid (∀ w, Below W.heap.size W w → w.cell? ⟨bl, ol + i * 4, none⟩ = some (.int .u32 ((x.a : Nat) : Int)) ∧ w.cell? ⟨bl, ol + i * 4 + 1, none⟩ = some (.int .i64 x.n) ∧ w.cell? ⟨bl, ol + i * 4 + 2, none⟩ = some (.int .u32 ((x.v : Nat) : Int)) ∧ w.cell? ⟨bl, ol + i * 4 + 3, none⟩ = some (.bool x.c)) := by
        rcases HX.out with c | ⟨bl, ol, e, hl, c⟩
        · rw [c] at hx; cases hx
        · obtain ⟨h1, h2, h3, h4, h5, h6⟩ := c i x hx
          exact ⟨bl, ol, e, h1, h2, Lib.hid (fun w hb => ⟨(hb.cell (p := ⟨bl, _, none⟩) hl).trans h3, (hb.cell (p := ⟨bl, _, none⟩) hl).trans h4, (hb.cell (p := ⟨bl, _, none⟩) hl).trans h5, (hb.cell (p := ⟨bl, _, none⟩) hl).trans h6⟩)⟩
      obtain ⟨c1, c2, c3, c4⟩ := HCE.out wr HR.out.1
      obtain ⟨bs, f, h2⟩ := HR.out.2
      have HPC := Lib.hid (pair_calls HA.out h2 HR.out.1 (S := fun w' => w'.cell? ⟨bl, ol + i * 4, none⟩ = some (.int .u32 ((x.a : Nat) : Int)) ∧ w'.cell? ⟨bl, ol + i * 4 + 1, none⟩ = some (.int .i64 x.n) ∧ w'.cell? ⟨bl, ol + i * 4 + 2, none⟩ = some (.int .u32 ((x.v : Nat) : Int))) (fun w hb => ⟨(HCE.out w hb).1, (HCE.out w hb).2.1, (HCE.out w hb).2.2.1⟩) x.n ha hv)
      have HC1 := Lib.hid HPC.out.1
      have HC2 := Lib.hid HPC.out.2
      clear h2 HR hgk hx HPC c4 hlt
      go_wp2_with fail
      go_region_held3 (fun w' => w'.cell? ⟨bl, ol + i * 4, none⟩ = some (.int .u32 ((x.a : Nat) : Int)) ∧ w'.cell? ⟨bl, ol + i * 4 + 1, none⟩ = some (.int .i64 x.n) ∧ w'.cell? ⟨bl, ol + i * 4 + 2, none⟩ = some (.int .u32 ((x.v : Nat) : Int)))
        (first | (refine ⟨?_, ?_, ?_⟩ <;> assumption) | (go_keep; done))
        (first | (go_at_call 9; refine (HC1.out _ ?_).mono ?_; exact ⟨rfl, rfl, rfl, Nat.le_refl _, fun _ _ _ => rfl⟩; rintro e w1 ⟨rfl, ⟨q1, q2, q3⟩, HX1⟩) | (go_at_call 10; refine (HC2.out _ _ HX1 ?_).mono ?_; exact ⟨rfl, rfl, rfl, Nat.le_refl _, fun _ _ _ => rfl⟩; rintro e w2 ⟨rfl, ⟨q4, q5, q6⟩, HX2⟩))
      obtain ⟨k1, k2, k3, c4⟩ := HCE.out w2 HX2.out.2
      clear q1 q2 q3 q4 q5 q6 k1 k2 k3 HX1 HC1 HC2
      generalize hfg : stP n f x.a x.n x.v = fg at *
      generalize erP n x.a x.n = er at *
      generalize x.c = xc at *
      cases xc with
      | false =>
        go_wp2_with fail
        go_roundg (gk - 1)
        case measure => have := HG.out; omega
        case rel => exact ⟨i + 1, p, rfl, by go_num, by have := HG.out; omega, Lib.hid ⟨HX2.out.2, _, _, HX2.out.1⟩⟩
      | true =>
        have HCP := Lib.hid (HA.out.copy HX2.out.1.h)
        go_wp2_with fail
        refine HCP.out.mono ?_
        rintro e w3 ⟨q, cs, rfl, hq, hcs, ho⟩
        have H3 : Hid (At w3 q cs n fg ∧ (∀ k ∈ cs, w2.heap.size ≤ k) ∧ Only [] w2 w3) := Lib.hid ⟨hq, hcs, ho⟩
        have HS7 := Lib.hid (HA.out.store 4096 4 7 (HA.out.keep HX2.out.1.h ho (by simp)) (by omega) (by omega))
        clear hq hcs ho HCP
        go_wp2_with fail
        refine HS7.out.mono ?_
        rintro e w4 ⟨rfl, _, ho⟩
        have H4 : Hid (Below W.heap.size W w4 ∧ Two At W.heap.size w4 q cs pm bm n fg) := Lib.hid (by
          have hb3 : Below W.heap.size W w3 := HX2.out.2.trans (H3.out.2.2.below (by simp) HX2.out.2.size)
          exact ⟨hb3.trans (ho.below HX2.out.1.b.1 hb3.size), HX2.out.1.copied HA.out HX2.out.2.size H3.out.1 H3.out.2.1 H3.out.2.2 ho⟩)
        clear ho
        go_wp2_with fail
        go_roundg (gk - 1)
        case measure => have := HG.out; omega
        case rel => exact ⟨i + 1, q, rfl, by go_num, by have := HG.out; omega, Lib.hid ⟨H4.out.1, _, _, H4.out.2⟩⟩
    · obtain ⟨bs, f, h2⟩ := HR.out.2
      have hi : (¬ i < len) ∨ (i < len ∧ ¬ i < 40) := by omega
      have H3 : Hid (Below W.heap.size W wr ∧ Two At W.heap.size wr p bs pm bm n f) := Lib.hid ⟨HR.out.1, h2⟩
      clear h2 HR hlt hgk HG HX HLX
      rcases hi with hA | ⟨hA, hA2⟩
      case' inl =>
        have g1 : decide (((i : Nat) : Int) < ((len : Nat) : Int)) = false := decide_eq_false (by omega)
        have g2 : ¬ ((i : Nat) : Int) < ((len : Nat) : Int) := by omega
        clear hA
        go_wp2_with fail
      case' inr =>
        have g1 : decide (((i : Nat) : Int) < ((len : Nat) : Int)) = true := decide_eq_true (by omega)
        have g2 : ((i : Nat) : Int) < ((len : Nat) : Int) := by omega
        have g3 : decide (((i : Nat) : Int) < 40) = false := decide_eq_false (by omega)
        have g4 : ¬ ((i : Nat) : Int) < 40 := by omega
        clear hA hA2
        go_wp2_with fail
      all_goals
        go_loopg [15, 16, 17, 18, 19] (min (min l2 l3) 40) (fun gk v15 v16 v17 v18 v19 wr => ∃ j : Nat, v15 = .int .i64 ((j : Nat) : Int) ∧ j + gk = min (min l2 l3) 40 ∧ Hid (Below W.heap.size W wr ∧ Two At W.heap.size wr p bs pm bm n f))
        case atStart => exact ⟨0, rfl, by omega, H3⟩
        case round =>
          obtain ⟨j, rfl, hgk, HR⟩ := hrel
          clear H3
          have HG := Lib.hid hgk
          have j0 : (0 : Int) ≤ ((j : Nat) : Int) := by omega
          by_cases hlt : j < l2 ∧ j < l3 ∧ j < 40
          · have g1 : decide (((j : Nat) : Int) < ((l2 : Nat) : Int)) = true := decide_eq_true (by omega)
            have g2 : ((j : Nat) : Int) < ((l2 : Nat) : Int) := by omega
            have g3 : decide (((j : Nat) : Int) < ((l3 : Nat) : Int)) = true := decide_eq_true (by omega)
            have g4 : ((j : Nat) : Int) < ((l3 : Nat) : Int) := by omega
            have g5 : decide (((j : Nat) : Int) < 40) = true := decide_eq_true (by omega)
            have g6 : ((j : Nat) : Int) < 40 := by omega
            obtain ⟨x, hx⟩ : ∃ x, Y[j]? = some x := ⟨_, List.getElem?_eq_getElem (by rw [← HLY.out]; exact hlt.1)⟩
            obtain ⟨y, hy⟩ : ∃ y, Z[j]? = some y := ⟨_, List.getElem?_eq_getElem (by rw [← HLZ.out]; exact hlt.2.1)⟩
            obtain ⟨b2, o2, rfl, hxa, HC5⟩ : ∃ b2 o2, a2 = some ⟨b2, o2, none⟩ ∧ x < 4294967296 ∧ Hid (∀ w, Below W.heap.size W w → w.cell? ⟨b2, o2 + j, none⟩ = some (.int .u32 ((x : Nat) : Int))) := by
              rcases HY.out with c | ⟨bl, ol, e, hl, c⟩
              · rw [c] at hx; cases hx
              · exact ⟨bl, ol, e, (c j x hx).1, Lib.hid (fun w hb => (hb.cell (p := ⟨bl, _, none⟩) hl).trans (c j x hx).2)⟩
            obtain ⟨b3, o3, rfl, HC6⟩ : ∃ b3 o3, a3 = some ⟨b3, o3, none⟩ ∧ Hid (∀ w, Below W.heap.size W w → w.cell? ⟨b3, o3 + j, none⟩ = some (.int .i64 y)) := by
              rcases HZ.out with c | ⟨bl, ol, e, hl, c⟩
              · rw [c] at hy; cases hy
              · exact ⟨bl, ol, e, Lib.hid (fun w hb => (hb.cell (p := ⟨bl, _, none⟩) hl).trans (c j y hy))⟩
            have c5 := HC5.out wr HR.out.1
            have c6 := HC6.out wr HR.out.1
            have HPC := Lib.hid (load_calls HA.out HR.out.2 (S := fun w' => w'.cell? ⟨b2, o2 + j, none⟩ = some (.int .u32 ((x : Nat) : Int)) ∧ w'.cell? ⟨b3, o3 + j, none⟩ = some (.int .i64 y)) (fun w o => ⟨HC5.out w (HR.out.1.trans (o.below (by simp) HR.out.1.size)), HC6.out w (HR.out.1.trans (o.below (by simp) HR.out.1.size))⟩) y hxa)
            have HC1 := Lib.hid HPC.out.1
            have HC2 := Lib.hid HPC.out.2
            clear HPC hx hy hlt hgk HC5 HC6
            generalize ldP n f x y = ld0 at *
            generalize erP n x y = er0 at *
            go_wp2_with fail
            go_region_held3 (fun w' => w'.cell? ⟨b2, o2 + j, none⟩ = some (.int .u32 ((x : Nat) : Int)) ∧ w'.cell? ⟨b3, o3 + j, none⟩ = some (.int .i64 y))
              (first | (refine ⟨?_, ?_⟩ <;> assumption) | (go_keep; done))
              (first | (go_at_call 12; refine (HC1.out _ ?_).mono ?_; exact ⟨rfl, rfl, rfl, Nat.le_refl _, fun _ _ _ => rfl⟩; rintro e w1 ⟨rfl, ⟨q1, q2⟩, HX1⟩) | fail)
            go_wp2_with fail
            go_region_held3 (fun w' => w'.cell? ⟨b2, o2 + j, none⟩ = some (.int .u32 ((x : Nat) : Int)) ∧ w'.cell? ⟨b3, o3 + j, none⟩ = some (.int .i64 y))
              (first | (refine ⟨?_, ?_⟩ <;> assumption) | (go_keep; done))
              (first | (go_at_call 13; refine (HC2.out _ _ HX1 ?_).mono ?_; exact ⟨rfl, rfl, rfl, Nat.le_refl _, fun _ _ _ => rfl⟩; rintro e w2 ⟨rfl, ⟨q3, q4⟩, HX2⟩) | fail)
            go_wp2_with fail
            go_roundg (gk - 1)
            case measure => have := HG.out; omega
            case rel => exact ⟨j + 1, by go_num, by have := HG.out; omega, Lib.hid ⟨HR.out.1.trans (HX2.out.below (by simp) HR.out.1.size), HR.out.2.same HA.out HX2.out⟩⟩
          · have hj : (¬ j < l2) ∨ (j < l2 ∧ ¬ j < l3) ∨ (j < l2 ∧ j < l3 ∧ ¬ j < 40) := by omega
            have c0 := HR.out.2.r.c0
            have HPC := Lib.hid (last_calls HA.out HR.out.2 (S := fun w' => w'.cell? ⟨pm, 0, none⟩ = some (.slice (some ⟨bm, 0, none⟩) n n)) (fun w o => (HR.out.2.r.only o (by simp) (by simp)).c0))
            have HC1 := Lib.hid HPC.out.1
            have HC2 := Lib.hid HPC.out.2.1
            have HC3 := Lib.hid HPC.out.2.2.1
            have HC4 := Lib.hid HPC.out.2.2.2
            have HBR : Hid (Below W.heap.size W wr) := Lib.hid HR.out.1
            clear HPC hlt hgk HR HY HZ HLY HLZ HG
            rcases hj with hA | ⟨hA, hA2⟩ | ⟨hA, hA2, hA3⟩
            case' inl =>
              have g1 : decide (((j : Nat) : Int) < ((l2 : Nat) : Int)) = false := decide_eq_false (by omega)
              have g2 : ¬ ((j : Nat) : Int) < ((l2 : Nat) : Int) := by omega
              clear hA
              go_wp2_with fail
            case' inr.inl =>
              have g1 : decide (((j : Nat) : Int) < ((l2 : Nat) : Int)) = true := decide_eq_true (by omega)
              have g2 : ((j : Nat) : Int) < ((l2 : Nat) : Int) := by omega
              have g3 : decide (((j : Nat) : Int) < ((l3 : Nat) : Int)) = false := decide_eq_false (by omega)
              have g4 : ¬ ((j : Nat) : Int) < ((l3 : Nat) : Int) := by omega
              clear hA hA2
              go_wp2_with fail
            case' inr.inr =>
              have g1 : decide (((j : Nat) : Int) < ((l2 : Nat) : Int)) = true := decide_eq_true (by omega)
              have g2 : ((j : Nat) : Int) < ((l2 : Nat) : Int) := by omega
              have g3 : decide (((j : Nat) : Int) < ((l3 : Nat) : Int)) = true := decide_eq_true (by omega)
              have g4 : ((j : Nat) : Int) < ((l3 : Nat) : Int) := by omega
              have g5 : decide (((j : Nat) : Int) < 40) = false := decide_eq_false (by omega)
              have g6 : ¬ ((j : Nat) : Int) < 40 := by omega
              clear hA hA2 hA3
              go_wp2_with fail
            all_goals
              go_region_held3 (fun w' => w'.cell? ⟨pm, 0, none⟩ = some (.slice (some ⟨bm, 0, none⟩) n n))
                (first | assumption | (go_keep; done))
                (first | (go_at_call 14; refine (HC1.out _ ?_).mono ?_; exact ⟨rfl, rfl, rfl, Nat.le_refl _, fun _ _ _ => rfl⟩; rintro e w1 ⟨rfl, q1, HX1⟩) | (go_at_call 16; refine (HC2.out _ _ HX1 ?_).mono ?_; exact ⟨rfl, rfl, rfl, Nat.le_refl _, fun _ _ _ => rfl⟩; rintro e w2 ⟨b, c, rfl, q2, HX2⟩) | (go_at_call 15; refine (HC3.out _ _ _ _ HX2 ?_).mono ?_; exact ⟨rfl, rfl, rfl, Nat.le_refl _, fun _ _ _ => rfl⟩; rintro e w3 ⟨rfl, q3, HX3⟩) | (go_at_call 8; refine (HC4.out _ _ HX3 ?_).mono ?_; exact ⟨rfl, rfl, rfl, Nat.le_refl _, fun _ _ _ => rfl⟩; rintro e w4 ⟨rfl, q4, HX4⟩))
            all_goals go_wp2_with fail
            all_goals go_ret
            all_goals exact ⟨rfl, HBR.out.trans (HX4.out.below (by simp) HBR.out.size)⟩
end
end Rm
end Go.Proofs.Ytjcdpdfchjhjhaa
