/-
The document's own width of a node, for every node, as a fact on one call.
A store beside a list of numbers and a list of nodes, all of the call's own: what stays while nodes are made and the lists grow.
-/
import Derived.Test.YtigjbngedbbdbaaPt14
import Derived.Test.YtigjbngedbbdbaaPt20
import Derived.Test.YtigjbngedbbdbaaPt08
import Derived.Deep.RegionHeld3
import Derived.Deep.RegionWith
import Derived.Deep.LoopGhost
import Derived.BigQuiet
import Derived.Test.YtigjbngedbbdbaaPt13
namespace Go.Proofs.Ytigjbngedbbdbaa
open Go.RowKit Go.Maps Bv
namespace Tm
set_option maxHeartbeats 4000000
set_option maxRecDepth 100000

theorem nat_beq (a b : Nat) : (((a : Nat) : Int) == ((b : Nat) : Int)) = decide (a = b) := by
  by_cases h : a = b
  · subst h; simp
  · rw [decide_eq_false h]; simp; omega
theorem ans_facts {wr w1 : World} {bx : Nat} {v : Value} {T : Nat} (A : wr.cell? ⟨bx, 1, none⟩ = some v) (hl : bx < wr.heap.size)
    (hb : Below (wr.alloc (.cells #[.int .u8 0, .int .u64 0] T)).heap.size (wr.alloc (.cells #[.int .u8 0, .int .u64 0] T)) w1) :
    w1.cell? ⟨wr.heap.size, 0, none⟩ = some (.int .u8 0) ∧ w1.cell? ⟨wr.heap.size, 1, none⟩ = some (.int .u64 0) ∧ w1.cell? ⟨bx, 1, none⟩ = some v ∧ wr.heap.size < w1.heap.size ∧ bx ≠ wr.heap.size ∧ w1.frozen? ⟨wr.heap.size, 0, none⟩ = false ∧ w1.frozen? ⟨wr.heap.size, 1, none⟩ = false := by
  obtain ⟨hc, hf⟩ := bcell hb
  have hs : (wr.alloc (.cells #[.int .u8 0, .int .u64 0] T)).heap.size = wr.heap.size + 1 := size_alloc _ _
  have hh := (MapKept.heap_alloc wr (.cells #[.int .u8 0, .int .u64 0] T)).1
  rw [hs] at hc hf
  refine ⟨?_, ?_, ?_, ?_, by omega, ?_, ?_⟩
  · rw [hc _ _ (by omega)]; unfold World.cell?; rw [hh]; rfl
  · rw [hc _ _ (by omega)]; unfold World.cell?; rw [hh]; rfl
  · rw [hc _ _ (by omega)]; exact (World.cell?_alloc_lt _ _ _ hl).trans A
  · have := hb.size; rw [hs] at this; omega
  · rw [hf _ _ (by omega)]; unfold World.frozen?; rw [hh]; simp
  · rw [hf _ _ (by omega)]; unfold World.frozen?; rw [hh]; simp

theorem rwidth_any {B p : Nat} {rv : Value} {L : List Nd} {x : Nd} {W : World} (S : RefAt B W p rv L) (hx : x.Ok) :
    Calls Try.prog 26 #[.pointer (some ⟨p, 0, none⟩), .agg #[.int .u8 ((x.o : Nat) : Int), .int .u8 ((x.w : Nat) : Int), .int .i64 x.k0, .int .i64 x.k1, .int .i64 x.k2, .int .u64 ((x.n : Nat) : Int), .int .u8 ((x.l : Nat) : Int)]] W fun e W' =>
      (∃ y : Nat, e = .returned (.tuple #[.int .u8 ((y : Nat) : Int), .bool (mayN L x)])) ∧ Below W.heap.size W W' := by
  have H0 := Lib.hid (rw_start L x W)
  have HS := Lib.hid S
  have HX := Lib.hid hx
  have hrk := rk_le x.o
  have hkc := kc_le x.o
  have hrk2 : 1 ≤ kc x.o → rk x.o = ((kc x.o : Nat) : Int) := fun h => rk_kc (by
    by_cases e : 1 ≤ x.o ∧ x.o ≤ 25
    · exact e
    · have : kc x.o = 0 := by unfold kc; rw [if_neg (by omega), if_neg (by omega), if_neg (by omega)]
      omega)
  have HRK := Lib.hid hrk2
  obtain ⟨r, hr⟩ : ∃ r, r = rk x.o := ⟨_, rfl⟩
  have HKI : Hid (∀ W : World, Calls Try.prog 27 #[.int .u8 ((x.o : Nat) : Int)] W fun e W' => e = .returned (.int .i64 r) ∧ W = W') := by rw [hr]; exact fun W => rkids_any x.o W
  have HR := Lib.hid (And.intro hr (And.intro hrk hkc))
  clear S hx hrk2 hr hrk hkc
  go_enter Try.func26, Try.ntmps26
  go_wp2_with (go_at_call 27; refine (HKI.out _).mono ?_; rintro e z ⟨rfl, rfl⟩)
  go_loopg [8] 3 (fun gk u8 wr => ∃ i : Nat, u8 = .int .i64 ((i : Nat) : Int) ∧ i + gk = 3 ∧ RW L x W W.heap.size (W.heap.size + 1) i wr)
  case atStart => exact ⟨0, rfl, by omega, H0.out⟩
  case round =>
    obtain ⟨i, rfl, hg, h⟩ := hrel
    clear H0
    have HG := Lib.hid hg
    have HW := Lib.hid h
    by_cases hi : i < 3
    case neg =>
      obtain rfl : i = 3 := by omega
      have A := h.box
      have lbx := A.lt
      unfold At7 at A
      have m0 : wr.cell? ⟨W.heap.size + 1, 0, none⟩ = some (.int .u8 ((wid L x 0 : Nat) : Int)) := h.c0 0 (by omega)
      have m1 : wr.cell? ⟨W.heap.size + 1, 1, none⟩ = some (.int .u64 0) := h.c1 0 (by omega)
      have m2 : wr.cell? ⟨W.heap.size + 1, 2, none⟩ = some (.int .u8 ((wid L x 1 : Nat) : Int)) := h.c0 1 (by omega)
      have m3 : wr.cell? ⟨W.heap.size + 1, 3, none⟩ = some (.int .u64 0) := h.c1 1 (by omega)
      have m4 : wr.cell? ⟨W.heap.size + 1, 4, none⟩ = some (.int .u8 ((wid L x 2 : Nat) : Int)) := h.c0 2 (by omega)
      have m5 : wr.cell? ⟨W.heap.size + 1, 5, none⟩ = some (.int .u64 0) := h.c1 2 (by omega)
      have lar := h.la
      have hkk : ∀ i, i < kc x.o → inB L (x.kid i) = true := fun i hi => h.k0 i (by have := HR.out; omega) hi
      have hkz : ∀ j, j < 3 → kc x.o ≤ j → x.kid j = 0 := h.k1
      obtain ⟨wa0, hw0⟩ : ∃ v, wid L x 0 = v := ⟨_, rfl⟩
      obtain ⟨wa1, hw1⟩ : ∃ v, wid L x 1 = v := ⟨_, rfl⟩
      obtain ⟨wa2, hw2⟩ : ∃ v, wid L x 2 = v := ⟨_, rfl⟩
      rw [hw0] at m0
      rw [hw1] at m2
      rw [hw2] at m4
      by_cases o1 : x.o = 1
      · have d1 : (((x.o : Nat) : Int) == 1) = true := by simp; omega
        have d1n : (((x.o : Nat) : Int) != 1) = false := by simp; omega
        have d22n : (((x.o : Nat) : Int) != 22) = true := by simp; omega
        by_cases hl : x.l = 0
        case neg =>
          have dl : (((x.l : Nat) : Int) != 0) = true := by simp; omega
          have hm : mayN L x = false := mayN_notOwn (fun e => hl (by rw [e]; show (if x.o = 22 then x.l else 0) = 0; rw [if_neg (by omega)]))
          have HM := Lib.hid hm
          clear hm hl h hi hg hkk hkz o1 hw0 hw1 hw2
          go_wp2_with fail
          exact bodyPost_ret (v := .tuple #[.int .u8 0, .bool false]) (by simp [results, Try.results26, go_sem]) rfl ⟨⟨0, by rw [HM.out]; rfl⟩, HW.out.b⟩
        case pos =>
          have dl : (((x.l : Nat) : Int) != 0) = false := by simp; omega
          have hk0 : kc x.o = 0 := by rw [o1]; decide
          have hown : x = own x := by
            refine Nd.same rfl rfl ?_ ?_ ?_ ?_ ?_
            · show x.k0 = if 1 ≤ kc x.o then x.k0 else 0; rw [if_neg (by omega)]; exact hkz 0 (by omega) (by omega)
            · show x.k1 = if 2 ≤ kc x.o then x.k1 else 0; rw [if_neg (by omega)]; exact hkz 1 (by omega) (by omega)
            · show x.k2 = if 3 ≤ kc x.o then x.k2 else 0; rw [if_neg (by omega)]; exact hkz 2 (by omega) (by omega)
            · show x.n = if x.o = 1 ∨ x.o = 2 then x.n else 0; rw [if_pos (by omega)]
            · show x.l = if x.o = 22 then x.l else 0; rw [if_neg (by omega)]; exact hl
          have hm := mayN_is hown hkk
          rw [if_pos o1] at hm
          have HM := Lib.hid hm
          have HWB := Lib.hid h.b
          have AA := h.box
          clear hm hl h hi hg hkk hkz o1 hw0 hw1 hw2 hk0 hown
          have A2 := AA.alloc (.cells #[.int .u8 0, .int .u64 0] 43)
          have HMY := Lib.hid (fun W => rmay_any x.w x.n HX.out.n W)
          go_wp2_with fail
          go_region_held3 (fun w' => w'.cell? ⟨W.heap.size, 0, none⟩ = some (.int .u8 ((x.o : Nat) : Int)) ∧ w'.cell? ⟨W.heap.size, 1, none⟩ = some (.int .u8 ((x.w : Nat) : Int)) ∧ w'.cell? ⟨W.heap.size, 2, none⟩ = some (.int .i64 x.k0) ∧ w'.cell? ⟨W.heap.size, 3, none⟩ = some (.int .i64 x.k1) ∧ w'.cell? ⟨W.heap.size, 4, none⟩ = some (.int .i64 x.k2) ∧ w'.cell? ⟨W.heap.size, 5, none⟩ = some (.int .u64 ((x.n : Nat) : Int)) ∧ w'.cell? ⟨W.heap.size, 6, none⟩ = some (.int .u8 ((x.l : Nat) : Int)))
            (first | exact A2.drew | exact A2.drew.keep hb)
            (first | (go_at_call 53; refine (HMY.out _).mono ?_; rintro e w1 ⟨rfl, hb⟩))
          go_wp2_with fail
          exact bodyPost_ret (v := .tuple #[.int .u8 x.w, .bool (mayN L x)]) (by simp [results, Try.results26, go_sem, HM.out]) rfl ⟨⟨x.w, rfl⟩, bel_call (bel_alloc HWB.out _).drew hb⟩
      by_cases o2 : x.o = 2
      · have d1 : (((x.o : Nat) : Int) == 1) = false := by simp; omega
        have d1n : (((x.o : Nat) : Int) != 1) = true := by simp; omega
        have d2 : (((x.o : Nat) : Int) == 2) = true := by simp; omega
        have d2n : (((x.o : Nat) : Int) != 2) = false := by simp; omega
        have d22n : (((x.o : Nat) : Int) != 22) = true := by simp; omega
        by_cases hl : x.l = 0
        case neg =>
          have dl : (((x.l : Nat) : Int) != 0) = true := by simp; omega
          have hm : mayN L x = false := mayN_notOwn (fun e => hl (by rw [e]; show (if x.o = 22 then x.l else 0) = 0; rw [if_neg (by omega)]))
          have HM := Lib.hid hm
          clear hm hl h hi hg hkk hkz o1 o2 hw0 hw1 hw2
          go_wp2_with fail
          exact bodyPost_ret (v := .tuple #[.int .u8 0, .bool false]) (by simp [results, Try.results26, go_sem]) rfl ⟨⟨0, by rw [HM.out]; rfl⟩, HW.out.b⟩
        case pos =>
          have dl : (((x.l : Nat) : Int) != 0) = false := by simp; omega
          have hk0 : kc x.o = 0 := by rw [o2]; decide
          have hown : x = own x := by
            refine Nd.same rfl rfl ?_ ?_ ?_ ?_ ?_
            · show x.k0 = if 1 ≤ kc x.o then x.k0 else 0; rw [if_neg (by omega)]; exact hkz 0 (by omega) (by omega)
            · show x.k1 = if 2 ≤ kc x.o then x.k1 else 0; rw [if_neg (by omega)]; exact hkz 1 (by omega) (by omega)
            · show x.k2 = if 3 ≤ kc x.o then x.k2 else 0; rw [if_neg (by omega)]; exact hkz 2 (by omega) (by omega)
            · show x.n = if x.o = 1 ∨ x.o = 2 then x.n else 0; rw [if_pos (by omega)]
            · show x.l = if x.o = 22 then x.l else 0; rw [if_neg (by omega)]; exact hl
          have hm := mayN_is hown hkk
          rw [if_neg o1, if_pos o2] at hm
          have HM := Lib.hid hm
          have HWB := Lib.hid h.b
          clear hm hl h hi hg hkk hkz o1 o2 hw0 hw1 hw2 hk0 hown
          by_cases c1 : 1 ≤ x.w
          case neg =>
            have g1 : decide ((1 : Int) ≤ ((x.w : Nat) : Int)) = false := by simp; omega
            have e0 := mayB0_f (w := x.w) (by omega)
            go_wp2_with fail
            go_quiet (fail)
            go_wp2_with fail
            exact bodyPost_ret (v := .tuple #[.int .u8 x.w, .bool (mayN L x)]) (by simp [results, Try.results26, go_sem, HM.out, e0]) rfl ⟨⟨x.w, rfl⟩, bel_drewN (bel_alloc HWB.out _) _⟩
          case pos =>
          have g1 : decide ((1 : Int) ≤ ((x.w : Nat) : Int)) = true := by simp; omega
          by_cases c2 : x.w ≤ 64
          case neg =>
            have g2 : decide (((x.w : Nat) : Int) ≤ (64 : Int)) = false := by simp; omega
            have e0 := mayB0_f (w := x.w) (by omega)
            go_wp2_with fail
            go_quiet (fail)
            go_wp2_with fail
            exact bodyPost_ret (v := .tuple #[.int .u8 x.w, .bool (mayN L x)]) (by simp [results, Try.results26, go_sem, HM.out, e0]) rfl ⟨⟨x.w, rfl⟩, bel_drewN (bel_alloc HWB.out _) _⟩
          case pos =>
            have g2 : decide (((x.w : Nat) : Int) ≤ (64 : Int)) = true := by simp; omega
            have e0 := mayB0_t c1 c2
            have e1 : decide (((x.n : Nat) : Int) < (256 : Int)) = decide (x.n < 256) := by by_cases h : x.n < 256 <;> simp [h] <;> omega
            go_wp2_with fail
            go_quiet (fail)
            go_wp2_with fail
            exact bodyPost_ret (v := .tuple #[.int .u8 x.w, .bool (mayN L x)]) (by simp [results, Try.results26, go_sem, HM.out, e0]) rfl ⟨⟨x.w, rfl⟩, bel_drewN (bel_alloc HWB.out _) _⟩
      have d1 : (((x.o : Nat) : Int) == 1) = false := by simp; omega
      have d2 : (((x.o : Nat) : Int) == 2) = false := by simp; omega
      have d1n : (((x.o : Nat) : Int) != 1) = true := by simp; omega
      have d2n : (((x.o : Nat) : Int) != 2) = true := by simp; omega
      by_cases hn : x.n = 0
      case neg =>
        have dn : (((x.n : Nat) : Int) != 0) = true := by simp; omega
        have hm : mayN L x = false := mayN_notOwn (fun e => hn (by rw [e]; show (if x.o = 1 ∨ x.o = 2 then x.n else 0) = 0; rw [if_neg (by omega)]))
        have HM := Lib.hid hm
        clear hm hn h hi hg hkk hkz o1 o2 hw0 hw1 hw2
        go_wp2_with fail
        exact bodyPost_ret (v := .tuple #[.int .u8 0, .bool false]) (by simp [results, Try.results26, go_sem]) rfl ⟨⟨0, by rw [HM.out]; rfl⟩, HW.out.b⟩
      case pos =>
      have dn : (((x.n : Nat) : Int) != 0) = false := by simp; omega
      by_cases hlo : x.o ≠ 22 ∧ x.l ≠ 0
      case pos =>
        have d22n : (((x.o : Nat) : Int) != 22) = true := by simp; omega
        have dl : (((x.l : Nat) : Int) != 0) = true := by simp; omega
        have hm : mayN L x = false := mayN_notOwn (fun e => hlo.2 (by rw [e]; show (if x.o = 22 then x.l else 0) = 0; rw [if_neg hlo.1]))
        have HM := Lib.hid hm
        clear hm hn h hi hg hkk hkz o1 o2 hw0 hw1 hw2 hlo
        go_wp2_with fail
        exact bodyPost_ret (v := .tuple #[.int .u8 0, .bool false]) (by simp [results, Try.results26, go_sem]) rfl ⟨⟨0, by rw [HM.out]; rfl⟩, HW.out.b⟩
      case neg =>
      have hl : x.o ≠ 22 → x.l = 0 := fun c => Classical.byContradiction fun d => hlo ⟨c, d⟩
      have hown : x = own x := by
        refine Nd.same rfl rfl ?_ ?_ ?_ ?_ ?_
        · show x.k0 = if 1 ≤ kc x.o then x.k0 else 0
          by_cases c : 1 ≤ kc x.o
          · rw [if_pos c]
          · rw [if_neg c]; exact hkz 0 (by omega) (by omega)
        · show x.k1 = if 2 ≤ kc x.o then x.k1 else 0
          by_cases c : 2 ≤ kc x.o
          · rw [if_pos c]
          · rw [if_neg c]; exact hkz 1 (by omega) (by omega)
        · show x.k2 = if 3 ≤ kc x.o then x.k2 else 0
          by_cases c : 3 ≤ kc x.o
          · rw [if_pos c]
          · rw [if_neg c]; exact hkz 2 (by omega) (by omega)
        · show x.n = if x.o = 1 ∨ x.o = 2 then x.n else 0; rw [if_neg (by omega)]; exact hn
        · show x.l = if x.o = 22 then x.l else 0
          by_cases c : x.o = 22
          · rw [if_pos c]
          · rw [if_neg c]; exact hl c
      have hm := mayN_is hown hkk
      rw [if_neg o1, if_neg o2, hw0, hw1, hw2] at hm
      have hxw := HX.out.w
      have hxl := HX.out.l
      have HWB := Lib.hid h.b
      by_cases o22 : x.o = 22
      · rw [o22] at hm
        obtain ⟨num, ht⟩ := rtells_extract x.w x.l wa0 wa1 wa2
        generalize hrr : vecW 22 x.w x.l wa0 wa1 wa2 = rr at hm ht
        have HT := Lib.hid ht
        have HM := Lib.hid hm
        clear ht hrr
        clear hm h hi hg hkk hkz o1 o2 hw0 hw1 hw2 hn hown hlo hl
        by_cases hr0 : rr = 0
        all_goals
          (first | rw [if_pos hr0] at HT | rw [if_neg hr0] at HT)
          go_wp2_with (go_at_call 43; refine (HT.out _).mono ?_; rintro e w1 ⟨rfl, hb⟩; obtain ⟨t0, t1, t2, t3, t4, t5, t6⟩ := ans_facts A.2.1 lbx hb)
          go_quiet (fail)
          go_wp2_with fail
          exact bodyPost_ret (v := .tuple #[.int .u8 rr, .bool (mayN L x)]) (by simp [results, Try.results26, go_sem, HM.out, hr0, nat_beq]) rfl ⟨⟨rr, rfl⟩, by first | exact bel_drewN ((bel_call (bel_alloc HWB.out _) hb).setCell (by have := HWB.out.size; omega) _ |>.setCell (by have := HWB.out.size; omega) _) _ | skip⟩
      have d22 : (((x.o : Nat) : Int) == 22) = false := by simp; omega
      have d22n : (((x.o : Nat) : Int) != 22) = true := by simp; omega
      have hl0 := hl o22
      have dl : (((x.l : Nat) : Int) != 0) = false := by simp; omega
      by_cases o23 : x.o = 23 ∨ x.o = 24
      · obtain ⟨num, ht⟩ := rtells_extend x.o x.w x.l wa0 wa1 wa2 o23
        generalize hrr : vecW x.o x.w x.l wa0 wa1 wa2 = rr at hm ht
        have HT := Lib.hid ht
        have HM := Lib.hid hm
        have hor : ((((x.o : Nat) : Int) == 23) = true) ∨ (((((x.o : Nat) : Int) == 23) = false) ∧ ((((x.o : Nat) : Int) == 24) = true)) := by simp; omega
        clear ht hrr o22 o23
        clear hm h hi hg hkk hkz o1 o2 hw0 hw1 hw2 hn hown hlo hl
        rcases hor with hor | ⟨hor, hor2⟩
        all_goals
          by_cases hr0 : rr = 0
          all_goals
            (first | rw [if_pos hr0] at HT | rw [if_neg hr0] at HT)
            go_wp2_with (go_at_call 44; refine (HT.out _).mono ?_; rintro e w1 ⟨rfl, hb⟩; obtain ⟨t0, t1, t2, t3, t4, t5, t6⟩ := ans_facts A.2.1 lbx hb)
            go_quiet (fail)
            go_wp2_with fail
            exact bodyPost_ret (v := .tuple #[.int .u8 rr, .bool (mayN L x)]) (by simp [results, Try.results26, go_sem, HM.out, hr0, nat_beq]) rfl ⟨⟨rr, rfl⟩, by first | exact bel_drewN ((bel_call (bel_alloc HWB.out _) hb).setCell (by have := HWB.out.size; omega) _ |>.setCell (by have := HWB.out.size; omega) _) _ | skip⟩
      have d23 : (((x.o : Nat) : Int) == 23) = false := by simp; omega
      have d24 : (((x.o : Nat) : Int) == 24) = false := by simp; omega
      by_cases o3 : x.o = 3 ∨ x.o = 4
      · obtain ⟨num, ht⟩ := rtells_unary x.o x.w x.l wa0 wa1 wa2 o3
        have hr1 : r = 1 := by have := HR.out.1; have := HRK.out (by unfold kc; rw [if_pos (by omega)]; omega); have : kc x.o = 1 := by unfold kc; rw [if_pos (by omega)]
                               omega
        generalize hrr : vecW x.o x.w x.l wa0 wa1 wa2 = rr at hm ht
        have HT := Lib.hid ht
        have HM := Lib.hid hm
        clear ht hrr o22 o23 o3
        clear hm h hi hg hkk hkz o1 o2 hw0 hw1 hw2 hn hown hlo hl
        subst hr1
        by_cases hr0 : rr = 0
        all_goals
          (first | rw [if_pos hr0] at HT | rw [if_neg hr0] at HT)
          go_wp2_with (go_at_call 45; refine (HT.out _).mono ?_; rintro e w1 ⟨rfl, hb⟩; obtain ⟨t0, t1, t2, t3, t4, t5, t6⟩ := ans_facts A.2.1 lbx hb)
          go_quiet (fail)
          go_wp2_with fail
          exact bodyPost_ret (v := .tuple #[.int .u8 rr, .bool (mayN L x)]) (by simp [results, Try.results26, go_sem, HM.out, hr0, nat_beq]) rfl ⟨⟨rr, rfl⟩, by first | exact bel_drewN ((bel_call (bel_alloc HWB.out _) hb).setCell (by have := HWB.out.size; omega) _ |>.setCell (by have := HWB.out.size; omega) _) _ | skip⟩
      by_cases o5 : 5 ≤ x.o ∧ x.o ≤ 21
      · obtain ⟨num, ht⟩ := rtells_binary x.o x.w x.l wa0 wa1 wa2 o3 o22 o23 (by omega)
        have hr1 : r = 2 := by have := HR.out.1; have h2 : kc x.o = 2 := by unfold kc; rw [if_neg (by omega), if_pos (by omega)]
                               have := HRK.out (by omega)
                               omega
        generalize hrr : vecW x.o x.w x.l wa0 wa1 wa2 = rr at hm ht
        have HT := Lib.hid ht
        have HM := Lib.hid hm
        clear ht hrr o22 o23 o3 o5
        clear hm h hi hg hkk hkz o1 o2 hw0 hw1 hw2 hn hown hlo hl
        subst hr1
        by_cases hr0 : rr = 0
        all_goals
          (first | rw [if_pos hr0] at HT | rw [if_neg hr0] at HT)
          go_wp2_with (go_at_call 46; refine (HT.out _).mono ?_; rintro e w1 ⟨rfl, hb⟩; obtain ⟨t0, t1, t2, t3, t4, t5, t6⟩ := ans_facts A.2.1 lbx hb)
          go_quiet (fail)
          go_wp2_with fail
          exact bodyPost_ret (v := .tuple #[.int .u8 rr, .bool (mayN L x)]) (by simp [results, Try.results26, go_sem, HM.out, hr0, nat_beq]) rfl ⟨⟨rr, rfl⟩, by first | exact bel_drewN ((bel_call (bel_alloc HWB.out _) hb).setCell (by have := HWB.out.size; omega) _ |>.setCell (by have := HWB.out.size; omega) _) _ | skip⟩
      by_cases o25 : x.o = 25
      · rw [o25] at hm
        obtain ⟨num, ht⟩ := rtells_ite x.w x.l wa0 wa1 wa2
        have hr1 : r = 3 := by have := HR.out.1; have h2 : kc x.o = 3 := by rw [o25]; decide
                               have := HRK.out (by omega)
                               omega
        generalize hrr : vecW 25 x.w x.l wa0 wa1 wa2 = rr at hm ht
        have HT := Lib.hid ht
        have HM := Lib.hid hm
        clear ht hrr o22 o23 o3 o5
        clear hm h hi hg hkk hkz o1 o2 hw0 hw1 hw2 hn hown hlo hl
        subst hr1
        by_cases hr0 : rr = 0
        all_goals
          (first | rw [if_pos hr0] at HT | rw [if_neg hr0] at HT)
          go_wp2_with (go_at_call 47; refine (HT.out _).mono ?_; rintro e w1 ⟨rfl, hb⟩; obtain ⟨t0, t1, t2, t3, t4, t5, t6⟩ := ans_facts A.2.1 lbx hb)
          go_quiet (fail)
          go_wp2_with fail
          exact bodyPost_ret (v := .tuple #[.int .u8 rr, .bool (mayN L x)]) (by simp [results, Try.results26, go_sem, HM.out, hr0, nat_beq]) rfl ⟨⟨rr, rfl⟩, by first | exact bel_drewN ((bel_call (bel_alloc HWB.out _) hb).setCell (by have := HWB.out.size; omega) _ |>.setCell (by have := HWB.out.size; omega) _) _ | skip⟩
      have hkc0 : kc x.o = 0 := by unfold kc; rw [if_neg (by omega), if_neg (by omega), if_neg (by omega)]
      have hr1 : r ≤ 0 := by have := HR.out; omega
      have hr2 : (r == 1) = false := by simp; omega
      have hr3 : (r == 2) = false := by simp; omega
      have hr4 : (r == 3) = false := by simp; omega
      have hm2 : mayN L x = false := by
        rw [hm]
        have : vecW x.o x.w x.l wa0 wa1 wa2 = 0 := by
          have e0 : wa0 = 0 := by rw [← hw0]; unfold wid; rw [if_neg (by omega)]
          unfold vecW
          rw [if_neg o3, if_neg o22, if_neg o23, if_neg o25, if_neg (by omega)]
        rw [this]; rfl
      have HM := Lib.hid hm2
      clear hm2 o22 o23 o3 o5 o25 hkc0
      clear hm h hi hg hkk hkz o1 o2 hw0 hw1 hw2 hn hown hlo hl
      have tf := fun T => ans_facts (T := T) A.2.1 lbx (Below.refl _ _)
      obtain ⟨t0, t1, t2, t3, t4, t5, t6⟩ := tf 43
      go_wp2_with fail
      go_quiet (fail)
      go_wp2_with fail
      exact bodyPost_ret (v := .tuple #[.int .u8 0, .bool false]) (by simp [results, Try.results26, go_sem]) rfl ⟨⟨0, by rw [HM.out]; rfl⟩, bel_drewN (bel_alloc HWB.out _) _⟩
    case pos =>
      have q3 : ((i : Nat) : Int) < 3 := by omega
      have q0 : (0 : Int) ≤ ((i : Nat) : Int) := by omega
      have r1 : IntKind.i64.wrap (((i : Nat) : Int) + 1) = (((i + 1 : Nat) : Nat) : Int) := by rw [IntKind.wrap_i64]; omega
      have r2 : wrap64 (((i : Nat) : Int) + 1) = (((i + 1 : Nat) : Nat) : Int) := by unfold wrap64; rw [← IntKind.wrap_i64]; exact r1
      have HR2 := Lib.hid r2
      obtain ⟨kv, hkv⟩ : ∃ kv, x.kid i = kv := ⟨_, rfl⟩
      have HKV := Lib.hid hkv
      have HI := Lib.hid hi
      have fk : wr.cell? ⟨W.heap.size, 2 + i, none⟩ = some (.int .i64 kv) := by
        have A := h.box
        unfold At7 at A
        rcases (by omega : i = 0 ∨ i = 1 ∨ i = 2) with e | e | e
        · subst e; rw [← hkv]; exact A.2.2.1
        · subst e; rw [← hkv]; exact A.2.2.2.1
        · subst e; rw [← hkv]; exact A.2.2.2.2.1
      by_cases hk : kc x.o ≤ i
      case pos =>
        have hri : r ≤ ((i : Nat) : Int) := by have := HR.out; omega
        have HK := Lib.hid hk
        by_cases hz : kv = 0
        case pos =>
          subst hz
          clear hk h hg hi hkv r1 r2
          go_wp2_with fail
          go_roundg (gk - 1)
          case measure => have := HG.out; have := HI.out; omega
          case rel => exact ⟨i + 1, by first | rfl | (rw [HR2.out]) | (congr 1; exact HR2.out), by have := HG.out; have := HI.out; omega, HW.out.skip HK.out HKV.out⟩
        case neg =>
          have dz : (kv != 0) = true := by simpa using hz
          have hm : mayN L x = false := mayN_notOwn (fun e => hz (by
            rw [← hkv]
            have hk' := HK.out
            rcases (by omega : i = 0 ∨ i = 1 ∨ i = 2) with c | c | c
            · subst c; rw [e]; show (if 1 ≤ kc x.o then x.k0 else 0) = 0; rw [if_neg (by omega)]
            · subst c; rw [e]; show (if 2 ≤ kc x.o then x.k1 else 0) = 0; rw [if_neg (by omega)]
            · subst c; rw [e]; show (if 3 ≤ kc x.o then x.k2 else 0) = 0; rw [if_neg (by omega)]))
          have HM := Lib.hid hm
          clear hk h hg hi hkv r1 r2 hz hm
          go_wp2_with fail
          exact bodyPost_ret (v := .tuple #[.int .u8 0, .bool false]) (by simp [results, Try.results26, go_sem]) rfl ⟨⟨0, by rw [HM.out]; rfl⟩, HW.out.b⟩
      case neg =>
        have hri : ((i : Nat) : Int) < r := by have := HR.out; have := HRK.out (by omega); omega
        have hki : i < kc x.o := by omega
        have SR := HS.out.call HW.out.b
        obtain ⟨ra, rc, hsv⟩ := SR.shape
        subst hsv
        have s0 := SR.c0
        have HK := Lib.hid hki
        by_cases hin : inB L kv = true
        case neg =>
          have hin' : kv < 0 ∨ (0 ≤ kv ∧ (L.length : Int) ≤ kv) := by simp [inB] at hin; omega
          have hm : mayN L x = false := mayN_badKid hki (by rw [hkv]; simpa using hin)
          have HM := Lib.hid hm
          clear hk h hg hi hkv r1 r2 hin hm hki SR
          rcases hin' with hn | ⟨hn, hl⟩
          all_goals
            go_wp2_with fail
            go_quiet (fail)
            go_wp2_with fail
            exact bodyPost_ret (v := .tuple #[.int .u8 0, .bool false]) (by simp [results, Try.results26, go_sem]) rfl ⟨⟨0, by rw [HM.out]; rfl⟩, bel_drewN HW.out.b _⟩
        case pos =>
          have hin2 : 0 ≤ kv ∧ kv < (L.length : Int) := by simpa [inB] using hin
          have hinB : inB L (x.kid i) = true := by rw [hkv]; exact hin
          have HINB := Lib.hid hinB
          obtain ⟨jn, hjn⟩ : ∃ jn : Nat, kv = ((jn : Nat) : Int) := ⟨kv.toNat, by omega⟩
          subst hjn
          have hjl : jn < L.length := by omega
          obtain ⟨y, hy⟩ : ∃ y, L[jn]? = some y := ⟨_, List.getElem?_eq_getElem hjl⟩
          obtain ⟨g, gc, hsg, hcg⟩ := row_nd_at SR.row hy
          simp only [Value.slice.injEq] at hsg
          obtain ⟨rfl, _, rfl⟩ := hsg
          obtain ⟨wj, hwj⟩ : ∃ wj, widAt L (x.kid i) = wj := ⟨_, rfl⟩
          have e1 : wr.cell? ⟨g, jn * 7 + 1, none⟩ = some (.int .u8 ((wj : Nat) : Int)) := by
            rw [hcg jn y hy 1 _ rfl, ← hwj, hkv]
            simp [widAt, hy]
          have HST := Lib.hid (fun (q : Nat) (o : Obj) => ((h.drewN q).alloc o).store hi hki hinB)
          rw [hwj] at HST
          have lg : g < wr.heap.size := World.block_lt_of_cell? wr _ e1
          have lpr := SR.lt
          have la := h.la
          have lbx := h.box.lt
          obtain ⟨wv, hwv⟩ : ∃ wv, wa L x i i = wv := ⟨_, rfl⟩
          have a0 := h.c0 i hi
          rw [hwv] at a0
          have a1 := h.c1 i hi
          have z0 := h.fr (i * 2)
          have z1 := h.fr (i * 2 + 1)
          have ca0 : ∀ o, (wr.alloc o).cell? ⟨W.heap.size + 1, i * 2, none⟩ = some (.int .u8 ((wv : Nat) : Int)) := fun o => (World.cell?_alloc_lt _ _ _ la).trans a0
          have fa0 : ∀ o, (wr.alloc o).frozen? ⟨W.heap.size + 1, i * 2, none⟩ = false := fun o => (World.frozen?_alloc_old _ _ _ (Nat.ne_of_lt la)).trans z0
          have ca0q : ∀ q o, ((wr.drewN q).alloc o).cell? ⟨W.heap.size + 1, i * 2, none⟩ = some (.int .u8 ((wv : Nat) : Int)) := fun q o => (World.cell?_alloc_lt _ _ _ la).trans a0
          have fa0q : ∀ q o, ((wr.drewN q).alloc o).frozen? ⟨W.heap.size + 1, i * 2, none⟩ = false := fun q o => (World.frozen?_alloc_old _ _ _ (Nat.ne_of_lt la)).trans z0
          have ca0d : ∀ q o, ((wr.drewN q).drew.alloc o).cell? ⟨W.heap.size + 1, i * 2, none⟩ = some (.int .u8 ((wv : Nat) : Int)) := fun q o => (World.cell?_alloc_lt _ _ _ la).trans a0
          have fa0d : ∀ q o, ((wr.drewN q).drew.alloc o).frozen? ⟨W.heap.size + 1, i * 2, none⟩ = false := fun q o => (World.frozen?_alloc_old _ _ _ (Nat.ne_of_lt la)).trans z0
          have ca1 : ∀ o, (wr.alloc o).cell? ⟨W.heap.size + 1, i * 2 + 1, none⟩ = some (.int .u64 0) := fun o => (World.cell?_alloc_lt _ _ _ la).trans a1
          have fa1 : ∀ o, (wr.alloc o).frozen? ⟨W.heap.size + 1, i * 2 + 1, none⟩ = false := fun o => (World.frozen?_alloc_old _ _ _ (Nat.ne_of_lt la)).trans z1
          have ca1q : ∀ q o, ((wr.drewN q).alloc o).cell? ⟨W.heap.size + 1, i * 2 + 1, none⟩ = some (.int .u64 0) := fun q o => (World.cell?_alloc_lt _ _ _ la).trans a1
          have fa1q : ∀ q o, ((wr.drewN q).alloc o).frozen? ⟨W.heap.size + 1, i * 2 + 1, none⟩ = false := fun q o => (World.frozen?_alloc_old _ _ _ (Nat.ne_of_lt la)).trans z1
          have ca1d : ∀ q o, ((wr.drewN q).drew.alloc o).cell? ⟨W.heap.size + 1, i * 2 + 1, none⟩ = some (.int .u64 0) := fun q o => (World.cell?_alloc_lt _ _ _ la).trans a1
          have fa1d : ∀ q o, ((wr.drewN q).drew.alloc o).frozen? ⟨W.heap.size + 1, i * 2 + 1, none⟩ = false := fun q o => (World.frozen?_alloc_old _ _ _ (Nat.ne_of_lt la)).trans z1
          clear hk h hg hi hkv r1 r2 hin hki SR hin2 hinB hy hcg hwj hwv
          go_wp2_with fail
          go_quiet (fail)
          go_wp2_with fail
          go_region_with (first | (go_at_call 52; refine (rzero_exact wj _).mono ?_; rintro e z ⟨rfl, rfl⟩) | go_in)
          all_goals go_wp2_with fail
          all_goals
            go_roundg (gk - 1)
            case measure => have := HG.out; have := HI.out; omega
            case rel => exact ⟨i + 1, by first | rfl | (rw [HR2.out]) | (congr 1; exact HR2.out), by have := HG.out; have := HI.out; omega, by first | exact HST.out _ _ | exact (HST.out _ _).drew | exact (HST.out _ _).drewN _⟩

end Tm
end Go.Proofs.Ytigjbngedbbdbaa

namespace Go.Proofs.Ytigjbngedbbdbaa
open Go.RowKit Go.Maps Bv
namespace Tm
set_option maxHeartbeats 400000
set_option maxRecDepth 100000

/-- The store, the two lists; no two of them share a block; what was there before the call is as it was. -/
structure St (W : World) (p m : Nat) (sv u4 u5 : Value) (L : List Nd) (ids : List Nat) (N : List Nd) (w : World) : Prop where
  s : StoreAt W.heap.size w p m sv L
  r4 : w.ownsRow W.heap.size 3 1 u4 ids.length (todoRow ids)
  r5 : w.ownsRow W.heap.size 57 7 u5 N.length (rowOf N)
  a4 : ∀ g, u4.ownBlock = some g → ¬ foot p m sv g ∧ u5.ownBlock ≠ some g
  a5 : ∀ g, u5.ownBlock = some g → ¬ foot p m sv g
  b : Below W.heap.size W w

def StE (W : World) (p m : Nat) (u4 u5 : Value) (L : List Nd) (ids : List Nat) (N : List Nd) (w : World) : Prop := ∃ sv, St W p m sv u4 u5 L ids N w

theorem foot_lt {B : Nat} {w : World} {p m : Nat} {sv : Value} {L : List Nd} (S : StoreAt B w p m sv L) {i : Nat} (h : foot p m sv i) : B ≤ i ∧ i < w.heap.size := by
  rcases h with c | c | c
  · subst c; exact ⟨S.bp, S.lt⟩
  · subst c; exact ⟨S.bm, S.lm⟩
  · exact S.row.lt i c

theorem St.make {W : World} {p m : Nat} {sv u4 u5 v : Value} {L L' : List Nd} {ids : List Nat} {N : List Nd} {w w' : World} (h : St W p m sv u4 u5 L ids N w) (S' : StoreAt W.heap.size w' p m v L') (K : Kept (foot p m sv) w w') (loc : v.ownBlock = sv.ownBlock ∨ ∃ g, w.heap.size ≤ g ∧ v.ownBlock = some g) :
    St W p m v u4 u5 L' ids N w' := by
  have hf : ∀ g, g < w.heap.size → foot p m v g → foot p m sv g := by
    intro g hg c
    rcases c with c | c | c
    · exact .inl c
    · exact .inr (.inl c)
    · rcases loc with l | ⟨g2, hg2, l⟩
      · rw [l] at c; exact .inr (.inr c)
      · rw [l] at c; simp at c; omega
  refine ⟨S', row_kept h.r4 K (fun g e => (h.a4 g e).1), row_kept h.r5 K (fun g e => h.a5 g e), fun g e => ⟨fun c => (h.a4 g e).1 (hf g (h.r4.lt g e).2 c), (h.a4 g e).2⟩, fun g e c => h.a5 g e (hf g (h.r5.lt g e).2 c), ?_⟩
  exact h.b.trans (K.below (fun i hi c => by have := (foot_lt h.s c).1; omega) h.b.size)

theorem St.call {W : World} {p m : Nat} {sv u4 u5 : Value} {L : List Nd} {ids : List Nat} {N : List Nd} {w w' : World} (h : St W p m sv u4 u5 L ids N w) (k : Below w.heap.size w w') : St W p m sv u4 u5 L ids N w' :=
  ⟨h.s.call k, row_kept h.r4 (Kept.ofBelow k (fun _ => False)) (fun _ _ c => c), row_kept h.r5 (Kept.ofBelow k (fun _ => False)) (fun _ _ c => c), h.a4, h.a5, h.b.trans (k.mono h.b.size)⟩

theorem St.push4 {W : World} {p m : Nat} {sv u4 u5 v : Value} {L : List Nd} {ids : List Nat} {N : List Nd} {w w' : World} {a : Nat} {o : Obj} (h : St W p m sv u4 u5 L ids N w) (hr : w'.ownsRow W.heap.size 3 1 v (ids.length + 1) (todoRow ids ++ [.int .i64 ((a : Nat) : Int)])) (hg : (w.alloc o).grownBy w' u4.ownBlock) (hl : v.ownBlock = u4.ownBlock ∨ v.ownBlock = some (w.alloc o).heap.size) :
    St W p m sv v u5 L (ids ++ [a]) N w' := by
  have K : Kept (fun i => u4.ownBlock = some i) w w' := ((Kept.refl _ w).alloc o).grown hg (fun i e _ => e)
  rw [size_alloc] at hl
  refine ⟨h.s.kept K (fun i hi c => (h.a4 i c).1 hi), by simpa [todoRow] using hr, row_kept h.r5 K (fun g e c => (h.a4 g c).2 e), ?_, h.a5, h.b.trans (K.below (fun i hi c => by have := (h.r4.lt i c).1; omega) h.b.size)⟩
  intro g e
  rcases hl with l | l
  · rw [l] at e; exact h.a4 g e
  · rw [l] at e
    simp at e
    refine ⟨fun c => by have := (foot_lt h.s c).2; omega, fun c => by have := (h.r5.lt g c).2; omega⟩

theorem St.push5 {W : World} {p m : Nat} {sv u4 u5 v : Value} {L : List Nd} {ids : List Nat} {N : List Nd} {w w' : World} {x : Nd} {o : Obj} (h : St W p m sv u4 u5 L ids N w) (hr : w'.ownsRow W.heap.size 57 7 v (N.length + 1) (rowOf N ++ x.cells.toList)) (hg : (w.alloc o).grownBy w' u5.ownBlock) (hl : v.ownBlock = u5.ownBlock ∨ v.ownBlock = some (w.alloc o).heap.size) :
    St W p m sv u4 v L ids (N ++ [x]) w' := by
  have K : Kept (fun i => u5.ownBlock = some i) w w' := ((Kept.refl _ w).alloc o).grown hg (fun i e _ => e)
  rw [size_alloc] at hl
  refine ⟨h.s.kept K (fun i hi c => h.a5 i c hi), row_kept h.r4 K (fun g e c => (h.a4 g e).2 c), by rw [rowOf_append]; simpa using hr, ?_, ?_, h.b.trans (K.below (fun i hi c => by have := (h.r5.lt i c).1; omega) h.b.size)⟩
  · intro g e
    refine ⟨(h.a4 g e).1, ?_⟩
    rcases hl with l | l
    · rw [l]; exact (h.a4 g e).2
    · rw [l]; intro c; simp at c; have := (h.r4.lt g e).2; omega
  · intro g e c
    rcases hl with l | l
    · rw [l] at e; exact h.a5 g e c
    · rw [l] at e
      simp at e
      have := (foot_lt h.s c).2
      omega

/-- Each number is that of its node. -/
structure NumOf (L : List Nd) (ids : List Nat) (N : List Nd) : Prop where
  len : ids.length = N.length
  at1 : ∀ (j a : Nat) (x : Nd), ids[j]? = some a → N[j]? = some x → L[a]? = some x

theorem mk_prefix (L : List Nd) (x : Nd) : ∃ R, (mk L x).1 = L ++ R := by
  unfold mk
  repeat' split
  all_goals first | exact ⟨[], (List.append_nil L).symm⟩ | exact ⟨[x], rfl⟩
theorem idx_at {L : List Nd} {x : Nd} (h : x ∈ L) : L[idx L x]? = some x := by
  have hl := idx_lt h
  have hi := List.findIdx_getElem (xs := L) (p := fun y => decide (y = x)) (w := hl)
  simp at hi
  rw [List.getElem?_eq_getElem hl]
  show some L[idx L x] = some x
  unfold idx
  rw [hi]
theorem mk_ok {L : List Nd} {x : Nd} (h : (mk L x).2.2 = 0) : (mk L x).1[(mk L x).2.1]? = some x := by
  unfold mk at h ⊢
  split at h
  · simp at h
  split at h
  · simp at h
  split at h
  · rename_i h1 h2 h3
    rw [if_neg h1, if_neg h2, if_pos h3]
    exact idx_at h3
  split at h
  · simp at h
  · rename_i h1 h2 h3 h4
    rw [if_neg h1, if_neg h2, if_neg h3, if_neg h4]
    simp
theorem NumOf.more {L L' : List Nd} {ids : List Nat} {N : List Nd} (h : NumOf L ids N) {R : List Nd} (hL : L' = L ++ R) : NumOf L' ids N := by
  refine ⟨h.len, fun j a x h1 h2 => ?_⟩
  have := h.at1 j a x h1 h2
  rw [hL, List.getElem?_append_left (List.getElem?_eq_some_iff.1 this).1]
  exact this
theorem NumOf.push {L : List Nd} {ids : List Nat} {N : List Nd} (h : NumOf L ids N) {a : Nat} {x : Nd} (hx : L[a]? = some x) : NumOf L (ids ++ [a]) (N ++ [x]) := by
  refine ⟨by simp [h.len], fun j b y h1 h2 => ?_⟩
  by_cases hj : j < ids.length
  · rw [List.getElem?_append_left hj] at h1
    rw [List.getElem?_append_left (by rw [← h.len]; exact hj)] at h2
    exact h.at1 j b y h1 h2
  · rw [List.getElem?_append_right (by omega)] at h1
    rw [List.getElem?_append_right (by rw [← h.len]; omega)] at h2
    have h0 : j - ids.length = 0 := by
      have := (List.getElem?_eq_some_iff.1 h1).1
      simp at this
      omega
    rw [h0] at h1
    rw [← h.len, h0] at h2
    simp at h1 h2
    subst h1; subst h2
    exact hx

end Tm
end Go.Proofs.Ytigjbngedbbdbaa
