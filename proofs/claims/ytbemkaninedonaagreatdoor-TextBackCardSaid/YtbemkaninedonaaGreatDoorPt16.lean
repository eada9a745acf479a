/-
may of layer term, for every node, as a fact on one call.
The document's own width of a node, for every node, as a fact on one call.
-/
import Derived.Test.YtbemkaninedonaaGreatDoorPt15
import Derived.Test.YtbemkaninedonaaGreatDoorTmMayD
import Derived.Test.YtbemkaninedonaaGreatDoorPt06
import Derived.Test.YtbemkaninedonaaGreatDoorPt14
import Derived.Deep.RegionHeld3
import Derived.Deep.RegionWith
import Derived.Deep.LoopGhost
import Derived.BigQuiet
namespace Go.Proofs.YtbemkaninedonaaGreatDoor
open Go.RowKit Bv
namespace Tm
set_option maxHeartbeats 400000
set_option maxRecDepth 100000

theorem mayN_notOwn {L : List Nd} {x : Nd} (h : ¬ x = own x) : mayN L x = false := by simp [mayN, h]
theorem mayN_badKid {L : List Nd} {x : Nd} {i : Nat} (hi : i < kc x.o) (h : inB L (x.kid i) = false) : mayN L x = false := by
  have : kidsB L x = false := by
    unfold kidsB
    rw [decide_eq_false_iff_not]
    intro hc
    rw [hc i hi] at h
    simp at h
  simp [mayN, this]
theorem mayN_is {L : List Nd} {x : Nd} (h : x = own x) (hk : ∀ i, i < kc x.o → inB L (x.kid i) = true) :
    mayN L x = (if x.o = 1 then mayB x.w x.n else if x.o = 2 then mayB x.w 0 && decide (x.n < 256)
     else (decide (¬ vecW x.o x.w x.l (wid L x 0) (wid L x 1) (wid L x 2) = 0) && decide (vecW x.o x.w x.l (wid L x 0) (wid L x 1) (wid L x 2) = x.w))) := by
  unfold mayN kidsB
  rw [decide_eq_true h, decide_eq_true hk]
  simp

theorem may_any' {B p m : Nat} {sv : Value} {L : List Nd} {x : Nd} {W : World} (S : StoreAt B W p m sv L) (hx : x.Ok) :
    Calls Tryz.prog 20 #[.pointer (some ⟨p, 0, none⟩), x.val] W fun e W' => e = .returned (.bool (mayN L x)) ∧ Below W.heap.size W W' := by
  have HO : ∀ W : World, Calls Tryz.prog 31 #[x.val] W fun e W' => e = .returned (.agg (own x).cells) ∧ Below W.heap.size W W' := fun W => own_any x W
  have HQ : ∀ W : World, (binOp .neq 45 x.val (.agg (own x).cells)).run Tryz.prog W = .ok (.bool (decide (¬ x = own x))) W := fun W => neq_nd x (own x) hx (own_ok hx) W
  by_cases hown : x = own x
  case neg =>
    rw [mayN_notOwn hown]
    simp only [hown, not_false_eq_true, decide_true] at HQ
    obtain ⟨o, w, k0, k1, k2, n, l⟩ := x
    exact may_not o w n l k0 k1 k2 B p m sv L W _ S HO HQ
  rw [decide_eq_false (not_not_intro hown)] at HQ
  have hk3 := kc_le x.o
  by_cases h0 : 0 < kc x.o ∧ inB L (x.kid 0) = false
  · rw [mayN_badKid h0.1 h0.2]
    obtain ⟨o, w, k0, k1, k2, n, l⟩ := x
    have e0 := h0.2
    simp only at hk3 h0
    rcases (by omega : kc o = 1 ∨ kc o = 2 ∨ kc o = 3) with h | h | h
    · exact may_bad_1_0 o w n l k0 k1 k2 B p m sv L W _ S HO HQ (fun W => kids_is h W) e0
    · exact may_bad_2_0 o w n l k0 k1 k2 B p m sv L W _ S HO HQ (fun W => kids_is h W) e0
    · exact may_bad_3_0 o w n l k0 k1 k2 B p m sv L W _ S HO HQ (fun W => kids_is h W) e0
  have i0 : 0 < kc x.o → inB L (x.kid 0) = true := fun hc => by
    cases hb : inB L (x.kid 0)
    · exact absurd ⟨hc, hb⟩ h0
    · rfl
  by_cases h1 : 1 < kc x.o ∧ inB L (x.kid 1) = false
  · rw [mayN_badKid h1.1 h1.2]
    obtain ⟨o, w, k0, k1, k2, n, l⟩ := x
    have e1 := h1.2
    simp only at hk3 h1 i0
    rcases (by omega : kc o = 2 ∨ kc o = 3) with h | h
    · exact may_bad_2_1 o w n l k0 k1 k2 B p m sv L W _ S HO HQ (fun W => kids_is h W) (i0 (by omega)) e1
    · exact may_bad_3_1 o w n l k0 k1 k2 B p m sv L W _ S HO HQ (fun W => kids_is h W) (i0 (by omega)) e1
  have i1 : 1 < kc x.o → inB L (x.kid 1) = true := fun hc => by
    cases hb : inB L (x.kid 1)
    · exact absurd ⟨hc, hb⟩ h1
    · rfl
  by_cases h2 : 2 < kc x.o ∧ inB L (x.kid 2) = false
  · rw [mayN_badKid h2.1 h2.2]
    obtain ⟨o, w, k0, k1, k2, n, l⟩ := x
    have e2 := h2.2
    simp only at hk3 h2 i0 i1
    have h3 : kc o = 3 := by omega
    exact may_bad_3_2 o w n l k0 k1 k2 B p m sv L W _ S HO HQ (fun W => kids_is h3 W) (i0 (by omega)) (i1 (by omega)) e2
  have i2 : 2 < kc x.o → inB L (x.kid 2) = true := fun hc => by
    cases hb : inB L (x.kid 2)
    · exact absurd ⟨hc, hb⟩ h2
    · rfl
  have hk : ∀ i, i < kc x.o → inB L (x.kid i) = true := fun i hi => by
    rcases (by omega : i = 0 ∨ i = 1 ∨ i = 2) with e | e | e <;> subst e
    · exact i0 hi
    · exact i1 hi
    · exact i2 hi
  rw [mayN_is hown hk]
  clear h0 h1 h2 hk hown
  obtain ⟨o, w, k0, k1, k2, n, l⟩ := x
  simp only at hk3 i0 i1 i2 ⊢
  by_cases o1 : o = 1
  · subst o1
    rw [if_pos rfl]
    cases hm : mayB w n
    · exact may_const_f w n l k0 k1 k2 B p m sv L W _ S HO HQ (fun W => kids_is (by decide) W) hm
    · exact may_const_t w n l k0 k1 k2 B p m sv L W _ S HO HQ (fun W => kids_is (by decide) W) hm
  rw [if_neg o1]
  by_cases o2 : o = 2
  · subst o2
    rw [if_pos rfl]
    cases hm : mayB w 0
    · exact may_var_no w n l k0 k1 k2 B p m sv L W _ S HO HQ (fun W => kids_is (by decide) W) hm
    · by_cases hn : n < 256
      · rw [decide_eq_true hn]
        exact may_var_t w n l k0 k1 k2 B p m sv L W _ S HO HQ (fun W => kids_is (by decide) W) hm (decide_eq_true (by omega))
      · rw [decide_eq_false hn]
        exact may_var_f w n l k0 k1 k2 B p m sv L W _ S HO HQ (fun W => kids_is (by decide) W) hm (decide_eq_false (by omega))
  rw [if_neg o2]
  have d1 : ((o : Int) == 1) = false := by simp; omega
  have d2 : ((o : Int) == 2) = false := by simp; omega
  generalize hr : vecW o w l (wid L ⟨o, w, k0, k1, k2, n, l⟩ 0) (wid L ⟨o, w, k0, k1, k2, n, l⟩ 1) (wid L ⟨o, w, k0, k1, k2, n, l⟩ 2) = r
  by_cases hz : r = 0
  · rw [decide_eq_false (not_not_intro hz), Bool.false_and]
    rcases (by omega : kc o = 0 ∨ kc o = 1 ∨ kc o = 2 ∨ kc o = 3) with h | h | h | h
    · exact may_vec_0z o w n l k0 k1 k2 B p m sv L W _ S HO HQ (fun W => kids_is h W) hx d1 d2 h r hr hz
    · exact may_vec_1z o w n l k0 k1 k2 B p m sv L W _ S HO HQ (fun W => kids_is h W) (i0 (by omega)) hx d1 d2 h r hr hz
    · exact may_vec_2z o w n l k0 k1 k2 B p m sv L W _ S HO HQ (fun W => kids_is h W) (i0 (by omega)) (i1 (by omega)) hx d1 d2 h r hr hz
    · exact may_vec_3z o w n l k0 k1 k2 B p m sv L W _ S HO HQ (fun W => kids_is h W) (i0 (by omega)) (i1 (by omega)) (i2 (by omega)) hx d1 d2 h r hr hz
  rw [decide_eq_true hz, Bool.true_and]
  by_cases hw : r = w
  · rw [decide_eq_true hw]
    have d : ((r : Int) == (w : Int)) = true := by simp; omega
    rcases (by omega : kc o = 0 ∨ kc o = 1 ∨ kc o = 2 ∨ kc o = 3) with h | h | h | h
    · exact may_vec_0y o w n l k0 k1 k2 B p m sv L W _ S HO HQ (fun W => kids_is h W) hx d1 d2 h r hr hz d
    · exact may_vec_1y o w n l k0 k1 k2 B p m sv L W _ S HO HQ (fun W => kids_is h W) (i0 (by omega)) hx d1 d2 h r hr hz d
    · exact may_vec_2y o w n l k0 k1 k2 B p m sv L W _ S HO HQ (fun W => kids_is h W) (i0 (by omega)) (i1 (by omega)) hx d1 d2 h r hr hz d
    · exact may_vec_3y o w n l k0 k1 k2 B p m sv L W _ S HO HQ (fun W => kids_is h W) (i0 (by omega)) (i1 (by omega)) (i2 (by omega)) hx d1 d2 h r hr hz d
  · rw [decide_eq_false hw]
    have d : ((r : Int) == (w : Int)) = false := by simp; omega
    rcases (by omega : kc o = 0 ∨ kc o = 1 ∨ kc o = 2 ∨ kc o = 3) with h | h | h | h
    · exact may_vec_0n o w n l k0 k1 k2 B p m sv L W _ S HO HQ (fun W => kids_is h W) hx d1 d2 h r hr hz d
    · exact may_vec_1n o w n l k0 k1 k2 B p m sv L W _ S HO HQ (fun W => kids_is h W) (i0 (by omega)) hx d1 d2 h r hr hz d
    · exact may_vec_2n o w n l k0 k1 k2 B p m sv L W _ S HO HQ (fun W => kids_is h W) (i0 (by omega)) (i1 (by omega)) hx d1 d2 h r hr hz d
    · exact may_vec_3n o w n l k0 k1 k2 B p m sv L W _ S HO HQ (fun W => kids_is h W) (i0 (by omega)) (i1 (by omega)) (i2 (by omega)) hx d1 d2 h r hr hz d

end Tm
end Go.Proofs.YtbemkaninedonaaGreatDoor

namespace Go.Proofs.YtbemkaninedonaaGreatDoor
open Go.RowKit Go.Maps Bv
namespace Tm
set_option maxHeartbeats 4000000
set_option maxRecDepth 100000

theorem nat_beq (a b : Nat) : (((a : Nat) : Int) == ((b : Nat) : Int)) = decide (a = b) := by
  by_cases h : a = b
  · subst h; simp
  · rw [decide_eq_false h]; simp; omega
theorem ans_facts {wr w1 : World} {bx : Nat} {v : Value} {T : Nat} (A : wr.cell? ⟨bx, 1, none⟩ = some v) (hl : bx < wr.heap.size)
    (hb : Below (wr.alloc (.cells #[.int .u8 0, .int .u64 0] T)).heap.size (wr.alloc (.cells #[.int .u8 0, .int .u64 0] T)) w1) :
    w1.cell? ⟨wr.heap.size, 0, none⟩ = some (.int .u8 0) ∧ w1.cell? ⟨wr.heap.size, 1, none⟩ = some (.int .u64 0) ∧ w1.cell? ⟨bx, 1, none⟩ = some v ∧ wr.heap.size < w1.heap.size ∧ bx ≠ wr.heap.size ∧ w1.frozen? ⟨wr.heap.size, 0, none⟩ = false ∧ w1.frozen? ⟨wr.heap.size, 1, none⟩ = false := by
  obtain ⟨hc, hf⟩ := bcell hb
  have hs : (wr.alloc (.cells #[.int .u8 0, .int .u64 0] T)).heap.size = wr.heap.size + 1 := size_alloc _ _
  have hh := (MapKept.heap_alloc wr (.cells #[.int .u8 0, .int .u64 0] T)).1
  rw [hs] at hc hf
  refine ⟨?_, ?_, ?_, ?_, by omega, ?_, ?_⟩
  · rw [hc _ _ (by omega)]; unfold World.cell?; rw [hh]; rfl
  · rw [hc _ _ (by omega)]; unfold World.cell?; rw [hh]; rfl
  · rw [hc _ _ (by omega)]; exact (World.cell?_alloc_lt _ _ _ hl).trans A
  · have := hb.size; rw [hs] at this; omega
  · rw [hf _ _ (by omega)]; unfold World.frozen?; rw [hh]; simp
  · rw [hf _ _ (by omega)]; unfold World.frozen?; rw [hh]; simp

theorem rwidth_any {B p : Nat} {rv : Value} {L : List Nd} {x : Nd} {W : World} (S : RefAt B W p rv L) (hx : x.Ok) :
    Calls Tryz.prog 22 #[.pointer (some ⟨p, 0, none⟩), .agg #[.int .u8 ((x.o : Nat) : Int), .int .u8 ((x.w : Nat) : Int), .int .i64 x.k0, .int .i64 x.k1, .int .i64 x.k2, .int .u64 ((x.n : Nat) : Int), .int .u8 ((x.l : Nat) : Int)]] W fun e W' =>
      (∃ y : Nat, e = .returned (.tuple #[.int .u8 ((y : Nat) : Int), .bool (mayN L x)])) ∧ Below W.heap.size W W' := by
  have H0 := Lib.hid (rw_start L x W)
  have HS := Lib.hid S
  have HX := Lib.hid hx
  have hrk := rk_le x.o
  have hkc := kc_le x.o
  have hrk2 : 1 ≤ kc x.o → rk x.o = ((kc x.o : Nat) : Int) := fun h => rk_kc (by
    by_cases e : 1 ≤ x.o ∧ x.o ≤ 25
    · exact e
    · have : kc x.o = 0 := by unfold kc; rw [if_neg (by omega), if_neg (by omega), if_neg (by omega)]
      omega)
  have HRK := Lib.hid hrk2
  obtain ⟨r, hr⟩ : ∃ r, r = rk x.o := ⟨_, rfl⟩
  have HKI : Hid (∀ W : World, Calls Tryz.prog 23 #[.int .u8 ((x.o : Nat) : Int)] W fun e W' => e = .returned (.int .i64 r) ∧ W = W') := by rw [hr]; exact fun W => rkids_any x.o W
  have HR := Lib.hid (And.intro hr (And.intro hrk hkc))
  clear S hx hrk2 hr hrk hkc
  go_enter Tryz.func22, Tryz.ntmps22
  go_wp2_with (go_at_call 23; refine (HKI.out _).mono ?_; rintro e z ⟨rfl, rfl⟩)
  go_loopg [8] 3 (fun gk u8 wr => ∃ i : Nat, u8 = .int .i64 ((i : Nat) : Int) ∧ i + gk = 3 ∧ RW L x W W.heap.size (W.heap.size + 1) i wr)
  case atStart => exact ⟨0, rfl, by omega, H0.out⟩
  case round =>
    obtain ⟨i, rfl, hg, h⟩ := hrel
    clear H0
    have HG := Lib.hid hg
    have HW := Lib.hid h
    by_cases hi : i < 3
    case neg =>
      obtain rfl : i = 3 := by omega
      have A := h.box
      have lbx := A.lt
      unfold At7 at A
      have m0 : wr.cell? ⟨W.heap.size + 1, 0, none⟩ = some (.int .u8 ((wid L x 0 : Nat) : Int)) := h.c0 0 (by omega)
      have m1 : wr.cell? ⟨W.heap.size + 1, 1, none⟩ = some (.int .u64 0) := h.c1 0 (by omega)
      have m2 : wr.cell? ⟨W.heap.size + 1, 2, none⟩ = some (.int .u8 ((wid L x 1 : Nat) : Int)) := h.c0 1 (by omega)
      have m3 : wr.cell? ⟨W.heap.size + 1, 3, none⟩ = some (.int .u64 0) := h.c1 1 (by omega)
      have m4 : wr.cell? ⟨W.heap.size + 1, 4, none⟩ = some (.int .u8 ((wid L x 2 : Nat) : Int)) := h.c0 2 (by omega)
      have m5 : wr.cell? ⟨W.heap.size + 1, 5, none⟩ = some (.int .u64 0) := h.c1 2 (by omega)
      have lar := h.la
      have hkk : ∀ i, i < kc x.o → inB L (x.kid i) = true := fun i hi => h.k0 i (by have := HR.out; omega) hi
      have hkz : ∀ j, j < 3 → kc x.o ≤ j → x.kid j = 0 := h.k1
      obtain ⟨wa0, hw0⟩ : ∃ v, wid L x 0 = v := ⟨_, rfl⟩
      obtain ⟨wa1, hw1⟩ : ∃ v, wid L x 1 = v := ⟨_, rfl⟩
      obtain ⟨wa2, hw2⟩ : ∃ v, wid L x 2 = v := ⟨_, rfl⟩
      rw [hw0] at m0
      rw [hw1] at m2
      rw [hw2] at m4
      by_cases o1 : x.o = 1
      · have d1 : (((x.o : Nat) : Int) == 1) = true := by simp; omega
        have d1n : (((x.o : Nat) : Int) != 1) = false := by simp; omega
        have d22n : (((x.o : Nat) : Int) != 22) = true := by simp; omega
        by_cases hl : x.l = 0
        case neg =>
          have dl : (((x.l : Nat) : Int) != 0) = true := by simp; omega
          have hm : mayN L x = false := mayN_notOwn (fun e => hl (by rw [e]; show (if x.o = 22 then x.l else 0) = 0; rw [if_neg (by omega)]))
          have HM := Lib.hid hm
          clear hm hl h hi hg hkk hkz o1 hw0 hw1 hw2
          go_wp2_with fail
          exact bodyPost_ret (v := .tuple #[.int .u8 0, .bool false]) (by simp [results, Tryz.results22, go_sem]) rfl ⟨⟨0, by rw [HM.out]; rfl⟩, HW.out.b⟩
        case pos =>
          have dl : (((x.l : Nat) : Int) != 0) = false := by simp; omega
          have hk0 : kc x.o = 0 := by rw [o1]; decide
          have hown : x = own x := by
            refine Nd.same rfl rfl ?_ ?_ ?_ ?_ ?_
            · show x.k0 = if 1 ≤ kc x.o then x.k0 else 0; rw [if_neg (by omega)]; exact hkz 0 (by omega) (by omega)
            · show x.k1 = if 2 ≤ kc x.o then x.k1 else 0; rw [if_neg (by omega)]; exact hkz 1 (by omega) (by omega)
            · show x.k2 = if 3 ≤ kc x.o then x.k2 else 0; rw [if_neg (by omega)]; exact hkz 2 (by omega) (by omega)
            · show x.n = if x.o = 1 ∨ x.o = 2 then x.n else 0; rw [if_pos (by omega)]
            · show x.l = if x.o = 22 then x.l else 0; rw [if_neg (by omega)]; exact hl
          have hm := mayN_is hown hkk
          rw [if_pos o1] at hm
          have HM := Lib.hid hm
          have HWB := Lib.hid h.b
          have AA := h.box
          clear hm hl h hi hg hkk hkz o1 hw0 hw1 hw2 hk0 hown
          have A2 := AA.alloc (.cells #[.int .u8 0, .int .u64 0] 77)
          have HMY := Lib.hid (fun W => rmay_any x.w x.n HX.out.n W)
          go_wp2_with fail
          go_region_held3 (fun w' => w'.cell? ⟨W.heap.size, 0, none⟩ = some (.int .u8 ((x.o : Nat) : Int)) ∧ w'.cell? ⟨W.heap.size, 1, none⟩ = some (.int .u8 ((x.w : Nat) : Int)) ∧ w'.cell? ⟨W.heap.size, 2, none⟩ = some (.int .i64 x.k0) ∧ w'.cell? ⟨W.heap.size, 3, none⟩ = some (.int .i64 x.k1) ∧ w'.cell? ⟨W.heap.size, 4, none⟩ = some (.int .i64 x.k2) ∧ w'.cell? ⟨W.heap.size, 5, none⟩ = some (.int .u64 ((x.n : Nat) : Int)) ∧ w'.cell? ⟨W.heap.size, 6, none⟩ = some (.int .u8 ((x.l : Nat) : Int)))
            (first | exact A2.drew | exact A2.drew.keep hb)
            (first | (go_at_call 36; refine (HMY.out _).mono ?_; rintro e w1 ⟨rfl, hb⟩))
          go_wp2_with fail
          exact bodyPost_ret (v := .tuple #[.int .u8 x.w, .bool (mayN L x)]) (by simp [results, Tryz.results22, go_sem, HM.out]) rfl ⟨⟨x.w, rfl⟩, bel_call (bel_alloc HWB.out _).drew hb⟩
      by_cases o2 : x.o = 2
      · have d1 : (((x.o : Nat) : Int) == 1) = false := by simp; omega
        have d1n : (((x.o : Nat) : Int) != 1) = true := by simp; omega
        have d2 : (((x.o : Nat) : Int) == 2) = true := by simp; omega
        have d2n : (((x.o : Nat) : Int) != 2) = false := by simp; omega
        have d22n : (((x.o : Nat) : Int) != 22) = true := by simp; omega
        by_cases hl : x.l = 0
        case neg =>
          have dl : (((x.l : Nat) : Int) != 0) = true := by simp; omega
          have hm : mayN L x = false := mayN_notOwn (fun e => hl (by rw [e]; show (if x.o = 22 then x.l else 0) = 0; rw [if_neg (by omega)]))
          have HM := Lib.hid hm
          clear hm hl h hi hg hkk hkz o1 o2 hw0 hw1 hw2
          go_wp2_with fail
          exact bodyPost_ret (v := .tuple #[.int .u8 0, .bool false]) (by simp [results, Tryz.results22, go_sem]) rfl ⟨⟨0, by rw [HM.out]; rfl⟩, HW.out.b⟩
        case pos =>
          have dl : (((x.l : Nat) : Int) != 0) = false := by simp; omega
          have hk0 : kc x.o = 0 := by rw [o2]; decide
          have hown : x = own x := by
            refine Nd.same rfl rfl ?_ ?_ ?_ ?_ ?_
            · show x.k0 = if 1 ≤ kc x.o then x.k0 else 0; rw [if_neg (by omega)]; exact hkz 0 (by omega) (by omega)
            · show x.k1 = if 2 ≤ kc x.o then x.k1 else 0; rw [if_neg (by omega)]; exact hkz 1 (by omega) (by omega)
            · show x.k2 = if 3 ≤ kc x.o then x.k2 else 0; rw [if_neg (by omega)]; exact hkz 2 (by omega) (by omega)
            · show x.n = if x.o = 1 ∨ x.o = 2 then x.n else 0; rw [if_pos (by omega)]
            · show x.l = if x.o = 22 then x.l else 0; rw [if_neg (by omega)]; exact hl
          have hm := mayN_is hown hkk
          rw [if_neg o1, if_pos o2] at hm
          have HM := Lib.hid hm
          have HWB := Lib.hid h.b
          clear hm hl h hi hg hkk hkz o1 o2 hw0 hw1 hw2 hk0 hown
          by_cases c1 : 1 ≤ x.w
          case neg =>
            have g1 : decide ((1 : Int) ≤ ((x.w : Nat) : Int)) = false := by simp; omega
            have e0 := mayB0_f (w := x.w) (by omega)
            go_wp2_with fail
            go_quiet (fail)
            go_wp2_with fail
            exact bodyPost_ret (v := .tuple #[.int .u8 x.w, .bool (mayN L x)]) (by simp [results, Tryz.results22, go_sem, HM.out, e0]) rfl ⟨⟨x.w, rfl⟩, bel_drewN (bel_alloc HWB.out _) _⟩
          case pos =>
          have g1 : decide ((1 : Int) ≤ ((x.w : Nat) : Int)) = true := by simp; omega
          by_cases c2 : x.w ≤ 64
          case neg =>
            have g2 : decide (((x.w : Nat) : Int) ≤ (64 : Int)) = false := by simp; omega
            have e0 := mayB0_f (w := x.w) (by omega)
            go_wp2_with fail
            go_quiet (fail)
            go_wp2_with fail
            exact bodyPost_ret (v := .tuple #[.int .u8 x.w, .bool (mayN L x)]) (by simp [results, Tryz.results22, go_sem, HM.out, e0]) rfl ⟨⟨x.w, rfl⟩, bel_drewN (bel_alloc HWB.out _) _⟩
          case pos =>
            have g2 : decide (((x.w : Nat) : Int) ≤ (64 : Int)) = true := by simp; omega
            have e0 := mayB0_t c1 c2
            have e1 : decide (((x.n : Nat) : Int) < (256 : Int)) = decide (x.n < 256) := by by_cases h : x.n < 256 <;> simp [h] <;> omega
            go_wp2_with fail
            go_quiet (fail)
            go_wp2_with fail
            exact bodyPost_ret (v := .tuple #[.int .u8 x.w, .bool (mayN L x)]) (by simp [results, Tryz.results22, go_sem, HM.out, e0]) rfl ⟨⟨x.w, rfl⟩, bel_drewN (bel_alloc HWB.out _) _⟩
      have d1 : (((x.o : Nat) : Int) == 1) = false := by simp; omega
      have d2 : (((x.o : Nat) : Int) == 2) = false := by simp; omega
      have d1n : (((x.o : Nat) : Int) != 1) = true := by simp; omega
      have d2n : (((x.o : Nat) : Int) != 2) = true := by simp; omega
      by_cases hn : x.n = 0
      case neg =>
        have dn : (((x.n : Nat) : Int) != 0) = true := by simp; omega
        have hm : mayN L x = false := mayN_notOwn (fun e => hn (by rw [e]; show (if x.o = 1 ∨ x.o = 2 then x.n else 0) = 0; rw [if_neg (by omega)]))
        have HM := Lib.hid hm
        clear hm hn h hi hg hkk hkz o1 o2 hw0 hw1 hw2
        go_wp2_with fail
        exact bodyPost_ret (v := .tuple #[.int .u8 0, .bool false]) (by simp [results, Tryz.results22, go_sem]) rfl ⟨⟨0, by rw [HM.out]; rfl⟩, HW.out.b⟩
      case pos =>
      have dn : (((x.n : Nat) : Int) != 0) = false := by simp; omega
      by_cases hlo : x.o ≠ 22 ∧ x.l ≠ 0
      case pos =>
        have d22n : (((x.o : Nat) : Int) != 22) = true := by simp; omega
        have dl : (((x.l : Nat) : Int) != 0) = true := by simp; omega
        have hm : mayN L x = false := mayN_notOwn (fun e => hlo.2 (by rw [e]; show (if x.o = 22 then x.l else 0) = 0; rw [if_neg hlo.1]))
        have HM := Lib.hid hm
        clear hm hn h hi hg hkk hkz o1 o2 hw0 hw1 hw2 hlo
        go_wp2_with fail
        exact bodyPost_ret (v := .tuple #[.int .u8 0, .bool false]) (by simp [results, Tryz.results22, go_sem]) rfl ⟨⟨0, by rw [HM.out]; rfl⟩, HW.out.b⟩
      case neg =>
      have hl : x.o ≠ 22 → x.l = 0 := fun c => Classical.byContradiction fun d => hlo ⟨c, d⟩
      have hown : x = own x := by
        refine Nd.same rfl rfl ?_ ?_ ?_ ?_ ?_
        · show x.k0 = if 1 ≤ kc x.o then x.k0 else 0
          by_cases c : 1 ≤ kc x.o
          · rw [if_pos c]
          · rw [if_neg c]; exact hkz 0 (by omega) (by omega)
        · show x.k1 = if 2 ≤ kc x.o then x.k1 else 0
          by_cases c : 2 ≤ kc x.o
          · rw [if_pos c]
          · rw [if_neg c]; exact hkz 1 (by omega) (by omega)
        · show x.k2 = if 3 ≤ kc x.o then x.k2 else 0
          by_cases c : 3 ≤ kc x.o
          · rw [if_pos c]
          · rw [if_neg c]; exact hkz 2 (by omega) (by omega)
        · show x.n = if x.o = 1 ∨ x.o = 2 then x.n else 0; rw [if_neg (by omega)]; exact hn
        · show x.l = if x.o = 22 then x.l else 0
          by_cases c : x.o = 22
          · rw [if_pos c]
          · rw [if_neg c]; exact hl c
      have hm := mayN_is hown hkk
      rw [if_neg o1, if_neg o2, hw0, hw1, hw2] at hm
      have hxw := HX.out.w
      have hxl := HX.out.l
      have HWB := Lib.hid h.b
      by_cases o22 : x.o = 22
      · rw [o22] at hm
        obtain ⟨num, ht⟩ := rtells_extract x.w x.l wa0 wa1 wa2
        generalize hrr : vecW 22 x.w x.l wa0 wa1 wa2 = rr at hm ht
        have HT := Lib.hid ht
        have HM := Lib.hid hm
        clear ht hrr
        clear hm h hi hg hkk hkz o1 o2 hw0 hw1 hw2 hn hown hlo hl
        by_cases hr0 : rr = 0
        all_goals
          (first | rw [if_pos hr0] at HT | rw [if_neg hr0] at HT)
          go_wp2_with (go_at_call 37; refine (HT.out _).mono ?_; rintro e w1 ⟨rfl, hb⟩; obtain ⟨t0, t1, t2, t3, t4, t5, t6⟩ := ans_facts A.2.1 lbx hb)
          go_quiet (fail)
          go_wp2_with fail
          exact bodyPost_ret (v := .tuple #[.int .u8 rr, .bool (mayN L x)]) (by simp [results, Tryz.results22, go_sem, HM.out, hr0, nat_beq]) rfl ⟨⟨rr, rfl⟩, by first | exact bel_drewN ((bel_call (bel_alloc HWB.out _) hb).setCell (by have := HWB.out.size; omega) _ |>.setCell (by have := HWB.out.size; omega) _) _ | skip⟩
      have d22 : (((x.o : Nat) : Int) == 22) = false := by simp; omega
      have d22n : (((x.o : Nat) : Int) != 22) = true := by simp; omega
      have hl0 := hl o22
      have dl : (((x.l : Nat) : Int) != 0) = false := by simp; omega
      by_cases o23 : x.o = 23 ∨ x.o = 24
      · obtain ⟨num, ht⟩ := rtells_extend x.o x.w x.l wa0 wa1 wa2 o23
        generalize hrr : vecW x.o x.w x.l wa0 wa1 wa2 = rr at hm ht
        have HT := Lib.hid ht
        have HM := Lib.hid hm
        have hor : ((((x.o : Nat) : Int) == 23) = true) ∨ (((((x.o : Nat) : Int) == 23) = false) ∧ ((((x.o : Nat) : Int) == 24) = true)) := by simp; omega
        clear ht hrr o22 o23
        clear hm h hi hg hkk hkz o1 o2 hw0 hw1 hw2 hn hown hlo hl
        rcases hor with hor | ⟨hor, hor2⟩
        all_goals
          by_cases hr0 : rr = 0
          all_goals
            (first | rw [if_pos hr0] at HT | rw [if_neg hr0] at HT)
            go_wp2_with (go_at_call 38; refine (HT.out _).mono ?_; rintro e w1 ⟨rfl, hb⟩; obtain ⟨t0, t1, t2, t3, t4, t5, t6⟩ := ans_facts A.2.1 lbx hb)
            go_quiet (fail)
            go_wp2_with fail
            exact bodyPost_ret (v := .tuple #[.int .u8 rr, .bool (mayN L x)]) (by simp [results, Tryz.results22, go_sem, HM.out, hr0, nat_beq]) rfl ⟨⟨rr, rfl⟩, by first | exact bel_drewN ((bel_call (bel_alloc HWB.out _) hb).setCell (by have := HWB.out.size; omega) _ |>.setCell (by have := HWB.out.size; omega) _) _ | skip⟩
      have d23 : (((x.o : Nat) : Int) == 23) = false := by simp; omega
      have d24 : (((x.o : Nat) : Int) == 24) = false := by simp; omega
      by_cases o3 : x.o = 3 ∨ x.o = 4
      · obtain ⟨num, ht⟩ := rtells_unary x.o x.w x.l wa0 wa1 wa2 o3
        have hr1 : r = 1 := by have := HR.out.1; have := HRK.out (by unfold kc; rw [if_pos (by omega)]; omega); have : kc x.o = 1 := by unfold kc; rw [if_pos (by omega)]
                               omega
        generalize hrr : vecW x.o x.w x.l wa0 wa1 wa2 = rr at hm ht
        have HT := Lib.hid ht
        have HM := Lib.hid hm
        clear ht hrr o22 o23 o3
        clear hm h hi hg hkk hkz o1 o2 hw0 hw1 hw2 hn hown hlo hl
        subst hr1
        by_cases hr0 : rr = 0
        all_goals
          (first | rw [if_pos hr0] at HT | rw [if_neg hr0] at HT)
          go_wp2_with (go_at_call 39; refine (HT.out _).mono ?_; rintro e w1 ⟨rfl, hb⟩; obtain ⟨t0, t1, t2, t3, t4, t5, t6⟩ := ans_facts A.2.1 lbx hb)
          go_quiet (fail)
          go_wp2_with fail
          exact bodyPost_ret (v := .tuple #[.int .u8 rr, .bool (mayN L x)]) (by simp [results, Tryz.results22, go_sem, HM.out, hr0, nat_beq]) rfl ⟨⟨rr, rfl⟩, by first | exact bel_drewN ((bel_call (bel_alloc HWB.out _) hb).setCell (by have := HWB.out.size; omega) _ |>.setCell (by have := HWB.out.size; omega) _) _ | skip⟩
      by_cases o5 : 5 ≤ x.o ∧ x.o ≤ 21
      · obtain ⟨num, ht⟩ := rtells_binary x.o x.w x.l wa0 wa1 wa2 o3 o22 o23 (by omega)
        have hr1 : r = 2 := by have := HR.out.1; have h2 : kc x.o = 2 := by unfold kc; rw [if_neg (by omega), if_pos (by omega)]
                               have := HRK.out (by omega)
                               omega
        generalize hrr : vecW x.o x.w x.l wa0 wa1 wa2 = rr at hm ht
        have HT := Lib.hid ht
        have HM := Lib.hid hm
        clear ht hrr o22 o23 o3 o5
        clear hm h hi hg hkk hkz o1 o2 hw0 hw1 hw2 hn hown hlo hl
        subst hr1
        by_cases hr0 : rr = 0
        all_goals
          (first | rw [if_pos hr0] at HT | rw [if_neg hr0] at HT)
          go_wp2_with (go_at_call 40; refine (HT.out _).mono ?_; rintro e w1 ⟨rfl, hb⟩; obtain ⟨t0, t1, t2, t3, t4, t5, t6⟩ := ans_facts A.2.1 lbx hb)
          go_quiet (fail)
          go_wp2_with fail
          exact bodyPost_ret (v := .tuple #[.int .u8 rr, .bool (mayN L x)]) (by simp [results, Tryz.results22, go_sem, HM.out, hr0, nat_beq]) rfl ⟨⟨rr, rfl⟩, by first | exact bel_drewN ((bel_call (bel_alloc HWB.out _) hb).setCell (by have := HWB.out.size; omega) _ |>.setCell (by have := HWB.out.size; omega) _) _ | skip⟩
      by_cases o25 : x.o = 25
      · rw [o25] at hm
        obtain ⟨num, ht⟩ := rtells_ite x.w x.l wa0 wa1 wa2
        have hr1 : r = 3 := by have := HR.out.1; have h2 : kc x.o = 3 := by rw [o25]; decide
                               have := HRK.out (by omega)
                               omega
        generalize hrr : vecW 25 x.w x.l wa0 wa1 wa2 = rr at hm ht
        have HT := Lib.hid ht
        have HM := Lib.hid hm
        clear ht hrr o22 o23 o3 o5
        clear hm h hi hg hkk hkz o1 o2 hw0 hw1 hw2 hn hown hlo hl
        subst hr1
        by_cases hr0 : rr = 0
        all_goals
          (first | rw [if_pos hr0] at HT | rw [if_neg hr0] at HT)
          go_wp2_with (go_at_call 41; refine (HT.out _).mono ?_; rintro e w1 ⟨rfl, hb⟩; obtain ⟨t0, t1, t2, t3, t4, t5, t6⟩ := ans_facts A.2.1 lbx hb)
          go_quiet (fail)
          go_wp2_with fail
          exact bodyPost_ret (v := .tuple #[.int .u8 rr, .bool (mayN L x)]) (by simp [results, Tryz.results22, go_sem, HM.out, hr0, nat_beq]) rfl ⟨⟨rr, rfl⟩, by first | exact bel_drewN ((bel_call (bel_alloc HWB.out _) hb).setCell (by have := HWB.out.size; omega) _ |>.setCell (by have := HWB.out.size; omega) _) _ | skip⟩
      have hkc0 : kc x.o = 0 := by unfold kc; rw [if_neg (by omega), if_neg (by omega), if_neg (by omega)]
      have hr1 : r ≤ 0 := by have := HR.out; omega
      have hr2 : (r == 1) = false := by simp; omega
      have hr3 : (r == 2) = false := by simp; omega
      have hr4 : (r == 3) = false := by simp; omega
      have hm2 : mayN L x = false := by
        rw [hm]
        have : vecW x.o x.w x.l wa0 wa1 wa2 = 0 := by
          have e0 : wa0 = 0 := by rw [← hw0]; unfold wid; rw [if_neg (by omega)]
          unfold vecW
          rw [if_neg o3, if_neg o22, if_neg o23, if_neg o25, if_neg (by omega)]
        rw [this]; rfl
      have HM := Lib.hid hm2
      clear hm2 o22 o23 o3 o5 o25 hkc0
      clear hm h hi hg hkk hkz o1 o2 hw0 hw1 hw2 hn hown hlo hl
      have tf := fun T => ans_facts (T := T) A.2.1 lbx (Below.refl _ _)
      obtain ⟨t0, t1, t2, t3, t4, t5, t6⟩ := tf 77
      go_wp2_with fail
      go_quiet (fail)
      go_wp2_with fail
      exact bodyPost_ret (v := .tuple #[.int .u8 0, .bool false]) (by simp [results, Tryz.results22, go_sem]) rfl ⟨⟨0, by rw [HM.out]; rfl⟩, bel_drewN (bel_alloc HWB.out _) _⟩
    case pos =>
      have q3 : ((i : Nat) : Int) < 3 := by omega
      have q0 : (0 : Int) ≤ ((i : Nat) : Int) := by omega
      have r1 : IntKind.i64.wrap (((i : Nat) : Int) + 1) = (((i + 1 : Nat) : Nat) : Int) := by rw [IntKind.wrap_i64]; omega
      have r2 : wrap64 (((i : Nat) : Int) + 1) = (((i + 1 : Nat) : Nat) : Int) := by unfold wrap64; rw [← IntKind.wrap_i64]; exact r1
      have HR2 := Lib.hid r2
      obtain ⟨kv, hkv⟩ : ∃ kv, x.kid i = kv := ⟨_, rfl⟩
      have HKV := Lib.hid hkv
      have HI := Lib.hid hi
      have fk : wr.cell? ⟨W.heap.size, 2 + i, none⟩ = some (.int .i64 kv) := by
        have A := h.box
        unfold At7 at A
        rcases (by omega : i = 0 ∨ i = 1 ∨ i = 2) with e | e | e
        · subst e; rw [← hkv]; exact A.2.2.1
        · subst e; rw [← hkv]; exact A.2.2.2.1
        · subst e; rw [← hkv]; exact A.2.2.2.2.1
      by_cases hk : kc x.o ≤ i
      case pos =>
        have hri : r ≤ ((i : Nat) : Int) := by have := HR.out; omega
        have HK := Lib.hid hk
        by_cases hz : kv = 0
        case pos =>
          subst hz
          clear hk h hg hi hkv r1 r2
          go_wp2_with fail
          go_roundg (gk - 1)
          case measure => have := HG.out; have := HI.out; omega
          case rel => exact ⟨i + 1, by first | rfl | (rw [HR2.out]) | (congr 1; exact HR2.out), by have := HG.out; have := HI.out; omega, HW.out.skip HK.out HKV.out⟩
        case neg =>
          have dz : (kv != 0) = true := by simpa using hz
          have hm : mayN L x = false := mayN_notOwn (fun e => hz (by
            rw [← hkv]
            have hk' := HK.out
            rcases (by omega : i = 0 ∨ i = 1 ∨ i = 2) with c | c | c
            · subst c; rw [e]; show (if 1 ≤ kc x.o then x.k0 else 0) = 0; rw [if_neg (by omega)]
            · subst c; rw [e]; show (if 2 ≤ kc x.o then x.k1 else 0) = 0; rw [if_neg (by omega)]
            · subst c; rw [e]; show (if 3 ≤ kc x.o then x.k2 else 0) = 0; rw [if_neg (by omega)]))
          have HM := Lib.hid hm
          clear hk h hg hi hkv r1 r2 hz hm
          go_wp2_with fail
          exact bodyPost_ret (v := .tuple #[.int .u8 0, .bool false]) (by simp [results, Tryz.results22, go_sem]) rfl ⟨⟨0, by rw [HM.out]; rfl⟩, HW.out.b⟩
      case neg =>
        have hri : ((i : Nat) : Int) < r := by have := HR.out; have := HRK.out (by omega); omega
        have hki : i < kc x.o := by omega
        have SR := HS.out.call HW.out.b
        obtain ⟨ra, rc, hsv⟩ := SR.shape
        subst hsv
        have s0 := SR.c0
        have HK := Lib.hid hki
        by_cases hin : inB L kv = true
        case neg =>
          have hin' : kv < 0 ∨ (0 ≤ kv ∧ (L.length : Int) ≤ kv) := by simp [inB] at hin; omega
          have hm : mayN L x = false := mayN_badKid hki (by rw [hkv]; simpa using hin)
          have HM := Lib.hid hm
          clear hk h hg hi hkv r1 r2 hin hm hki SR
          rcases hin' with hn | ⟨hn, hl⟩
          all_goals
            go_wp2_with fail
            go_quiet (fail)
            go_wp2_with fail
            exact bodyPost_ret (v := .tuple #[.int .u8 0, .bool false]) (by simp [results, Tryz.results22, go_sem]) rfl ⟨⟨0, by rw [HM.out]; rfl⟩, bel_drewN HW.out.b _⟩
        case pos =>
          have hin2 : 0 ≤ kv ∧ kv < (L.length : Int) := by simpa [inB] using hin
          have hinB : inB L (x.kid i) = true := by rw [hkv]; exact hin
          have HINB := Lib.hid hinB
          obtain ⟨jn, hjn⟩ : ∃ jn : Nat, kv = ((jn : Nat) : Int) := ⟨kv.toNat, by omega⟩
          subst hjn
          have hjl : jn < L.length := by omega
          obtain ⟨y, hy⟩ : ∃ y, L[jn]? = some y := ⟨_, List.getElem?_eq_getElem hjl⟩
          obtain ⟨g, gc, hsg, hcg⟩ := row_nd_at SR.row hy
          simp only [Value.slice.injEq] at hsg
          obtain ⟨rfl, _, rfl⟩ := hsg
          obtain ⟨wj, hwj⟩ : ∃ wj, widAt L (x.kid i) = wj := ⟨_, rfl⟩
          have e1 : wr.cell? ⟨g, jn * 7 + 1, none⟩ = some (.int .u8 ((wj : Nat) : Int)) := by
            rw [hcg jn y hy 1 _ rfl, ← hwj, hkv]
            simp [widAt, hy]
          have HST := Lib.hid (fun (q : Nat) (o : Obj) => ((h.drewN q).alloc o).store hi hki hinB)
          rw [hwj] at HST
          have lg : g < wr.heap.size := World.block_lt_of_cell? wr _ e1
          have lpr := SR.lt
          have la := h.la
          have lbx := h.box.lt
          obtain ⟨wv, hwv⟩ : ∃ wv, wa L x i i = wv := ⟨_, rfl⟩
          have a0 := h.c0 i hi
          rw [hwv] at a0
          have a1 := h.c1 i hi
          have z0 := h.fr (i * 2)
          have z1 := h.fr (i * 2 + 1)
          have ca0 : ∀ o, (wr.alloc o).cell? ⟨W.heap.size + 1, i * 2, none⟩ = some (.int .u8 ((wv : Nat) : Int)) := fun o => (World.cell?_alloc_lt _ _ _ la).trans a0
          have fa0 : ∀ o, (wr.alloc o).frozen? ⟨W.heap.size + 1, i * 2, none⟩ = false := fun o => (World.frozen?_alloc_old _ _ _ (Nat.ne_of_lt la)).trans z0
          have ca0q : ∀ q o, ((wr.drewN q).alloc o).cell? ⟨W.heap.size + 1, i * 2, none⟩ = some (.int .u8 ((wv : Nat) : Int)) := fun q o => (World.cell?_alloc_lt _ _ _ la).trans a0
          have fa0q : ∀ q o, ((wr.drewN q).alloc o).frozen? ⟨W.heap.size + 1, i * 2, none⟩ = false := fun q o => (World.frozen?_alloc_old _ _ _ (Nat.ne_of_lt la)).trans z0
          have ca0d : ∀ q o, ((wr.drewN q).drew.alloc o).cell? ⟨W.heap.size + 1, i * 2, none⟩ = some (.int .u8 ((wv : Nat) : Int)) := fun q o => (World.cell?_alloc_lt _ _ _ la).trans a0
          have fa0d : ∀ q o, ((wr.drewN q).drew.alloc o).frozen? ⟨W.heap.size + 1, i * 2, none⟩ = false := fun q o => (World.frozen?_alloc_old _ _ _ (Nat.ne_of_lt la)).trans z0
          have ca1 : ∀ o, (wr.alloc o).cell? ⟨W.heap.size + 1, i * 2 + 1, none⟩ = some (.int .u64 0) := fun o => (World.cell?_alloc_lt _ _ _ la).trans a1
          have fa1 : ∀ o, (wr.alloc o).frozen? ⟨W.heap.size + 1, i * 2 + 1, none⟩ = false := fun o => (World.frozen?_alloc_old _ _ _ (Nat.ne_of_lt la)).trans z1
          have ca1q : ∀ q o, ((wr.drewN q).alloc o).cell? ⟨W.heap.size + 1, i * 2 + 1, none⟩ = some (.int .u64 0) := fun q o => (World.cell?_alloc_lt _ _ _ la).trans a1
          have fa1q : ∀ q o, ((wr.drewN q).alloc o).frozen? ⟨W.heap.size + 1, i * 2 + 1, none⟩ = false := fun q o => (World.frozen?_alloc_old _ _ _ (Nat.ne_of_lt la)).trans z1
          have ca1d : ∀ q o, ((wr.drewN q).drew.alloc o).cell? ⟨W.heap.size + 1, i * 2 + 1, none⟩ = some (.int .u64 0) := fun q o => (World.cell?_alloc_lt _ _ _ la).trans a1
          have fa1d : ∀ q o, ((wr.drewN q).drew.alloc o).frozen? ⟨W.heap.size + 1, i * 2 + 1, none⟩ = false := fun q o => (World.frozen?_alloc_old _ _ _ (Nat.ne_of_lt la)).trans z1
          clear hk h hg hi hkv r1 r2 hin hki SR hin2 hinB hy hcg hwj hwv
          go_wp2_with fail
          go_quiet (fail)
          go_wp2_with fail
          go_region_with (first | (go_at_call 35; refine (rzero_exact wj _).mono ?_; rintro e z ⟨rfl, rfl⟩) | go_in)
          all_goals go_wp2_with fail
          all_goals
            go_roundg (gk - 1)
            case measure => have := HG.out; have := HI.out; omega
            case rel => exact ⟨i + 1, by first | rfl | (rw [HR2.out]) | (congr 1; exact HR2.out), by have := HG.out; have := HI.out; omega, by first | exact HST.out _ _ | exact (HST.out _ _).drew | exact (HST.out _ _).drewN _⟩

end Tm
end Go.Proofs.YtbemkaninedonaaGreatDoor
