/-
The document's are, nots, Follows.
The document's Follows.
-/
import Derived.Test.YtmgkgbhkaoflhaaA2
import Derived.Test.YtmgkgbhkaoflhaaCfUnits
import Derived.Deep.RegionHeld3
namespace Go.Proofs.Ytmgkgbhkaoflhaa
open Go.RowKit
namespace Rp
open Cf
set_option maxHeartbeats 1600000
set_option maxRecDepth 100000

theorem areL_take {v : Int} {T : List Int} {i : Nat} {x : Int} (h : areL v (T.take i) = true) (hx : T[i]? = some x) (hl : isL x v = true) : areL v (T.take (i + 1)) = true := by
  unfold areL at *
  rw [List.take_add_one, hx, List.all_append, h]
  simpa using hl
theorem areL_not {v : Int} {T : List Int} {i : Nat} {x : Int} (hx : T[i]? = some x) (hl : isL x v = false) : areL v T = false := by
  unfold areL
  rw [List.all_eq_false]
  exact ⟨x, List.mem_of_getElem? hx, by rw [hl]; simp⟩
theorem rare_any {W : World} {al : Option Addr} {T : List Int} {len c : Nat} {v : Int} (h : IntsAt W al T) (hl : len = T.length) (hb : len < 4611686018427387904) (hv : 0 ≤ v) (hv2 : v ≤ 1000000) :
    Calls Try.prog 21 #[.slice al len c, .int .i64 v] W fun e w => e = .returned (.bool (areL v T)) ∧ W = w := by
  have HT := Lib.hid h
  have HL := Lib.hid hl
  have HIS := Lib.hid (fun (l : Int) (w : World) => ris_any (l := l) (W := w) hv hv2)
  clear h hl
  go_enter Try.func21, Try.ntmps21
  go_wp2_with fail
  go_loopg [5] len (fun gk v5 wr => ∃ i : Nat, v5 = .int .i64 ((i : Nat) : Int) ∧ i + gk = len ∧ Hid (areL v (T.take i) = true) ∧ W = wr)
  case atStart => exact ⟨0, rfl, by omega, Lib.hid rfl, rfl⟩
  case round =>
    obtain ⟨i, rfl, hg, HA, rfl⟩ := hrel
    have HG := Lib.hid hg
    have i0 : (0 : Int) ≤ ((i : Nat) : Int) := by omega
    by_cases hlt : i < len
    · have g1 : decide (((i : Nat) : Int) < ((len : Nat) : Int)) = true := decide_eq_true (by omega)
      have g2 : ((i : Nat) : Int) < ((len : Nat) : Int) := by omega
      obtain ⟨x, hx⟩ : ∃ x, T[i]? = some x := ⟨_, List.getElem?_eq_getElem (by rw [← HL.out]; exact hlt)⟩
      obtain ⟨b, o, rfl, hbl, hc⟩ := ints_at HT.out hx
      have HX := Lib.hid hx
      have HLT := Lib.hid hlt
      have HI := Lib.hid (HIS.out x W)
      clear hg hx hlt
      cases hil : isL x v with
      | true =>
        rw [hil] at HI
        have HN := Lib.hid (areL_take HA.out HX.out hil)
        clear hil
        have HS := Lib.hid (step_i (j := i) (by have := HLT.out; omega))
        go_wp2_with fail
        refine HI.out.mono ?_
        rintro e w ⟨rfl, rfl⟩
        go_wp2_with fail
        go_roundg (gk - 1)
        case measure => have := HG.out; have := HLT.out; omega
        case rel => exact ⟨i + 1, by first | rfl | (rw [HS.out.1]) | go_num, by have := HG.out; have := HLT.out; omega, HN, rfl⟩
      | false =>
        rw [hil] at HI
        have HN := Lib.hid (areL_not HX.out hil)
        clear hil
        go_wp2_with fail
        refine HI.out.mono ?_
        rintro e w ⟨rfl, rfl⟩
        go_wp2_with fail
        go_ret
        exact ⟨by rw [HN.out]; rfl, rfl⟩
    · have g1 : decide (((i : Nat) : Int) < ((len : Nat) : Int)) = false := decide_eq_false (by omega)
      have g2 : ¬ ((i : Nat) : Int) < ((len : Nat) : Int) := by omega
      have HE : Hid (areL v T = true) := Lib.hid (by have := HA.out; rw [List.take_of_length_le (by have := HL.out; omega)] at this; exact this)
      clear hg hlt
      go_wp2_with fail
      go_ret
      exact ⟨by rw [HE.out]; rfl, rfl⟩
def NotsE (W : World) (T : List Int) (e : Ending) (w : World) : Prop := ∃ v, e = .returned v ∧ GrowI W v (negs T) w
theorem rnots_any {W : World} {al : Option Addr} {T : List Int} {len c : Nat} (h : IntsAt W al T) (hl : len = T.length) (hb : len ≤ 1000000) (hI : ∀ l ∈ T, -9223372036854775808 < l ∧ l < 9223372036854775808) :
    Calls Try.prog 24 #[.slice al len c] W (NotsE W T) := by
  have HT := Lib.hid h
  have HL := Lib.hid hl
  have HI := Lib.hid hI
  clear h hl hI
  go_enter Try.func24, Try.ntmps24
  go_wp2_with fail
  go_loopg [3, 4] len (fun gk v3 v4 wr => ∃ i : Nat, v4 = .int .i64 ((i : Nat) : Int) ∧ i + gk = len ∧ Hid (GrowI W v3 (negs (T.take i)) wr))
  case atStart => exact ⟨0, rfl, by omega, Lib.hid (GrowI.zero (Below.refl _ _))⟩
  case round =>
    obtain ⟨i, rfl, hg, HR⟩ := hrel
    have HG := Lib.hid hg
    have i0 : (0 : Int) ≤ ((i : Nat) : Int) := by omega
    have hlen : (negs (T.take i)).length = i := by unfold negs; rw [List.length_map, List.length_take]; have := HL.out; omega
    obtain ⟨va, vc, hsh⟩ := HR.out.shape
    rw [hlen] at hsh
    subst hsh
    have HLEN := Lib.hid hlen
    by_cases hlt : i < len
    · have g1 : decide (((i : Nat) : Int) < ((len : Nat) : Int)) = true := decide_eq_true (by omega)
      have g2 : ((i : Nat) : Int) < ((len : Nat) : Int) := by omega
      obtain ⟨x, hx⟩ : ∃ x, T[i]? = some x := ⟨_, List.getElem?_eq_getElem (by rw [← HL.out]; exact hlt)⟩
      obtain ⟨b, o, rfl, hbl, hc⟩ := ints_at (HT.out.keep HR.out.bel) hx
      have hxb := HI.out x (List.mem_of_getElem? hx)
      obtain ⟨n1, n2⟩ := neg_i hxb.1 hxb.2
      have HN : Hid (negs (T.take (i + 1)) = negs (T.take i) ++ [-x]) := Lib.hid (by unfold negs; rw [List.take_add_one, hx]; simp)
      have HLT := Lib.hid hlt
      have HS := Lib.hid (step_i (j := i) (by omega))
      have hi6 : i + 1 ≤ 1000000000 := by omega
      clear hg hx hlt hlen hxb
      go_wp2_with (at_builtin; refine wpList_grow rfl (.tmp 11) (.tmp 17) rfl (by show _ = Value.slice va i vc; rfl) HR.out rfl rfl (by rw [HLEN.out]; exact hi6) ?_; intro va2 vc2 w2 hg2; rw [HLEN.out] at *; have HG2 := Lib.hid hg2; clear hg2)
      go_roundg (gk - 1)
      case measure => have := HG.out; have := HLT.out; omega
      case rel => exact ⟨i + 1, by first | rfl | (rw [HS.out.1]) | go_num, by have := HG.out; have := HLT.out; omega, Lib.hid (by rw [HN.out]; exact HG2.out)⟩
    · have g1 : decide (((i : Nat) : Int) < ((len : Nat) : Int)) = false := decide_eq_false (by omega)
      have g2 : ¬ ((i : Nat) : Int) < ((len : Nat) : Int) := by omega
      have HE : Hid (GrowI W (.slice va i vc) (negs T) wr) := Lib.hid (by have := HR.out; rw [List.take_of_length_le (by have := HL.out; omega)] at this; exact this)
      clear hg hlt hlen
      go_wp2_with fail
      go_ret
      exact ⟨_, rfl, HE.out⟩
end Rp
end Go.Proofs.Ytmgkgbhkaoflhaa

namespace Go.Proofs.Ytmgkgbhkaoflhaa
open Go.RowKit
namespace Rp
open Cf
set_option maxHeartbeats 1600000
set_option maxRecDepth 100000

theorem may_v {v : Int} {C : Cl} (h : mayC v C = true) : 0 ≤ v ∧ v ≤ 1000000 := by
  have := (mayC_parts h).1
  unfold mayV at this
  simpa using this
theorem rfollows_any {W : World} {al kl : Option Addr} {C : Cl} {T : List Int} {v : Int} {n c len kc : Nat} (h : ClsAt W al C) (hn : n = C.length) (hok : OkC C) (hT : IntsAt W kl T) (hlen : len = T.length) (hsz : len + C.flatten.length ≤ 1000000) :
    Calls Try.prog 12 #[.agg #[.int .i64 v, .slice al n c], .slice kl len kc] W fun e w => e = .returned (.bool (followsP v C T)) ∧ Below W.heap.size W w := by
  subst hn
  have HM := Lib.hid (fun (w : World) (hb : Below W.heap.size W w) => rmay_any (W := w) (v := v) (c := c) (h.keep hb) hok)
  have HCL := Lib.hid h
  have HOK := Lib.hid hok
  have HT := Lib.hid hT
  have HL := Lib.hid hlen
  have HSZ := Lib.hid hsz
  cases hm : mayC v C with
  | false =>
    rw [hm] at HM
    have HF : Hid (followsP v C T = false) := Lib.hid (by unfold followsP; rw [hm]; rfl)
    clear h hok hT hlen hsz hm
    go_enter Try.func12, Try.ntmps12
    go_wp2_with fail
    refine (HM.out _ (bel_alloc (Below.refl _ _) _)).mono ?_
    rintro e w1 ⟨rfl, hb1⟩
    go_wp2_with fail
    go_ret
    exact ⟨by rw [HF.out]; rfl, bel_call (bel_alloc (Below.refl _ _) _) hb1⟩
  | true =>
    obtain ⟨hv0, hv1⟩ := may_v hm
    rw [hm] at HM
    have HMAY := Lib.hid hm
    have hlb : len < 4611686018427387904 := by omega
    have HA := Lib.hid (fun (w : World) (hb : Below W.heap.size W w) => rare_any (c := kc) (hT.keep hb) hlen hlb hv0 hv1)
    cases ha : areL v T with
    | false =>
      rw [ha] at HA
      have HF : Hid (followsP v C T = false) := Lib.hid (by unfold followsP; rw [hm, ha]; rfl)
      clear h hok hT hlen hsz hm ha
      go_enter Try.func12, Try.ntmps12
      go_wp2_with fail
      refine (HM.out _ (bel_alloc (Below.refl _ _) _)).mono ?_
      rintro e w1 ⟨rfl, hb1⟩
      have hc0 : w1.cell? ⟨W.heap.size, 0, none⟩ = some (.int .i64 v) := (hb1.cell (p := ⟨W.heap.size, 0, none⟩) (by simp)).trans (new_cell _ _ _ _)
      have HB1 := Lib.hid (bel_call (bel_alloc (Below.refl _ _) _) hb1)
      clear hb1
      go_wp2_with fail
      refine (HA.out _ HB1.out).mono ?_
      rintro e w2 ⟨rfl, rfl⟩
      go_wp2_with fail
      go_ret
      exact ⟨by rw [HF.out]; rfl, HB1.out⟩
    | true =>
      rw [ha] at HA
      have HI : Hid (∀ l ∈ T, -9223372036854775808 < l ∧ l < 9223372036854775808) := Lib.hid (fun l hl => by
        have := isL_ne (List.all_eq_true.1 ha l hl)
        omega)
      have hlb2 : len ≤ 1000000 := by omega
      have HN := Lib.hid (fun (w : World) (hb : Below W.heap.size W w) => rnots_any (c := kc) (hT.keep hb) hlen hlb2 HI.out)
      have HU : Hid (∀ (w : World) (hb : Below W.heap.size W w) (gl : Option Addr) (gc : Nat), IntsAt w gl (negs T) → Calls Try.prog 22 #[.agg #[.int .i64 v, .slice al C.length c], .slice gl (negs T).length gc] w (ListE w (unitsC v C (negs T)).1 (unitsC v C (negs T)).2)) := Lib.hid (fun w hb gl gc hg => runits_yes (h.keep hb) hok hg hm (by unfold negs; rw [List.length_map]; omega))
      have HF : Hid (followsP v C T = !(unitsC v C (negs T)).2) := Lib.hid (by unfold followsP; rw [hm, ha]; rfl)
      have hnl : (negs T).length = len := by unfold negs; rw [List.length_map]; exact hlen.symm
      rw [hnl] at HU
      have HNL := Lib.hid hnl
      clear h hok hT hlen hsz hm ha hnl
      go_enter Try.func12, Try.ntmps12
      go_wp2_with fail
      refine (HM.out _ (bel_alloc (Below.refl _ _) _)).mono ?_
      rintro e w1 ⟨rfl, hb1⟩
      have hc0 : w1.cell? ⟨W.heap.size, 0, none⟩ = some (.int .i64 v) := (hb1.cell (p := ⟨W.heap.size, 0, none⟩) (by simp)).trans (new_cell _ _ _ _)
      have hc1 : w1.cell? ⟨W.heap.size, 1, none⟩ = some (.slice al C.length c) := (hb1.cell (p := ⟨W.heap.size, 1, none⟩) (by simp)).trans (new_cell _ _ _ _)
      have hlt : W.heap.size < w1.heap.size := by have := hb1.size; simp at this; omega
      have HB1 := Lib.hid (bel_call (bel_alloc (Below.refl _ _) _) hb1)
      clear hb1
      go_wp2_with fail
      refine (HA.out _ HB1.out).mono ?_
      rintro e w2 ⟨rfl, rfl⟩
      have HN1 : Hid (∀ w : World, Below w1.heap.size w1 w → Calls Try.prog 24 #[.slice kl len kc] w fun e w' => ∃ gl gc, e = .returned (.slice gl len gc) ∧ (w'.cell? ⟨W.heap.size, 0, none⟩ = some (.int .i64 v) ∧ w'.cell? ⟨W.heap.size, 1, none⟩ = some (.slice al C.length c)) ∧ Hid (IntsAt w' gl (negs T) ∧ Below w1.heap.size w1 w')) := Lib.hid (fun w hb => by
        refine (HN.out w (bel_call HB1.out hb)).mono ?_
        rintro e w' ⟨v', rfl, hg⟩
        obtain ⟨gl, gc, rfl⟩ := hg.shape
        rw [HNL.out] at hg ⊢
        have hbb := bel_call hb hg.bel
        exact ⟨gl, gc, rfl, ⟨(hbb.cell (p := ⟨W.heap.size, 0, none⟩) hlt).trans hc0, (hbb.cell (p := ⟨W.heap.size, 1, none⟩) hlt).trans hc1⟩, Lib.hid ⟨hg.ints, hbb⟩⟩)
      have HU1 : Hid (∀ (w w0 : World) (gl : Option Addr) (gc : Nat), Hid (IntsAt w gl (negs T) ∧ Below w1.heap.size w1 w) → Below w.heap.size w w0 → Calls Try.prog 22 #[.agg #[.int .i64 v, .slice al C.length c], .slice gl len gc] w0 fun e w' => ∃ x, e = .returned (.tuple #[x, .bool (unitsC v C (negs T)).2]) ∧ (w'.cell? ⟨W.heap.size, 0, none⟩ = some (.int .i64 v) ∧ w'.cell? ⟨W.heap.size, 1, none⟩ = some (.slice al C.length c)) ∧ Hid (Below w1.heap.size w1 w')) := Lib.hid (fun w w0 gl gc hg hb => by
        refine (HU.out w0 (bel_call (bel_call HB1.out hg.out.2) hb) gl gc (hg.out.1.keep hb)).mono ?_
        rintro e w' ⟨x, rfl, hg2⟩
        have hbb := bel_call (bel_call hg.out.2 hb) hg2.bel
        exact ⟨x, rfl, ⟨(hbb.cell (p := ⟨W.heap.size, 0, none⟩) hlt).trans hc0, (hbb.cell (p := ⟨W.heap.size, 1, none⟩) hlt).trans hc1⟩, Lib.hid hbb⟩)
      cases hu : (unitsC v C (negs T)).2
      all_goals
        rw [hu] at HU1 HF
        clear hu HU HN HA HM hlt
        go_wp2_with fail
        go_region_held3 (fun w' => w'.cell? ⟨W.heap.size, 0, none⟩ = some (.int .i64 v) ∧ w'.cell? ⟨W.heap.size, 1, none⟩ = some (.slice al C.length c))
          (first | (refine ⟨?_, ?_⟩ <;> assumption) | (go_keep; done))
          (first | (go_at_call 24; refine (HN1.out _ ?_).mono ?_; exact ⟨rfl, rfl, rfl, Nat.le_refl _, fun _ _ => rfl⟩; rintro e w3 ⟨gl, gc, rfl, ⟨g0, g1⟩, HG⟩) | (go_at_call 22; refine (HU1.out _ _ _ _ HG ?_).mono ?_; exact ⟨rfl, rfl, rfl, Nat.le_refl _, fun _ _ => rfl⟩; rintro e w4 ⟨x, rfl, ⟨g2, g3⟩, HX⟩))
        all_goals go_wp2_with fail
        all_goals go_ret
        all_goals exact ⟨by rw [HF.out]; rfl, bel_call HB1.out HX.out⟩
end Rp
end Go.Proofs.Ytmgkgbhkaoflhaa
