/-
What is got is put as the same text: the texts of the nodes that were read.
A node as a key of a map, two nodes compared: what the model makes of them, in terms of the seven numbers.
What the small functions of layer bv and of its reference return, each as a fact on one call: they return, and what was in memory stays.
What the middle functions of layer bv and of its reference return, each as a fact on one call.
-/
import Derived.Test.YtbemkaninedonaaGreatDoorPt03
import Derived.Test.YtbemkaninedonaaGreatDoorProg
import Derived.KernelRfl
import Derived.Test.YtbemkaninedonaaGreatDoorPt01
import Derived.WalkKit
import Derived.Outline
import Derived.DeepKeys4
import Derived.Maps.Own
import Derived.Maps.OwnOps
import Derived.Maps.OwnSet
import Derived.Maps.Views
import Derived.Laws.Cover3
import Derived.Deep.QuietTactic
import Derived.BigQuiet
import Derived.Below
import Derived.WalkSmall
import Derived.Deep.RegionHeld3
import Derived.Lib.Hide
namespace Go.Proofs.YtbemkaninedonaaGreatDoor
open Bv Tm
namespace Tx
set_option maxHeartbeats 1600000

/-- The nodes ns' are made, one by one, of a list that was made, and each has the text that it was read of. -/
def Fwd (f : Nat) : Prop := ∀ (s r : By) (ns ns2 : List Nd), nodeP f s ns = some (r, ns2) → ∃ ns', ns2 = ns ++ ns' ∧ 0 < ns'.length ∧
  ∀ (L : List Nd) (ids : List Nat) (tail : List Nd) (last : Nat) (L' : List Nd) (c : Nat), Gd L → MayL L → ids.length = ns.length → bd (ns' ++ tail) ids L last = (L', c, 0) →
    ∃ (L1 : List Nd) (ids' : List Nat) (k : Nat), ids'.length = ns'.length ∧ (ids ++ ids').getD (ns.length + ns'.length - 1) 0 = k ∧ bd (ns' ++ tail) ids L last = bd tail (ids ++ ids') L1 k ∧ (∃ R, L1 = L ++ R) ∧ Gd L1 ∧ MayL L1 ∧ k < L1.length ∧ s = txt L1 k ++ r

theorem nodeB_ok {L : List Nd} {ids : List Nat} {x : Nd} (hm : mayN L (nodeB L ids x) = true) (hL : L.length ≤ 200000) (hn : x.n < 18446744073709551616) (hl : x.l ≤ 255) (_hz : ∀ j, j < 3 → kc x.o ≤ j → x.kid j = 0) (ho : (nodeB L ids x).o = x.o ∧ (nodeB L ids x).n = x.n ∧ (nodeB L ids x).l = x.l) : (nodeB L ids x).Ok := by
  have hw := mayN_w hm
  have hop := mayN_op hm
  have hown := mayN_own hm
  have hk : ∀ j, j < kc (nodeB L ids x).o → 0 ≤ (nodeB L ids x).kid j ∧ (nodeB L ids x).kid j < ((L.length : Nat) : Int) := fun j hj => mayN_kid hm hj
  have hkc := kc_le (nodeB L ids x).o
  generalize hy : nodeB L ids x = y at hw hop hown hk ho hkc
  have k0 := congrArg Nd.k0 hown
  have k1 := congrArg Nd.k1 hown
  have k2 := congrArg Nd.k2 hown
  simp only [own] at k0 k1 k2
  have h0 := hk 0
  have h1 := hk 1
  have h2 := hk 2
  simp only [Nd.kid] at h0 h1 h2
  refine ⟨by omega, by omega, ?_, ?_, ?_, by omega, by omega⟩
  · unfold I64
    by_cases c : 1 ≤ kc y.o
    · have := h0 (by omega); omega
    · rw [if_neg c] at k0; omega
  · unfold I64
    by_cases c : 2 ≤ kc y.o
    · have := h1 (by omega); omega
    · rw [if_neg c] at k1; omega
  · unfold I64
    by_cases c : 3 ≤ kc y.o
    · have := h2 (by omega); omega
    · rw [if_neg c] at k2; omega

theorem subK_o_b (ids : List Nat) (x : Nd) : ∀ c, (subK ids x c).o = x.o ∧ (subK ids x c).w = x.w ∧ (subK ids x c).n = x.n ∧ (subK ids x c).l = x.l
  | 0 => ⟨rfl, rfl, rfl, rfl⟩
  | c + 1 => by
    have h := subK_o_b ids x c
    have h2 := setKid_o_b (subK ids x c) c (((ids.getD (x.kid c).toNat 0 : Nat) : Nat) : Int)
    rw [subK]
    exact ⟨h2.1.trans h.1, h2.2.1.trans h.2.1, h2.2.2.1.trans h.2.2.1, h2.2.2.2.trans h.2.2.2⟩
theorem subK_kid_b (ids : List Nat) (x : Nd) : ∀ c, c ≤ 3 → ∀ j, j < c → (subK ids x c).kid j = (((ids.getD (x.kid j).toNat 0 : Nat) : Nat) : Int)
  | 0, _, j, hj => by omega
  | c + 1, hc, j, hj => by
    rw [subK]
    by_cases h : j = c
    · subst h
      exact setKid_same _ (by omega) _
    · rw [setKid_other _ (by omega) (by omega) h]
      exact subK_kid_b ids x c (by omega) j (by omega)
theorem nodeB_o (L : List Nd) (ids : List Nat) (x : Nd) : (nodeB L ids x).o = x.o ∧ (nodeB L ids x).n = x.n ∧ (nodeB L ids x).l = x.l ∧ ((x.o = 1 ∨ x.o = 2 ∨ x.o = 22 ∨ x.o = 23 ∨ x.o = 24) → (nodeB L ids x).w = x.w) ∧ (∀ j, j < kc x.o → (nodeB L ids x).kid j = (((ids.getD (x.kid j).toNat 0 : Nat) : Nat) : Int)) := by
  have h := subK_o_b ids x (kc x.o)
  refine ⟨h.1, h.2.2.1, h.2.2.2, fun hc => ?_, fun j hj => ?_⟩
  · show widB L (subK ids x (kc x.o)) = x.w
    unfold widB
    rw [h.1, if_pos hc, h.2.1]
  · have := subK_kid_b ids x (kc x.o) (kc_le _) j hj
    match j, this with
    | 0, e => exact e
    | 1, e => exact e
    | (_ + 2), e => exact e

/-- One node more. -/
theorem bd_one {L : List Nd} {ids : List Nat} {x : Nd} {tail : List Nd} {last : Nat} {L' : List Nd} {c : Nat} (g : Gd L) (hM : MayL L) (hn : x.n < 18446744073709551616) (hl : x.l ≤ 255) (hz : ∀ j, j < 3 → kc x.o ≤ j → x.kid j = 0) (h : bd (x :: tail) ids L last = (L', c, 0)) :
    ∃ (L1 : List Nd) (k : Nat), bd (x :: tail) ids L last = bd tail (ids ++ [k]) L1 k ∧ (∃ R, L1 = L ++ R) ∧ Gd L1 ∧ MayL L1 ∧ L1[k]? = some (nodeB L ids x) ∧ mayN L (nodeB L ids x) = true := by
  have he : (mk L (nodeB L ids x)).2.2 = 0 := by
    by_cases c : (mk L (nodeB L ids x)).2.2 = 0
    · exact c
    · simp only [bd, c, if_false, Prod.mk.injEq] at h
      exact h.2.2.elim
  obtain ⟨hdn, hm⟩ := mk_done he
  have ho := nodeB_o L ids x
  refine ⟨(mk L (nodeB L ids x)).1, (mk L (nodeB L ids x)).2.1, ?_, mk_pre _ _, gd_step g (nodeB_ok hm g.len hn hl hz ⟨ho.1, ho.2.1, ho.2.2.1⟩), mayL_step hM _, hdn, hm⟩
  simp only [bd, he, if_true]

/-- The texts of m kids from i on, by their numbers. -/
def kidsG (T : Nat → By) (n : Nat → Nat) : Nat → Nat → By
  | _, 0 => []
  | i, m + 1 => 32 :: (T (n i) ++ kidsG T n (i + 1) m)
theorem kidsG_R (T : Nat → By) (n : Nat → Nat) (y : Nd) : ∀ (m i : Nat), (∀ j, i ≤ j → j < i + m → (y.kid j).toNat = n j) → kidsG T n i m = kidsR T y i m
  | 0, _, _ => rfl
  | m + 1, i, h => by
    rw [kidsG, kidsR, h i (Nat.le_refl _) (by omega), kidsG_R T n y m (i + 1) (fun j h1 h2 => h j (by omega) (by omega))]
theorem kidsG_congr (T T' : Nat → By) (n n' : Nat → Nat) : ∀ (m i : Nat), (∀ j, i ≤ j → j < i + m → T (n j) = T' (n' j)) → kidsG T n i m = kidsG T' n' i m
  | 0, _, _ => rfl
  | m + 1, i, h => by
    rw [kidsG, kidsG, h i (Nat.le_refl _) (by omega), kidsG_congr T T' n n' m (i + 1) (fun j h1 h2 => h j (by omega) (by omega))]

theorem kids_fwd {f : Nat} (hf : Fwd f) : ∀ (m i : Nat) (x x' : Nd) (s r : By) (ns ns2 : List Nd), i + m ≤ 3 → kidsP (nodeP f) m i x s ns = some (x', r, ns2) →
    ∃ ns', ns2 = ns ++ ns' ∧ x'.o = x.o ∧ x'.w = x.w ∧ x'.n = x.n ∧ x'.l = x.l ∧ (∀ j, j < 3 → (j < i ∨ i + m ≤ j) → x'.kid j = x.kid j) ∧
      ∀ (L : List Nd) (ids : List Nat) (tail : List Nd) (last : Nat) (L' : List Nd) (c : Nat), Gd L → MayL L → ids.length = ns.length → bd (ns' ++ tail) ids L last = (L', c, 0) →
        ∃ (L1 : List Nd) (ids' : List Nat) (last' : Nat), ids'.length = ns'.length ∧ bd (ns' ++ tail) ids L last = bd tail (ids ++ ids') L1 last' ∧ (∃ R, L1 = L ++ R) ∧ Gd L1 ∧ MayL L1 ∧
          (∀ j, i ≤ j → j < i + m → (x'.kid j).toNat < (ids ++ ids').length ∧ (ids ++ ids').getD (x'.kid j).toNat 0 < L1.length) ∧ s = kidsG (txt L1) (fun j => (ids ++ ids').getD (x'.kid j).toNat 0) i m ++ r
  | 0, i, x, x', s, r, ns, ns2, _, h => by
    simp only [kidsP, Option.some.injEq, Prod.mk.injEq] at h
    obtain ⟨rfl, rfl, rfl⟩ := h
    exact ⟨[], by simp, rfl, rfl, rfl, rfl, fun _ _ _ => rfl, fun L ids tail last L' c g hM _ _ => ⟨L, [], last, rfl, by simp, ⟨[], by simp⟩, g, hM, fun j h1 h2 => absurd h2 (by omega), by simp [kidsG]⟩⟩
  | m + 1, i, x, x', s, r, ns, ns2, h3, h => by
    rw [kidsP] at h
    cases e1 : need 32 s with
    | none => rw [e1] at h; cases h
    | some s1 =>
      rw [e1, Option.bind_some] at h
      cases e2 : nodeP f s1 ns with
      | none => rw [e2] at h; cases h
      | some p =>
        rw [e2, Option.bind_some] at h
        obtain ⟨n1, hn1, p1, b1⟩ := hf s1 p.1 ns p.2 (by rw [e2])
        obtain ⟨n2, hn2, ho, hw, hn, hl, hkeep, b2⟩ := kids_fwd hf m (i + 1) _ x' p.1 r p.2 ns2 (by omega) h
        have hs := setKid_o_b x i (((p.2.length - 1 : Nat) : Nat) : Int)
        refine ⟨n1 ++ n2, by rw [hn2, hn1, List.append_assoc], ho.trans hs.1, hw.trans hs.2.1, hn.trans hs.2.2.1, hl.trans hs.2.2.2, ?_, ?_⟩
        · intro j hj hc
          rw [hkeep j hj (by omega)]
          exact setKid_other x (by omega) hj (by omega) _
        · intro L ids tail last L' c g hM hids hbd
          rw [List.append_assoc] at hbd ⊢
          obtain ⟨La, i1, k, l1, g1, c1, ⟨Ra, hRa⟩, gA, mA, hk, ht⟩ := b1 L ids (n2 ++ tail) last L' c g hM hids hbd
          rw [c1] at hbd ⊢
          obtain ⟨Lb, i2, last2, l2, c2, ⟨Rb, hRb⟩, gB, mB, d2, t2⟩ := b2 La (ids ++ i1) tail k L' c gA mA (by simp [hids, l1, hn1]) hbd
          have e3 : (x'.kid i).toNat = ns.length + n1.length - 1 := by
            rw [hkeep i (by omega) (by omega), setKid_same x (by omega), hn1]
            simp
          have hlt : (x'.kid i).toNat < (ids ++ i1).length := by rw [e3]; simp [hids, l1]; omega
          have hgi : (ids ++ i1 ++ i2).getD (x'.kid i).toNat 0 = k := by
            rw [List.getD_eq_getElem?_getD, List.getElem?_append_left hlt, ← List.getD_eq_getElem?_getD, e3]
            exact g1
          refine ⟨Lb, i1 ++ i2, last2, by simp [l1, l2], by rw [c2, List.append_assoc], ⟨Ra ++ Rb, by rw [hRb, hRa, List.append_assoc]⟩, gB, mB, fun j h1 h2 => ?_, ?_⟩
          · rw [← List.append_assoc]
            by_cases hj : j = i
            · subst hj
              rw [hgi]
              refine ⟨by rw [List.length_append]; omega, ?_⟩
              rw [hRb, List.length_append]
              omega
            · exact d2 j (by omega) (by omega)
          · rw [← List.append_assoc, need_back e1, ht, t2, kidsG]
            have hmore : txt Lb k = txt La k := by rw [hRb]; exact txt_more gA (by rw [← hRb]; exact gB) k hk
            simp only [hgi, hmore]
            simp

theorem node_fwd : ∀ f, Fwd f
  | 0 => fun s r ns ns2 h => by simp [nodeP] at h
  | f + 1 => by
    have ih := node_fwd f
    intro s r ns ns2 h
    cases s with
    | nil => simp [nodeP] at h
    | cons c s1 =>
      simp only [nodeP] at h
      by_cases h35 : c = 35
      · rw [if_pos h35] at h
        cases e1 : sho s1 with
        | none => rw [e1] at h; cases h
        | some p =>
          rw [e1, Option.bind_some] at h
          cases e2 : need 58 p.2 with
          | none => rw [e2] at h; cases h
          | some s2 =>
            rw [e2, Option.bind_some] at h
            cases e3 : num s2 with
            | none => rw [e3] at h; cases h
            | some q =>
              rw [e3] at h
              simp only [Option.map_some, Option.some.injEq, Prod.mk.injEq] at h
              obtain ⟨h1, h2⟩ := h
              have b3 := num_back (s := s2) (n := q.1) (r := q.2) (by rw [e3])
              refine ⟨[⟨1, p.1, 0, 0, 0, q.1, 0⟩], h2.symm, by simp, ?_⟩
              intro L ids tail last L' c' g hM hids hbd
              obtain ⟨L1, k, d1, d2, d3, d4, d5, d6⟩ := bd_one (tail := tail) g hM b3.2 (Nat.zero_le _) (fun j hj _ => by match j, hj with | 0, _ => rfl | 1, _ => rfl | 2, _ => rfl) hbd
              have ho := nodeB_o L ids ⟨1, p.1, 0, 0, 0, q.1, 0⟩
              have hw := mayN_w d6
              have hwe := ho.2.2.2.1 (.inl rfl)
              rw [hwe] at hw
              refine ⟨L1, [k], k, rfl, by simp [← hids], d1, d2, d3, d4, (List.getElem?_eq_some_iff.1 d5).1, ?_⟩
              rw [txt_is d3 d5]
              unfold bodyT
              rw [if_pos ho.1, hwe, ho.2.1]
              have b1 := sho_back (s := s1) (n := p.1) (r := p.2) (by rw [e1]) (by simp only at hw; omega)
              rw [h35, b1, need_back e2, b3.1, h1]
              simp
      rw [if_neg h35] at h
      by_cases h118 : c = 118
      · rw [if_pos h118] at h
        cases e1 : num s1 with
        | none => rw [e1] at h; cases h
        | some p =>
          rw [e1, Option.bind_some] at h
          cases e2 : need 58 p.2 with
          | none => rw [e2] at h; cases h
          | some s2 =>
            rw [e2, Option.bind_some] at h
            cases e3 : sho s2 with
            | none => rw [e3] at h; cases h
            | some q =>
              rw [e3] at h
              simp only [Option.map_some, Option.some.injEq, Prod.mk.injEq] at h
              obtain ⟨h1, h2⟩ := h
              have b1 := num_back (s := s1) (n := p.1) (r := p.2) (by rw [e1])
              refine ⟨[⟨2, q.1, 0, 0, 0, p.1, 0⟩], h2.symm, by simp, ?_⟩
              intro L ids tail last L' c' g hM hids hbd
              obtain ⟨L1, k, d1, d2, d3, d4, d5, d6⟩ := bd_one (tail := tail) g hM b1.2 (Nat.zero_le _) (fun j hj _ => by match j, hj with | 0, _ => rfl | 1, _ => rfl | 2, _ => rfl) hbd
              have ho := nodeB_o L ids ⟨2, q.1, 0, 0, 0, p.1, 0⟩
              have hw := mayN_w d6
              have hwe := ho.2.2.2.1 (.inr (.inl rfl))
              rw [hwe] at hw
              refine ⟨L1, [k], k, rfl, by simp [← hids], d1, d2, d3, d4, (List.getElem?_eq_some_iff.1 d5).1, ?_⟩
              rw [txt_is d3 d5]
              unfold bodyT
              rw [if_neg (by rw [ho.1]; simp), if_pos ho.1, hwe, ho.2.1]
              have b3 := sho_back (s := s2) (n := q.1) (r := q.2) (by rw [e3]) (by simp only at hw; omega)
              rw [h118, b1.1, need_back e2, b3, h1]
              simp
      rw [if_neg h118] at h
      by_cases h40 : c = 40
      · rw [if_pos h40] at h
        cases e1 : headP s1 with
        | none => rw [e1] at h; cases h
        | some hp =>
          rw [e1, Option.bind_some] at h
          cases e2 : kidsP (nodeP f) (kc hp.1.o) 0 hp.1 hp.2 ns with
          | none => rw [e2] at h; cases h
          | some kp =>
            rw [e2, Option.bind_some] at h
            cases e3 : need 41 kp.2.1 with
            | none => rw [e3] at h; cases h
            | some s3 =>
              rw [e3] at h
              simp only [Option.map_some, Option.some.injEq, Prod.mk.injEq] at h
              obtain ⟨h1, h2⟩ := h
              obtain ⟨a3, a25, z0, z1, z2, zn, al, aw, ahd⟩ := headP_back (s := s1) (x := hp.1) (r := hp.2) (by rw [e1])
              obtain ⟨n1, hn1, ho, hw, hn, hl, hkeep, b1⟩ := kids_fwd ih (kc hp.1.o) 0 hp.1 kp.1 hp.2 kp.2.1 ns kp.2.2 (by have := kc_le hp.1.o; omega) (by rw [e2])
              refine ⟨n1 ++ [kp.1], by rw [← h2, hn1, List.append_assoc], by simp, ?_⟩
              intro L ids tail last L' c' g hM hids hbd
              rw [List.append_assoc, show [kp.1] ++ tail = kp.1 :: tail from rfl] at hbd ⊢
              obtain ⟨La, i1, last1, l1, c1, ⟨Ra, hRa⟩, gA, mA, d1, t1⟩ := b1 L ids (kp.1 :: tail) last L' c' g hM hids hbd
              rw [c1] at hbd ⊢
              have hkz : ∀ j, j < 3 → kc kp.1.o ≤ j → kp.1.kid j = 0 := fun j hj hc => by
                rw [hkeep j hj (by rw [ho] at hc; omega)]
                match j, hj with
                | 0, _ => exact z0
                | 1, _ => exact z1
                | 2, _ => exact z2
              obtain ⟨L1, k, f1, ⟨Rb, hRb⟩, gB, mB, f5, f6⟩ := bd_one (tail := tail) gA mA (by rw [hn, zn]; omega) (by rw [hl]; exact al) hkz hbd
              have hB := nodeB_o La (ids ++ i1) kp.1
              rw [ho, hn, hl, hw] at hB
              refine ⟨L1, i1 ++ [k], k, by simp [l1], ?_, by rw [f1, List.append_assoc], ⟨Ra ++ Rb, by rw [hRb, hRa, List.append_assoc]⟩, gB, mB, (List.getElem?_eq_some_iff.1 f5).1, ?_⟩
              · rw [← List.append_assoc, List.getD_eq_getElem?_getD, show ns.length + (n1 ++ [kp.1]).length - 1 = (ids ++ i1).length by simp [hids, l1] <;> omega]
                simp
              · have hmw := mayN_w f6
                have hown := mayN_own f6
                have hw255 : hp.1.w < 255 := by
                  by_cases hc : hp.1.o = 22 ∨ hp.1.o = 23 ∨ hp.1.o = 24
                  · rw [← hB.2.2.2.1 (by omega)]
                    omega
                  · rw [aw hc]; omega
                have hl255 : hp.1.l < 255 := by
                  by_cases hc : hp.1.o = 22
                  · have hv := f6
                    unfold mayN at hv
                    rw [hB.1, if_neg (by omega), if_neg (by omega)] at hv
                    simp only [Bool.and_eq_true, decide_eq_true_eq] at hv
                    have hv2 := hv.2.1
                    unfold vecW at hv2
                    rw [if_neg (by omega), if_pos hc, hB.2.2.1] at hv2
                    by_cases hq : 1 ≤ wid La (nodeB La (ids ++ i1) kp.1) 0 ∧ wid La (nodeB La (ids ++ i1) kp.1) 0 ≤ 64 ∧ 1 ≤ (nodeB La (ids ++ i1) kp.1).w ∧ hp.1.l + (nodeB La (ids ++ i1) kp.1).w ≤ wid La (nodeB La (ids ++ i1) kp.1) 0
                    · omega
                    · rw [if_neg hq] at hv2; exact absurd rfl hv2
                  · have := congrArg Nd.l hown
                    simp only [own] at this
                    rw [hB.1, if_neg hc, hB.2.2.1] at this
                    omega
                have hs1 := ahd hw255 hl255
                have hhd : Tx.hd (nodeB La (ids ++ i1) kp.1) = 40 :: hdT hp.1 := by
                  unfold Tx.hd hdT
                  rw [hB.1, hB.2.2.1]
                  by_cases hc : hp.1.o = 22 ∨ hp.1.o = 23 ∨ hp.1.o = 24
                  · rw [hB.2.2.2.1 (by omega)]
                  · rw [if_neg hc, if_neg hc]
                have hkt : kidsT (txt L1) (nodeB La (ids ++ i1) kp.1) (kc hp.1.o) = kidsG (txt La) (fun j => (ids ++ i1).getD (kp.1.kid j).toNat 0) 0 (kc hp.1.o) := by
                  rw [kidsT_R, ← kidsG_R (txt L1) (fun j => (ids ++ i1).getD (kp.1.kid j).toNat 0) (nodeB La (ids ++ i1) kp.1) (kc hp.1.o) 0 (fun j _ hj => by rw [hB.2.2.2.2 j (by omega)]; simp)]
                  refine kidsG_congr _ _ _ _ _ _ (fun j hj1 hj2 => ?_)
                  rw [hRb]
                  exact txt_more gA (by rw [← hRb]; exact gB) _ (d1 j hj1 hj2).2
                rw [txt_is gB f5]
                unfold bodyT
                rw [hB.1, if_neg (by omega), if_neg (by omega), hhd, hkt, h40, hs1, t1, need_back e3, h1]
                simp
      rw [if_neg h40] at h
      cases h

theorem got_text {L L' : List Nd} {t : By} {c : Nat} (g : Gd L) (hM : MayL L) (h : getP L t = (L', c, 0)) : txt L' c = t ∧ c < L'.length ∧ Gd L' ∧ MayL L' ∧ t.length ≤ 10000 := by
  unfold getP at h
  cases hw : wholeP t with
  | none => rw [hw] at h; simp at h
  | some ns =>
    rw [hw] at h
    simp only [] at h
    unfold wholeP at hw
    by_cases hl : 10000 < t.length
    · rw [if_pos hl] at hw; cases hw
    rw [if_neg hl] at hw
    cases hn : nodeP (t.length + 1) t [] with
    | none => rw [hn] at hw; cases hw
    | some p =>
      rw [hn, Option.bind_some] at hw
      by_cases hp : p.1 = []
      · rw [if_pos hp] at hw
        simp only [Option.some.injEq] at hw
        obtain ⟨n1, e1, p1, b1⟩ := node_fwd _ t p.1 [] p.2 hn
        rw [List.nil_append] at e1
        rw [← hw, e1] at h
        obtain ⟨L1, i1, k, l1, g1, c1, _, gA, mA, hk, ht⟩ := b1 L [] [] 0 L' c g hM rfl (by rw [List.append_nil]; exact h)
        rw [List.append_nil, h] at c1
        simp only [bd, Prod.mk.injEq, and_true] at c1
        obtain ⟨rfl, rfl⟩ := c1
        refine ⟨?_, hk, gA, mA, by omega⟩
        rw [ht, hp, List.append_nil]
      · rw [if_neg hp] at hw; cases hw
end Tx
end Go.Proofs.YtbemkaninedonaaGreatDoor

namespace Go.Proofs.YtbemkaninedonaaGreatDoor
open Go.RowKit Go.Maps Bv
namespace Tm
set_option maxHeartbeats 400000
set_option maxRecDepth 100000

theorem cells_nd : Tryz.prog.cellsOf 45 = 7 := by kernel_rfl
theorem cells_kids : Tryz.prog.cellsOf 42 = 3 := by kernel_rfl
theorem cells_op : Tryz.prog.cellsOf 41 = 1 := by kernel_rfl
theorem cells_u8 : Tryz.prog.cellsOf 5 = 1 := by kernel_rfl
theorem cells_int : Tryz.prog.cellsOf 3 = 1 := by kernel_rfl
theorem cells_u64 : Tryz.prog.cellsOf 43 = 1 := by kernel_rfl

def Nd.lits (x : Nd) : List Lit := [.int .u8 x.o, .int .u8 x.w, .int .i64 x.k0, .int .i64 x.k1, .int .i64 x.k2, .int .u64 x.n, .int .u8 x.l]
theorem Nd.lits_inj {x y : Nd} (h : x.lits = y.lits) : x = y := by
  simp only [Nd.lits, List.cons.injEq, Lit.int.injEq, Int.natCast_inj, true_and, and_true] at h
  exact Nd.same h.1 h.2.1 h.2.2.1 h.2.2.2.1 h.2.2.2.2.1 h.2.2.2.2.2.1 h.2.2.2.2.2.2

theorem wf_u8 {n : Nat} (h : n ≤ 255) : (Lit.int .u8 (n : Int)).wf = true := by
  simp [Lit.wf, IntKind.min, IntKind.max, IntKind.signed, IntKind.bits]; omega
theorem wf_u64 {n : Nat} (h : n < 18446744073709551616) : (Lit.int .u64 (n : Int)).wf = true := by
  simp [Lit.wf, IntKind.min, IntKind.max, IntKind.signed, IntKind.bits]; omega
theorem wf_i64 {n : Int} (h : I64 n) : (Lit.int .i64 n).wf = true := by
  unfold I64 at h
  simp [Lit.wf, IntKind.min, IntKind.max, IntKind.signed, IntKind.bits]; omega

theorem lits_at (d : Nat) (x : Nd) (hx : x.Ok) : Tryz.prog.keyLits (d + 3) 45 x.val.cells.toList = some x.lits := by
  have a0 := wf_u8 hx.o
  have a1 := wf_u8 hx.w
  have a2 := wf_i64 hx.k0
  have a3 := wf_i64 hx.k1
  have a4 := wf_i64 hx.k2
  have a5 := wf_u64 hx.n
  have a6 := wf_u8 hx.l
  simp [Program.keyLits, Tryz.underlying45, Tryz.underlying42, Tryz.underlying41, Tryz.underlying5, Tryz.underlying3, Tryz.underlying43, cells_nd, cells_kids, cells_op, cells_u8, cells_int, cells_u64,
    Nd.val, Value.cells, Nd.lits, List.range, List.range.loop, a0, a1, a2, a3, a4, a5, a6]

theorem deep_nd : Tryz.prog.keyTypeAt 3 45 = true := by kernel_rfl
theorem wide_nd : (match Tryz.prog.underlying 45 with | some (.array _ _) | some (.struct _) => true | _ => false) = true := by rw [Tryz.underlying45]
theorem row_nd : (45 : TypeId) < Tryz.prog.types.size := of_decide_eq_true (by kernel_rfl)
theorem law_nd : Keyed Tryz.prog 45 := Keyed.of_law (deep_law_laid (by kernel_rfl) (m := 3) (by omega) row_nd deep_nd wide_nd)
theorem formed_nd (x : Nd) : x.val.formed Tryz.prog 45 = true := by simp [Nd.val, Value.formed, Tryz.underlying45, cells_nd]

def Nd.key (x : Nd) : Lit := .string (keyBytes x.lits)
theorem keyType_nd : Tryz.prog.keyType 45 = true := by kernel_rfl
theorem size_types : Tryz.prog.types.size + 1 = (Tryz.prog.types.size - 2) + 3 := by
  have : 3 ≤ Tryz.prog.types.size := of_decide_eq_true (by kernel_rfl)
  omega
theorem key_nd (x : Nd) (hx : x.Ok) : keyOf Tryz.prog 45 x.val = some x.key := by
  unfold keyOf
  rw [Tryz.underlying45]
  simp only [keyType_nd, formed_nd, Bool.and_self, if_true]
  rw [size_types, lits_at _ x hx]
  rfl
theorem key_inj {x y : Nd} (hx : x.Ok) (hy : y.Ok) (h : x.key = y.key) : x = y :=
  Nd.val_inj (law_nd.inj (key_nd x hx) (by rw [h]; exact key_nd y hy))

theorem equal_nd (x y : Nd) (hx : x.Ok) (hy : y.Ok) (W : World) : (Op.equalIn 10000 45 x.val y.val).run Tryz.prog W = .ok (decide (x = y)) W := by
  obtain ⟨r, hr, hi⟩ := run_equalIn_deep 9997 3 45 deep_nd W 3 3 x.val y.val x.lits y.lits (formed_nd x) (formed_nd y) (lits_at 0 x hx) (lits_at 0 y hy)
  have : r = decide (x = y) := by
    by_cases e : x = y
    · subst e; simp [hi.2 rfl]
    · have : ¬ r = true := fun h => e (Nd.lits_inj (hi.1 h))
      simp [e, this]
  rw [this] at hr
  exact hr
theorem eql_nd (x y : Nd) (hx : x.Ok) (hy : y.Ok) (W : World) : (binOp .eql 45 x.val y.val).run Tryz.prog W = .ok (.bool (decide (x = y))) W := by
  have h := equal_nd x y hx hy W
  unfold Nd.val at h ⊢
  rw [run_eql_struct, h]
  rfl
theorem neq_nd (x y : Nd) (hx : x.Ok) (hy : y.Ok) (W : World) : (binOp .neq 45 x.val y.val).run Tryz.prog W = .ok (.bool (decide (¬ x = y))) W := by
  have h := equal_nd x y hx hy W
  unfold Nd.val at h ⊢
  rw [run_neq_struct, h]
  simp

theorem eql_map (r : Option Nat) (W : World) : (binOp .eql 56 (.map r) (.map none)).run Tryz.prog W = .ok (.bool r.isNone) W := by
  simp only [binOp]
  simp [Op.equal, Op.maxDepth, run_equalIn_map_nil _ _ _ _ _ _ Tryz.underlying56]
theorem zero_int (W : World) : (zeroValue 3).run Tryz.prog W = .ok (.int .i64 0) W := by kernel_rfl

/-- What the map of the store reads as. -/
structure Table {H : Type} (L : List Nd) (D : DataW H) : Prop where
  isMap : IsMap D
  has : ∀ x : Nd, x.Ok → Maps.has D x.key = decide (x ∈ L)
  get : ∀ x : Nd, x.Ok → x ∈ L → ∀ z, D.atKey x.key z = .lit (.int .i64 ((idx L x : Nat) : Int))

theorem table_nil {H : Type} : Table [] (.map [] : DataW H) := ⟨isMap_empty, fun x _ => by simp [has_eq], fun x _ h => by simp at h⟩

theorem idx_lt {L : List Nd} {x : Nd} (h : x ∈ L) : idx L x < L.length := by
  unfold idx
  exact List.findIdx_lt_length_of_exists ⟨x, h, by simp⟩
theorem idx_append_old {L : List Nd} {x y : Nd} (h : x ∈ L) : idx (L ++ [y]) x = idx L x := by
  unfold idx
  rw [List.findIdx_append, if_pos]
  exact List.findIdx_lt_length_of_exists ⟨x, h, by simp⟩
theorem idx_append_new {L : List Nd} {x : Nd} (h : ¬ x ∈ L) : idx (L ++ [x]) x = L.length := by
  unfold idx
  rw [List.findIdx_append, if_neg]
  · simp [List.findIdx_cons]
  · intro hc
    have := (List.findIdx_lt_length).1 hc
    obtain ⟨y, hy, e⟩ := this
    simp at e
    subst e
    exact h hy

theorem Table.add {H : Type} {L : List Nd} {D : DataW H} (h : Table L D) (_hL : ∀ x ∈ L, x.Ok) {x : Nd} (hx : x.Ok) (hn : ¬ x ∈ L) :
    Table (L ++ [x]) (D.put x.key (.lit (.int .i64 ((L.length : Nat) : Int)))) := by
  have hk : WideAt.IsKeyLit x.key := law_nd.key (key_nd x hx)
  refine ⟨h.isMap.put _ _, ?_, ?_⟩
  · intro y hy
    by_cases e : y = x
    · subst e; rw [has_put_same h.isMap hk]; simp
    · rw [has_put_other (fun c => e (key_inj hy hx c)), h.has y hy]; simp [e]
  · intro y hy hm z
    by_cases e : y = x
    · subst e; rw [atKey_put_same h.isMap hk, idx_append_new hn]
    · have hm' : y ∈ L := by simpa [e] using hm
      rw [atKey_put_other (fun c => e (key_inj hy hx c)), h.get y hy hm', idx_append_old hm']

end Tm
end Go.Proofs.YtbemkaninedonaaGreatDoor

namespace Go.Proofs.YtbemkaninedonaaGreatDoor
open Go.RowKit
namespace Bv
set_option maxHeartbeats 400000

theorem ret_u64 {a b : Int} (h : a = b) : Ending.returned (.int .u64 a) = .returned (.int .u64 b) := by rw [h]
theorem ret_i64 {a b : Int} (h : a = b) : Ending.returned (.int .i64 a) = .returned (.int .i64 b) := by rw [h]
theorem ret_bool {a b : Bool} (h : a = b) : Ending.returned (.bool a) = .returned (.bool b) := by rw [h]

theorem mask_any (w : Nat) (h1 : 1 ≤ w) (h2 : w ≤ 64) (W : World) :
    Calls Tryz.prog 49 #[.int .u8 w] W fun e W' => e = .returned (.int .u64 ((2 ^ w - 1 : Nat) : Int)) ∧ W = W' := by
  go_enter Tryz.func49, Tryz.ntmps49
  go_wp2
  go_ret
  exact ⟨ret_u64 (mask_div_int h2), rfl⟩

theorem rmask_any (w : Nat) (h2 : w ≤ 64) (W : World) :
    Calls Tryz.prog 73 #[.int .u8 w] W fun e W' => e = .returned (.int .u64 ((2 ^ w - 1 : Nat) : Int)) ∧ W = W' := by
  by_cases h : w < 64
  · go_enter Tryz.func73, Tryz.ntmps73
    go_wp2
    go_ret
    exact ⟨ret_u64 (rmask64 h), rfl⟩
  · obtain rfl : w = 64 := by omega
    go_enter Tryz.func73, Tryz.ntmps73
    go_wp2
    go_ret
    exact ⟨ret_u64 (by decide), rfl⟩

theorem bit_any (b : Bool) (W : World) :
    Calls Tryz.prog 84 #[.bool b] W fun e W' => e = .returned (.int .u64 ((b.toNat : Nat) : Int)) ∧ W = W' := by
  cases b
  all_goals
    go_enter Tryz.func84, Tryz.ntmps84
    go_wp2
    go_ret
    exact ⟨rfl, rfl⟩

theorem flag_any (b : Bool) (W : World) :
    Calls Tryz.prog 62 #[.bool b] W fun e W' => e = .returned (.agg #[.int .u8 1, .int .u64 ((b.toNat : Nat) : Int)]) ∧ Below W.heap.size W W' := by
  cases b
  all_goals
    go_enter Tryz.func62, Tryz.ntmps62
    go_wp2
    exact bodyPost_ret (v := .agg #[.int .u8 1, .int .u64 _]) (by simp [results, Tryz.results62, go_sem]) rfl ⟨rfl, (Below.refl _ _).alloc (Nat.le_refl _) _⟩

theorem cut_any (w : Nat) (h1 : 1 ≤ w) (h2 : w ≤ 64) (n : Int) (hn0 : 0 ≤ n) (hn : n < 18446744073709551616) (W : World) :
    Calls Tryz.prog 69 #[.int .u8 w, .int .u64 n] W fun e W' => e = .returned (.agg #[.int .u8 w, .int .u64 ((low w n.toNat : Nat) : Int)]) ∧ Below W.heap.size W W' := by
  go_enter Tryz.func69, Tryz.ntmps69
  go_wp2_with (go_at_call 49; refine (mask_any _ h1 h2 _).mono ?_; rintro e w' ⟨rfl, rfl⟩)
  exact bodyPost_ret (v := .agg #[.int .u8 w, .int .u64 ((low w n.toNat : Nat) : Int)]) (by simp [results, Tryz.results69, go_sem, and64 n hn0 hn h2]) rfl ⟨rfl, (Below.refl _ _).alloc (Nat.le_refl _) _⟩

theorem rcut_any (w : Nat) (h2 : w ≤ 64) (n : Int) (hn0 : 0 ≤ n) (hn : n < 18446744073709551616) (W : World) :
    Calls Tryz.prog 55 #[.int .u8 w, .int .u64 n] W fun e W' => e = .returned (.agg #[.int .u8 w, .int .u64 ((low w n.toNat : Nat) : Int)]) ∧ Below W.heap.size W W' := by
  go_enter Tryz.func55, Tryz.ntmps55
  go_wp2_with (go_at_call 73; refine (rmask_any _ h2 _).mono ?_; rintro e w' ⟨rfl, rfl⟩)
  exact bodyPost_ret (v := .agg #[.int .u8 w, .int .u64 ((low w n.toNat : Nat) : Int)]) (by simp [results, Tryz.results55, go_sem, and64 n hn0 hn h2]) rfl ⟨rfl, (Below.refl _ _).alloc (Nat.le_refl _) _⟩

theorem worth_any (w n : Nat) (h1 : 1 ≤ w) (h2 : w ≤ 64) (hn : n < 2 ^ w) (W : World) :
    Calls Tryz.prog 70 #[.agg #[.int .u8 w, .int .u64 n]] W fun e W' => e = .returned (.int .i64 (wo w n)) ∧ Below W.heap.size W W' := by
  go_enter Tryz.func70, Tryz.ntmps70
  go_wp2
  go_ret
  exact ⟨ret_i64 (by unfold wrap64; rw [← IntKind.wrap_i64]; simp only [IntKind.wrap_u64]; exact worth_shift h1 h2 hn), (Below.refl _ _).alloc (Nat.le_refl _) _⟩

theorem rbit_any (w n : Nat) (hn : n < 18446744073709551616) (i : Int) (hi : 0 ≤ i) (hi2 : i < 9223372036854775808) (W : World) :
    Calls Tryz.prog 75 #[.agg #[.int .u8 w, .int .u64 n], .int .i64 i] W fun e W' => e = .returned (.bool (n.testBit i.toNat)) ∧ Below W.heap.size W W' := by
  go_enter Tryz.func75, Tryz.ntmps75
  go_wp2
  go_ret
  exact ⟨ret_bool (bit64 hn hi), (Below.refl _ _).alloc (Nat.le_refl _) _⟩

theorem rsign_any (w n : Nat) (h1 : 1 ≤ w) (h2 : w ≤ 64) (hn : n < 2 ^ w) (W : World) :
    Calls Tryz.prog 74 #[.agg #[.int .u8 w, .int .u64 n]] W fun e W' => e = .returned (.bool (decide (2 ^ (w - 1) ≤ n))) ∧ Below W.heap.size W W' := by
  have hl := pow_le64 h2
  go_enter Tryz.func74, Tryz.ntmps74
  go_wp2_with (go_at_call 75; refine (rbit_any w n (by omega) _ (by omega) (by omega) _).mono ?_; rintro e w1 ⟨rfl, hb⟩)
  go_ret
  exact ⟨ret_bool (by rw [← sign_iff h1 hn]), ((Below.refl _ _).alloc (Nat.le_refl _) _).trans (hb.mono (by simp))⟩

theorem may_any (w n : Nat) (W : World) :
    Calls Tryz.prog 33 #[.agg #[.int .u8 w, .int .u64 n]] W fun e W' => e = .returned (.bool (mayB w n)) ∧ Below W.heap.size W W' := by
  by_cases h1 : 1 ≤ w
  · have d1 : decide ((1 : Int) ≤ (w : Int)) = true := by simp; omega
    by_cases h2 : w ≤ 64
    · have d2 : decide ((w : Int) ≤ (64 : Int)) = true := by simp; omega
      go_enter Tryz.func33, Tryz.ntmps33
      go_wp2
      go_quiet ((go_at_call 49; exact Calls.quiet_of_same ((mask_any w h1 h2 _).mono fun _ _ h => ⟨h.1, h.2.symm⟩)))
      go_wp2
      go_ret
      exact ⟨ret_bool (decide_eq_decide.2 ⟨fun h => ⟨h1, h2, by have := pow_pos' w; omega⟩, fun h => by have := h.2.2; omega⟩), below_drewN ((Below.refl _ _).alloc (Nat.le_refl _) _) _⟩
    · have d2 : decide ((w : Int) ≤ (64 : Int)) = false := by simp; omega
      go_enter Tryz.func33, Tryz.ntmps33
      go_wp2
      go_quiet (fail)
      go_wp2
      go_ret
      exact ⟨ret_bool (by unfold mayB; simp; omega), below_drewN ((Below.refl _ _).alloc (Nat.le_refl _) _) _⟩
  · have d1 : decide ((1 : Int) ≤ (w : Int)) = false := by simp; omega
    go_enter Tryz.func33, Tryz.ntmps33
    go_wp2
    go_quiet (fail)
    go_wp2
    go_ret
    exact ⟨ret_bool (by unfold mayB; simp; omega), below_drewN ((Below.refl _ _).alloc (Nat.le_refl _) _) _⟩

theorem rmay_any (w n : Nat) (hn : n < 18446744073709551616) (W : World) :
    Calls Tryz.prog 36 #[.agg #[.int .u8 w, .int .u64 n]] W fun e W' => e = .returned (.bool (mayB w n)) ∧ Below W.heap.size W W' := by
  by_cases h1 : 1 ≤ w
  · have d1 : decide ((1 : Int) ≤ (w : Int)) = true := by simp; omega
    by_cases h2 : w ≤ 64
    · have d2 : decide ((w : Int) ≤ (64 : Int)) = true := by simp; omega
      by_cases h3 : w = 64
      · have d3 : ((w : Int) == 64) = true := by simp; omega
        go_enter Tryz.func36, Tryz.ntmps36
        go_wp2
        go_ret
        exact ⟨ret_bool (by unfold mayB; subst h3; simp; omega), (Below.refl _ _).alloc (Nat.le_refl _) _⟩
      · have d3 : ((w : Int) == 64) = false := by simp; omega
        go_enter Tryz.func36, Tryz.ntmps36
        go_wp2
        go_ret
        exact ⟨ret_bool (may_shr h1 h2), (Below.refl _ _).alloc (Nat.le_refl _) _⟩
    · have d2 : decide ((w : Int) ≤ (64 : Int)) = false := by simp; omega
      go_enter Tryz.func36, Tryz.ntmps36
      go_wp2
      go_ret
      exact ⟨ret_bool (by unfold mayB; simp; omega), (Below.refl _ _).alloc (Nat.le_refl _) _⟩
  · have d1 : decide ((1 : Int) ≤ (w : Int)) = false := by simp; omega
    go_enter Tryz.func36, Tryz.ntmps36
    go_wp2
    go_ret
    exact ⟨ret_bool (by unfold mayB; simp; omega), (Below.refl _ _).alloc (Nat.le_refl _) _⟩
end Bv
end Go.Proofs.YtbemkaninedonaaGreatDoor

namespace Go.Proofs.YtbemkaninedonaaGreatDoor
open Go.RowKit
namespace Bv
set_option maxHeartbeats 400000

theorem bcell {W w1 : World} (hb : Below W.heap.size W w1) : (∀ b o, b < W.heap.size → w1.cell? ⟨b, o, none⟩ = W.cell? ⟨b, o, none⟩) ∧ (∀ b o, b < W.heap.size → w1.frozen? ⟨b, o, none⟩ = W.frozen? ⟨b, o, none⟩) :=
  ⟨fun b o h => hb.cell (p := ⟨b, o, none⟩) h, fun b o h => hb.frozen (p := ⟨b, o, none⟩) h⟩
theorem bel_call {W w w' : World} (h : Below W.heap.size W w) (k : Below w.heap.size w w') : Below W.heap.size W w' := h.trans (k.mono h.size)
theorem bel_alloc {W w : World} (h : Below W.heap.size W w) (o : Obj) : Below W.heap.size W (w.alloc o) := h.alloc h.size o
theorem bel_drewN {W w : World} (h : Below W.heap.size W w) (n : Nat) : Below W.heap.size W (w.drewN n) := below_drewN h n

theorem rneg_any (w n : Nat) (h2 : w ≤ 64) (hn : n < 18446744073709551616) (W : World) :
    Calls Tryz.prog 57 #[.agg #[.int .u8 w, .int .u64 n]] W fun e W' => e = .returned (.agg #[.int .u8 w, .int .u64 ((low w (18446744073709551616 - n) : Nat) : Int)]) ∧ Below W.heap.size W W' := by
  go_enter Tryz.func57, Tryz.ntmps57
  go_wp2_with fail
  have e : low w (IntKind.u64.wrap (bits BinOp.xor IntKind.u64 IntKind.u64.max (n : Int) + 1)).toNat = low w (18446744073709551616 - n) := by
    rw [notmax hn, IntKind.wrap_u64, show ((((18446744073709551615 - n : Nat) : Int) + 1) % 18446744073709551616).toNat = (18446744073709551616 - n) % 18446744073709551616 by omega, low_mod64 _ h2]
  refine (rcut_any w h2 _ (by rw [IntKind.wrap_u64]; omega) (by rw [IntKind.wrap_u64]; omega) _).mono ?_
  rw [e]
  rintro e w1 ⟨rfl, hb⟩
  obtain ⟨hc, hf⟩ := bcell hb
  clear e
  go_wp2
  refine bodyPost_ret (v := .agg #[.int .u8 w, .int .u64 ((low w (18446744073709551616 - n) : Nat) : Int)]) (by simp [results, Tryz.results57, go_sem, hc]) rfl ⟨rfl, ?_⟩
  exact ((bel_call (bel_alloc (bel_alloc (Below.refl _ _) _) _) hb).setCell (by simp) _).setCell (by simp) _

theorem width_same (o v w : Nat) (h1 : 5 ≤ o) (h2 : o ≤ 17) (W : World) :
    Calls Tryz.prog 71 #[.int .u8 o, .int .u8 v, .int .u8 w] W fun e W' => e = .returned (.int .u8 ((if v = w then v else 0 : Nat) : Int)) ∧ W = W' := by
  by_cases hvw : v = w
  · subst hvw
    go_enter Tryz.func71, Tryz.ntmps71
    go_wp2
    all_goals (go_ret; exact ⟨rfl, rfl⟩)
  · have d1 : ((v : Int) == (w : Int)) = false := by simp; omega
    go_enter Tryz.func71, Tryz.ntmps71
    go_wp2
    all_goals (go_ret; exact ⟨by simp, rfl⟩)
theorem width_test (o v w : Nat) (h1 : 18 ≤ o) (h2 : o ≤ 20) (W : World) :
    Calls Tryz.prog 71 #[.int .u8 o, .int .u8 v, .int .u8 w] W fun e W' => e = .returned (.int .u8 ((if v = w then 1 else 0 : Nat) : Int)) ∧ W = W' := by
  by_cases hvw : v = w
  · subst hvw
    go_enter Tryz.func71, Tryz.ntmps71
    go_wp2
    all_goals (go_ret; exact ⟨rfl, rfl⟩)
  · have d1 : ((v : Int) == (w : Int)) = false := by simp; omega
    go_enter Tryz.func71, Tryz.ntmps71
    go_wp2
    all_goals (go_ret; exact ⟨by simp, rfl⟩)
theorem width_concat (v w : Nat) (hv : v ≤ 64) (hw : w ≤ 64) (W : World) :
    Calls Tryz.prog 71 #[.int .u8 21, .int .u8 v, .int .u8 w] W fun e W' => e = .returned (.int .u8 ((if v + w ≤ 64 then v + w else 0 : Nat) : Int)) ∧ W = W' := by
  by_cases hvw : v + w ≤ 64
  · have d1 : decide ((v : Int) ≤ 64 - (w : Int)) = true := by simp; omega
    go_enter Tryz.func71, Tryz.ntmps71
    go_wp2
    all_goals (go_ret; exact ⟨by simp, rfl⟩)
  · have d1 : decide ((v : Int) ≤ 64 - (w : Int)) = false := by simp; omega
    go_enter Tryz.func71, Tryz.ntmps71
    go_wp2
    all_goals (go_ret; exact ⟨by simp, rfl⟩)
theorem width_none (o v w : Nat) (h1 : o < 5 ∨ 21 < o) (W : World) :
    Calls Tryz.prog 71 #[.int .u8 o, .int .u8 v, .int .u8 w] W fun e W' => e = .returned (.int .u8 0) ∧ W = W' := by
  rcases h1 with h1 | h1
  all_goals
    go_enter Tryz.func71, Tryz.ntmps71
    go_wp2
    go_ret
    exact ⟨rfl, rfl⟩

end Bv
end Go.Proofs.YtbemkaninedonaaGreatDoor
