/-
What is put is got as the same number: plain facts.
What is got is put as the same text: plain facts.
-/
import Derived.Test.YtbemkaninedonaaGreatDoorPt02
namespace Go.Proofs.YtbemkaninedonaaGreatDoor
open Bv Tm
namespace Tx
set_option maxHeartbeats 800000

theorem may_same {L : List Nd} (hm : MayL L) {k : Nat} {x : Nd} (hx : L[k]? = some x) : mayN L x = true := by
  have h := hm k x hx
  have hkl : k < L.length := (List.getElem?_eq_some_iff.1 hx).1
  have ho := mayN_own h
  have hkids : kidsB L x = true := by
    unfold kidsB
    simp only [decide_eq_true_eq]
    intro i hi
    have := mayL_kids hm hx i hi
    unfold inB
    simp only [decide_eq_true_eq]
    omega
  unfold mayN
  rw [hkids]
  simp only [Bool.and_true, Bool.and_eq_true, decide_eq_true_eq]
  refine ⟨ho, ?_⟩
  by_cases h1 : x.o = 1
  · rw [if_pos h1]; exact mayL_const hm hx h1
  rw [if_neg h1]
  by_cases h2 : x.o = 2
  · rw [if_pos h2]
    unfold mayN at h
    rw [if_neg h1, if_pos h2] at h
    simp only [Bool.and_eq_true] at h
    simp only [Bool.and_eq_true]
    exact h.2
  rw [if_neg h2]
  have := mayL_vec hm hx h1 h2
  simp only [Bool.and_eq_true, decide_eq_true_eq]
  exact this

theorem idx_here {L : List Nd} {x : Nd} (h : x ∈ L) : L[idx L x]? = some x := by
  have hl : idx L x < L.length := List.findIdx_lt_length_of_exists ⟨x, h, by simp⟩
  have hi := List.findIdx_getElem (xs := L) (p := fun y => decide (y = x)) (w := hl)
  simp at hi
  rw [List.getElem?_eq_getElem hl]
  show some L[idx L x] = some x
  unfold idx
  rw [hi]
theorem mk_same {L : List Nd} (g : Gd L) (hm : MayL L) {k : Nat} {x : Nd} (hx : L[k]? = some x) : mk L x = (L, k, 0) := by
  have hin : x ∈ L := List.mem_of_getElem? hx
  have hkl : k < L.length := (List.getElem?_eq_some_iff.1 hx).1
  have hi : idx L x = k := by
    have h1 := idx_here hin
    have h2 : idx L x < L.length := (List.getElem?_eq_some_iff.1 h1).1
    exact (List.getElem?_inj h2 g.nodup).1 (h1.trans hx.symm)
  unfold mk
  rw [if_neg (by simp [may_same hm hx]), if_neg, if_pos hin, hi]
  rintro ⟨h1, _, h3⟩
  exact h3 (g.wd x hin h1)

theorem wid_same {L : List Nd} (hm : MayL L) {k : Nat} {x : Nd} (hx : L[k]? = some x) : widB L x = x.w := by
  have hw := mayN_w (may_same hm hx)
  have hop := mayN_op (may_same hm hx)
  unfold widB
  by_cases h0 : x.o = 1 ∨ x.o = 2 ∨ x.o = 22 ∨ x.o = 23 ∨ x.o = 24
  · rw [if_pos h0]
  rw [if_neg h0]
  have hv := mayL_vec hm hx (by omega) (by omega)
  unfold vecW at hv
  by_cases h3 : x.o = 3 ∨ x.o = 4
  · have hk : kc x.o = 1 := by unfold kc; rw [if_pos (by omega)]
    rw [if_pos h3] at hv
    rw [if_neg (by omega), if_neg (by omega), if_neg (by omega)]
    have h0 : wid L x 0 = widAt L x.k0 := by unfold wid; rw [if_pos (by omega)]; rfl
    rw [h0] at hv
    by_cases hc : 1 ≤ widAt L x.k0 ∧ widAt L x.k0 ≤ 64
    · rw [if_pos hc] at hv; exact hv.2
    · rw [if_neg hc] at hv; exact absurd rfl hv.1
  rw [if_neg h3, if_neg (by omega), if_neg (by omega)] at hv
  by_cases h25 : x.o = 25
  · rw [if_pos h25] at hv
    rw [if_neg (by omega), if_neg (by omega), if_pos h25]
    have hk : kc x.o = 3 := by rw [h25]; decide
    have h1 : wid L x 1 = widAt L x.k1 := by unfold wid; rw [if_pos (by omega)]; rfl
    rw [h1] at hv
    by_cases hc : wid L x 0 = 1 ∧ widAt L x.k1 = wid L x 2 ∧ 1 ≤ widAt L x.k1 ∧ widAt L x.k1 ≤ 64
    · rw [if_pos hc] at hv; exact hv.2
    · rw [if_neg hc] at hv; exact absurd rfl hv.1
  rw [if_neg h25] at hv
  have hk : kc x.o = 2 := by unfold kc; rw [if_neg (by omega), if_pos (by omega)]
  have h0 : wid L x 0 = widAt L x.k0 := by unfold wid; rw [if_pos (by omega)]; rfl
  have h1 : wid L x 1 = widAt L x.k1 := by unfold wid; rw [if_pos (by omega)]; rfl
  rw [h0, h1] at hv
  by_cases hc : 1 ≤ widAt L x.k0 ∧ widAt L x.k0 ≤ 64 ∧ 1 ≤ widAt L x.k1 ∧ widAt L x.k1 ≤ 64
  · rw [if_pos hc] at hv
    unfold widthB at hv
    by_cases ha : 18 ≤ x.o ∧ x.o ≤ 20
    · rw [if_pos (by omega)]
      rw [if_neg (by omega), if_pos ha] at hv
      by_cases he : widAt L x.k0 = widAt L x.k1
      · rw [if_pos he] at hv; exact hv.2
      · rw [if_neg he] at hv; exact absurd rfl hv.1
    rw [if_neg (by omega)]
    by_cases hb : x.o = 21
    · rw [if_pos hb]
      rw [if_neg (by omega), if_neg (by omega), if_pos hb] at hv
      by_cases he : widAt L x.k0 + widAt L x.k1 ≤ 64
      · rw [if_pos he] at hv; omega
      · rw [if_neg he] at hv; exact absurd rfl hv.1
    rw [if_neg hb, if_neg h25]
    rw [if_pos (by omega)] at hv
    by_cases he : widAt L x.k0 = widAt L x.k1
    · rw [if_pos he] at hv; exact hv.2
    · rw [if_neg he] at hv; exact absurd rfl hv.1
  · rw [if_neg hc] at hv; exact absurd rfl hv.1

/-! ### names -/
theorem nm_letters (o : Nat) : ∀ c ∈ nm o, inR 97 122 c = true := by
  by_cases h : o < 26
  · have : ∀ o : Fin 26, ∀ c ∈ nm o.val, inR 97 122 c = true := by decide +kernel
    exact this ⟨o, h⟩
  · have : nm o = [] := by
      unfold nm
      rw [List.getD_eq_getElem?_getD, List.getElem?_eq_none (show nameL.length ≤ o by simp [nameL]; omega)]
      rfl
    rw [this]; simp
theorem opN_nm {o : Nat} (h : 3 ≤ o ∧ o ≤ 25) : opN (nm o) = o := by
  have : ∀ o : Fin 26, 3 ≤ o.val → opN (nm o.val) = o.val := by decide +kernel
  exact this ⟨o, by omega⟩ h.1

/-! ### the head of an operator's text -/
theorem need_same (c : UInt8) (r : By) : need c (c :: r) = some r := by simp [need]
theorem head_back {x : Nd} (ho : 3 ≤ x.o ∧ x.o ≤ 25) (hw : x.w ≤ 64) (hl : x.l ≤ 255) (r : By) :
    headP (nm x.o ++ ((if x.o = 22 then 32 :: dec x.l else []) ++ (if x.o = 22 ∨ x.o = 23 ∨ x.o = 24 then 32 :: dec x.w else [])) ++ 32 :: r) = some (⟨x.o, if x.o = 22 ∨ x.o = 23 ∨ x.o = 24 then x.w else 0, 0, 0, 0, 0, if x.o = 22 then x.l else 0⟩, 32 :: r) := by
  have h32 : inR 97 122 32 = false := by decide
  have d32 : ∀ s : By, NoDig (32 :: s) := fun s => noDig_cons (by decide)
  obtain ⟨q, hq⟩ : ∃ q : By, (if x.o = 22 then 32 :: dec x.l else []) ++ (if x.o = 22 ∨ x.o = 23 ∨ x.o = 24 then 32 :: dec x.w else []) ++ 32 :: r = 32 :: q := by
    by_cases h22 : x.o = 22
    · exact ⟨_, by rw [if_pos h22, if_pos (.inl h22)]; rfl⟩
    · rw [if_neg h22]
      by_cases h23 : x.o = 22 ∨ x.o = 23 ∨ x.o = 24
      · exact ⟨_, by rw [if_pos h23]; rfl⟩
      · exact ⟨_, by rw [if_neg h23]; rfl⟩
  have ht := take_dig (p := inR 97 122) (a := nm x.o) (r := 32 :: q) (nm_letters x.o) (fun c s e => by injection e with e1 e2; rw [← e1]; exact h32)
  rw [List.append_assoc, hq]
  unfold headP
  simp only []
  rw [ht.1, ht.2, opN_nm ho, if_neg (by omega)]
  have hw8 : x.w ≤ 255 := by omega
  by_cases h22 : x.o = 22
  · have hq' : q = dec x.l ++ 32 :: (dec x.w ++ 32 :: r) := by
      simp only [h22, true_or, if_true] at hq
      simpa using hq.symm
    rw [if_pos h22, need_same, Option.bind_some, hq', sho_dec hl (d32 _), Option.bind_some, need_same, Option.bind_some, sho_dec hw8 (d32 _)]
    simp [h22]
  · rw [if_neg h22]
    by_cases h23 : x.o = 23 ∨ x.o = 24
    · have hq' : q = dec x.w ++ 32 :: r := by
        simp only [h22, h23, false_or, if_true, if_false] at hq
        simpa using hq.symm
      rw [if_pos h23, need_same, Option.bind_some, hq', sho_dec hw8 (d32 _)]
      simp [h22, h23]
    · have hq' : q = r := by
        simp only [h22, h23, false_or, if_false] at hq
        simpa using hq.symm
      rw [if_neg h23, hq']
      simp [h22, h23]

/-! ### nodes that are read back -/
/-- The text of the node k is read as nodes that make it again. -/
def Back (L : List Nd) (k : Nat) : Prop :=
  ∀ (f : Nat) (r : By) (ns : List Nd), (txt L k).length ≤ f → NoDig r → ∃ ns', nodeP f (txt L k ++ r) ns = some (r, ns ++ ns') ∧ 0 < ns'.length ∧
    ∀ (ids : List Nat) (tail : List Nd) (last : Nat), ids.length = ns.length → ∃ ids', ids'.length = ns'.length ∧ (ids ++ ids').getD (ns.length + ns'.length - 1) 0 = k ∧ bd (ns' ++ tail) ids L last = bd tail (ids ++ ids') L k

theorem setKid_o_b (x : Nd) (i : Nat) (v : Int) : (setKid x i v).o = x.o ∧ (setKid x i v).w = x.w ∧ (setKid x i v).n = x.n ∧ (setKid x i v).l = x.l := by
  unfold setKid
  split <;> exact ⟨rfl, rfl, rfl, rfl⟩
theorem setKid_same (x : Nd) {i : Nat} (h : i < 3) (v : Int) : (setKid x i v).kid i = v := by
  match i, h with
  | 0, _ => rfl
  | 1, _ => rfl
  | 2, _ => rfl
theorem setKid_other (x : Nd) {i j : Nat} (hi : i < 3) (hj : j < 3) (h : ¬ j = i) (v : Int) : (setKid x i v).kid j = x.kid j := by
  match i, hi, j, hj with
  | 0, _, 0, _ => exact absurd rfl h
  | 0, _, 1, _ => rfl
  | 0, _, 2, _ => rfl
  | 1, _, 0, _ => rfl
  | 1, _, 1, _ => exact absurd rfl h
  | 1, _, 2, _ => rfl
  | 2, _, 0, _ => rfl
  | 2, _, 1, _ => rfl
  | 2, _, 2, _ => exact absurd rfl h

/-- The texts of m kids from i on. -/
def kidsR (T : Nat → By) (y : Nd) : Nat → Nat → By
  | _, 0 => []
  | i, m + 1 => 32 :: (T (y.kid i).toNat ++ kidsR T y (i + 1) m)
theorem kidsR_snoc (T : Nat → By) (y : Nd) : ∀ (m i : Nat), kidsR T y i (m + 1) = kidsR T y i m ++ 32 :: T (y.kid (i + m)).toNat
  | 0, i => by simp [kidsR]
  | m + 1, i => by
    rw [kidsR, kidsR_snoc T y m (i + 1), kidsR, show i + 1 + m = i + (m + 1) by omega]
    simp
theorem kidsT_R (T : Nat → By) (y : Nd) : ∀ c, kidsT T y c = kidsR T y 0 c
  | 0 => rfl
  | c + 1 => by
    rw [kidsR_snoc, kidsT, kidsT_R T y c, Nat.zero_add]

theorem kids_back {L : List Nd} {y : Nd} {f : Nat} {r : By} (hr : NoDig r) : ∀ (m i : Nat) (x : Nd) (ns : List Nd), i + m ≤ 3 → (∀ j, i ≤ j → j < i + m → Back L (y.kid j).toNat ∧ (txt L (y.kid j).toNat).length ≤ f) →
    ∃ (ns' : List Nd) (x' : Nd), kidsP (nodeP f) m i x (kidsR (txt L) y i m ++ r) ns = some (x', r, ns ++ ns') ∧ x'.o = x.o ∧ x'.w = x.w ∧ x'.n = x.n ∧ x'.l = x.l ∧ (∀ j, j < 3 → (j < i ∨ i + m ≤ j) → x'.kid j = x.kid j) ∧
      ∀ (ids : List Nat) (tail : List Nd) (last : Nat), ids.length = ns.length → ∃ (ids' : List Nat) (last' : Nat), ids'.length = ns'.length ∧ bd (ns' ++ tail) ids L last = bd tail (ids ++ ids') L last' ∧
        ∀ j, i ≤ j → j < i + m → (x'.kid j).toNat < (ids ++ ids').length ∧ (ids ++ ids').getD (x'.kid j).toNat 0 = (y.kid j).toNat
  | 0, i, x, ns, _, _ => ⟨[], x, by simp [kidsP, kidsR], rfl, rfl, rfl, rfl, fun _ _ _ => rfl, fun ids tail last _ => ⟨[], last, rfl, by simp, fun j h1 h2 => absurd h2 (by omega)⟩⟩
  | m + 1, i, x, ns, h3, hk => by
    obtain ⟨hb, hf⟩ := hk i (Nat.le_refl _) (by omega)
    obtain ⟨n1, e1, p1, b1⟩ := hb f (kidsR (txt L) y (i + 1) m ++ r) ns hf (by
      cases m with
      | zero => simpa [kidsR] using hr
      | succ m => exact noDig_cons (by decide))
    obtain ⟨n2, x', e2, ho, hw, hn, hl, hkeep, b2⟩ := kids_back hr m (i + 1) (setKid x i (((ns ++ n1).length - 1 : Nat) : Int)) (ns ++ n1) (by omega) (fun j h1 h2 => hk j (by omega) (by omega))
    have hs := setKid_o_b x i (((ns ++ n1).length - 1 : Nat) : Int)
    refine ⟨n1 ++ n2, x', ?_, ho.trans hs.1, hw.trans hs.2.1, hn.trans hs.2.2.1, hl.trans hs.2.2.2, ?_, ?_⟩
    · rw [kidsR, kidsP]
      rw [show (32 :: (txt L (y.kid i).toNat ++ kidsR (txt L) y (i + 1) m) ++ r : By) = 32 :: (txt L (y.kid i).toNat ++ (kidsR (txt L) y (i + 1) m ++ r)) by simp, need_same, Option.bind_some, e1, Option.bind_some, e2]
      simp
    · intro j hj hc
      rw [hkeep j hj (by omega)]
      exact setKid_other x (by omega) hj (by omega) _
    · intro ids tail last hids
      obtain ⟨i1, l1, g1, c1⟩ := b1 ids (n2 ++ tail) last hids
      obtain ⟨i2, last2, l2, c2, d2⟩ := b2 (ids ++ i1) tail (y.kid i).toNat (by simp [hids, l1])
      refine ⟨i1 ++ i2, last2, by simp [l1, l2], by rw [List.append_assoc, c1, c2, List.append_assoc], fun j h1 h2 => ?_⟩
      rw [← List.append_assoc]
      by_cases hj : j = i
      · subst hj
        have e3 : x'.kid j = (((ns ++ n1).length - 1 : Nat) : Int) := by
          rw [hkeep j (by omega) (by omega)]
          exact setKid_same x (by omega) _
        rw [e3]
        have e4 : ((((ns ++ n1).length - 1 : Nat) : Int)).toNat = ns.length + n1.length - 1 := by simp
        rw [e4]
        have hlt : ns.length + n1.length - 1 < (ids ++ i1).length := by simp [hids, l1]; omega
        refine ⟨by rw [List.length_append]; omega, ?_⟩
        rw [List.getD_eq_getElem?_getD, List.getElem?_append_left hlt, ← List.getD_eq_getElem?_getD]
        exact g1
      · exact d2 j (by omega) (by omega)

/-- The node that is made of one that was read: the one that was there. -/
theorem node_here {L : List Nd} (hm : MayL L) {k : Nat} {y x' : Nd} {ids : List Nat} (hy : L[k]? = some y) (ho : x'.o = y.o) (hw : y.o = 1 ∨ y.o = 2 ∨ y.o = 22 ∨ y.o = 23 ∨ y.o = 24 → x'.w = y.w) (hn : x'.n = y.n) (hl : x'.l = y.l)
    (hz : ∀ j, j < 3 → kc y.o ≤ j → x'.kid j = 0) (hk : ∀ j, j < kc y.o → ids.getD (x'.kid j).toNat 0 = (y.kid j).toNat) : nodeB L ids x' = y := by
  have hown := mayN_own (may_same hm hy)
  have hwd := wid_same hm hy
  have hkid : ∀ j, j < kc y.o → 0 ≤ y.kid j := fun j hj => (mayL_kids hm hy j hj).1
  have hkc := kc_le y.o
  obtain ⟨o, w, k0, k1, k2, n, l⟩ := y
  obtain ⟨o', w', a0, a1, a2, n', l'⟩ := x'
  simp only at ho hn hl hw
  subst ho hn hl
  simp only [own, Nd.mk.injEq] at hown
  have z0 := hz 0 (by omega)
  have z1 := hz 1 (by omega)
  have z2 := hz 2 (by omega)
  have c0 := hk 0
  have c1 := hk 1
  have c2 := hk 2
  have d0 := hkid 0
  have d1 := hkid 1
  have d2 := hkid 2
  simp only [Nd.kid] at z0 z1 z2 c0 c1 c2 d0 d1 d2
  have hsub : subK ids ⟨o', w', a0, a1, a2, n', l'⟩ (kc o') = ⟨o', w', k0, k1, k2, n', l'⟩ := by
    have h3 : kc o' = 0 ∨ kc o' = 1 ∨ kc o' = 2 ∨ kc o' = 3 := by simp only at hkc; omega
    rcases h3 with h | h | h | h
    · rw [h] at hown z0 z1 z2 ⊢
      simp only [subK, Nd.mk.injEq]
      simp at hown z0 z1 z2
      refine ⟨trivial, trivial, ?_, ?_, ?_, trivial, trivial⟩ <;> omega
    · rw [h] at hown z0 z1 z2 c0 d0 ⊢
      simp only [subK, setKid, Nd.kid, Nd.mk.injEq]
      simp at hown z1 z2 c0 d0
      refine ⟨trivial, trivial, ?_, ?_, ?_, trivial, trivial⟩ <;> (try simp) <;> omega
    · rw [h] at hown z0 z1 z2 c0 c1 d0 d1 ⊢
      simp only [subK, setKid, Nd.kid, Nd.mk.injEq]
      simp at hown z2 c0 c1 d0 d1
      refine ⟨trivial, trivial, ?_, ?_, ?_, trivial, trivial⟩ <;> (try simp) <;> omega
    · rw [h] at hown z0 z1 z2 c0 c1 c2 d0 d1 d2 ⊢
      simp only [subK, setKid, Nd.kid, Nd.mk.injEq]
      simp at hown c0 c1 c2 d0 d1 d2
      refine ⟨trivial, trivial, ?_, ?_, ?_, trivial, trivial⟩ <;> (try simp) <;> omega
  unfold nodeB
  simp only []
  rw [hsub]
  simp only [Nd.mk.injEq, true_and, and_true]
  refine Eq.trans ?_ hwd
  unfold widB
  simp only []
  by_cases hc : o' = 1 ∨ o' = 2 ∨ o' = 22 ∨ o' = 23 ∨ o' = 24
  · rw [if_pos hc, if_pos hc]; exact hw hc
  · rw [if_neg hc, if_neg hc]

theorem bd_here {L : List Nd} (g : Gd L) (hm : MayL L) {k : Nat} {y x' : Nd} {ids : List Nat} {tail : List Nd} {last : Nat} (hy : L[k]? = some y) (h : nodeB L ids x' = y) : bd (x' :: tail) ids L last = bd tail (ids ++ [k]) L k := by
  simp only [bd, h, mk_same g hm hy, if_true]

theorem node_back {L : List Nd} (g : Gd L) (hm : MayL L) : ∀ k, k < L.length → Back L k := by
  intro k
  induction k using Nat.strongRecOn with
  | _ k ih =>
    intro hkl f r ns hf hr
    obtain ⟨y, hy⟩ : ∃ y, L[k]? = some y := ⟨_, List.getElem?_eq_getElem hkl⟩
    have hmy := may_same hm hy
    have hw := mayN_w hmy
    have hop := mayN_op hmy
    have hok := g.ok y (List.mem_of_getElem? hy)
    have d58 : ∀ s : By, NoDig (58 :: s) := fun s => noDig_cons (by decide)
    have hown := mayN_own hmy
    have htx := txt_is g hy
    have hpos : f ≠ 0 := by
      intro c
      subst c
      have : txt L k = [] := List.eq_nil_of_length_eq_zero (by omega)
      rw [htx] at this
      unfold bodyT hd at this
      split at this
      · simp at this
      · split at this <;> simp at this
    obtain ⟨f, rfl⟩ : ∃ f', f = f' + 1 := ⟨f - 1, by omega⟩
    by_cases h1 : y.o = 1
    · have ht : txt L k = 35 :: (dec y.w ++ 58 :: dec y.n) := by rw [htx]; unfold bodyT; rw [if_pos h1]
      refine ⟨[⟨1, y.w, 0, 0, 0, y.n, 0⟩], ?_, by simp, ?_⟩
      · rw [ht]
        simp only [nodeP, List.cons_append, if_true]
        rw [show dec y.w ++ 58 :: dec y.n ++ r = dec y.w ++ 58 :: (dec y.n ++ r) by simp, sho_dec (by omega) (d58 _), Option.bind_some, need_same, Option.bind_some, num_dec hok.n hr]
        rfl
      · intro ids tail last hids
        refine ⟨[k], rfl, by simp [← hids], ?_⟩
        have hk0 : kc y.o = 0 := by rw [h1]; decide
        exact bd_here g hm hy (node_here hm hy h1.symm (fun _ => rfl) rfl (by
          have := congrArg Nd.l hown
          simp only [own] at this
          rw [this, if_neg (by omega)]) (fun j hj _ => by match j, hj with | 0, _ => rfl | 1, _ => rfl | 2, _ => rfl) (fun j hj => by omega))
    by_cases h2 : y.o = 2
    · have ht : txt L k = 118 :: (dec y.n ++ 58 :: dec y.w) := by rw [htx]; unfold bodyT; rw [if_neg h1, if_pos h2]
      refine ⟨[⟨2, y.w, 0, 0, 0, y.n, 0⟩], ?_, by simp, ?_⟩
      · rw [ht]
        simp only [nodeP, List.cons_append]
        rw [if_neg (by decide), if_pos trivial]
        rw [show dec y.n ++ 58 :: dec y.w ++ r = dec y.n ++ 58 :: (dec y.w ++ r) by simp, num_dec hok.n (d58 _), Option.bind_some, need_same, Option.bind_some, sho_dec (by omega) hr]
        rfl
      · intro ids tail last hids
        refine ⟨[k], rfl, by simp [← hids], ?_⟩
        have hk0 : kc y.o = 0 := by rw [h2]; decide
        exact bd_here g hm hy (node_here hm hy h2.symm (fun _ => rfl) rfl (by
          have := congrArg Nd.l hown
          simp only [own] at this
          rw [this, if_neg (by omega)]) (fun j hj _ => by match j, hj with | 0, _ => rfl | 1, _ => rfl | 2, _ => rfl) (fun j hj => by omega))
    have hkc1 : 1 ≤ kc y.o := by unfold kc; (repeat' split) <;> omega
    have hkc3 := kc_le y.o
    have ht : txt L k = hd y ++ (kidsR (txt L) y 0 (kc y.o) ++ [41]) := by rw [htx, ← kidsT_R]; unfold bodyT; rw [if_neg h1, if_neg h2]
    have hlen : ∀ j, j < kc y.o → (txt L (y.kid j).toNat).length ≤ f := by
      intro j hj
      have hle := kidsT_le (T := txt L) (x := y) hj
      rw [kidsT, kidsT_R _ _ (kc y.o)] at hle
      rw [ht] at hf
      unfold hd at hf
      simp at hf hle
      omega
    obtain ⟨q, hq⟩ : ∃ q, kidsR (txt L) y 0 (kc y.o) = 32 :: q := by
      obtain ⟨c, hc⟩ : ∃ c, kc y.o = c + 1 := ⟨kc y.o - 1, by omega⟩
      rw [hc]
      exact ⟨_, rfl⟩
    have hhd := head_back (x := y) (by omega) hw.2 hok.l (q ++ 41 :: r)
    obtain ⟨n1, x', e1, ho, hw', hn, hl, hkeep, b1⟩ := kids_back (L := L) (y := y) (f := f) (r := 41 :: r) (noDig_cons (by decide)) (kc y.o) 0 ⟨y.o, if y.o = 22 ∨ y.o = 23 ∨ y.o = 24 then y.w else 0, 0, 0, 0, 0, if y.o = 22 then y.l else 0⟩ ns (by omega) (fun j _ hj => ⟨ih _ (by
        have := mayL_kids hm hy j (by omega)
        omega) (by
        have := mayL_kids hm hy j (by omega)
        omega), hlen j (by omega)⟩)
    refine ⟨n1 ++ [x'], ?_, by simp, ?_⟩
    · rw [ht]
      rw [hq] at e1 ⊢
      unfold hd
      simp only [nodeP, List.cons_append]
      rw [if_neg (by decide), if_neg (by decide), if_pos trivial]
      rw [show nm y.o ++ ((if y.o = 22 then 32 :: dec y.l else []) ++ (if y.o = 22 ∨ y.o = 23 ∨ y.o = 24 then 32 :: dec y.w else [])) ++ 32 :: (q ++ [41]) ++ r = nm y.o ++ ((if y.o = 22 then 32 :: dec y.l else []) ++ (if y.o = 22 ∨ y.o = 23 ∨ y.o = 24 then 32 :: dec y.w else [])) ++ 32 :: (q ++ 41 :: r) by simp, hhd, Option.bind_some]
      simp only []
      rw [show (32 :: (q ++ 41 :: r) : By) = 32 :: q ++ 41 :: r from rfl, e1, Option.bind_some]
      simp only []
      rw [need_same]
      simp
    · intro ids tail last hids
      obtain ⟨i1, last1, l1, c1, d1⟩ := b1 ids (x' :: tail) last hids
      refine ⟨i1 ++ [k], by simp [l1], ?_, ?_⟩
      · rw [← List.append_assoc, List.getD_eq_getElem?_getD, show ns.length + (n1 ++ [x']).length - 1 = (ids ++ i1).length by simp [hids, l1] <;> omega]
        simp
      · rw [List.append_assoc, show [x'] ++ tail = x' :: tail from rfl, c1, ← List.append_assoc]
        refine bd_here g hm hy (node_here hm hy ho (fun hc => ?_) ?_ ?_ (fun j hj hjc => ?_) (fun j hj => (d1 j (Nat.zero_le _) (by omega)).2))
        · rw [hw']
          show (if y.o = 22 ∨ y.o = 23 ∨ y.o = 24 then y.w else 0) = y.w
          exact if_pos (by omega)
        · have h0 : y.n = 0 := by
            have := congrArg Nd.n hown
            simp only [own] at this
            rw [if_neg (by omega)] at this
            exact this
          rw [hn, h0]
        · rw [hl]
          have := congrArg Nd.l hown
          simp only [own] at this
          exact this.symm
        · rw [hkeep j hj (by omega)]
          match j, hj with | 0, _ => rfl | 1, _ => rfl | 2, _ => rfl

theorem get_back {L : List Nd} (g : Gd L) (hm : MayL L) {k : Nat} (hk : k < L.length) (ht : (txt L k).length ≤ 10000) : getP L (txt L k) = (L, k, 0) := by
  obtain ⟨n1, e1, p1, b1⟩ := node_back g hm k hk ((txt L k).length + 1) [] [] (by omega) noDig_nil
  obtain ⟨i1, _, _, c1⟩ := b1 [] [] 0 rfl
  rw [List.append_nil] at e1 c1
  unfold getP wholeP
  rw [if_neg (by omega), e1, Option.bind_some]
  simp only [if_true, List.nil_append]
  rw [c1]
  rfl
end Tx
end Go.Proofs.YtbemkaninedonaaGreatDoor

namespace Go.Proofs.YtbemkaninedonaaGreatDoor
open Bv Tm
namespace Tx
set_option maxHeartbeats 800000

theorem txt_more {L R : List Nd} (g : Gd L) (g2 : Gd (L ++ R)) : ∀ k, k < L.length → txt (L ++ R) k = txt L k := by
  intro k
  induction k using Nat.strongRecOn with
  | _ k ih =>
    intro hk
    obtain ⟨y, hy⟩ : ∃ y, L[k]? = some y := ⟨_, List.getElem?_eq_getElem hk⟩
    have hy2 : (L ++ R)[k]? = some y := by rw [List.getElem?_append_left hk]; exact hy
    rw [txt_is g hy, txt_is g2 hy2]
    refine bodyT_congr fun j hj => ?_
    have := g.kid k y hy j hj
    exact ih _ (by omega) (by omega)

theorem mk_pre (L : List Nd) (x : Nd) : ∃ R, (mk L x).1 = L ++ R := by
  unfold mk
  repeat' split
  all_goals first | exact ⟨[], (List.append_nil L).symm⟩ | exact ⟨[x], rfl⟩
theorem mk_done {L : List Nd} {x : Nd} (h : (mk L x).2.2 = 0) : (mk L x).1[(mk L x).2.1]? = some x ∧ mayN L x = true := by
  unfold mk at h ⊢
  by_cases h1 : mayN L x = false
  · rw [if_pos h1] at h; simp at h
  rw [if_neg h1] at h ⊢
  have hm : mayN L x = true := by simpa using h1
  by_cases h2 : x.o = 2 ∧ ¬ wdOf L x.n = 0 ∧ ¬ wdOf L x.n = x.w
  · rw [if_pos h2] at h; simp at h
  rw [if_neg h2] at h ⊢
  by_cases h3 : x ∈ L
  · rw [if_pos h3]
    exact ⟨idx_here h3, hm⟩
  rw [if_neg h3] at h ⊢
  by_cases h4 : 200000 ≤ L.length
  · rw [if_pos h4] at h; simp at h
  rw [if_neg h4]
  exact ⟨by simp, hm⟩

theorem need_back {c : UInt8} {s r : By} (h : need c s = some r) : s = c :: r := by
  cases s with
  | nil => simp [need] at h
  | cons d q =>
    unfold need at h
    simp only [] at h
    by_cases hc : d = c
    · rw [if_pos hc] at h
      injection h with h
      rw [hc, h]
    · rw [if_neg hc] at h; cases h

theorem opN_back {s : By} (h : ¬ opN s = 0) : s = nm (opN s) ∧ 3 ≤ opN s ∧ opN s ≤ 25 := by
  unfold opN at h ⊢
  by_cases hs : s = []
  · rw [if_pos hs] at h; exact absurd rfl h
  rw [if_neg hs] at h ⊢
  simp only [] at h ⊢
  by_cases hi : nameL.findIdx (fun y => decide (y = s)) < 26
  · rw [if_pos hi] at h ⊢
    have hl : nameL.findIdx (fun y => decide (y = s)) < nameL.length := hi
    have he := List.findIdx_getElem (xs := nameL) (p := fun y => decide (y = s)) (w := hl)
    simp only [decide_eq_true_eq] at he
    have hn : s = nm (nameL.findIdx (fun y => decide (y = s))) := by
      unfold nm
      rw [List.getD_eq_getElem?_getD, List.getElem?_eq_getElem hl]
      exact he.symm
    refine ⟨hn, ?_, by omega⟩
    generalize nameL.findIdx (fun y => decide (y = s)) = i at hn h hi
    have h3 : ¬ i < 3 := fun c => by
      have : i = 0 ∨ i = 1 ∨ i = 2 := by omega
      rcases this with e | e | e <;> (subst e; exact hs hn)
    omega
  · rw [if_neg hi] at h; exact absurd rfl h

/-- The text ahead of the kids. -/
def hdT (x : Nd) : By := nm x.o ++ ((if x.o = 22 then 32 :: dec x.l else []) ++ (if x.o = 22 ∨ x.o = 23 ∨ x.o = 24 then 32 :: dec x.w else []))
theorem sho_le_b {s r : By} {n : Nat} (h : sho s = some (n, r)) : n ≤ 255 := by
  unfold sho at h
  cases hq : num s with
  | none => rw [hq] at h; cases h
  | some p =>
    rw [hq] at h
    simp only [Option.map_some, Option.some.injEq, Prod.mk.injEq] at h
    omega
theorem headP_back {s r : By} {x : Nd} (h : headP s = some (x, r)) : 3 ≤ x.o ∧ x.o ≤ 25 ∧ x.k0 = 0 ∧ x.k1 = 0 ∧ x.k2 = 0 ∧ x.n = 0 ∧ x.l ≤ 255 ∧ (¬ (x.o = 22 ∨ x.o = 23 ∨ x.o = 24) → x.w = 0) ∧ (x.w < 255 → x.l < 255 → s = hdT x ++ r) := by
  unfold headP at h
  simp only [] at h
  have hs : s = s.takeWhile (inR 97 122) ++ s.dropWhile (inR 97 122) := (List.takeWhile_append_dropWhile).symm
  generalize s.dropWhile (inR 97 122) = q at h hs
  generalize s.takeWhile (inR 97 122) = a at h hs
  by_cases h0 : opN a = 0
  · rw [if_pos h0] at h; cases h
  rw [if_neg h0] at h
  obtain ⟨ha, h3, h25⟩ := opN_back h0
  generalize opN a = o at h ha h3 h25 h0
  by_cases h22 : o = 22
  · rw [if_pos h22] at h
    cases e1 : need 32 q with
    | none => rw [e1] at h; cases h
    | some r1 =>
      rw [e1, Option.bind_some] at h
      cases e2 : sho r1 with
      | none => rw [e2] at h; cases h
      | some p =>
        rw [e2, Option.bind_some] at h
        cases e3 : need 32 p.2 with
        | none => rw [e3] at h; cases h
        | some r2 =>
          rw [e3, Option.bind_some] at h
          cases e4 : sho r2 with
          | none => rw [e4] at h; cases h
          | some p2 =>
            rw [e4] at h
            simp only [Option.map_some, Option.some.injEq, Prod.mk.injEq] at h
            obtain ⟨hx, hr⟩ := h
            subst hx
            refine ⟨h3, h25, rfl, rfl, rfl, rfl, sho_le_b (n := p.1) (r := p.2) (by rw [e2]), fun hc => absurd (.inl h22) hc, fun hw hl => ?_⟩
            simp only at hw hl
            have f2 := sho_back (s := r1) (n := p.1) (r := p.2) (by rw [e2]) hl
            have f4 := sho_back (s := r2) (n := p2.1) (r := p2.2) (by rw [e4]) hw
            rw [hs, need_back e1, f2, need_back e3, f4, hr, ha]
            unfold hdT
            simp [h22]
  rw [if_neg h22] at h
  by_cases h23 : o = 23 ∨ o = 24
  · rw [if_pos h23] at h
    cases e1 : need 32 q with
    | none => rw [e1] at h; cases h
    | some r1 =>
      rw [e1, Option.bind_some] at h
      cases e2 : sho r1 with
      | none => rw [e2] at h; cases h
      | some p =>
        rw [e2] at h
        simp only [Option.map_some, Option.some.injEq, Prod.mk.injEq] at h
        obtain ⟨hx, hr⟩ := h
        subst hx
        refine ⟨h3, h25, rfl, rfl, rfl, rfl, Nat.zero_le _, fun hc => absurd (.inr h23) hc, fun hw _ => ?_⟩
        simp only at hw
        have f2 := sho_back (s := r1) (n := p.1) (r := p.2) (by rw [e2]) hw
        rw [hs, need_back e1, f2, hr, ha]
        unfold hdT
        simp [h22, h23]
  rw [if_neg h23] at h
  simp only [Option.some.injEq, Prod.mk.injEq] at h
  obtain ⟨hx, hr⟩ := h
  subst hx
  refine ⟨h3, h25, rfl, rfl, rfl, rfl, Nat.zero_le _, fun _ => rfl, fun _ _ => ?_⟩
  rw [hs, hr, ha]
  unfold hdT
  simp [h22, h23]
end Tx
end Go.Proofs.YtbemkaninedonaaGreatDoor
