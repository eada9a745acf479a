/-
  may of layer term, for every node, as a fact on one call.
-/
import Derived.Test.YthelkbdiedfmfaaGreatTmMayC
import Derived.Test.YthelkbdiedfmfaaGreatTmMayD
namespace Go.Proofs.YthelkbdiedfmfaaGreat
open Go.RowKit Bv
namespace Tm
set_option maxHeartbeats 400000
set_option maxRecDepth 100000

theorem mayN_notOwn {L : List Nd} {x : Nd} (h : ¬ x = own x) : mayN L x = false := by simp [mayN, h]
theorem mayN_badKid {L : List Nd} {x : Nd} {i : Nat} (hi : i < kc x.o) (h : inB L (x.kid i) = false) : mayN L x = false := by
  have : kidsB L x = false := by
    unfold kidsB
    rw [decide_eq_false_iff_not]
    intro hc
    rw [hc i hi] at h
    simp at h
  simp [mayN, this]
theorem mayN_is {L : List Nd} {x : Nd} (h : x = own x) (hk : ∀ i, i < kc x.o → inB L (x.kid i) = true) :
    mayN L x = (if x.o = 1 then mayB x.w x.n else if x.o = 2 then mayB x.w 0 && decide (x.n < 256)
     else (decide (¬ vecW x.o x.w x.l (wid L x 0) (wid L x 1) (wid L x 2) = 0) && decide (vecW x.o x.w x.l (wid L x 0) (wid L x 1) (wid L x 2) = x.w))) := by
  unfold mayN kidsB
  rw [decide_eq_true h, decide_eq_true hk]
  simp

theorem may_any' {B p m : Nat} {sv : Value} {L : List Nd} {x : Nd} {W : World} (S : StoreAt B W p m sv L) (hx : x.Ok) :
    Calls Tryz.prog 59 #[.pointer (some ⟨p, 0, none⟩), x.val] W fun e W' => e = .returned (.bool (mayN L x)) ∧ Below W.heap.size W W' := by
  have HO : ∀ W : World, Calls Tryz.prog 73 #[x.val] W fun e W' => e = .returned (.agg (own x).cells) ∧ Below W.heap.size W W' := fun W => own_any x W
  have HQ : ∀ W : World, (binOp .neq 56 x.val (.agg (own x).cells)).run Tryz.prog W = .ok (.bool (decide (¬ x = own x))) W := fun W => neq_nd x (own x) hx (own_ok hx) W
  by_cases hown : x = own x
  case neg =>
    rw [mayN_notOwn hown]
    simp only [hown, not_false_eq_true, decide_true] at HQ
    obtain ⟨o, w, k0, k1, k2, n, l⟩ := x
    exact may_not o w n l k0 k1 k2 B p m sv L W _ S HO HQ
  rw [decide_eq_false (not_not_intro hown)] at HQ
  have hk3 := kc_le x.o
  by_cases h0 : 0 < kc x.o ∧ inB L (x.kid 0) = false
  · rw [mayN_badKid h0.1 h0.2]
    obtain ⟨o, w, k0, k1, k2, n, l⟩ := x
    have e0 := h0.2
    simp only at hk3 h0
    rcases (by omega : kc o = 1 ∨ kc o = 2 ∨ kc o = 3) with h | h | h
    · exact may_bad_1_0 o w n l k0 k1 k2 B p m sv L W _ S HO HQ (fun W => kids_is h W) e0
    · exact may_bad_2_0 o w n l k0 k1 k2 B p m sv L W _ S HO HQ (fun W => kids_is h W) e0
    · exact may_bad_3_0 o w n l k0 k1 k2 B p m sv L W _ S HO HQ (fun W => kids_is h W) e0
  have i0 : 0 < kc x.o → inB L (x.kid 0) = true := fun hc => by
    cases hb : inB L (x.kid 0)
    · exact absurd ⟨hc, hb⟩ h0
    · rfl
  by_cases h1 : 1 < kc x.o ∧ inB L (x.kid 1) = false
  · rw [mayN_badKid h1.1 h1.2]
    obtain ⟨o, w, k0, k1, k2, n, l⟩ := x
    have e1 := h1.2
    simp only at hk3 h1 i0
    rcases (by omega : kc o = 2 ∨ kc o = 3) with h | h
    · exact may_bad_2_1 o w n l k0 k1 k2 B p m sv L W _ S HO HQ (fun W => kids_is h W) (i0 (by omega)) e1
    · exact may_bad_3_1 o w n l k0 k1 k2 B p m sv L W _ S HO HQ (fun W => kids_is h W) (i0 (by omega)) e1
  have i1 : 1 < kc x.o → inB L (x.kid 1) = true := fun hc => by
    cases hb : inB L (x.kid 1)
    · exact absurd ⟨hc, hb⟩ h1
    · rfl
  by_cases h2 : 2 < kc x.o ∧ inB L (x.kid 2) = false
  · rw [mayN_badKid h2.1 h2.2]
    obtain ⟨o, w, k0, k1, k2, n, l⟩ := x
    have e2 := h2.2
    simp only at hk3 h2 i0 i1
    have h3 : kc o = 3 := by omega
    exact may_bad_3_2 o w n l k0 k1 k2 B p m sv L W _ S HO HQ (fun W => kids_is h3 W) (i0 (by omega)) (i1 (by omega)) e2
  have i2 : 2 < kc x.o → inB L (x.kid 2) = true := fun hc => by
    cases hb : inB L (x.kid 2)
    · exact absurd ⟨hc, hb⟩ h2
    · rfl
  have hk : ∀ i, i < kc x.o → inB L (x.kid i) = true := fun i hi => by
    rcases (by omega : i = 0 ∨ i = 1 ∨ i = 2) with e | e | e <;> subst e
    · exact i0 hi
    · exact i1 hi
    · exact i2 hi
  rw [mayN_is hown hk]
  clear h0 h1 h2 hk hown
  obtain ⟨o, w, k0, k1, k2, n, l⟩ := x
  simp only at hk3 i0 i1 i2 ⊢
  by_cases o1 : o = 1
  · subst o1
    rw [if_pos rfl]
    cases hm : mayB w n
    · exact may_const_f w n l k0 k1 k2 B p m sv L W _ S HO HQ (fun W => kids_is (by decide) W) hm
    · exact may_const_t w n l k0 k1 k2 B p m sv L W _ S HO HQ (fun W => kids_is (by decide) W) hm
  rw [if_neg o1]
  by_cases o2 : o = 2
  · subst o2
    rw [if_pos rfl]
    cases hm : mayB w 0
    · exact may_var_no w n l k0 k1 k2 B p m sv L W _ S HO HQ (fun W => kids_is (by decide) W) hm
    · by_cases hn : n < 256
      · rw [decide_eq_true hn]
        exact may_var_t w n l k0 k1 k2 B p m sv L W _ S HO HQ (fun W => kids_is (by decide) W) hm (decide_eq_true (by omega))
      · rw [decide_eq_false hn]
        exact may_var_f w n l k0 k1 k2 B p m sv L W _ S HO HQ (fun W => kids_is (by decide) W) hm (decide_eq_false (by omega))
  rw [if_neg o2]
  have d1 : ((o : Int) == 1) = false := by simp; omega
  have d2 : ((o : Int) == 2) = false := by simp; omega
  generalize hr : vecW o w l (wid L ⟨o, w, k0, k1, k2, n, l⟩ 0) (wid L ⟨o, w, k0, k1, k2, n, l⟩ 1) (wid L ⟨o, w, k0, k1, k2, n, l⟩ 2) = r
  by_cases hz : r = 0
  · rw [decide_eq_false (not_not_intro hz), Bool.false_and]
    rcases (by omega : kc o = 0 ∨ kc o = 1 ∨ kc o = 2 ∨ kc o = 3) with h | h | h | h
    · exact may_vec_0z o w n l k0 k1 k2 B p m sv L W _ S HO HQ (fun W => kids_is h W) hx d1 d2 h r hr hz
    · exact may_vec_1z o w n l k0 k1 k2 B p m sv L W _ S HO HQ (fun W => kids_is h W) (i0 (by omega)) hx d1 d2 h r hr hz
    · exact may_vec_2z o w n l k0 k1 k2 B p m sv L W _ S HO HQ (fun W => kids_is h W) (i0 (by omega)) (i1 (by omega)) hx d1 d2 h r hr hz
    · exact may_vec_3z o w n l k0 k1 k2 B p m sv L W _ S HO HQ (fun W => kids_is h W) (i0 (by omega)) (i1 (by omega)) (i2 (by omega)) hx d1 d2 h r hr hz
  rw [decide_eq_true hz, Bool.true_and]
  by_cases hw : r = w
  · rw [decide_eq_true hw]
    have d : ((r : Int) == (w : Int)) = true := by simp; omega
    rcases (by omega : kc o = 0 ∨ kc o = 1 ∨ kc o = 2 ∨ kc o = 3) with h | h | h | h
    · exact may_vec_0y o w n l k0 k1 k2 B p m sv L W _ S HO HQ (fun W => kids_is h W) hx d1 d2 h r hr hz d
    · exact may_vec_1y o w n l k0 k1 k2 B p m sv L W _ S HO HQ (fun W => kids_is h W) (i0 (by omega)) hx d1 d2 h r hr hz d
    · exact may_vec_2y o w n l k0 k1 k2 B p m sv L W _ S HO HQ (fun W => kids_is h W) (i0 (by omega)) (i1 (by omega)) hx d1 d2 h r hr hz d
    · exact may_vec_3y o w n l k0 k1 k2 B p m sv L W _ S HO HQ (fun W => kids_is h W) (i0 (by omega)) (i1 (by omega)) (i2 (by omega)) hx d1 d2 h r hr hz d
  · rw [decide_eq_false hw]
    have d : ((r : Int) == (w : Int)) = false := by simp; omega
    rcases (by omega : kc o = 0 ∨ kc o = 1 ∨ kc o = 2 ∨ kc o = 3) with h | h | h | h
    · exact may_vec_0n o w n l k0 k1 k2 B p m sv L W _ S HO HQ (fun W => kids_is h W) hx d1 d2 h r hr hz d
    · exact may_vec_1n o w n l k0 k1 k2 B p m sv L W _ S HO HQ (fun W => kids_is h W) (i0 (by omega)) hx d1 d2 h r hr hz d
    · exact may_vec_2n o w n l k0 k1 k2 B p m sv L W _ S HO HQ (fun W => kids_is h W) (i0 (by omega)) (i1 (by omega)) hx d1 d2 h r hr hz d
    · exact may_vec_3n o w n l k0 k1 k2 B p m sv L W _ S HO HQ (fun W => kids_is h W) (i0 (by omega)) (i1 (by omega)) (i2 (by omega)) hx d1 d2 h r hr hz d

end Tm
end Go.Proofs.YthelkbdiedfmfaaGreat
