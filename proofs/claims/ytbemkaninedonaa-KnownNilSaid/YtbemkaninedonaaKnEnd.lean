/-
Plain facts for layer known: the list of nodes that are still to be worked out, and that it ends.
Plain facts for layer known: widths of kids; that the masks of a node are of its width.
The masks of a node, out of the map of those that are worked out: a fact on one call.
What stands while the nodes are worked out, as data in memory.
The bits of a node that are sure, of a store that was made: a fact on one call.
A width cut to a byte, as a fact on one call.
Const and Var of layer term, of a store that was made, of none and of a zero one.
Vars of a number that no node has; New with its store; what a call that makes a node leaves; a row of numbers read in its places.
Of layer known refuses: of a number that no node has, of no store; and the statements' own small check: each as a fact on one call.
The statement that of none, and of a zero one, known is refused, as a fact on the call.
A node handed in by value, or in a list: how it is read, and read again.
For every number and whichever of the two (no store, a zero one): the law KnownNil returns true, and what is handed in reads as it did. No condition.
-/
import Derived.Test.YtbemkaninedonaaKnMiss
import Derived.Test.YtbemkaninedonaaKnMath
import Derived.Test.YtbemkaninedonaaKnSureA
import Derived.Test.YtbemkaninedonaaKnSureB
import Derived.Test.YtbemkaninedonaaKnSureC
import Derived.Test.YtbemkaninedonaaKnSureD
import Derived.Test.YtbemkaninedonaaKnSureE
import Derived.Test.YtbemkaninedonaaKnSureF
import Derived.Test.YtbemkaninedonaaKnSureG
import Derived.Test.YtbemkaninedonaaKnSureH
import Derived.Deep.LoopGhost
import Derived.Test.YtbemkaninedonaaTmLeaf
import Derived.Test.YtbemkaninedonaaTmApi
import Derived.Test.YtbemkaninedonaaTmTodo
import Derived.BigQuiet
import Derived.Test.YtbemkaninedonaaRows
import Derived.Test.YtbemkaninedonaaTmKey
import Derived.WalkKit
import Derived.ProofKit
import Derived.OpenShut
import Derived.Lib.SmallJoins
import Derived.Laws.IdiomArrays
import Derived.Below
import Derived.ChangeSame
namespace Go.Proofs.Ytbemkaninedonaa
open Go.RowKit Bv Tm
namespace Kn
set_option maxHeartbeats 400000

/-- What is to do: nodes, the last on top; of each whether its kids were put above it. -/
abbrev Fr : Type := Nat × Bool
def mu : List Fr → Nat
  | [] => 0
  | f :: r => (if f.2 then 1 else 5 ^ (f.1 + 1)) + mu r
theorem mu_append : ∀ (F G : List Fr), mu (F ++ G) = mu F + mu G
  | [], G => by simp [mu]
  | f :: r, G => by simp only [List.cons_append, mu, mu_append r G]; omega

structure Inv (L : List Nd) (id : Nat) (F : List Fr) (N : List Nat) : Prop where
  nin : ∀ j ∈ N, j < L.length
  closed : ∀ j ∈ N, ∀ x, L[j]? = some x → ∀ m, m < ka x.o → (x.kid m).toNat ∈ N
  fin : ∀ f ∈ F, f.1 < L.length
  rank : ∀ (i : Nat) (f : Fr), F[i]? = some f → i + 3 * f.1 ≤ 3 * id
  exp : ∀ (i t : Nat), F[i]? = some (t, true) → ∀ x, L[t]? = some x → ∀ m, m < ka x.o → (x.kid m).toNat ∈ N ∨ ∃ j b, i < j ∧ F[j]? = some ((x.kid m).toNat, b)
  bot : id ∈ N ∨ ∃ b, F[0]? = some (id, b)

theorem inv_start {L : List Nd} {id : Nat} (hid : id < L.length) : Inv L id [(id, false)] [] := by
  refine ⟨fun j h => by simp at h, fun j h => by simp at h, fun f h => by simp at h; subst h; exact hid, fun i f h => ?_, fun i t h => ?_, .inr ⟨false, rfl⟩⟩
  · match i with
    | 0 => simp at h; subst h; simp
    | i + 1 => simp at h
  · match i with
    | 0 => simp at h
    | i + 1 => simp at h
theorem Inv.len {L : List Nd} {id : Nat} {F : List Fr} {N : List Nat} (h : Inv L id F N) : F.length ≤ 3 * id + 1 := by
  rcases Nat.eq_zero_or_pos F.length with e | e
  · omega
  · have := h.rank (F.length - 1) _ (List.getElem?_eq_getElem (by omega))
    omega

theorem last_get {F0 : List Fr} {f : Fr} : (F0 ++ [f])[F0.length]? = some f := by simp

/-- None of the kids is missing: the node on top is done. -/
theorem Inv.pop {L : List Nd} {id t : Nat} {b : Bool} {F0 : List Fr} {N : List Nat} {x : Nd} (h : Inv L id (F0 ++ [(t, b)]) N) (hx : L[t]? = some x) (hm : missOf N x (ka x.o) = []) :
    Inv L id F0 (addK N t) ∧ mu F0 < mu (F0 ++ [(t, b)]) ∧ (∀ m, m < ka x.o → (x.kid m).toNat ∈ N) := by
  have hall : ∀ m, m < ka x.o → (x.kid m).toNat ∈ N := by
    intro m hlt
    refine Classical.byContradiction fun hn => ?_
    have : (x.kid m).toNat ∈ missOf N x (ka x.o) := mem_missOf.2 ⟨⟨m, hlt, rfl⟩, hn⟩
    rw [hm] at this
    simp at this
  have htl := (List.getElem?_eq_some_iff.1 hx).1
  refine ⟨⟨?_, ?_, fun f hf => h.fin f (by simp [hf]), fun i f hf => ?_, fun i s hs y hy m hlt => ?_, ?_⟩, ?_, hall⟩
  · intro j hj
    rcases mem_addK.1 hj with c | c
    · exact h.nin j c
    · omega
  · intro j hj y hy m hlt
    rcases mem_addK.1 hj with c | c
    · exact mem_addK.2 (.inl (h.closed j c y hy m hlt))
    · subst c
      rw [hx] at hy
      obtain rfl := Option.some.inj hy
      exact mem_addK.2 (.inl (hall m hlt))
  · have hi := (List.getElem?_eq_some_iff.1 hf).1
    exact h.rank i f (by rw [List.getElem?_append_left hi]; exact hf)
  · have hi := (List.getElem?_eq_some_iff.1 hs).1
    rcases h.exp i s (by rw [List.getElem?_append_left hi]; exact hs) y hy m hlt with c | ⟨j, c, hij, hj⟩
    · exact .inl (mem_addK.2 (.inl c))
    · by_cases hjl : j < F0.length
      · rw [List.getElem?_append_left hjl] at hj
        exact .inr ⟨j, c, hij, hj⟩
      · have : j = F0.length := by
          have := (List.getElem?_eq_some_iff.1 hj).1
          simp at this
          omega
        subst this
        rw [last_get] at hj
        simp at hj
        exact .inl (mem_addK.2 (.inr hj.1.symm))
  · rcases h.bot with c | ⟨c, hc⟩
    · exact .inl (mem_addK.2 (.inl c))
    · by_cases h0 : F0 = []
      · subst h0
        simp at hc
        exact .inl (mem_addK.2 (.inr hc.1.symm))
      · refine .inr ⟨c, ?_⟩
        have : 0 < F0.length := List.length_pos_iff.2 h0
        rw [List.getElem?_append_left this] at hc
        exact hc
  · rw [mu_append]
    have : 0 < mu [(t, b)] := by
      cases b
      · simp [mu]
        exact Nat.pow_pos (by omega)
      · simp [mu]
    omega

theorem mu_map : ∀ (M : List Nat) (t : Nat), (∀ k ∈ M, k < t) → mu (M.map (fun k => (k, false))) ≤ M.length * 5 ^ t
  | [], t, _ => by simp [mu]
  | k :: r, t, h => by
    have ih := mu_map r t (fun j hj => h j (by simp [hj]))
    have hk : 5 ^ (k + 1) ≤ 5 ^ t := Nat.pow_le_pow_right (by omega) (h k (by simp))
    simp only [List.map_cons, mu, List.length_cons, Nat.add_mul]
    simp
    omega

/-- Some kids are missing: they come on top. -/
theorem Inv.push {L : List Nd} {id t : Nat} {b : Bool} {F0 : List Fr} {N : List Nat} {x : Nd} (h : Inv L id (F0 ++ [(t, b)]) N) (hM : MayL L) (hx : L[t]? = some x) (hm : ¬ missOf N x (ka x.o) = []) :
    Inv L id (F0 ++ [(t, true)] ++ (missOf N x (ka x.o)).map (fun k => (k, false))) N ∧ mu (F0 ++ [(t, true)] ++ (missOf N x (ka x.o)).map (fun k => (k, false))) < mu (F0 ++ [(t, b)]) := by
  have htl := (List.getElem?_eq_some_iff.1 hx).1
  have hlen : (missOf N x (ka x.o)).length ≤ 3 := Nat.le_trans (missOf_len _ _ _) (Nat.le_trans (ka_le _) (kc_le _))
  have hlt : ∀ k ∈ missOf N x (ka x.o), k < t := by
    intro k hk
    obtain ⟨⟨j, hj, e⟩, _⟩ := mem_missOf.1 hk
    have := mayL_kids hM hx j (Nat.lt_of_lt_of_le hj (ka_le _))
    omega
  have hb : b = false := by
    cases b with
    | false => rfl
    | true =>
      exfalso
      apply hm
      refine List.eq_nil_iff_forall_not_mem.2 fun k hk => ?_
      obtain ⟨⟨j, hj, e⟩, hn⟩ := mem_missOf.1 hk
      rcases h.exp F0.length t last_get x hx j hj with c | ⟨q, c, hq, hqq⟩
      · rw [e] at c; exact hn c
      · have := (List.getElem?_eq_some_iff.1 hqq).1
        simp at this
        omega
  subst hb
  obtain ⟨M, hMM⟩ : ∃ M, missOf N x (ka x.o) = M := ⟨_, rfl⟩
  have hmem : ∀ k, k ∈ M ↔ (∃ j, j < ka x.o ∧ (x.kid j).toNat = k) ∧ k ∉ N := fun k => by rw [← hMM]; exact mem_missOf
  rw [hMM] at hlen hlt ⊢
  have hr := h.rank F0.length (t, false) last_get
  refine ⟨⟨h.nin, h.closed, fun f hf => ?_, fun i f hf => ?_, fun i s hs y hy m hlm => ?_, ?_⟩, ?_⟩
  · simp only [List.mem_append, List.mem_singleton, List.mem_map] at hf
    rcases hf with (c | c) | ⟨k, hk, c⟩
    · exact h.fin f (by simp [c])
    · subst c; exact htl
    · subst c; have := hlt k hk; show k < L.length; omega
  · by_cases hi : i < F0.length
    · rw [List.append_assoc, List.getElem?_append_left hi] at hf
      exact h.rank i f (by rw [List.getElem?_append_left hi]; exact hf)
    · by_cases he : i = F0.length
      · subst he
        rw [List.append_assoc, List.getElem?_append_right (Nat.le_refl _)] at hf
        simp at hf
        subst hf
        exact hr
      · rw [List.getElem?_append_right (by simp; omega)] at hf
        rw [List.getElem?_map] at hf
        cases hk : M[i - (F0 ++ [(t, true)]).length]? with
        | none => rw [hk] at hf; simp at hf
        | some k =>
          rw [hk] at hf
          simp at hf
          subst hf
          have h1 := hlt k (List.mem_of_getElem? hk)
          have h2 := (List.getElem?_eq_some_iff.1 hk).1
          simp at h2
          show i + 3 * k ≤ 3 * id
          simp at hr
          omega
  · by_cases hi : i < F0.length
    · rw [List.append_assoc, List.getElem?_append_left hi] at hs
      rcases h.exp i s (by rw [List.getElem?_append_left hi]; exact hs) y hy m hlm with c | ⟨j, c, hij, hj⟩
      · exact .inl c
      · right
        by_cases hjl : j < F0.length
        · rw [List.getElem?_append_left hjl] at hj
          exact ⟨j, c, hij, by rw [List.append_assoc, List.getElem?_append_left hjl]; exact hj⟩
        · have : j = F0.length := by
            have := (List.getElem?_eq_some_iff.1 hj).1
            simp at this
            omega
          subst this
          rw [last_get] at hj
          simp at hj
          exact ⟨F0.length, true, hij, by rw [List.append_assoc, List.getElem?_append_right (Nat.le_refl _)]; simp [hj.1]⟩
    · by_cases he : i = F0.length
      · subst he
        rw [List.append_assoc, List.getElem?_append_right (Nat.le_refl _)] at hs
        simp at hs
        subst hs
        rw [hx] at hy
        obtain rfl := Option.some.inj hy
        by_cases hn : (x.kid m).toNat ∈ N
        · exact .inl hn
        · right
          have hk : (x.kid m).toNat ∈ M := (hmem _).2 ⟨⟨m, hlm, rfl⟩, hn⟩
          obtain ⟨q, hq⟩ := List.mem_iff_getElem?.1 hk
          refine ⟨(F0 ++ [(t, true)]).length + q, false, by simp; omega, ?_⟩
          rw [List.getElem?_append_right (by omega), List.getElem?_map, Nat.add_sub_cancel_left, hq]
          rfl
      · rw [List.getElem?_append_right (by simp; omega), List.getElem?_map] at hs
        cases hk : M[i - (F0 ++ [(t, true)]).length]? with
        | none => rw [hk] at hs; simp at hs
        | some k => rw [hk] at hs; simp at hs
  · rcases h.bot with c | ⟨c, hc⟩
    · exact .inl c
    · right
      by_cases h0 : F0 = []
      · subst h0
        simp at hc
        exact ⟨true, by simp [hc.1]⟩
      · have : 0 < F0.length := List.length_pos_iff.2 h0
        rw [List.getElem?_append_left this] at hc
        exact ⟨c, by rw [List.append_assoc, List.getElem?_append_left this]; exact hc⟩
  · rw [mu_append, mu_append, mu_append]
    have h1 := mu_map M t hlt
    have h2 : M.length * 5 ^ t ≤ 3 * 5 ^ t := Nat.mul_le_mul_right _ hlen
    have h3 : 0 < 5 ^ t := Nat.pow_pos (by omega)
    have h4 : mu [(t, true)] = 1 := by simp [mu]
    have h5 : mu [(t, false)] = 5 * 5 ^ t := by simp [mu, Nat.pow_succ]; omega
    omega
end Kn
end Go.Proofs.Ytbemkaninedonaa

namespace Go.Proofs.Ytbemkaninedonaa
open Bv Tm
namespace Kn
set_option maxHeartbeats 400000

section
variable {L : List Nd} {i : Nat} {x : Nd}
theorem wid_at {j : Nat} (hj : j < kc x.o) : wid L x j = widAt L (x.kid j) := by unfold wid; rw [if_pos hj]
theorem wd_un (h : MayL L) (hx : L[i]? = some x) (ho : x.o = 3 ∨ x.o = 4) : widAt L x.k0 = x.w := by
  have hk : kc x.o = 1 := by unfold kc; rw [if_pos (by omega)]
  have hv := mayL_vec h hx (by omega) (by omega)
  unfold vecW at hv
  rw [if_pos ho, wid_at (j := 0) (by omega)] at hv
  have e : x.kid 0 = x.k0 := rfl
  rw [e] at hv
  split at hv <;> omega
theorem wd_bin (h : MayL L) (hx : L[i]? = some x) (ho : 5 ≤ x.o ∧ x.o ≤ 17) : widAt L x.k0 = x.w ∧ widAt L x.k1 = x.w := by
  have hk : kc x.o = 2 := by unfold kc; rw [if_neg (by omega), if_pos (by omega)]
  have hv := mayL_vec h hx (by omega) (by omega)
  unfold vecW at hv
  rw [if_neg (by omega), if_neg (by omega), if_neg (by omega), if_neg (by omega), wid_at (j := 0) (by omega), wid_at (j := 1) (by omega)] at hv
  have e : x.kid 0 = x.k0 := rfl
  have e1 : x.kid 1 = x.k1 := rfl
  rw [e, e1] at hv
  unfold widthB at hv
  rw [if_pos ho] at hv
  repeat' split at hv
  all_goals omega
theorem wd_cmp (h : MayL L) (hx : L[i]? = some x) (ho : 18 ≤ x.o ∧ x.o ≤ 20) : x.w = 1 ∧ widAt L x.k1 = widAt L x.k0 ∧ 1 ≤ widAt L x.k0 ∧ widAt L x.k0 ≤ 64 := by
  have hk : kc x.o = 2 := by unfold kc; rw [if_neg (by omega), if_pos (by omega)]
  have hv := mayL_vec h hx (by omega) (by omega)
  unfold vecW at hv
  rw [if_neg (by omega), if_neg (by omega), if_neg (by omega), if_neg (by omega), wid_at (j := 0) (by omega), wid_at (j := 1) (by omega)] at hv
  have e : x.kid 0 = x.k0 := rfl
  have e1 : x.kid 1 = x.k1 := rfl
  rw [e, e1] at hv
  unfold widthB at hv
  rw [if_neg (show ¬ (5 ≤ x.o ∧ x.o ≤ 17) by omega), if_pos ho] at hv
  repeat' split at hv
  all_goals omega
theorem wd_cat (h : MayL L) (hx : L[i]? = some x) (ho : x.o = 21) : x.w = widAt L x.k0 + widAt L x.k1 ∧ 1 ≤ widAt L x.k0 ∧ 1 ≤ widAt L x.k1 ∧ x.w ≤ 64 := by
  have hk : kc x.o = 2 := by unfold kc; rw [if_neg (by omega), if_pos (by omega)]
  have hv := mayL_vec h hx (by omega) (by omega)
  unfold vecW at hv
  rw [if_neg (by omega), if_neg (by omega), if_neg (by omega), if_neg (by omega), wid_at (j := 0) (by omega), wid_at (j := 1) (by omega)] at hv
  have e : x.kid 0 = x.k0 := rfl
  have e1 : x.kid 1 = x.k1 := rfl
  rw [e, e1] at hv
  unfold widthB at hv
  rw [if_neg (show ¬ (5 ≤ x.o ∧ x.o ≤ 17) by omega), if_neg (show ¬ (18 ≤ x.o ∧ x.o ≤ 20) by omega), if_pos ho] at hv
  repeat' split at hv
  all_goals omega
theorem wd_cut (h : MayL L) (hx : L[i]? = some x) (ho : x.o = 22) : x.l + x.w ≤ widAt L x.k0 ∧ widAt L x.k0 ≤ 64 := by
  have hk : kc x.o = 1 := by unfold kc; rw [if_pos (by omega)]
  have hv := mayL_vec h hx (by omega) (by omega)
  unfold vecW at hv
  rw [if_neg (by omega), if_pos ho, wid_at (j := 0) (by omega)] at hv
  have e : x.kid 0 = x.k0 := rfl
  rw [e] at hv
  split at hv <;> omega
theorem wd_wide (h : MayL L) (hx : L[i]? = some x) (ho : x.o = 23 ∨ x.o = 24) : 1 ≤ widAt L x.k0 ∧ widAt L x.k0 ≤ x.w ∧ x.w ≤ 64 := by
  have hk : kc x.o = 1 := by unfold kc; rw [if_pos (by omega)]
  have hv := mayL_vec h hx (by omega) (by omega)
  unfold vecW at hv
  rw [if_neg (by omega), if_neg (by omega), if_pos ho, wid_at (j := 0) (by omega)] at hv
  have e : x.kid 0 = x.k0 := rfl
  rw [e] at hv
  split at hv <;> omega
theorem wd_ite (h : MayL L) (hx : L[i]? = some x) (ho : x.o = 25) : widAt L x.k0 = 1 ∧ widAt L x.k1 = x.w ∧ widAt L x.k2 = x.w := by
  have hk : kc x.o = 3 := by rw [ho]; decide
  have hv := mayL_vec h hx (by omega) (by omega)
  unfold vecW at hv
  rw [if_neg (by omega), if_neg (by omega), if_neg (by omega), if_pos ho, wid_at (j := 0) (by omega), wid_at (j := 1) (by omega), wid_at (j := 2) (by omega)] at hv
  have e : x.kid 0 = x.k0 := rfl
  have e1 : x.kid 1 = x.k1 := rfl
  have e2 : x.kid 2 = x.k2 := rfl
  rw [e, e1, e2] at hv
  split at hv <;> omega
/-- A kid is a node ahead. -/
theorem kid_in (h : MayL L) (hx : L[i]? = some x) {j : Nat} (hj : j < kc x.o) : ∃ y, L[(x.kid j).toNat]? = some y ∧ (x.kid j).toNat < i ∧ 0 ≤ x.kid j ∧ widAt L (x.kid j) = y.w ∧ kbAt (kvals L i) (x.kid j) = kn L (x.kid j).toNat := by
  have hkj := mayL_kids h hx j hj
  have hl := (List.getElem?_eq_some_iff.1 hx).1
  obtain ⟨y, hy⟩ : ∃ y, L[(x.kid j).toNat]? = some y := ⟨_, List.getElem?_eq_getElem (by omega)⟩
  refine ⟨y, hy, by omega, hkj.1, ?_, kbAt_kn hkj.1 hkj.2⟩
  unfold widAt
  rw [hy]
  rfl
end

/-- The masks of a node have no bit outside its width. -/
theorem kn_lt {L : List Nd} (h : MayL L) : ∀ (i : Nat) (x : Nd), L[i]? = some x → (kn L i).1 < 2 ^ x.w ∧ (kn L i).2 < 2 ^ x.w := by
  intro i
  induction i using Nat.strongRecOn with
  | _ i ih =>
    intro x hx
    have hp := pow_pos' x.w
    rw [kn_is hx]
    unfold oneK opK
    have lo : ∀ a b, (low x.w a, low x.w b).1 < 2 ^ x.w ∧ (low x.w a, low x.w b).2 < 2 ^ x.w := fun a b => ⟨low_le _ _, low_le _ _⟩
    have lz : ∀ a, (low x.w a, 0).1 < 2 ^ x.w ∧ (low x.w a, 0).2 < 2 ^ x.w := fun a => ⟨low_le _ _, hp⟩
    by_cases h1 : x.o = 1
    · rw [if_pos h1]; exact lo _ _
    rw [if_neg h1]
    by_cases h3 : x.o = 3
    · rw [if_pos h3]; exact lo _ _
    rw [if_neg h3]
    by_cases h5 : x.o = 5
    · rw [if_pos h5]; exact lo _ _
    rw [if_neg h5]
    by_cases h6 : x.o = 6
    · rw [if_pos h6]; exact lo _ _
    rw [if_neg h6]
    by_cases h7 : x.o = 7
    · rw [if_pos h7]; exact lo _ _
    rw [if_neg h7]
    by_cases h8 : x.o = 8 ∨ x.o = 9
    · rw [if_pos h8]; exact lz _
    rw [if_neg h8]
    by_cases h10 : x.o = 10
    · rw [if_pos h10]; exact lz _
    rw [if_neg h10]
    by_cases h15 : x.o = 15 ∨ x.o = 16 ∨ x.o = 17
    · rw [if_pos h15, (wd_bin h hx (by omega)).1]
      unfold farK
      split
      · unfold shK
        (repeat' split) <;> exact lo _ _
      · exact ⟨hp, hp⟩
    rw [if_neg h15]
    by_cases h21 : x.o = 21
    · rw [if_pos h21]; exact lo _ _
    rw [if_neg h21]
    by_cases h22 : x.o = 22
    · rw [if_pos h22]; exact lo _ _
    rw [if_neg h22]
    by_cases h23 : x.o = 23
    · rw [if_pos h23]; exact lo _ _
    rw [if_neg h23]
    by_cases h24 : x.o = 24
    · rw [if_pos h24]; exact lo _ _
    rw [if_neg h24]
    by_cases h25 : x.o = 25
    · rw [if_pos h25]
      have hk : kc x.o = 3 := by rw [h25]; decide
      have hw := wd_ite h hx h25
      obtain ⟨y1, e1, l1, _, w1, v1⟩ := kid_in h hx (j := 1) (by omega)
      obtain ⟨y2, e2, l2, _, w2, v2⟩ := kid_in h hx (j := 2) (by omega)
      have m1 := ih _ l1 y1 e1
      have m2 := ih _ l2 y2 e2
      have f1 : x.kid 1 = x.k1 := rfl
      have f2 : x.kid 2 = x.k2 := rfl
      rw [f1] at w1 v1 m1
      rw [f2] at w2 v2 m2
      rw [hw.2.1, v1, v2]
      rw [← w1, hw.2.1] at m1
      rw [← w2, hw.2.2] at m2
      unfold iteK
      split
      · exact m1
      · split
        · exact m2
        · exact lo _ _
    rw [if_neg h25]
    by_cases h18 : x.o = 18
    · rw [if_pos h18, (wd_cmp h hx (by omega)).1]
      unfold eqK
      split
      · exact ⟨by decide, by decide⟩
      · split
        · exact ⟨by decide, by decide⟩
        · exact ⟨by decide, by decide⟩
    rw [if_neg h18]
    exact ⟨hp, hp⟩
theorem kn_lt64 {L : List Nd} (g : Gd L) (h : MayL L) {i : Nat} (hi : i < L.length) : (kn L i).1 < 18446744073709551616 ∧ (kn L i).2 < 18446744073709551616 := by
  obtain ⟨x, hx⟩ : ∃ x, L[i]? = some x := ⟨_, List.getElem?_eq_getElem hi⟩
  have := kn_lt h i x hx
  have hw := pow_le64 (g.w x (List.mem_of_getElem? hx)).2
  omega
end Kn
end Go.Proofs.Ytbemkaninedonaa

namespace Go.Proofs.Ytbemkaninedonaa
open Go.RowKit Go.Maps Bv Tm
namespace Kn
set_option maxHeartbeats 1000000
set_option maxRecDepth 100000

theorem sure_any {B : Nat} {W : World} {L : List Nd} {N : List Nat} {b k p m : Nat} {sv : Value} {x : Nd} (S : StoreAt B W p m sv L) (hM : MayL L) (hx : L[k]? = some x) (hm : MapAt W L b N) (hN : ∀ j ∈ N, j < L.length) (hk : ∀ j, j < ka x.o → (x.kid j).toNat ∈ N) :
    Calls Try.prog 17 #[.pointer (some ⟨p, 0, none⟩), x.val, .map (some b)] W fun e W' => e = .returned (.agg #[.int .u8 ((x.w : Nat) : Int), .int .u64 (((kn L k).1 : Nat) : Int), .int .u64 (((kn L k).2 : Nat) : Int)]) ∧ Below W.heap.size W W' := by
  have g := S.good
  have hmem := List.mem_of_getElem? hx
  have hok := g.ok x hmem
  have hop := mayN_op (hM k x hx)
  have hw := g.w x hmem
  have hw64 := pow_le64 hw.2
  have hkn := kn_is hx
  have HL : Hid (LookK W b x.k0 x.k1 x.k2 (lkW L N x.k0) (lkB L N x.k0).1 (lkB L N x.k0).2 (lkW L N x.k1) (lkB L N x.k1).1 (lkB L N x.k1).2 (lkW L N x.k2) (lkB L N x.k2).1 (lkB L N x.k2).2) :=
    Lib.hid ⟨hm.lt, fun w' e => ⟨(hm.same e).look hok.k0, (hm.same e).look hok.k1, (hm.same e).look hok.k2⟩⟩
  have lt : ∀ q, (lkB L N q).1 < 18446744073709551616 ∧ (lkB L N q).2 < 18446744073709551616 := by
    intro q
    unfold lkB
    split
    · rename_i hc
      exact kn_lt64 g hM (hN _ hc.2)
    · exact ⟨by decide, by decide⟩
  have asked : ∀ j, j < ka x.o → lkW L N (x.kid j) = widAt L (x.kid j) ∧ lkB L N (x.kid j) = kbAt (kvals L k) (x.kid j) ∧ (kbAt (kvals L k) (x.kid j)).1 < 2 ^ widAt L (x.kid j) ∧ (kbAt (kvals L k) (x.kid j)).2 < 2 ^ widAt L (x.kid j) := by
    intro j hj
    obtain ⟨y, hy, _, h0, hyw, hv⟩ := kid_in hM hx (Nat.lt_of_lt_of_le hj (ka_le _))
    have hl := kn_lt hM _ y hy
    rw [hv, hyw]
    exact ⟨(lkW_in h0 (hk j hj)).trans hyw, lkB_in h0 (hk j hj), hl.1, hl.2⟩
  have wun := wd_un hM hx
  have wbin := wd_bin hM hx
  have wcmp := wd_cmp hM hx
  have wwide := wd_wide hM hx
  have wite := wd_ite hM hx
  have kid1 : 1 < kc x.o → ∃ y : Nd, L[x.k1.toNat]? = some y ∧ ∀ v, Below W.heap.size W v → Calls Try.prog 15 #[.pointer (some ⟨p, 0, none⟩), .int .i64 x.k1] v fun e v' => e = .returned (.tuple #[y.val, .int .i64 0]) ∧ Below v.heap.size v v' := by
    intro h
    obtain ⟨y, hy, _, h0, _, _⟩ := kid_in hM hx h
    refine ⟨y, hy, fun v hv => ?_⟩
    have e : x.k1 = ((x.k1.toNat : Nat) : Int) := by have : x.kid 1 = x.k1 := rfl; omega
    rw [e]
    exact node_yes (S.call hv) hy
  obtain ⟨o, w, k0, k1, k2, n, l⟩ := x
  unfold Nd.val
  unfold oneK at hkn
  simp only at *
  rw [hkn]
  clear hkn hk hN hm
  have hcases : o = 1 ∨ o = 3 ∨ o = 5 ∨ o = 6 ∨ o = 7 ∨ o = 8 ∨ o = 9 ∨ o = 10 ∨ o = 15 ∨ o = 16 ∨ o = 17 ∨ o = 18 ∨ o = 21 ∨ o = 22 ∨ o = 23 ∨ o = 24 ∨ o = 25 ∨ (o = 2 ∨ o = 4 ∨ (11 ≤ o ∧ o ≤ 14) ∨ o = 19 ∨ o = 20) := by omega
  rcases hcases with rfl | rfl | rfl | rfl | rfl | rfl | rfl | rfl | rfl | rfl | rfl | rfl | rfl | rfl | rfl | rfl | rfl | hn
  · have R := sure_const w n l b k0 k1 k2 (lkW L N k0) (lkB L N k0).1 (lkB L N k0).2 (lkW L N k1) (lkB L N k1).1 (lkB L N k1).2 (lkW L N k2) (lkB L N k2).1 (lkB L N k2).2 (.pointer (some ⟨p, 0, none⟩)) W hw.1 hw.2 hok.n HL
    exact R
  · have a0 := asked 0 (by decide)
    have f0 : Nd.kid ⟨3, w, k0, k1, k2, n, l⟩ 0 = k0 := rfl
    rw [f0] at a0
    have R := sure_not w n l b k0 k1 k2 (lkW L N k0) (lkB L N k0).1 (lkB L N k0).2 (lkW L N k1) (lkB L N k1).1 (lkB L N k1).2 (lkW L N k2) (lkB L N k2).1 (lkB L N k2).2 (.pointer (some ⟨p, 0, none⟩)) W hw.1 hw.2 (lt k0).1 (lt k0).2 HL
    try rw [a0.1] at R
    try rw [a0.2.1] at R
    exact R
  · have a0 := asked 0 (by decide)
    have f0 : Nd.kid ⟨5, w, k0, k1, k2, n, l⟩ 0 = k0 := rfl
    rw [f0] at a0
    have a1 := asked 1 (by decide)
    have f1 : Nd.kid ⟨5, w, k0, k1, k2, n, l⟩ 1 = k1 := rfl
    rw [f1] at a1
    have R := sure_and w n l b k0 k1 k2 (lkW L N k0) (lkB L N k0).1 (lkB L N k0).2 (lkW L N k1) (lkB L N k1).1 (lkB L N k1).2 (lkW L N k2) (lkB L N k2).1 (lkB L N k2).2 (.pointer (some ⟨p, 0, none⟩)) W hw.1 hw.2 (lt k0).1 (lt k0).2 (lt k1).1 (lt k1).2 HL
    try rw [a0.1] at R
    try rw [a0.2.1] at R
    try rw [a1.1] at R
    try rw [a1.2.1] at R
    exact R
  · have a0 := asked 0 (by decide)
    have f0 : Nd.kid ⟨6, w, k0, k1, k2, n, l⟩ 0 = k0 := rfl
    rw [f0] at a0
    have a1 := asked 1 (by decide)
    have f1 : Nd.kid ⟨6, w, k0, k1, k2, n, l⟩ 1 = k1 := rfl
    rw [f1] at a1
    have R := sure_or w n l b k0 k1 k2 (lkW L N k0) (lkB L N k0).1 (lkB L N k0).2 (lkW L N k1) (lkB L N k1).1 (lkB L N k1).2 (lkW L N k2) (lkB L N k2).1 (lkB L N k2).2 (.pointer (some ⟨p, 0, none⟩)) W hw.1 hw.2 (lt k0).1 (lt k0).2 (lt k1).1 (lt k1).2 HL
    try rw [a0.1] at R
    try rw [a0.2.1] at R
    try rw [a1.1] at R
    try rw [a1.2.1] at R
    exact R
  · have a0 := asked 0 (by decide)
    have f0 : Nd.kid ⟨7, w, k0, k1, k2, n, l⟩ 0 = k0 := rfl
    rw [f0] at a0
    have a1 := asked 1 (by decide)
    have f1 : Nd.kid ⟨7, w, k0, k1, k2, n, l⟩ 1 = k1 := rfl
    rw [f1] at a1
    have R := sure_xor w n l b k0 k1 k2 (lkW L N k0) (lkB L N k0).1 (lkB L N k0).2 (lkW L N k1) (lkB L N k1).1 (lkB L N k1).2 (lkW L N k2) (lkB L N k2).1 (lkB L N k2).2 (.pointer (some ⟨p, 0, none⟩)) W hw.1 hw.2 (lt k0).1 (lt k0).2 (lt k1).1 (lt k1).2 HL
    try rw [a0.1] at R
    try rw [a0.2.1] at R
    try rw [a1.1] at R
    try rw [a1.2.1] at R
    exact R
  · have a0 := asked 0 (by decide)
    have f0 : Nd.kid ⟨8, w, k0, k1, k2, n, l⟩ 0 = k0 := rfl
    rw [f0] at a0
    have a1 := asked 1 (by decide)
    have f1 : Nd.kid ⟨8, w, k0, k1, k2, n, l⟩ 1 = k1 := rfl
    rw [f1] at a1
    have R := sure_add w n l b k0 k1 k2 (lkW L N k0) (lkB L N k0).1 (lkB L N k0).2 (lkW L N k1) (lkB L N k1).1 (lkB L N k1).2 (lkW L N k2) (lkB L N k2).1 (lkB L N k2).2 (.pointer (some ⟨p, 0, none⟩)) W hw.1 hw.2 (lt k0).1 (lt k1).1 HL
    try rw [a0.1] at R
    try rw [a0.2.1] at R
    try rw [a1.1] at R
    try rw [a1.2.1] at R
    exact R
  · have a0 := asked 0 (by decide)
    have f0 : Nd.kid ⟨9, w, k0, k1, k2, n, l⟩ 0 = k0 := rfl
    rw [f0] at a0
    have a1 := asked 1 (by decide)
    have f1 : Nd.kid ⟨9, w, k0, k1, k2, n, l⟩ 1 = k1 := rfl
    rw [f1] at a1
    have R := sure_sub w n l b k0 k1 k2 (lkW L N k0) (lkB L N k0).1 (lkB L N k0).2 (lkW L N k1) (lkB L N k1).1 (lkB L N k1).2 (lkW L N k2) (lkB L N k2).1 (lkB L N k2).2 (.pointer (some ⟨p, 0, none⟩)) W hw.1 hw.2 (lt k0).1 (lt k1).1 HL
    try rw [a0.1] at R
    try rw [a0.2.1] at R
    try rw [a1.1] at R
    try rw [a1.2.1] at R
    exact R
  · have a0 := asked 0 (by decide)
    have f0 : Nd.kid ⟨10, w, k0, k1, k2, n, l⟩ 0 = k0 := rfl
    rw [f0] at a0
    have a1 := asked 1 (by decide)
    have f1 : Nd.kid ⟨10, w, k0, k1, k2, n, l⟩ 1 = k1 := rfl
    rw [f1] at a1
    have R := sure_mul w n l b k0 k1 k2 (lkW L N k0) (lkB L N k0).1 (lkB L N k0).2 (lkW L N k1) (lkB L N k1).1 (lkB L N k1).2 (lkW L N k2) (lkB L N k2).1 (lkB L N k2).2 (.pointer (some ⟨p, 0, none⟩)) W hw.1 hw.2 (lt k0).1 (lt k1).1 HL
    try rw [a0.1] at R
    try rw [a0.2.1] at R
    try rw [a1.1] at R
    try rw [a1.2.1] at R
    exact R
  · have a0 := asked 0 (by decide)
    have f0 : Nd.kid ⟨15, w, k0, k1, k2, n, l⟩ 0 = k0 := rfl
    rw [f0] at a0
    have ww := (wbin (by omega)).1
    obtain ⟨y, hy, hnode⟩ := kid1 (by decide)
    obtain ⟨yo, yw, y0, y1, y2, yn, yl⟩ := y
    by_cases hy1 : yo = 1
    · subst hy1
      have hf : farOf L k1 = some yn := by unfold farOf; rw [hy]; rfl
      have R := sure_shl w n l b k0 k1 k2 (lkW L N k0) (lkB L N k0).1 (lkB L N k0).2 (lkW L N k1) (lkB L N k1).1 (lkB L N k1).2 (lkW L N k2) (lkB L N k2).1 (lkB L N k2).2 (.pointer (some ⟨p, 0, none⟩)) W (by rw [a0.1, ww]; exact hw.1) (by rw [a0.1, ww]; exact hw.2) (lt k0).1 (lt k0).2 _ _ _ _ _ yn (Lib.hid hnode) HL
      rw [a0.1, a0.2.1, ww] at R
      rw [hf, ww]
      exact R
    · have hf : farOf L k1 = none := by unfold farOf; rw [hy]; exact if_neg hy1
      have R := sure_shl0 w n l b k0 k1 k2 (lkW L N k0) (lkB L N k0).1 (lkB L N k0).2 (lkW L N k1) (lkB L N k1).1 (lkB L N k1).2 (lkW L N k2) (lkB L N k2).1 (lkB L N k2).2 (.pointer (some ⟨p, 0, none⟩)) W ((yo : Nat) : Int) _ _ _ _ _ yn (Lib.hid hnode) (by omega) HL
      rw [hf]
      exact R
  · have a0 := asked 0 (by decide)
    have f0 : Nd.kid ⟨16, w, k0, k1, k2, n, l⟩ 0 = k0 := rfl
    rw [f0] at a0
    have ww := (wbin (by omega)).1
    obtain ⟨y, hy, hnode⟩ := kid1 (by decide)
    obtain ⟨yo, yw, y0, y1, y2, yn, yl⟩ := y
    by_cases hy1 : yo = 1
    · subst hy1
      have hf : farOf L k1 = some yn := by unfold farOf; rw [hy]; rfl
      have R := sure_lshr w n l b k0 k1 k2 (lkW L N k0) (lkB L N k0).1 (lkB L N k0).2 (lkW L N k1) (lkB L N k1).1 (lkB L N k1).2 (lkW L N k2) (lkB L N k2).1 (lkB L N k2).2 (.pointer (some ⟨p, 0, none⟩)) W (by rw [a0.1, ww]; exact hw.1) (by rw [a0.1, ww]; exact hw.2) (lt k0).1 (lt k0).2 _ _ _ _ _ yn (Lib.hid hnode) HL
      rw [a0.1, a0.2.1, ww] at R
      rw [hf, ww]
      exact R
    · have hf : farOf L k1 = none := by unfold farOf; rw [hy]; exact if_neg hy1
      have R := sure_lshr0 w n l b k0 k1 k2 (lkW L N k0) (lkB L N k0).1 (lkB L N k0).2 (lkW L N k1) (lkB L N k1).1 (lkB L N k1).2 (lkW L N k2) (lkB L N k2).1 (lkB L N k2).2 (.pointer (some ⟨p, 0, none⟩)) W ((yo : Nat) : Int) _ _ _ _ _ yn (Lib.hid hnode) (by omega) HL
      rw [hf]
      exact R
  · have a0 := asked 0 (by decide)
    have f0 : Nd.kid ⟨17, w, k0, k1, k2, n, l⟩ 0 = k0 := rfl
    rw [f0] at a0
    have ww := (wbin (by omega)).1
    obtain ⟨y, hy, hnode⟩ := kid1 (by decide)
    obtain ⟨yo, yw, y0, y1, y2, yn, yl⟩ := y
    by_cases hy1 : yo = 1
    · subst hy1
      have hf : farOf L k1 = some yn := by unfold farOf; rw [hy]; rfl
      have R := sure_ashr w n l b k0 k1 k2 (lkW L N k0) (lkB L N k0).1 (lkB L N k0).2 (lkW L N k1) (lkB L N k1).1 (lkB L N k1).2 (lkW L N k2) (lkB L N k2).1 (lkB L N k2).2 (.pointer (some ⟨p, 0, none⟩)) W (by rw [a0.1, ww]; exact hw.1) (by rw [a0.1, ww]; exact hw.2) (by rw [a0.1, a0.2.1]; exact a0.2.2.1) (by rw [a0.1, a0.2.1]; exact a0.2.2.2) _ _ _ _ _ yn (Lib.hid hnode) HL
      rw [a0.1, a0.2.1, ww] at R
      rw [hf, ww]
      exact R
    · have hf : farOf L k1 = none := by unfold farOf; rw [hy]; exact if_neg hy1
      have R := sure_ashr0 w n l b k0 k1 k2 (lkW L N k0) (lkB L N k0).1 (lkB L N k0).2 (lkW L N k1) (lkB L N k1).1 (lkB L N k1).2 (lkW L N k2) (lkB L N k2).1 (lkB L N k2).2 (.pointer (some ⟨p, 0, none⟩)) W ((yo : Nat) : Int) _ _ _ _ _ yn (Lib.hid hnode) (by omega) HL
      rw [hf]
      exact R
  · have a0 := asked 0 (by decide)
    have f0 : Nd.kid ⟨18, w, k0, k1, k2, n, l⟩ 0 = k0 := rfl
    rw [f0] at a0
    have a1 := asked 1 (by decide)
    have f1 : Nd.kid ⟨18, w, k0, k1, k2, n, l⟩ 1 = k1 := rfl
    rw [f1] at a1
    have ww := wcmp (by omega)
    obtain rfl := ww.1
    have R := sure_eq 1 n l b k0 k1 k2 (lkW L N k0) (lkB L N k0).1 (lkB L N k0).2 (lkW L N k1) (lkB L N k1).1 (lkB L N k1).2 (lkW L N k2) (lkB L N k2).1 (lkB L N k2).2 (.pointer (some ⟨p, 0, none⟩)) W (by rw [a0.1]; exact ww.2.2.1) (by rw [a0.1]; exact ww.2.2.2) (lt k0).1 (lt k0).2 (lt k1).1 (lt k1).2 _ _ rfl rfl HL
    rw [a0.1] at R
    have e : opK 18 1 n l (widAt L k0) (widAt L k1) (kbAt (kvals L k) k0) (kbAt (kvals L k) k1) (kbAt (kvals L k) k2) (farOf L k1) = eqK (widAt L k0) ((lkB L N k0).1, (lkB L N k0).2) ((lkB L N k1).1, (lkB L N k1).2) := by
      rw [a0.2.1, a1.2.1]
      unfold opK
      rw [if_neg (by decide), if_neg (by decide), if_neg (by decide), if_neg (by decide), if_neg (by decide), if_neg (by decide), if_neg (by decide), if_neg (by decide), if_neg (by decide), if_neg (by decide), if_neg (by decide), if_neg (by decide), if_neg (by decide), if_pos rfl]
    rw [e]
    generalize eqK (widAt L k0) ((lkB L N k0).1, (lkB L N k0).2) ((lkB L N k1).1, (lkB L N k1).2) = E at R ⊢
    exact R
  · have a0 := asked 0 (by decide)
    have f0 : Nd.kid ⟨21, w, k0, k1, k2, n, l⟩ 0 = k0 := rfl
    rw [f0] at a0
    have a1 := asked 1 (by decide)
    have f1 : Nd.kid ⟨21, w, k0, k1, k2, n, l⟩ 1 = k1 := rfl
    rw [f1] at a1
    have R := sure_concat w n l b k0 k1 k2 (lkW L N k0) (lkB L N k0).1 (lkB L N k0).2 (lkW L N k1) (lkB L N k1).1 (lkB L N k1).2 (lkW L N k2) (lkB L N k2).1 (lkB L N k2).2 (.pointer (some ⟨p, 0, none⟩)) W hw.1 hw.2 (lt k0).1 (lt k0).2 (lt k1).1 (lt k1).2 HL
    try rw [a0.1] at R
    try rw [a0.2.1] at R
    try rw [a1.1] at R
    try rw [a1.2.1] at R
    exact R
  · have a0 := asked 0 (by decide)
    have f0 : Nd.kid ⟨22, w, k0, k1, k2, n, l⟩ 0 = k0 := rfl
    rw [f0] at a0
    have R := sure_extract w n l b k0 k1 k2 (lkW L N k0) (lkB L N k0).1 (lkB L N k0).2 (lkW L N k1) (lkB L N k1).1 (lkB L N k1).2 (lkW L N k2) (lkB L N k2).1 (lkB L N k2).2 (.pointer (some ⟨p, 0, none⟩)) W hw.1 hw.2 (lt k0).1 (lt k0).2 HL
    try rw [a0.1] at R
    try rw [a0.2.1] at R
    exact R
  · have a0 := asked 0 (by decide)
    have f0 : Nd.kid ⟨23, w, k0, k1, k2, n, l⟩ 0 = k0 := rfl
    rw [f0] at a0
    have R := sure_zext w n l b k0 k1 k2 (lkW L N k0) (lkB L N k0).1 (lkB L N k0).2 (lkW L N k1) (lkB L N k1).1 (lkB L N k1).2 (lkW L N k2) (lkB L N k2).1 (lkB L N k2).2 (.pointer (some ⟨p, 0, none⟩)) W hw.1 hw.2 (by rw [a0.1]; exact (wwide (by omega)).1) (by rw [a0.1]; have := wwide (by omega); omega) (lt k0).1 (lt k0).2 HL
    try rw [a0.1] at R
    try rw [a0.2.1] at R
    exact R
  · have a0 := asked 0 (by decide)
    have f0 : Nd.kid ⟨24, w, k0, k1, k2, n, l⟩ 0 = k0 := rfl
    rw [f0] at a0
    have R := sure_sext w n l b k0 k1 k2 (lkW L N k0) (lkB L N k0).1 (lkB L N k0).2 (lkW L N k1) (lkB L N k1).1 (lkB L N k1).2 (lkW L N k2) (lkB L N k2).1 (lkB L N k2).2 (.pointer (some ⟨p, 0, none⟩)) W hw.1 hw.2 (by rw [a0.1]; exact (wwide (by omega)).1) (by rw [a0.1]; have := wwide (by omega); omega) (by rw [a0.1, a0.2.1]; exact a0.2.2.1) (by rw [a0.1, a0.2.1]; exact a0.2.2.2) HL
    try rw [a0.1] at R
    try rw [a0.2.1] at R
    exact R
  · have a0 := asked 0 (by decide)
    have f0 : Nd.kid ⟨25, w, k0, k1, k2, n, l⟩ 0 = k0 := rfl
    rw [f0] at a0
    have a1 := asked 1 (by decide)
    have f1 : Nd.kid ⟨25, w, k0, k1, k2, n, l⟩ 1 = k1 := rfl
    rw [f1] at a1
    have a2 := asked 2 (by decide)
    have f2 : Nd.kid ⟨25, w, k0, k1, k2, n, l⟩ 2 = k2 := rfl
    rw [f2] at a2
    have ww := wite rfl
    have R := sure_ite w n l b k0 k1 k2 (lkW L N k0) (lkB L N k0).1 (lkB L N k0).2 (lkW L N k1) (lkB L N k1).1 (lkB L N k1).2 (lkW L N k2) (lkB L N k2).1 (lkB L N k2).2 (.pointer (some ⟨p, 0, none⟩)) W (by rw [a1.1, ww.2.1]; exact hw.1) (by rw [a1.1, ww.2.1]; exact hw.2) (lt k1).1 (lt k1).2 (lt k2).1 (lt k2).2 w _ _ (by rw [a1.1, a2.1, ww.2.1, ww.2.2]; (repeat' split) <;> rfl) rfl rfl HL
    rw [a0.2.1, a1.1, a1.2.1, a2.2.1] at R
    exact R
  · have R := sure_none w n l b k0 k1 k2 (lkW L N k0) (lkB L N k0).1 (lkB L N k0).2 (lkW L N k1) (lkB L N k1).1 (lkB L N k1).2 (lkW L N k2) (lkB L N k2).1 (lkB L N k2).2 (.pointer (some ⟨p, 0, none⟩)) W o hn HL
    have e : opK o w n l (widAt L k0) (widAt L k1) (kbAt (kvals L k) k0) (kbAt (kvals L k) k1) (kbAt (kvals L k) k2) (farOf L k1) = (0, 0) := by
      unfold opK
      rw [if_neg (by omega), if_neg (by omega), if_neg (by omega), if_neg (by omega), if_neg (by omega), if_neg (by omega), if_neg (by omega), if_neg (by omega), if_neg (by omega), if_neg (by omega), if_neg (by omega), if_neg (by omega), if_neg (by omega), if_neg (by omega)]
    rw [e]
    exact R
end Kn
end Go.Proofs.Ytbemkaninedonaa

namespace Go.Proofs.Ytbemkaninedonaa
open Go.RowKit Go.Maps Bv Tm
namespace Kn
set_option maxHeartbeats 1000000
set_option maxRecDepth 100000

/-- The list of what is to do, the map of what is done, the answer's block A. -/
structure OfAt (W : World) (L : List Nd) (A bm : Nat) (tv : Value) (T N : List Nat) (w : World) : Prop where
  row : w.ownsRow W.heap.size 3 1 tv T.length (todoRow T)
  map : MapAt w L bm N
  mb : W.heap.size ≤ bm
  bel : Below W.heap.size W w
  a0 : w.cell? ⟨A, 0, none⟩ = some (.int .u64 0)
  a1 : w.cell? ⟨A, 1, none⟩ = some (.int .u64 0)
  fr : ∀ o, w.frozen? ⟨A, o, none⟩ = false
  al : A < w.heap.size
  ag : W.heap.size ≤ A
  ab : A ≠ bm
  rm : tv.ownBlock ≠ some bm
  ra : tv.ownBlock ≠ some A
section
variable {W w w' : World} {L : List Nd} {A bm t : Nat} {tv : Value} {T T0 N : List Nat}
theorem OfAt.kept {F : Nat → Prop} (h : OfAt W L A bm tv T N w) (k : Kept F w w') (fa : ¬ F A) (fm : ¬ F bm) (ft : ∀ g, tv.ownBlock = some g → ¬ F g) (fw : ∀ i, i < W.heap.size → ¬ F i) : OfAt W L A bm tv T N w' :=
  ⟨row_kept h.row k ft, h.map.same (k.block bm h.map.lt fm), h.mb, h.bel.trans (k.below (fun i hi c => fw i hi c) h.bel.size), (k.cell (x := ⟨A, 0, none⟩) h.al fa).trans h.a0, (k.cell (x := ⟨A, 1, none⟩) h.al fa).trans h.a1,
    fun o => (k.frozen (x := ⟨A, o, none⟩) h.al fa).trans (h.fr o), Nat.lt_of_lt_of_le h.al k.size, h.ag, h.ab, h.rm, h.ra⟩
theorem OfAt.call (h : OfAt W L A bm tv T N w) (k : Below w.heap.size w w') : OfAt W L A bm tv T N w' :=
  h.kept (Kept.ofBelow k (fun _ => False)) (fun x => x) (fun x => x) (fun _ _ x => x) (fun _ _ x => x)
/-- The last of what is to do. -/
theorem OfAt.last (h : OfAt W L A bm tv (T0 ++ [t]) N w) : ∃ g c, tv = .slice (some ⟨g, 0, none⟩) (T0.length + 1) c ∧ T0.length + 1 ≤ c ∧ g < w.heap.size ∧ w.cell? ⟨g, T0.length, none⟩ = some (.int .i64 ((t : Nat) : Int)) ∧ g ≠ bm ∧ g ≠ A := by
  have hr := h.row
  have hm := h.rm
  have ha := h.ra
  rcases h.row with ⟨_, ⟨h1, h2⟩ | ⟨g, cap, cur, hv, hb, hh, hc, _⟩⟩
  · simp at h2
  · subst hv
    refine ⟨g, cap, by simp, by simpa using hc, (Array.getElem?_eq_some_iff.1 hh).1, ?_, fun e => hm (by rw [e]; rfl), fun e => ha (by rw [e]; rfl)⟩
    have := hr.cells (g := g) rfl T0.length (.int .i64 ((t : Nat) : Int)) (by simp [todoRow])
    have e : (⟨g, 0, none⟩ : Addr).add T0.length = ⟨g, T0.length, none⟩ := by
      unfold Addr.add
      split <;> simp_all
    rw [e] at this
    exact this
/-- The last of it is taken off. -/
theorem OfAt.drop {g c : Nat} (h : OfAt W L A bm (.slice (some ⟨g, 0, none⟩) (T0.length + 1) c) (T0 ++ [t]) N w) : OfAt W L A bm (.slice (some ⟨g, 0, none⟩) T0.length c) T0 N w := by
  refine ⟨?_, h.map, h.mb, h.bel, h.a0, h.a1, h.fr, h.al, h.ag, h.ab, h.rm, h.ra⟩
  rcases h.row with ⟨_, ⟨h1, h2⟩ | ⟨g', cap, cur, hv, hb, hh, hc, hx, hs, ht⟩⟩
  · simp at h2
  · simp only [Value.slice.injEq, Option.some.injEq, Addr.mk.injEq] at hv
    obtain ⟨⟨e1, _⟩, _, e2⟩ := hv
    subst e1
    subst e2
    refine ⟨by simp [todoRow], .inr ⟨g, c, cur, rfl, hb, hh, by simp at hc; omega, hx, hs, ?_⟩⟩
    have e : todoRow (T0 ++ [t]) = todoRow T0 ++ [.int .i64 ((t : Nat) : Int)] := by simp [todoRow]
    rw [e] at ht
    have e3 : (cur.toList.take (T0.length * 1)) = (cur.toList.take ((T0 ++ [t]).length * 1)).take T0.length := by
      rw [List.take_take]
      congr 1
      simp
    rw [e3, ht]
    have : (todoRow T0).length = T0.length := by simp [todoRow]
    rw [← this, List.take_left']
    rfl
/-- More comes on top. -/
theorem OfAt.more {w2 : World} {M : List Nat} {v' : Value} (h : OfAt W L A bm tv T N w) (hg : w.grownBy w2 tv.ownBlock) (hrow : w2.ownsRow W.heap.size 3 1 v' (T.length + M.length) (todoRow T ++ todoRow M)) (hloc : v'.ownBlock = tv.ownBlock ∨ v'.ownBlock = some w.heap.size) : OfAt W L A bm v' (T ++ M) N w2 := by
  have tlt : ∀ g, tv.ownBlock = some g → W.heap.size ≤ g := fun g e => (h.row.lt g e).1
  have al := h.al
  have ml := h.map.lt
  have K : Kept (fun i => tv.ownBlock = some i) w w2 := kept_grown hg (fun i e => e)
  refine ⟨?_, h.map.same (K.block bm ml (fun c => h.rm c)), h.mb, h.bel.trans (K.below (fun i hi c => by have := tlt i c; omega) h.bel.size), (K.cell (x := ⟨A, 0, none⟩) al h.ra).trans h.a0, (K.cell (x := ⟨A, 1, none⟩) al h.ra).trans h.a1,
    fun o => (K.frozen (x := ⟨A, o, none⟩) al h.ra).trans (h.fr o), Nat.lt_of_lt_of_le al K.size, h.ag, h.ab, ?_, ?_⟩
  · have e : todoRow (T ++ M) = todoRow T ++ todoRow M := by simp [todoRow]
    rw [e, List.length_append]
    exact hrow
  · rcases hloc with e | e
    · rw [e]; exact h.rm
    · rw [e]; intro c; simp at c; omega
  · rcases hloc with e | e
    · rw [e]; exact h.ra
    · rw [e]; intro c; simp at c; omega
/-- One node more is done. -/
theorem OfAt.put (h : OfAt W L A bm tv T N w) (ht : t < 200001) (hn : N.length ≤ 200000) {key val : Value} (hkey : key = .int .i64 ((t : Nat) : Int)) (hval : val = .agg #[.int .u8 ((widAt L ((t : Nat) : Int) : Nat) : Int), .int .u64 (((kn L t).1 : Nat) : Int), .int .u64 (((kn L t).2 : Nat) : Int)]) :
    ∃ w', (Instr.mapUpdate 60 (.map (some bm)) key val).run Try.prog w = .ok () w' ∧ OfAt W L A bm tv T (addK N t) w' ∧ Kept (fun i => i = bm) w w' := by
  subst hkey
  subst hval
  obtain ⟨D, hO, hT⟩ := h.map
  have hk6 : I64 ((t : Nat) : Int) := by unfold I64; omega
  obtain ⟨w', hrun, ho, ht1⟩ := hO.store law_int Try.underlying60 (by unfold maxLen; omega) (key_int hk6) (kbElem_mk _ _ _)
  have hT' := hT.add hk6
  have hg1 := ht1.grown
  have K := kept_grown hg1 (F := fun i => i = bm) (fun i e => by simpa using e.symm)
  have mb := h.mb
  have al := h.al
  refine ⟨w', hrun, ⟨row_kept h.row K (fun g e c => h.rm (by rw [e, c])), ⟨_, owns_fit ho (by have := hT'.size; unfold kbLit at this; omega), hT'⟩, mb, h.bel.trans (K.below (fun i hi c => by omega) h.bel.size), (K.cell (x := ⟨A, 0, none⟩) al h.ab).trans h.a0, (K.cell (x := ⟨A, 1, none⟩) al h.ab).trans h.a1,
    fun o => (K.frozen (x := ⟨A, o, none⟩) al h.ab).trans (h.fr o), Nat.lt_of_lt_of_le al K.size, h.ag, h.ab, h.rm, h.ra⟩, K⟩
end

/-- What the last statement of a round reads. -/
structure OfS (g n0 t bx : Nat) (x0 x1 x2 x3 x4 x5 x6 : Value) (w : World) : Prop where
  cell : w.cell? ⟨g, n0, none⟩ = some (.int .i64 ((t : Nat) : Int))
  lt : g < w.heap.size
  box : At7 w bx x0 x1 x2 x3 x4 x5 x6
theorem OfS.call {g n0 t bx : Nat} {x0 x1 x2 x3 x4 x5 x6 : Value} {w w' : World} (h : OfS g n0 t bx x0 x1 x2 x3 x4 x5 x6 w) (k : Below w.heap.size w w') : OfS g n0 t bx x0 x1 x2 x3 x4 x5 x6 w' :=
  ⟨(k.cell (p := ⟨g, n0, none⟩) h.lt).trans h.cell, Nat.lt_of_lt_of_le h.lt k.size, h.box.keep k⟩
theorem OfS.kept {g n0 t bx : Nat} {x0 x1 x2 x3 x4 x5 x6 : Value} {w w' : World} {F : Nat → Prop} (h : OfS g n0 t bx x0 x1 x2 x3 x4 x5 x6 w) (k : Kept F w w') (hg : ¬ F g) (hb : ¬ F bx) : OfS g n0 t bx x0 x1 x2 x3 x4 x5 x6 w' :=
  ⟨(k.cell (x := ⟨g, n0, none⟩) h.lt hg).trans h.cell, Nat.lt_of_lt_of_le h.lt k.size, h.box.move (fun o => k.cell (x := ⟨bx, o, none⟩) h.box.lt hb)⟩
theorem MapAt.len {w : World} {L : List Nd} {b : Nat} {N : List Nat} (h : MapAt w L b N) (hn : ∀ j ∈ N, j < L.length) : N.length ≤ L.length := by
  obtain ⟨D, _, hT⟩ := h
  exact nodup_le _ _ hT.nd hn
theorem field_1 (a b c : Int) (w : World) : (Instr.field 64 (.agg #[.int .u8 a, .int .u64 b, .int .u64 c]) 1).run Try.prog w = .ok (.int .u64 b) w := by kernel_rfl
theorem field_2 (a b c : Int) (w : World) : (Instr.field 64 (.agg #[.int .u8 a, .int .u64 b, .int .u64 c]) 2).run Try.prog w = .ok (.int .u64 c) w := by kernel_rfl
theorem heap_new (w : World) (o : Obj) : (w.alloc o).heap[w.heap.size]? = some o := by
  show (w.heap.push o)[w.heap.size]? = some o
  exact Array.getElem?_push_size
theorem row_new (w : World) (k : Int) (base : Nat) (hb : base ≤ w.heap.size) : (w.alloc (.cells #[.int .i64 k] 3)).ownsRow base 3 1 (.slice (some ⟨w.heap.size, 0, none⟩) 1 1) 1 [.int .i64 k] :=
  ⟨rfl, .inr ⟨w.heap.size, 1, #[.int .i64 k], rfl, hb, heap_new _ _, Nat.le_refl _, by unfold maxLen; omega, rfl, rfl⟩⟩
/-- At each round's head. -/
def OfRel (W : World) (L : List Nd) (A bm id gk : Nat) (tv : Value) (w : World) : Prop := ∃ (F : List Fr) (N : List Nat), OfAt W L A bm tv (F.map Prod.fst) N w ∧ Inv L id F N ∧ gk = mu F ∧ N.length ≤ 200000
end Kn
end Go.Proofs.Ytbemkaninedonaa

namespace Go.Proofs.Ytbemkaninedonaa
open Go.RowKit Go.Maps Bv Tm
namespace Kn
set_option maxHeartbeats 2000000
set_option maxRecDepth 100000

theorem of_yes {B p m k : Nat} {sv : Value} {L : List Nd} {W : World} (S : StoreAt B W p m sv L) (hM : MayL L) (hk : k < L.length) :
    Calls Try.prog 7 #[.pointer (some ⟨p, 0, none⟩), .int .i64 ((k : Nat) : Int)] W fun e W' => e = .returned (.tuple #[.agg #[.int .u64 (((kn L k).1 : Nat) : Int), .int .u64 (((kn L k).2 : Nat) : Int)], .int .i64 0]) ∧ Below W.heap.size W W' := by
  obtain ⟨x, hx⟩ : ∃ x, L[k]? = some x := ⟨_, List.getElem?_eq_getElem hk⟩
  have HS := Lib.hid S
  have HX := Lib.hid hx
  have HM := Lib.hid hM
  have HK := Lib.hid hk
  clear S hx hM hk
  have HB0 := Lib.hid (bel_alloc (Below.refl W.heap.size W) (.cells #[.int .u64 0, .int .u64 0] 29))
  have hmm := @run_makeMap Try.prog
  go_enter Try.func7, Try.ntmps7
  go_wp2_with fail
  refine (node_yes (HS.out.call HB0.out) HX.out).mono ?_
  rintro e w1 ⟨rfl, hb1⟩
  have a0 : w1.cell? ⟨W.heap.size, 0, none⟩ = some (.int .u64 0) := (hb1.cell (p := ⟨W.heap.size, 0, none⟩) (by simp)).trans (by simp [go_sem])
  have a1 : w1.cell? ⟨W.heap.size, 1, none⟩ = some (.int .u64 0) := (hb1.cell (p := ⟨W.heap.size, 1, none⟩) (by simp)).trans (by simp [go_sem])
  have fr : ∀ o, w1.frozen? ⟨W.heap.size, o, none⟩ = false := fun o => (hb1.frozen (p := ⟨W.heap.size, o, none⟩) (by simp)).trans (by simp [go_sem])
  have al : W.heap.size < w1.heap.size := by have := hb1.size; simp at this; omega
  have HB1 := Lib.hid (bel_call HB0.out hb1)
  obtain ⟨xo, xw, x0, x1, x2, xn, xl⟩ := x
  unfold Nd.val
  clear hb1
  have hb2 : Below W.heap.size W (((w1.alloc (.cells #[.int .u8 ((xo : Nat) : Int), .int .u8 ((xw : Nat) : Int), .int .i64 x0, .int .i64 x1, .int .i64 x2, .int .u64 ((xn : Nat) : Int), .int .u8 ((xl : Nat) : Int)] 57)).alloc (.map #[] 0)).alloc (.cells #[.int .i64 ((k : Nat) : Int)] 3)) := bel_alloc (bel_alloc (bel_alloc HB1.out _) _) _
  have HST : Hid (OfRel W L W.heap.size (w1.heap.size + 1) k (mu [(k, false)]) (.slice (some ⟨w1.heap.size + 1 + 1, 0, none⟩) 1 1) (((w1.alloc (.cells #[.int .u8 ((xo : Nat) : Int), .int .u8 ((xw : Nat) : Int), .int .i64 x0, .int .i64 x1, .int .i64 x2, .int .u64 ((xn : Nat) : Int), .int .u8 ((xl : Nat) : Int)] 57)).alloc (.map #[] 0)).alloc (.cells #[.int .i64 ((k : Nat) : Int)] 3))) := by
    refine Lib.hid ⟨[(k, false)], [], ⟨?_, ?_, by omega, hb2, ?_, ?_, fun o => ?_, ?_, Nat.le_refl _, by omega, ?_, ?_⟩, inv_start HK.out, rfl, by simp⟩
    · have := row_new ((w1.alloc (.cells #[.int .u8 ((xo : Nat) : Int), .int .u8 ((xw : Nat) : Int), .int .i64 x0, .int .i64 x1, .int .i64 x2, .int .u64 ((xn : Nat) : Int), .int .u8 ((xl : Nat) : Int)] 57)).alloc (.map #[] 0)) ((k : Nat) : Int) W.heap.size (by rw [size_alloc, size_alloc]; omega)
      rw [size_alloc, size_alloc] at this
      exact this
    · refine MapAt.same (w := (w1.alloc (.cells #[.int .u8 ((xo : Nat) : Int), .int .u8 ((xw : Nat) : Int), .int .i64 x0, .int .i64 x1, .int .i64 x2, .int .u64 ((xn : Nat) : Int), .int .u8 ((xl : Nat) : Int)] 57)).alloc (.map #[] 0)) ⟨.map [], ?_, kbTab_nil L⟩ (Below.heap_alloc _ _ _ (by simp))
      have := World.ownsMap_made (H := Unit) (w1.alloc (.cells #[.int .u8 ((xo : Nat) : Int), .int .u8 ((xw : Nat) : Int), .int .i64 x0, .int .i64 x1, .int .i64 x2, .int .u64 ((xn : Nat) : Int), .int .u8 ((xl : Nat) : Int)] 57)) Try.prog 3 kbElem
      rw [size_alloc] at this
      exact this
    · rw [World.cell?_alloc_lt _ _ _ (by simp; omega), World.cell?_alloc_lt _ _ _ (by simp; omega), World.cell?_alloc_lt _ _ _ al]; exact a0
    · rw [World.cell?_alloc_lt _ _ _ (by simp; omega), World.cell?_alloc_lt _ _ _ (by simp; omega), World.cell?_alloc_lt _ _ _ al]; exact a1
    · rw [World.frozen?_alloc_old _ _ _ (by simp; omega), World.frozen?_alloc_old _ _ _ (by simp; omega), World.frozen?_alloc_old _ _ _ (by simp; omega)]; exact fr o
    · simp; omega
    · simp [Value.ownBlock]
    · simp [Value.ownBlock]; omega
  clear hb2 a0 a1 fr HB1
  go_wp2_with fail
  go_loopg [9] (mu [(k, false)]) (fun gk u9 wr => OfRel W L W.heap.size (w1.heap.size + 1) k gk u9 wr)
  case atStart => exact HST.out
  case round =>
    obtain ⟨bm, hbm⟩ : ∃ bm, w1.heap.size + 1 = bm := ⟨_, rfl⟩
    obtain ⟨F, N, hA, hI, hgk, hN⟩ := hrel
    rw [hbm] at hA
    clear HST
    rcases List.eq_nil_or_concat F with rfl | ⟨F0, f, hF⟩
    · clear hmm
      obtain ⟨a, c, rfl⟩ : ∃ a c, u9 = .slice a 0 c := by
        rcases hA.row with ⟨_, ⟨h1, h2⟩ | ⟨g, cap, cur, hv, _⟩⟩
        · exact ⟨none, 0, h1⟩
        · exact ⟨_, _, hv⟩
      have hkn : k ∈ N := by
        rcases hI.bot with c | ⟨c, hc⟩
        · exact c
        · simp at hc
      have hk6 : I64 ((k : Nat) : Int) := by have := HK.out; have := HS.out.good.len; unfold I64; omega
      have hl := hA.map.look hk6
      unfold lkV at hl
      rw [lkB_in (by omega) (by simpa using hkn), Int.toNat_natCast] at hl
      have a0 := hA.a0
      have a1 := hA.a1
      have f0 := hA.fr 0
      have f1 := hA.fr 1
      have la := hA.al
      have HBE := Lib.hid hA.bel
      have hf1 := field_1 ((lkW L N ((k : Nat) : Int) : Nat) : Int) (((kn L k).1 : Nat) : Int) (((kn L k).2 : Nat) : Int)
      have hf2 := field_2 ((lkW L N ((k : Nat) : Int) : Nat) : Int) (((kn L k).1 : Nat) : Int) (((kn L k).2 : Nat) : Int)
      clear hA hI hN hkn hk6
      go_wp2_with fail
      exact bodyPost_ret (v := .tuple #[.agg #[.int .u64 (((kn L k).1 : Nat) : Int), .int .u64 (((kn L k).2 : Nat) : Int)], .int .i64 0]) (by simp [results, Try.results7, go_sem, a0, a1]) rfl ⟨rfl, (HBE.out.setCell (Nat.le_refl _) _).setCell (Nat.le_refl _) _⟩
    · rw [List.concat_eq_append] at hF
      subst hF
      obtain ⟨t, b⟩ := f
      rw [List.map_append] at hA
      obtain ⟨T0, hT0⟩ : ∃ T0, F0.map Prod.fst = T0 := ⟨_, rfl⟩
      rw [hT0] at hA
      have htl : t < L.length := hI.fin (t, b) (by simp)
      obtain ⟨y, hy⟩ : ∃ y, L[t]? = some y := ⟨_, List.getElem?_eq_getElem htl⟩
      have hTl := hI.len
      have hTe : T0.length = F0.length := by rw [← hT0]; simp
      simp only [List.length_append, List.length_singleton] at hTl
      obtain ⟨g, c, rfl, hc, lg, hlast, gbm, gA⟩ := OfAt.last hA
      have HA := Lib.hid hA
      have HI := Lib.hid hI
      have HY := Lib.hid hy
      have HTL := Lib.hid (And.intro hTl hTe)
      have HT0 := Lib.hid hT0
      have hlen := HS.out.good.len
      obtain ⟨n1, hn1⟩ : ∃ n1, n1 = T0.length + 1 := ⟨_, rfl⟩
      obtain ⟨n0, hn0⟩ : ∃ n0, n0 = T0.length := ⟨_, rfl⟩
      have HN1 := Lib.hid hn1
      have HN0 := Lib.hid hn0
      have hk3 := HK.out
      have q0 : (0 : Int) < ((n1 : Nat) : Int) := by omega
      have q1 : IntKind.i64.wrap (((n1 : Nat) : Int) - 1) = ((n0 : Nat) : Int) := by rw [IntKind.wrap_i64]; omega
      have q1' : wrap64 (((n1 : Nat) : Int) - 1) = ((n0 : Nat) : Int) := by unfold wrap64; rw [← IntKind.wrap_i64]; exact q1
      have q2 : ((n0 : Nat) : Int) < ((n1 : Nat) : Int) := by omega
      have q3 : (0 : Int) ≤ ((n0 : Nat) : Int) := by omega
      have q4 : ((n0 : Nat) : Int) ≤ ((c : Nat) : Int) := by omega
      have e1 : (Value.slice (some ⟨g, 0, none⟩) (T0.length + 1) c) = .slice (some ⟨g, 0, none⟩) n1 c := by rw [hn1]
      simp only [e1]
      rw [← hn0] at hlast
      have HBM := Lib.hid hbm
      have HBB := Lib.hid (And.intro gbm gA)
      clear hA hI hy hTl hTe hT0 hlen hn1 hn0 hk3 e1 hc gbm gA htl hmm
      have hbm' := Lib.hid hbm
      simp only [hbm]
      clear hbm
      go_wp2_with fail
      refine (node_yes (HS.out.call HA.out.bel) HY.out).mono ?_
      rintro e w2 ⟨rfl, hb2⟩
      obtain ⟨yo, yw, y0, y1, y2, yn, yl⟩ := y
      unfold Nd.val
      have hlast2 : w2.cell? ⟨g, n0, none⟩ = some (.int .i64 ((t : Nat) : Int)) := (hb2.cell (p := ⟨g, n0, none⟩) lg).trans hlast
      have lg2 : g < w2.heap.size := Nat.lt_of_lt_of_le lg hb2.size
      have HA2 := Lib.hid (HA.out.call hb2)
      have HBX2 := Lib.hid (At7.new w2 (.int .u8 ((yo : Nat) : Int)) (.int .u8 ((yw : Nat) : Int)) (.int .i64 y0) (.int .i64 y1) (.int .i64 y2) (.int .u64 ((yn : Nat) : Int)) (.int .u8 ((yl : Nat) : Int)) 57)
      have HA3 := Lib.hid (HA2.out.call (bel_alloc (Below.refl _ _) (.cells #[.int .u8 ((yo : Nat) : Int), .int .u8 ((yw : Nat) : Int), .int .i64 y0, .int .i64 y1, .int .i64 y2, .int .u64 ((yn : Nat) : Int), .int .u8 ((yl : Nat) : Int)] 57)))
      have HMISS := Lib.hid (miss_any (x := ⟨yo, yw, y0, y1, y2, yn, yl⟩) HA3.out.map (mayN_op (HM.out t _ HY.out)).2 (fun j hj => by
        have h1 := mayL_kids HM.out HY.out j (Nat.lt_of_lt_of_le hj (ka_le _))
        have h2 := (List.getElem?_eq_some_iff.1 HY.out).1
        have h3 := HS.out.good.len
        omega))
      unfold Nd.val at HMISS
      clear hb2 hlast lg
      go_wp2_with fail
      refine HMISS.out.mono ?_
      rintro e w4 ⟨v4, rfl, hrow4, hb4⟩
      have HA4 := Lib.hid (HA3.out.call hb4)
      have HBX4 := Lib.hid (HBX2.out.keep hb4)
      have hlast4 : w4.cell? ⟨g, n0, none⟩ = some (.int .i64 ((t : Nat) : Int)) := (hb4.cell (p := ⟨g, n0, none⟩) (by simp; omega)).trans ((World.cell?_alloc_lt _ _ _ lg2).trans hlast2)
      have lg4 : g < w4.heap.size := by have := hb4.size; simp at this; omega
      have l4 : w2.heap.size < w4.heap.size := by have := hb4.size; simp at this; omega
      have HW2 : Hid (¬ w2.heap.size = bm) := Lib.hid (by have := HA2.out.map.lt; omega)
      clear HMISS HA2 HA3 HBX2 hlast2 hb4 lg2
      obtain ⟨M, hMM⟩ : ∃ M, missOf N ⟨yo, yw, y0, y1, y2, yn, yl⟩ (ka yo) = M := ⟨_, rfl⟩
      rw [hMM] at hrow4
      by_cases hm : M = []
      case pos =>
        have HPOP := Lib.hid (HI.out.pop HY.out (by rw [← hm]; exact hMM))
        subst hm
        obtain ⟨a4, c4, rfl⟩ : ∃ a c, v4 = .slice a 0 c := by
          rcases hrow4 with ⟨_, ⟨h1, h2⟩ | ⟨g, cap, cur, hv, _⟩⟩
          · exact ⟨none, 0, h1⟩
          · exact ⟨_, _, hv⟩
        clear hrow4
        have HS4 := Lib.hid ((⟨hlast4, lg4, HBX4.out⟩ : OfS g n0 t w2.heap.size _ _ _ _ _ _ _ w4).call (Below.refl _ _).drew)
        have HSURE := Lib.hid (sure_any (x := ⟨yo, yw, y0, y1, y2, yn, yl⟩) (W := w4.drew) (HS.out.call HA4.out.bel.drew) HM.out HY.out (HA4.out.map.same rfl) HI.out.nin HPOP.out.2.2)
        unfold Nd.val at HSURE
        have HA4D := Lib.hid (HA4.out.call (Below.refl _ _).drew)
        have hwid : widAt L ((t : Nat) : Int) = yw := by unfold widAt; rw [Int.toNat_natCast, HY.out]; rfl
        have HWID := Lib.hid hwid
        have ht2 : t < 200001 := by have := (List.getElem?_eq_some_iff.1 HY.out).1; have := HS.out.good.len; omega
        have HT2 := Lib.hid ht2
        have HNN := Lib.hid hN
        clear hwid ht2 HBX4
        go_wp2_with fail
        refine wp_region_held_drew (S := OfS g n0 t w2.heap.size _ _ _ _ _ _ _) (by kernel_rfl) HS4.out (fun hHeld => ?_)
        refine wpAnyH_take (i := 0) (v := .map (some bm)) (by simp only [List.getElem?_toArray, List.getElem?_cons_zero]; rfl) (by kernel_rfl) (by kernel_rfl) (by kernel_rfl) (by exact fun _ _ _ h => h) (Or.inl ⟨by rfl, ?_⟩) hHeld ?_
        · intro w' hSw
          obtain ⟨s0, s1, s2⟩ := hSw; have lbx := s2.lt; unfold At7 at s2; obtain ⟨_, m0, m1, m2, m3, m4, m5, m6⟩ := And.intro trivial s2; go_simp; try rfl
        simp only [Act.put, List.setIfInBounds_toArray, List.set_cons_zero, List.set_cons_succ]
        refine wpAnyH_take (i := 1) (v := .slice (some ⟨g, 0, none⟩) n1 c) (by simp only [List.getElem?_toArray, List.getElem?_cons_zero, List.getElem?_cons_succ]; rfl) (by kernel_rfl) (by kernel_rfl) (by kernel_rfl) (by exact fun _ _ _ h => h) (Or.inl ⟨by rfl, ?_⟩) hHeld ?_
        · intro w' hSw
          obtain ⟨s0, s1, s2⟩ := hSw; have lbx := s2.lt; unfold At7 at s2; obtain ⟨_, m0, m1, m2, m3, m4, m5, m6⟩ := And.intro trivial s2; go_simp; try rfl
        simp only [Act.put, List.setIfInBounds_toArray, List.set_cons_zero, List.set_cons_succ]
        refine wpAnyH_take (i := 2) (v := .int .i64 ((n0 : Nat) : Int)) (by simp only [List.getElem?_toArray, List.getElem?_cons_zero, List.getElem?_cons_succ]; rfl) (by kernel_rfl) (by kernel_rfl) (by kernel_rfl) (by exact fun _ _ _ h => h) (Or.inl ⟨by rfl, ?_⟩) hHeld ?_
        · intro w' hSw
          obtain ⟨s0, s1, s2⟩ := hSw; have lbx := s2.lt; unfold At7 at s2; obtain ⟨_, m0, m1, m2, m3, m4, m5, m6⟩ := And.intro trivial s2; go_simp; try rfl
        simp only [Act.put, List.setIfInBounds_toArray, List.set_cons_zero, List.set_cons_succ]
        refine wpAnyH_take (i := 3) (v := .pointer (some ⟨g, n0, none⟩)) (by simp only [List.getElem?_toArray, List.getElem?_cons_zero, List.getElem?_cons_succ]; rfl) (by kernel_rfl) (by kernel_rfl) (by kernel_rfl) (by exact fun _ _ _ h => h) (Or.inl ⟨by rfl, ?_⟩) hHeld ?_
        · intro w' hSw
          obtain ⟨s0, s1, s2⟩ := hSw; have lbx := s2.lt; unfold At7 at s2; obtain ⟨_, m0, m1, m2, m3, m4, m5, m6⟩ := And.intro trivial s2; go_simp; try rfl
        simp only [Act.put, List.setIfInBounds_toArray, List.set_cons_zero, List.set_cons_succ]
        refine wpAnyH_take (i := 4) (v := .int .i64 ((t : Nat) : Int)) (by simp only [List.getElem?_toArray, List.getElem?_cons_zero, List.getElem?_cons_succ]; rfl) (by kernel_rfl) (by kernel_rfl) (by kernel_rfl) (by exact fun _ _ _ h => h) (Or.inl ⟨by rfl, ?_⟩) hHeld ?_
        · intro w' hSw
          obtain ⟨s0, s1, s2⟩ := hSw; have lbx := s2.lt; unfold At7 at s2; obtain ⟨_, m0, m1, m2, m3, m4, m5, m6⟩ := And.intro trivial s2; go_simp; try rfl
        simp only [Act.put, List.setIfInBounds_toArray, List.set_cons_zero, List.set_cons_succ]
        refine wpAnyH_take (i := 5) (v := .pointer (some ⟨p, 0, none⟩)) (by simp only [List.getElem?_toArray, List.getElem?_cons_zero, List.getElem?_cons_succ]; rfl) (by kernel_rfl) (by kernel_rfl) (by kernel_rfl) (by exact fun _ _ _ h => h) (Or.inl ⟨by rfl, ?_⟩) hHeld ?_
        · intro w' hSw
          obtain ⟨s0, s1, s2⟩ := hSw; have lbx := s2.lt; unfold At7 at s2; obtain ⟨_, m0, m1, m2, m3, m4, m5, m6⟩ := And.intro trivial s2; go_simp; try rfl
        simp only [Act.put, List.setIfInBounds_toArray, List.set_cons_zero, List.set_cons_succ]
        refine wpAnyH_take (i := 6) (v := .agg #[.int .u8 ((yo : Nat) : Int), .int .u8 ((yw : Nat) : Int), .int .i64 y0, .int .i64 y1, .int .i64 y2, .int .u64 ((yn : Nat) : Int), .int .u8 ((yl : Nat) : Int)]) (by simp only [List.getElem?_toArray, List.getElem?_cons_zero, List.getElem?_cons_succ]; rfl) (by kernel_rfl) (by kernel_rfl) (by kernel_rfl) (by exact fun _ _ _ h => h) (Or.inl ⟨by rfl, ?_⟩) hHeld ?_
        · intro w' hSw
          obtain ⟨s0, s1, s2⟩ := hSw; have lbx := s2.lt; unfold At7 at s2; obtain ⟨_, m0, m1, m2, m3, m4, m5, m6⟩ := And.intro trivial s2; go_simp; try rfl
        simp only [Act.put, List.setIfInBounds_toArray, List.set_cons_zero, List.set_cons_succ]
        refine wpAnyH_take (i := 7) (v := .map (some bm)) (by simp only [List.getElem?_toArray, List.getElem?_cons_zero, List.getElem?_cons_succ]; rfl) (by kernel_rfl) (by kernel_rfl) (by kernel_rfl) (by exact fun _ _ _ h => h) (Or.inl ⟨by rfl, ?_⟩) hHeld ?_
        · intro w' hSw
          obtain ⟨s0, s1, s2⟩ := hSw; have lbx := s2.lt; unfold At7 at s2; obtain ⟨_, m0, m1, m2, m3, m4, m5, m6⟩ := And.intro trivial s2; go_simp; try rfl
        simp only [Act.put, List.setIfInBounds_toArray, List.set_cons_zero, List.set_cons_succ]
        refine wpAnyH_ready (rs := [8]) (by kernel_rfl) (by simp) ?_
        refine AllReadyH.cons (by simp only [List.getElem?_toArray, List.getElem?_cons_zero, List.getElem?_cons_succ]; rfl) (fun K hK => ?_) AllReadyH.nil
        go_simp
        refine HSURE.out.mono ?_
        rintro e w5 ⟨rfl, hb5⟩
        have HA5 := HA4D.out.call hb5
        obtain ⟨w6, hrun, hA6, hK6⟩ := HA5.put HT2.out HNN.out (key := .int .i64 ((t : Nat) : Int)) (val := .agg #[.int .u8 ((yw : Nat) : Int), .int .u64 (((kn L t).1 : Nat) : Int), .int .u64 (((kn L t).2 : Nat) : Int)]) rfl (by rw [HWID.out])
        have HA6 := Lib.hid hA6
        have HK6 := Lib.hid hK6
        have hcl := hHeld.call hb5
        have HCL := Lib.hid (hcl.kept hK6 HBB.out.1 HW2.out)
        refine hK.out _ _ hcl (fun hHeld => ?_)
        clear hK K hb5 HA5 hA6 hK6 hcl
        try simp only [Act.put, List.setIfInBounds_toArray, List.set_cons_zero, List.set_cons_succ]
        refine wpAnyH_ready (rs := [9]) (by kernel_rfl) (by simp) ?_
        refine AllReadyH.cons (by simp only [List.getElem?_toArray, List.getElem?_cons_zero, List.getElem?_cons_succ]; rfl) (fun K hK => ?_) AllReadyH.nil
        go_simp
        refine hK.out _ _ HCL.out (fun hHeld => ?_)
        clear hK K hrun
        try simp only [Act.put, List.setIfInBounds_toArray, List.set_cons_zero, List.set_cons_succ]
        refine wpAnyH_done (by kernel_rfl) ?_ _
        go_wp2_with fail
        have hbb := hbm'.out
        subst hbb
        go_roundg (mu F0)
        case measure => rw [hgk]; exact HPOP.out.2.1
        case rel =>
          have hd := HA6.out.drop
          rw [← HN0.out] at hd
          refine ⟨F0, addK N t, by rw [HT0.out]; exact hd, HPOP.out.1, rfl, Nat.le_trans (hd.map.len HPOP.out.1.nin) HS.out.good.len⟩
      case neg =>
        have HPUSH := Lib.hid (HI.out.push HM.out HY.out (by rw [show (⟨yo, yw, y0, y1, y2, yn, yl⟩ : Nd).o = yo from rfl, hMM]; exact hm))
        rw [show (⟨yo, yw, y0, y1, y2, yn, yl⟩ : Nd).o = yo from rfl, hMM] at HPUSH
        have HML : Hid (M.length ≤ 3) := Lib.hid (by rw [← hMM]; exact Nat.le_trans (missOf_len _ _ _) (Nat.le_trans (ka_le _) (kc_le _)))
        have hpos : 0 < M.length := List.length_pos_iff.2 hm
        obtain ⟨nm, hnm⟩ : ∃ nm, M.length = nm := ⟨_, rfl⟩
        obtain ⟨gm, cm, rfl⟩ : ∃ gm cm, v4 = .slice (some ⟨gm, 0, none⟩) nm cm := by
          rcases hrow4 with ⟨_, ⟨h1, h2⟩ | ⟨gm, cap, cur, hv, _⟩⟩
          · omega
          · exact ⟨gm, cap, by rw [hv, hnm]⟩
        have HNM := Lib.hid hnm
        have HCL : Hid (∀ (j : Nat) (u : Value), (todoRow M)[j]? = some u → w4.cell? ((⟨gm, 0, none⟩ : Addr).add j) = some u) := Lib.hid (fun j u hu => hrow4.cells (g := gm) rfl j u hu)
        have H1 := Lib.hid (show ∀ u ∈ todoRow M, u.oneCell' = true by intro u hu; simp [todoRow] at hu; obtain ⟨v, _, rfl⟩ := hu; rfl)
        have q5 : (0 : Int) < ((nm : Nat) : Int) := by omega
        have HROW := Lib.hid HA4.out.row
        have hzz : ((T0 ++ [t]).length) = n1 := by have := HN1.out; simp; omega
        have HSZ := Lib.hid HA4.out.bel.size
        obtain ⟨i0, hinfo, hz0, hz1, hz2⟩ := info_parts info_int
        rw [show List.map Prod.fst [(t, b)] = [t] from rfl, hzz, ← HN1.out] at HROW
        have HZZ := Lib.hid hzz
        clear hrow4 hMM hm hpos hnm hzz
        go_wp2_with (at_builtin; go_loud (refine wpList_append_own_at _ rfl (.tmp 48) (.tmp 49) 61 rfl W.heap.size 3 i0 (.int .i64 0) 1 8 Try.underlying61 hinfo hz0 hz1 hz2 rfl (by decide) (.slice (some ⟨g, 0, none⟩) n1 c) n1 (todoRow (T0 ++ [t])) rfl HROW.out ⟨gm, 0, none⟩ nm cm (todoRow M) rfl (by simp [todoRow]; exact HNM.out) HCL.out H1.out (by unfold maxLen; have := HML.out; have := HNM.out; have := HTL.out; have := HN1.out; have := HK.out; have := HS.out.good.len; omega) (by have := HML.out; have := HNM.out; have := HTL.out; have := HN1.out; have := HK.out; have := HS.out.good.len; omega) HSZ.out ?_); intro v' w5 hrow5 hgr _ hloc)
        have e6 : (T0 ++ List.map Prod.fst [(t, b)]).length + M.length = n1 + nm := by have := HN1.out; have := HNM.out; simp; omega
        have D2 := HA4.out.more hgr (by rw [e6]; exact hrow5) hloc
        have e7 : List.map Prod.fst (F0 ++ [(t, true)] ++ M.map (fun k => (k, false))) = T0 ++ List.map Prod.fst [(t, b)] ++ M := by
          rw [List.map_append, List.map_append, HT0.out, List.map_map]
          congr 1
          exact List.map_id M
        have hbb := hbm'.out
        subst hbb
        go_roundg (mu (F0 ++ [(t, true)] ++ M.map (fun k => (k, false))))
        case measure => rw [hgk]; exact HPUSH.out.2
        case rel => exact ⟨_, N, by rw [e7]; exact D2, HPUSH.out.1, rfl, hN⟩
end Kn
end Go.Proofs.Ytbemkaninedonaa

namespace Go.Proofs.Ytbemkaninedonaa
open Go.RowKit Bv
namespace Tm
set_option maxHeartbeats 400000
set_option maxRecDepth 100000

theorem narrow_ok (w : Int) (h0 : 0 ≤ w) (h1 : w ≤ 255) (W : World) :
    Calls Try.prog 39 #[.int .i64 w] W fun e W' => e = .returned (.int .u8 w) ∧ W = W' := by
  have d0 : decide (w < (0 : Int)) = false := decide_eq_false (by omega)
  have d1 : decide ((255 : Int) < w) = false := decide_eq_false (by omega)
  go_enter Try.func39, Try.ntmps39
  go_wp2
  go_ret
  have e : IntKind.u8.wrap w = w := by simp [IntKind.wrap, IntKind.bits, IntKind.signed]; omega
  first | exact ⟨rfl, rfl⟩ | (rw [e]; exact ⟨rfl, rfl⟩) | (simp only [e]; exact ⟨rfl, rfl⟩)

theorem narrow_bad (w : Int) (h : w < 0 ∨ 255 < w) (W : World) :
    Calls Try.prog 39 #[.int .i64 w] W fun e W' => e = .returned (.int .u8 0) ∧ W = W' := by
  by_cases h0 : w < 0
  · have d0 : decide (w < (0 : Int)) = true := decide_eq_true (by omega)
    go_enter Try.func39, Try.ntmps39
    go_wp2
    go_ret
    exact ⟨rfl, rfl⟩
  · have d0 : decide (w < (0 : Int)) = false := decide_eq_false (by omega)
    have d1 : decide ((255 : Int) < w) = true := decide_eq_true (by omega)
    go_enter Try.func39, Try.ntmps39
    go_wp2
    go_ret
    exact ⟨rfl, rfl⟩

end Tm
end Go.Proofs.Ytbemkaninedonaa

namespace Go.Proofs.Ytbemkaninedonaa
open Go.RowKit Go.Maps Bv
namespace Tm
set_option maxHeartbeats 1000000
set_option maxRecDepth 100000

theorem narrow_any (w : Int) (W : World) : Calls Try.prog 39 #[.int .i64 w] W fun e W' => e = .returned (.int .u8 ((nar w : Nat) : Int)) ∧ W = W' := by
  by_cases h : 0 ≤ w ∧ w ≤ 255
  · have := narrow_ok w h.1 h.2 W
    rw [show ((nar w : Nat) : Int) = w by unfold nar; rw [if_pos h]; omega]
    exact this
  · rw [show nar w = 0 by unfold nar; rw [if_neg h]]
    exact narrow_bad w (by omega) W

theorem const_any {B p m : Nat} {sv : Value} {L : List Nd} {W : World} (S : StoreAt B W p m sv L) (hB : B ≤ W.heap.size) (w : Int) (n : Nat) (hn : n < 18446744073709551616) :
    Calls Try.prog 21 #[.pointer (some ⟨p, 0, none⟩), .int .i64 w, .int .u64 n] W (Made B p m sv L (cnd w n) W) := by
  have HM := Lib.hid (make_any (x := cnd w n) S hB (cnd_ok w hn))
  clear S hB
  go_enter Try.func21, Try.ntmps21
  go_wp2_with (first | (go_at_call 39; refine (narrow_any w _).mono ?_; rintro e w1 ⟨rfl, rfl⟩) | (go_at_call 13; refine HM.out.mono ?_; rintro e w1 ⟨rfl, hm⟩))
  exact bodyPost_ret (v := .tuple #[.int .i64 (((mk L (cnd w n)).2.1 : Nat) : Int), .int .i64 (((mk L (cnd w n)).2.2 : Nat) : Int)]) (by simp [results, Try.results21, go_sem]) rfl ⟨rfl, hm⟩

theorem var_any {B p m : Nat} {sv : Value} {L : List Nd} {W : World} (S : StoreAt B W p m sv L) (hB : B ≤ W.heap.size) (w : Int) (n : Int) :
    Calls Try.prog 20 #[.pointer (some ⟨p, 0, none⟩), .int .i64 w, .int .i64 n] W (Made B p m sv L (vnd w n) W) := by
  have HM := Lib.hid (make_any (x := vnd w n) S hB (vnd_ok w n))
  have e : (vnd w n).val = .agg #[.int .u8 2, .int .u8 ((nar w : Nat) : Int), .int .i64 0, .int .i64 0, .int .i64 0, .int .u64 (IntKind.u64.wrap n), .int .u8 0] := by
    unfold vnd Nd.val
    simp [u64_is]
  rw [e] at HM
  clear S hB e
  go_enter Try.func20, Try.ntmps20
  go_wp2_with (first | (go_at_call 39; refine (narrow_any w _).mono ?_; rintro e w1 ⟨rfl, rfl⟩) | (go_at_call 13; refine HM.out.mono ?_; rintro e w1 ⟨rfl, hm⟩))
  exact bodyPost_ret (v := .tuple #[.int .i64 (((mk L (vnd w n)).2.1 : Nat) : Int), .int .i64 (((mk L (vnd w n)).2.2 : Nat) : Int)]) (by simp [results, Try.results20, go_sem]) rfl ⟨rfl, hm⟩

theorem const_none (ptr : Value) (w : Int) (n : Nat) (W : World) (h : NoneAt W ptr) :
    Calls Try.prog 21 #[ptr, .int .i64 w, .int .u64 n] W fun e W' => e = .returned (.tuple #[.int .i64 0, .int .i64 1]) ∧ Below W.heap.size W W' := by
  have HM := Lib.hid (make_none ptr (cnd w n) W h)
  clear h
  go_enter Try.func21, Try.ntmps21
  go_wp2_with (first | (go_at_call 39; refine (narrow_any w _).mono ?_; rintro e w1 ⟨rfl, rfl⟩) | (go_at_call 13; refine HM.out.mono ?_; rintro e w1 ⟨rfl, hb⟩))
  exact bodyPost_ret (v := .tuple #[.int .i64 0, .int .i64 1]) (by simp [results, Try.results21, go_sem]) rfl ⟨rfl, hb⟩

theorem var_none (ptr : Value) (w : Int) (n : Int) (W : World) (h : NoneAt W ptr) :
    Calls Try.prog 20 #[ptr, .int .i64 w, .int .i64 n] W fun e W' => e = .returned (.tuple #[.int .i64 0, .int .i64 1]) ∧ Below W.heap.size W W' := by
  have HM := Lib.hid (make_none ptr (vnd w n) W h)
  have e : (vnd w n).val = .agg #[.int .u8 2, .int .u8 ((nar w : Nat) : Int), .int .i64 0, .int .i64 0, .int .i64 0, .int .u64 (IntKind.u64.wrap n), .int .u8 0] := by
    unfold vnd Nd.val
    simp [u64_is]
  rw [e] at HM
  clear h e
  go_enter Try.func20, Try.ntmps20
  go_wp2_with (first | (go_at_call 39; refine (narrow_any w _).mono ?_; rintro e w1 ⟨rfl, rfl⟩) | (go_at_call 13; refine HM.out.mono ?_; rintro e w1 ⟨rfl, hb⟩))
  exact bodyPost_ret (v := .tuple #[.int .i64 0, .int .i64 1]) (by simp [results, Try.results20, go_sem]) rfl ⟨rfl, hb⟩

end Tm
end Go.Proofs.Ytbemkaninedonaa

namespace Go.Proofs.Ytbemkaninedonaa
open Go.RowKit Go.Maps Bv
namespace Tm
set_option maxHeartbeats 1000000
set_option maxRecDepth 100000

theorem row_at {w : World} {base : Nat} {v : Value} {T : List Nat} (h : w.ownsRow base 3 1 v T.length (todoRow T)) (hT : 0 < T.length) :
    ∃ g c, v = .slice (some ⟨g, 0, none⟩) T.length c ∧ ∀ j i, T[j]? = some i → w.cell? ⟨g, j, none⟩ = some (.int .i64 ((i : Nat) : Int)) := by
  have hr := h
  rcases h with ⟨hl, ⟨_, h2⟩ | ⟨g, cap, cur, hv, hb, hh, hn, _⟩⟩
  · omega
  · refine ⟨g, cap, hv, fun j i hj => ?_⟩
    have hc := hr.cells (g := g) (by rw [hv]; rfl) j (.int .i64 ((i : Nat) : Int)) (by simp [todoRow, hj])
    have e : (⟨g, 0, none⟩ : Addr).add j = ⟨g, j, none⟩ := by
      unfold Addr.add
      split <;> simp_all
    rw [e] at hc
    exact hc

theorem row_zero {w : World} {base : Nat} {v : Value} {xs : List Value} (h : w.ownsRow base 3 1 v 0 xs) : ∃ a c, v = .slice a 0 c := by
  rcases h with ⟨hl, ⟨h1, _⟩ | ⟨g, cap, cur, hv, _⟩⟩
  · exact ⟨none, 0, h1⟩
  · exact ⟨_, _, hv⟩

theorem made_to {B p m : Nat} {sv : Value} {L L' : List Nd} {x : Nd} {W : World} {f : FuncId} {args : Array Value} {a b : Int} (S : StoreAt B W p m sv L) (hB : B ≤ W.heap.size) (h : Calls Try.prog f args W (Made B p m sv L x W)) (h1 : (mk L x).1 = L') (h2 : (((mk L x).2.1 : Nat) : Int) = a) (h3 : (((mk L x).2.2 : Nat) : Int) = b) :
    Calls Try.prog f args W (fun e W' => e = .returned (.tuple #[.int .i64 a, .int .i64 b]) ∧ ∃ v, StoreAt B W' p m v L' ∧ Below B W W') := by
  refine h.mono ?_
  rintro e w' ⟨he, v, S', K, _⟩
  subst h1; subst h2; subst h3
  refine ⟨he, v, S', K.below (fun i hi hc => ?_) hB⟩
  rcases hc with c | c | c
  · have := S.bp; omega
  · have := S.bm; omega
  · have := (S.row.lt i c).1; omega

theorem new_at (W : World) :
    Calls Try.prog 12 #[] W fun e W' => e = .returned (.pointer (some ⟨W.heap.size + 1, 0, none⟩)) ∧
      StoreAt W.heap.size W' (W.heap.size + 1) W.heap.size (.slice none 0 0) [] ∧ Below W.heap.size W W' := by
  refine (new_any W).mono ?_
  rintro e w' ⟨rfl, rfl⟩
  exact ⟨rfl, new_store W, new_kept W _ _⟩

end Tm
end Go.Proofs.Ytbemkaninedonaa

namespace Go.Proofs.Ytbemkaninedonaa
open Go.RowKit Go.Maps Bv Tm
namespace Kn
set_option maxHeartbeats 800000
set_option maxRecDepth 100000

theorem of_err {ptr : Value} {id : Int} {er : Nat} {nd : Value} {W : World} (her : er ≠ 0) (hnd : ∃ a b c d e f g : Int, nd = .agg #[.int .u8 a, .int .u8 b, .int .i64 c, .int .i64 d, .int .i64 e, .int .u64 f, .int .u8 g])
    (hn : ∀ v, Below W.heap.size W v → Calls Try.prog 15 #[ptr, .int .i64 id] v fun e v' => e = .returned (.tuple #[nd, .int .i64 ((er : Nat) : Int)]) ∧ Below v.heap.size v v') :
    Calls Try.prog 7 #[ptr, .int .i64 id] W fun e W' => e = .returned (.tuple #[.agg #[.int .u64 0, .int .u64 0], .int .i64 ((er : Nat) : Int)]) ∧ Below W.heap.size W W' := by
  obtain ⟨a, b, c, d, e, f, g, rfl⟩ := hnd
  have HB0 := Lib.hid (bel_alloc (Below.refl W.heap.size W) (.cells #[.int .u64 0, .int .u64 0] 29))
  have HN := Lib.hid (hn _ HB0.out)
  have d0 : (((er : Nat) : Int) != 0) = true := by simp; omega
  have d1 : ¬ ((er : Nat) : Int) = 0 := by omega
  clear hn her
  go_enter Try.func7, Try.ntmps7
  go_wp2_with fail
  refine HN.out.mono ?_
  rintro e w1 ⟨rfl, hb1⟩
  have a0 : w1.cell? ⟨W.heap.size, 0, none⟩ = some (.int .u64 0) := (hb1.cell (p := ⟨W.heap.size, 0, none⟩) (by simp)).trans (by simp [go_sem])
  have a1 : w1.cell? ⟨W.heap.size, 1, none⟩ = some (.int .u64 0) := (hb1.cell (p := ⟨W.heap.size, 1, none⟩) (by simp)).trans (by simp [go_sem])
  have f0 : w1.frozen? ⟨W.heap.size, 0, none⟩ = false := (hb1.frozen (p := ⟨W.heap.size, 0, none⟩) (by simp)).trans (by simp [go_sem])
  have f1 : w1.frozen? ⟨W.heap.size, 1, none⟩ = false := (hb1.frozen (p := ⟨W.heap.size, 1, none⟩) (by simp)).trans (by simp [go_sem])
  have al : W.heap.size < w1.heap.size := by have := hb1.size; simp at this; omega
  have HB1 := Lib.hid (bel_call HB0.out hb1)
  clear hb1
  go_wp2_with fail
  exact bodyPost_ret (v := .tuple #[.agg #[.int .u64 0, .int .u64 0], .int .i64 ((er : Nat) : Int)]) (by simp [results, Try.results7, go_sem, a0, a1, al]) rfl ⟨rfl, by first | exact (bel_alloc ((HB1.out.setCell (Nat.le_refl _) _).setCell (Nat.le_refl _) _) _) | exact (((bel_alloc HB1.out _).setCell (Nat.le_refl _) _).setCell (Nat.le_refl _) _)⟩

theorem of_no {B p m : Nat} {id : Int} {sv : Value} {L : List Nd} {W : World} (S : StoreAt B W p m sv L) (hi : inB L id = false) :
    Calls Try.prog 7 #[.pointer (some ⟨p, 0, none⟩), .int .i64 id] W fun e W' => e = .returned (.tuple #[.agg #[.int .u64 0, .int .u64 0], .int .i64 2]) ∧ Below W.heap.size W W' :=
  of_err (er := 2) (by decide) ⟨_, _, _, _, _, _, _, rfl⟩ (fun _ hv => node_no (S.call hv) hi)
theorem of_none (ptr : Value) (id : Int) (W : World) (h : NoneAt W ptr) :
    Calls Try.prog 7 #[ptr, .int .i64 id] W fun e W' => e = .returned (.tuple #[.agg #[.int .u64 0, .int .u64 0], .int .i64 1]) ∧ Below W.heap.size W W' :=
  of_err (er := 1) (by decide) ⟨_, _, _, _, _, _, _, rfl⟩ (fun v hv => node_none ptr id v (h.keep hv))

def kw1 : Nd := ⟨2, 8, 0, 0, 0, 0, 0⟩
def kw2 : Nd := ⟨1, 8, 0, 0, 0, 15, 0⟩
def kw3 : Nd := ⟨5, 8, 0, 1, 0, 0, 0⟩
def kw4 : Nd := ⟨23, 16, 0, 0, 0, 0, 0⟩
def kwL : List Nd := [kw1, kw2, kw3, kw4]
theorem kw3_ok : kw3.Ok := ⟨by decide, by decide, by simp [kw3, I64], by simp [kw3, I64], by simp [kw3, I64], by decide, by decide⟩
theorem kw4_ok : kw4.Ok := ⟨by decide, by decide, by simp [kw4, I64], by simp [kw4, I64], by simp [kw4, I64], by decide, by decide⟩
theorem kw_may : MayL kwL := by
  have g1 := mayL_step mayL_nil kw1
  rw [show (mk [] kw1).1 = [kw1] by decide] at g1
  have g2 := mayL_step g1 kw2
  rw [show (mk [kw1] kw2).1 = [kw1, kw2] by decide] at g2
  have g3 := mayL_step g2 kw3
  rw [show (mk [kw1, kw2] kw3).1 = [kw1, kw2, kw3] by decide] at g3
  have g4 := mayL_step g3 kw4
  rw [show (mk [kw1, kw2, kw3] kw4).1 = kwL by decide] at g4
  exact g4
theorem kw_0 : kn kwL 0 = (0, 0) := by decide +kernel
theorem kw_2 : kn kwL 2 = (240, 0) := by decide +kernel
theorem kw_3 : kn kwL 3 = (65280, 0) := by decide +kernel
theorem kof {B p m k z o : Nat} {ki zi oi : Int} {sv : Value} {W : World} (S : StoreAt B W p m sv kwL) (hk : k < kwL.length) (h : kn kwL k = (z, o)) (ek : ki = ((k : Nat) : Int)) (ez : zi = ((z : Nat) : Int)) (eo : oi = ((o : Nat) : Int)) :
    Calls Try.prog 7 #[.pointer (some ⟨p, 0, none⟩), .int .i64 ki] W fun e W' => e = .returned (.tuple #[.agg #[.int .u64 zi, .int .u64 oi], .int .i64 0]) ∧ Below W.heap.size W W' := by
  subst ek; subst ez; subst eo
  have := of_yes S kw_may hk
  rw [h] at this
  exact this

theorem mk3 : mk [kw1, kw2] kw3 = ([kw1, kw2, kw3], 2, 0) := by decide +kernel
theorem mk4 : mk [kw1, kw2, kw3] kw4 = (kwL, 3, 0) := by decide +kernel
theorem make3 {B p m : Nat} {sv : Value} {W : World} (S : StoreAt B W p m sv [kw1, kw2]) (hB : B ≤ W.heap.size) :
    Calls Try.prog 13 #[.pointer (some ⟨p, 0, none⟩), .agg #[.int .u8 5, .int .u8 8, .int .i64 0, .int .i64 1, .int .i64 0, .int .u64 0, .int .u8 0]] W fun e W' => e = .returned (.tuple #[.int .i64 2, .int .i64 0]) ∧ ∃ v, StoreAt B W' p m v [kw1, kw2, kw3] ∧ Below B W W' :=
  made_to S hB (make_any (x := kw3) S hB kw3_ok) (L' := [kw1, kw2, kw3]) (a := 2) (b := 0) (by rw [mk3]) (by rw [mk3]; rfl) (by rw [mk3]; rfl)
theorem make4 {B p m : Nat} {sv : Value} {W : World} (S : StoreAt B W p m sv [kw1, kw2, kw3]) (hB : B ≤ W.heap.size) :
    Calls Try.prog 13 #[.pointer (some ⟨p, 0, none⟩), .agg #[.int .u8 23, .int .u8 16, .int .i64 0, .int .i64 0, .int .i64 0, .int .u64 0, .int .u8 0]] W fun e W' => e = .returned (.tuple #[.int .i64 3, .int .i64 0]) ∧ ∃ v, StoreAt B W' p m v kwL ∧ Below B W W' :=
  made_to S hB (make_any (x := kw4) S hB kw4_ok) (L' := kwL) (a := 3) (b := 0) (by rw [mk4]) (by rw [mk4]; rfl) (by rw [mk4]; rfl)

/-- Two cells, the whole of a variable of known bits. -/
def At2 (w : World) (p : Nat) (x y : Value) : Prop := p < w.heap.size ∧ w.cell? ⟨p, 0, none⟩ = some x ∧ w.cell? ⟨p, 1, none⟩ = some y
theorem At2.keep {w w' : World} {p : Nat} {x y : Value} (h : At2 w p x y) (k : Below w.heap.size w w') : At2 w' p x y :=
  ⟨Nat.lt_of_lt_of_le h.1 k.size, (k.cell (p := ⟨p, 0, none⟩) h.1).trans h.2.1, (k.cell (p := ⟨p, 1, none⟩) h.1).trans h.2.2⟩
theorem At2.new (w : World) (x y : Value) (t : TypeId) : At2 (w.alloc (.cells #[x, y] t)) w.heap.size x y := by
  have h1 := (MapKept.heap_alloc w (.cells #[x, y] t)).1
  refine ⟨by rw [size_alloc]; omega, ?_, ?_⟩ <;> (unfold World.cell?; rw [h1]; rfl)

theorem works_any (W : World) :
    Calls Try.prog 9 #[] W fun e W' => e = .returned (.bool true) ∧ Below W.heap.size W W' := by
  go_enter Try.func9, Try.ntmps9
  go_wp2_with (go_at_call 12; refine (new_at W).mono ?_; rintro e v0 ⟨rfl, S0, hb0⟩)
  have hB0 := hb0.size
  have HC0 := Lib.hid (made_to S0 hB0 (var_any S0 (B := W.heap.size) hB0 8 0) (L' := [kw1]) (a := 0) (b := 0) (by decide +kernel) (by decide +kernel) (by decide +kernel))
  clear S0
  go_wp2_with (go_at_call 20; refine HC0.out.mono ?_; rintro e v1 ⟨rfl, s1, S1, hb1⟩)
  replace hb1 := hb0.trans hb1
  have hB1 := hb1.size
  clear HC0
  have HC1 := Lib.hid (made_to S1 hB1 (const_any S1 hB1 8 15 (by decide)) (L' := [kw1, kw2]) (a := 1) (b := 0) (by decide +kernel) (by decide +kernel) (by decide +kernel))
  clear S1
  go_wp2_with (go_at_call 21; refine HC1.out.mono ?_; rintro e v2 ⟨rfl, s2, S2, hb2⟩)
  replace hb2 := hb1.trans hb2
  have hB2 := hb2.size
  clear HC1
  have HC2 := Lib.hid (make3 S2 hB2)
  clear S2
  go_wp2_with (go_at_call 13; with_reducible refine HC2.out.mono ?_; rintro e v3 ⟨rfl, s3, S3, hb3⟩)
  replace hb3 := hb2.trans hb3
  have hB3 := hb3.size
  clear HC2
  have HC3 := Lib.hid (make4 S3 hB3)
  clear S3
  go_wp2_with (go_at_call 13; with_reducible refine HC3.out.mono ?_; rintro e v4 ⟨rfl, s4, S4, hb4⟩)
  replace hb4 := hb3.trans hb4
  clear HC3 hb0 hb1 hb2 hb3 hB0 hB1 hB2 hB3
  have HS4 := Lib.hid S4
  have HB4 := Lib.hid hb4
  clear S4 hb4
  have HO0 := Lib.hid (kof (ki := 0) (zi := 0) (oi := 0) HS4.out (by decide) kw_0 rfl rfl rfl)
  go_wp2_with fail
  with_reducible refine HO0.out.mono ?_
  rintro e v5 ⟨rfl, hbv5⟩
  have HSv5 := Lib.hid ((HS4.out.call hbv5).call (bel_alloc (Below.refl v5.heap.size v5) (.cells #[.int .u64 0, .int .u64 0] 29)))
  have HBv5 := Lib.hid (bel_alloc (bel_call HB4.out hbv5) (.cells #[.int .u64 0, .int .u64 0] 29))
  have HAv5 := Lib.hid (At2.new v5 (.int .u64 0) (.int .u64 0) 29)
  clear hbv5 HO0
  have HO1 := Lib.hid (kof (ki := 2) (zi := 240) (oi := 0) HSv5.out (by decide) kw_2 rfl rfl rfl)
  go_wp2_with fail
  with_reducible refine HO1.out.mono ?_
  rintro e v6 ⟨rfl, hbv6⟩
  have HSv6 := Lib.hid ((HSv5.out.call hbv6).call (bel_alloc (Below.refl v6.heap.size v6) (.cells #[.int .u64 240, .int .u64 0] 29)))
  have HBv6 := Lib.hid (bel_alloc (bel_call HBv5.out hbv6) (.cells #[.int .u64 240, .int .u64 0] 29))
  have HAv6 := Lib.hid (At2.new v6 (.int .u64 240) (.int .u64 0) 29)
  have HPv6 := Lib.hid ((HAv5.out.keep hbv6).keep (bel_alloc (Below.refl v6.heap.size v6) (.cells #[.int .u64 240, .int .u64 0] 29)))
  clear hbv6 HO1
  have HO2 := Lib.hid (kof (ki := 3) (zi := 65280) (oi := 0) HSv6.out (by decide) kw_3 rfl rfl rfl)
  go_wp2_with fail
  with_reducible refine HO2.out.mono ?_
  rintro e v7 ⟨rfl, hbv7⟩
  have HSv7 := Lib.hid ((HSv6.out.call hbv7).call (bel_alloc (Below.refl v7.heap.size v7) (.cells #[.int .u64 65280, .int .u64 0] 29)))
  have HBv7 := Lib.hid (bel_alloc (bel_call HBv6.out hbv7) (.cells #[.int .u64 65280, .int .u64 0] 29))
  have HAv7 := Lib.hid (At2.new v7 (.int .u64 65280) (.int .u64 0) 29)
  have HQv7 := Lib.hid ((HAv6.out.keep hbv7).keep (bel_alloc (Below.refl v7.heap.size v7) (.cells #[.int .u64 65280, .int .u64 0] 29)))
  have HPv7 := Lib.hid ((HPv6.out.keep hbv7).keep (bel_alloc (Below.refl v7.heap.size v7) (.cells #[.int .u64 65280, .int .u64 0] 29)))
  clear hbv7 HO2
  obtain ⟨la, a0, a1⟩ := HPv7.out
  obtain ⟨lb, b0, b1⟩ := HQv7.out
  obtain ⟨lc, c0, c1⟩ := HAv7.out
  obtain ⟨wz, hwz⟩ : ∃ wz, wz = v7.alloc (.cells #[.int .u64 65280, .int .u64 0] 29) := ⟨_, rfl⟩
  go_wp2_with fail
  rw [← hwz] at HBv7 a0 a1 b0 b1 c0 c1 la lb lc
  rw [← hwz]
  clear hwz HSv5 HSv6 HSv7 HBv5 HBv6 HPv6 HPv7 HQv7 HAv5 HAv6 HAv7 HS4 HB4
  go_ret
  exact ⟨rfl, HBv7.out⟩
end Kn
end Go.Proofs.Ytbemkaninedonaa

namespace Go.Proofs.Ytbemkaninedonaa
open Go.RowKit Go.Maps Bv Tm
namespace Kn
set_option maxHeartbeats 1000000
set_option maxRecDepth 100000

theorem noneAt_zeroK (W : World) : NoneAt (W.alloc (.cells Try.zeroCells49 49)) (.pointer (some ⟨W.heap.size, 0, none⟩)) := by
  refine .inr ⟨_, rfl, ?_⟩
  have h := (MapKept.heap_alloc W (.cells Try.zeroCells49 49)).1
  unfold World.cell?
  rw [h, zero_is]
  rfl

theorem knil_true (id : Int) (W : World) :
    Calls Try.prog 5 #[.int .i64 id, .bool true] W fun e W' => e = .returned (.bool true) ∧ Below W.heap.size W W' := by
  have HN0 : Hid (NoneAt (W.alloc (.cells Try.zeroCells49 49)) (.pointer (some ⟨W.heap.size, 0, none⟩))) := Lib.hid (noneAt_zeroK W)
  have HB0 : Hid (Below W.heap.size W (W.alloc (.cells Try.zeroCells49 49))) := Lib.hid (bel_alloc (Below.refl W.heap.size W) _)
  go_enter Try.func5, Try.ntmps5
  go_wp2_with (go_at_call 7; refine (of_none _ id _ HN0.out).mono ?_; rintro e v1 ⟨rfl, hb1⟩; have HB1 := Lib.hid (bel_call HB0.out hb1); clear hb1)
  refine (works_any _).mono ?_
  rintro e v5 ⟨rfl, hb5⟩
  go_wp2_with fail
  go_ret
  exact ⟨rfl, bel_call (bel_alloc HB1.out _) hb5⟩

theorem knil_false (id : Int) (W : World) :
    Calls Try.prog 5 #[.int .i64 id, .bool false] W fun e W' => e = .returned (.bool true) ∧ Below W.heap.size W W' := by
  have HN0 : Hid (NoneAt W (.pointer none)) := Lib.hid (.inl rfl)
  have HB0 : Hid (Below W.heap.size W W) := Lib.hid (Below.refl _ _)
  go_enter Try.func5, Try.ntmps5
  go_wp2_with (go_at_call 7; refine (of_none _ id _ HN0.out).mono ?_; rintro e v1 ⟨rfl, hb1⟩; have HB1 := Lib.hid (bel_call HB0.out hb1); clear hb1)
  refine (works_any _).mono ?_
  rintro e v5 ⟨rfl, hb5⟩
  go_wp2_with fail
  go_ret
  exact ⟨rfl, bel_call (bel_alloc HB1.out _) hb5⟩
end Kn
end Go.Proofs.Ytbemkaninedonaa

namespace Go.Proofs.Ytbemkaninedonaa
open Go.ChangeShapes Go.WideShapes Go.ChangeAt Go.RowKit Go.Joins Bv
namespace Tm
set_option maxHeartbeats 400000
set_option maxRecDepth 100000

theorem ownk : ownKnob Try.prog.godebug = none := by kernel_rfl

section
variable {H : Type} {enc : TypeId × Value → H} {P : Program}
/-- The row's last step, where the arguments hold no memory and the call has made new blocks alone. -/
theorem post_new {f : Func} {s : ChangeSpec} {W W' : World} {args : Array Value} {v : Value} {ds : List (DataW H)}
    (hW : DataW.Whole enc P f.params.toList s.vars false W args.toList ds [] [])
    (hres : ∀ (b : Nat) (sp : Nat → Bool) (hd : Bool), DataW.TrodAll enc P W' b sp hd f.resultTypes.toList (v.resultList f.resultTypes.size) (s.fn H (ds ++ [])).results [])
    (hargs : ∀ sp : Nat → Bool, DataW.TrodAll enc P W' 0 sp true f.params.toList args.toList (s.fn H (ds ++ [])).args [])
    (hvars : ∀ sp : Nat → Bool, DataW.TrodVars enc P W' sp s.vars (s.fn H (ds ++ [])).vars []) (hb : Below W.heap.size W W') :
    s.post enc P f false true false false W args v W' :=
  ⟨ds, [], [], [], [], [], hW, hres _ _ _, hargs _, hvars _, hb.frame _, fun h => by cases h⟩
end

section
variable {H : Type} {enc : TypeId × Value → H}

def Nd.datum {H : Type} (x : Nd) : DataW H := .agg [.lit (.int .u8 x.o), .lit (.int .u8 x.w), .agg [.lit (.int .i64 x.k0), .lit (.int .i64 x.k1), .lit (.int .i64 x.k2)], .lit (.int .u64 x.n), .lit (.int .u8 x.l)]

theorem nd_reads (x : Nd) (hx : x.Ok) (W : World) (base : Nat) (sp : Nat → Bool) (hd : Bool) (n : Nat) : DataW.trod enc Try.prog W base sp hd (n + 3) 57 x.cells.toList = some (x.datum, []) := by
  have a0 := wf_u8 hx.o
  have a1 := wf_u8 hx.w
  have a2 := wf_i64 hx.k0
  have a3 := wf_i64 hx.k1
  have a4 := wf_i64 hx.k2
  have a5 := wf_u64 hx.n
  have a6 := wf_u8 hx.l
  simp [DataW.trod, Try.underlying57, Try.underlying55, Try.underlying54, Try.underlying5, Try.underlying3, Try.underlying27, cells_nd, cells_kids, cells_op, cells_u8, cells_int, cells_u64,
    Nd.cells, Nd.datum, List.range, List.range.loop, a0, a1, a2, a3, a4, a5, a6]

theorem u8_of {a : Int} (h : (Lit.int .u8 a).wf = true) : ∃ n : Nat, a = (n : Int) ∧ n ≤ 255 := by
  simp only [Lit.wf, IntKind.min, IntKind.max, IntKind.signed, IntKind.bits, Bool.and_eq_true] at h
  obtain ⟨n, rfl⟩ := Int.eq_ofNat_of_zero_le (a := a) (by simpa using h.1)
  exact ⟨n, rfl, by have := h.2; simp at this; omega⟩
theorem u64_of {a : Int} (h : (Lit.int .u64 a).wf = true) : ∃ n : Nat, a = (n : Int) ∧ n < 18446744073709551616 := by
  simp only [Lit.wf, IntKind.min, IntKind.max, IntKind.signed, IntKind.bits, Bool.and_eq_true] at h
  obtain ⟨n, rfl⟩ := Int.eq_ofNat_of_zero_le (a := a) (by simpa using h.1)
  exact ⟨n, rfl, by have := h.2; simp at this; omega⟩
theorem i64_of {a : Int} (h : (Lit.int .i64 a).wf = true) : I64 a := by
  simp only [Lit.wf, IntKind.min, IntKind.max, IntKind.signed, IntKind.bits, Bool.and_eq_true] at h
  have h1 := h.1
  have h2 := h.2
  simp at h1 h2
  exact ⟨by omega, by omega⟩

theorem nd_open {W : World} {base : Nat} {sp : Nat → Bool} {hd : Bool} {fuel : Nat} {cs : List Value} {y : DataW H × List MemPlace} (h : DataW.trod enc Try.prog W base sp hd fuel 57 cs = some y) :
    ∃ x : Nd, x.Ok ∧ cs = x.cells.toList ∧ y = (x.datum, []) := by
  obtain ⟨xs, n, _, rfl, hl, hlen, hf⟩ := DataW.trod_struct Try.underlying57 h
  rw [cells_nd] at hl
  match cs, hl with
  | [c0, c1, c2, c3, c4, c5, c6], _ =>
  match xs, hlen with
  | [y0, y1, y2, y3, y4], _ =>
  have h0 := hf 0 _ rfl
  have h1 := hf 1 _ rfl
  have h2 := hf 2 _ rfl
  have h3 := hf 3 _ rfl
  have h4 := hf 4 _ rfl
  simp [cells_op, cells_u8, cells_kids, cells_u64] at h0 h1 h2 h3 h4
  obtain ⟨a0, e0, z0, w0⟩ := DataW.trod_int Try.underlying54 h0
  obtain ⟨a1, e1, z1, w1⟩ := DataW.trod_int Try.underlying5 h1
  obtain ⟨t0, t1, t2, n2, z2, k0, k1, k2⟩ := trod_array3 Try.underlying55 cells_int h2
  obtain ⟨b0, f0, v0, u0⟩ := DataW.trod_int Try.underlying3 k0
  obtain ⟨b1, f1, v1, u1⟩ := DataW.trod_int Try.underlying3 k1
  obtain ⟨b2, f2, v2, u2⟩ := DataW.trod_int Try.underlying3 k2
  obtain ⟨a3, e3, z3, w3⟩ := DataW.trod_int Try.underlying27 h3
  obtain ⟨a4, e4, z4, w4⟩ := DataW.trod_int Try.underlying5 h4
  simp only [List.cons.injEq, and_true] at e0 e1 f0 f1 f2 e3 e4
  subst e0 e1 f0 f1 f2 e3 e4
  subst v0 v1 v2
  subst z0 z1 z2 z3 z4
  obtain ⟨o, rfl, ho⟩ := u8_of w0
  obtain ⟨w, rfl, hw⟩ := u8_of w1
  obtain ⟨m, rfl, hm⟩ := u64_of w3
  obtain ⟨l, rfl, hl⟩ := u8_of w4
  exact ⟨⟨o, w, b0, b1, b2, m, l⟩, ⟨ho, hw, i64_of u0, i64_of u1, i64_of u2, hm, hl⟩, rfl, rfl⟩

/-- A node by value. -/
theorem open_nd {W : World} {base b0 : Nat} {spare : Nat → Bool} {held : Bool} {r : Go.Reach} {v : Value} {d : DataW H} {p : List MemPlace}
    (hv : Value.okWide Try.prog W r b0 57 v) (h : DataW.Trod enc Try.prog W base spare held 57 v d p) :
    ∃ x : Nd, x.Ok ∧ v = x.val ∧ p = [] ∧ ∀ (W' : World) (b : Nat) (sp : Nat → Bool) (hd : Bool), DataW.Trod enc Try.prog W' b sp hd 57 x.val d [] := by
  obtain ⟨cs, rfl, _⟩ := okWide_struct Try.underlying57 hv
  obtain ⟨fuel, hf⟩ := h
  obtain ⟨x, hx, hc, hy⟩ := nd_open hf
  simp only [Prod.mk.injEq] at hy
  obtain ⟨rfl, rfl⟩ := hy
  refine ⟨x, hx, ?_, rfl, fun W' b sp hd => ⟨3, nd_reads x hx W' b sp hd 0⟩⟩
  have : cs = x.cells := by
    simp only [Value.cells] at hc
    exact Array.toList_inj.1 hc
  rw [this]
  rfl
end
end Tm
end Go.Proofs.Ytbemkaninedonaa

namespace Go.Proofs.Ytbemkaninedonaa
open Go.ChangeShapes Go.WideShapes Go.ChangeAt Go.RowKit Go.Joins Bv Tm
namespace Kn
set_option maxHeartbeats 400000

theorem knil_any (id : Int) (z : Bool) (W : World) :
    Calls Try.prog 5 #[.int .i64 id, .bool z] W fun e W' => e = .returned (.bool true) ∧ Below W.heap.size W W' := by
  cases z
  · exact knil_false id W
  · exact knil_true id W

set_option maxRecDepth 100000 in
theorem knil_lifted (os : Os) (started : os.Started) (H : Type) (enc : TypeId × Value → H) :
    ReturnsInHanded {} Try.checked os 5 .any (Rows.knownNilSpec.pre6 enc Try.prog Try.f5 Rows.knownNilRow.domain false) (Rows.knownNilSpec.post enc Try.prog Try.f5 false true false false) := by
  refine returnsInHanded_of_change (C := Try.checked) ownk started (by kernel_rfl) Try.func5
    (ChangeSpec.witness6 (enc := enc) (C := Try.checked) false ⟨#[], #[.int .i64 0, .bool false], []⟩ 8 (by kernel_rfl) (by kernel_rfl) (by kernel_rfl) (by kernel_rfl)) ?_
  intro W base args ds gs before hval0 hW _ _
  have hval : ∀ (j : Nat) t v, Try.f5.params[j]? = some t → args[j]? = some v → Value.okWide Try.prog W .any base t v := hval0
  have hW' := hW
  obtain ⟨p, q, hA0, hV, rfl, _, _⟩ := hW
  have hA : DataW.TrodAll enc Try.prog W 0 (fun _ => true) true Try.f5.params.toList args.toList ds p := hA0
  rw [Try.params5] at hA hval
  obtain ⟨v0, vs0, d0, ds0, p0, q0, hargs, rfl, rfl, h0, r0⟩ := trodAll_cons hA
  obtain ⟨v1, vs1, d1, ds1, p1, q1, rfl, rfl, rfl, h1, r1⟩ := trodAll_cons r0
  obtain ⟨rfl, rfl, rfl⟩ := trodAll_nil r1
  obtain rfl : args = #[v0, v1] := by cases args; simp_all
  obtain ⟨rfl, rfl⟩ := trodVars_none hV
  obtain ⟨i, rfl, rfl, rfl, wi⟩ := open_int Try.underlying3 (hval 0 3 v0 rfl rfl) h0
  obtain ⟨z, rfl, rfl, rfl⟩ := open_bool Try.underlying4 (hval 1 4 v1 rfl rfl) h1
  clear hA0 hval0
  simp only [List.append_nil] at hW'
  refine (knil_any i z W).mono fun e W' ⟨he, hg⟩ => ?_
  subst he
  refine ⟨_, rfl, post_new hW' (fun _ _ _ => trodAll_mk1 (shut_bool Try.underlying4 _)) (fun sp => ?_) (fun _ => rfl) hg⟩
  exact trodAll_cons_mk (shut_int Try.underlying3 wi) (trodAll_cons_mk (shut_bool Try.underlying4 _) trodAll_mk0)

theorem knil_holds : Rows.KnownNilSaid :=
  OpenClaim.holds_of_wide 5 Try.f5 rfl rfl rfl rfl rfl rfl rfl ⟨rfl, rfl, rfl, rfl, rfl⟩ rfl rfl rfl rfl rfl (by kernel_rfl) Try.func5 (by kernel_rfl)
    (of_decide_eq_true (by kernel_rfl)) (by unfold Func.isWrapper; rw [if_neg (of_decide_eq_false (by kernel_rfl))]; exact ⟨rfl, rfl⟩)
    (fun os started H enc _ => knil_lifted os started H enc)
end Kn
theorem knownNil_holds : Rows.KnownNilSaid := Kn.knil_holds
#print axioms knownNil_holds
end Go.Proofs.Ytbemkaninedonaa
