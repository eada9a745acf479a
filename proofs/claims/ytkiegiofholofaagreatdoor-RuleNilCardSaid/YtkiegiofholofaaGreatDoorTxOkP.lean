/-
  Plain facts: what holds of the nodes that are read of a text.
-/
import Derived.Test.YtkiegiofholofaaGreatDoorPt27
namespace Go.Proofs.YtkiegiofholofaaGreatDoor
open Go.RowKit Go.Maps Bv Tm
namespace Tx
set_option maxHeartbeats 800000

/-- What holds of a node that was read, at the place i. -/
structure RdOk (i : Nat) (x : Nd) : Prop where
  ok : x.Ok
  lo : 1 ≤ x.o
  hi : x.o ≤ 25
  kid : ∀ j, j < kc x.o → 0 ≤ x.kid j ∧ x.kid j < ((i : Nat) : Int)
def PlOk (ns : List Nd) : Prop := ∀ (i : Nat) (x : Nd), ns[i]? = some x → RdOk i x
theorem plOk_nil : PlOk [] := fun i x h => by simp at h
theorem PlOk.snoc {ns : List Nd} {x : Nd} (h : PlOk ns) (hx : RdOk ns.length x) : PlOk (ns ++ [x]) := by
  intro i y hy
  by_cases hi : i < ns.length
  · rw [List.getElem?_append_left hi] at hy; exact h i y hy
  · rw [List.getElem?_append_right (by omega)] at hy
    have h0 : i - ns.length = 0 := by
      by_cases h0 : i - ns.length = 0
      · exact h0
      · rw [List.getElem?_eq_none (by simp; omega)] at hy; simp at hy
    rw [h0] at hy
    simp at hy
    subst hy
    have : i = ns.length := by omega
    rw [this]
    exact hx

theorem sho_le {s s' : By} {n : Nat} (h : sho s = some (n, s')) : n ≤ 255 := by
  unfold sho at h
  cases hq : num s with
  | none => rw [hq] at h; simp at h
  | some q =>
    rw [hq] at h
    simp only [Option.map_some, Option.some.injEq, Prod.mk.injEq] at h
    rw [← h.1]
    exact Nat.min_le_right _ _

theorem headP_ok {s s' : By} {x : Nd} (h : headP s = some (x, s')) : x.Ok := by
  have hb := headP_facts h
  unfold headP at h
  simp only [] at h
  have z : I64 0 := by unfold I64; omega
  by_cases h0 : opN (s.takeWhile (inR 97 122)) = 0
  · rw [if_pos h0] at h; cases h
  rw [if_neg h0] at h
  by_cases h22 : opN (s.takeWhile (inR 97 122)) = 22
  · rw [if_pos h22] at h
    cases h1 : need 32 (s.dropWhile (inR 97 122)) with
    | none => rw [h1] at h; simp at h
    | some t1 =>
      rw [h1, Option.bind_some] at h
      cases h2 : sho t1 with
      | none => rw [h2] at h; simp at h
      | some q =>
        rw [h2, Option.bind_some] at h
        cases h3 : need 32 q.2 with
        | none => rw [h3] at h; simp at h
        | some t2 =>
          rw [h3, Option.bind_some] at h
          cases h4 : sho t2 with
          | none => rw [h4] at h; simp at h
          | some q2 =>
            rw [h4] at h
            simp only [Option.map_some, Option.some.injEq, Prod.mk.injEq] at h
            obtain ⟨hx, hs⟩ := h
            have a1 := sho_le (n := q.1) (s' := q.2) h2
            have a2 := sho_le (n := q2.1) (s' := q2.2) h4
            rw [← hx] at hb ⊢
            exact ⟨by have := hb.2.1; simp only at this ⊢; omega, a2, z, z, z, by simp, a1⟩
  rw [if_neg h22] at h
  by_cases h23 : opN (s.takeWhile (inR 97 122)) = 23 ∨ opN (s.takeWhile (inR 97 122)) = 24
  · rw [if_pos h23] at h
    cases h1 : need 32 (s.dropWhile (inR 97 122)) with
    | none => rw [h1] at h; simp at h
    | some t1 =>
      rw [h1, Option.bind_some] at h
      cases h2 : sho t1 with
      | none => rw [h2] at h; simp at h
      | some q =>
        rw [h2] at h
        simp only [Option.map_some, Option.some.injEq, Prod.mk.injEq] at h
        obtain ⟨hx, hs⟩ := h
        have a1 := sho_le (n := q.1) (s' := q.2) h2
        rw [← hx] at hb ⊢
        exact ⟨by have := hb.2.1; simp only at this ⊢; omega, a1, z, z, z, by simp, by simp⟩
  rw [if_neg h23] at h
  simp only [Option.some.injEq, Prod.mk.injEq] at h
  obtain ⟨hx, hs⟩ := h
  rw [← hx] at hb ⊢
  exact ⟨by have := hb.2.1; simp only at this ⊢; omega, by simp, z, z, z, by simp, by simp⟩

theorem setKid_ok {x : Nd} {i : Nat} {v : Int} (h : x.Ok) (hv : I64 v) : (setKid x i v).Ok := by
  unfold setKid
  split
  · exact ⟨h.o, h.w, hv, h.k1, h.k2, h.n, h.l⟩
  · exact ⟨h.o, h.w, h.k0, hv, h.k2, h.n, h.l⟩
  · exact ⟨h.o, h.w, h.k0, h.k1, hv, h.n, h.l⟩
theorem setKid_kid {x : Nd} {i j : Nat} {v : Int} (hi : i < 3) (hj : j < 3) : (setKid x i v).kid j = if j = i then v else x.kid j := by
  match i, hi, j, hj with
  | 0, _, 0, _ => rfl
  | 0, _, 1, _ => rfl
  | 0, _, 2, _ => rfl
  | 1, _, 0, _ => rfl
  | 1, _, 1, _ => rfl
  | 1, _, 2, _ => rfl
  | 2, _, 0, _ => rfl
  | 2, _, 1, _ => rfl
  | 2, _, 2, _ => rfl
  | (i + 3), hi, _, _ => omega
  | _, _, (j + 3), hj => omega
theorem setKid_o {x : Nd} {i : Nat} {v : Int} : (setKid x i v).o = x.o := by unfold setKid; split <;> rfl

theorem kidsP_ok {rec : By → List Nd → Option (By × List Nd)} (hshr : ∀ s ns p, rec s ns = some p → Shr s ns p) (hrec : ∀ s ns p, ns.length + s.length ≤ 10000 → PlOk ns → rec s ns = some p → PlOk p.2) :
    ∀ (c i : Nat) (x : Nd) (s : By) (ns : List Nd) (y : Nd) (s' : By) (ns' : List Nd), i + c ≤ 3 → ns.length + s.length ≤ 10000 → PlOk ns → x.Ok → (∀ j, j < i → 0 ≤ x.kid j ∧ x.kid j < ((ns.length : Nat) : Int)) → kidsP rec c i x s ns = some (y, s', ns') →
      PlOk ns' ∧ y.Ok ∧ (∀ j, j < i + c → 0 ≤ y.kid j ∧ y.kid j < ((ns'.length : Nat) : Int))
  | 0, i, x, s, ns, y, s', ns', _, _, hp, hx, hk, h => by
    simp only [kidsP, Option.some.injEq, Prod.mk.injEq] at h
    obtain ⟨rfl, rfl, rfl⟩ := h
    exact ⟨hp, hx, hk⟩
  | c + 1, i, x, s, ns, y, s', ns', hic, hl, hp, hx, hk, h => by
    simp only [kidsP] at h
    cases h1 : need 32 s with
    | none => rw [h1] at h; simp at h
    | some t =>
      rw [h1, Option.bind_some] at h
      cases h2 : rec t ns with
      | none => rw [h2] at h; simp at h
      | some p =>
        rw [h2, Option.bind_some] at h
        have ht := need_len h1
        have hsh := hshr t ns p h2
        unfold Shr at hsh
        have hp2 := hrec t ns p (by omega) hp h2
        have hv : I64 (((p.2.length - 1 : Nat) : Nat) : Int) := by unfold I64; omega
        have := kidsP_ok hshr hrec c (i + 1) _ p.1 p.2 y s' ns' (by omega) (by omega) hp2 (setKid_ok hx hv) (fun j hj => by
          rw [setKid_kid (by omega) (by omega)]
          by_cases e : j = i
          · rw [if_pos e]; omega
          · rw [if_neg e]; have := hk j (by omega); omega) h
        exact ⟨this.1, this.2.1, fun j hj => this.2.2 j (by omega)⟩

theorem nodeP_ok : ∀ (f : Nat) (s : By) (ns : List Nd) (p : By × List Nd), ns.length + s.length ≤ 10000 → PlOk ns → nodeP f s ns = some p → PlOk p.2
  | 0, s, ns, p, _, _, h => by simp [nodeP] at h
  | f + 1, [], ns, p, _, _, h => by simp [nodeP] at h
  | f + 1, c :: r, ns, p, hl, hp, h => by
    simp only [nodeP] at h
    have z : I64 0 := by unfold I64; omega
    by_cases h35 : c = 35
    · rw [if_pos h35] at h
      cases h1 : sho r with
      | none => rw [h1] at h; simp at h
      | some q =>
        rw [h1, Option.bind_some] at h
        cases h2 : need 58 q.2 with
        | none => rw [h2] at h; simp at h
        | some t =>
          rw [h2, Option.bind_some] at h
          cases h3 : num t with
          | none => rw [h3] at h; simp at h
          | some q2 =>
            rw [h3] at h
            simp only [Option.map_some, Option.some.injEq] at h
            have a1 := sho_le (n := q.1) (s' := q.2) h1; have a3 := num_lt (n := q2.1) (s' := q2.2) h3
            rw [← h]
            exact hp.snoc ⟨⟨by simp, a1, z, z, z, a3, by simp⟩, by simp, by simp, fun j hj => by simp [kc] at hj⟩
    rw [if_neg h35] at h
    by_cases h118 : c = 118
    · rw [if_pos h118] at h
      cases h1 : num r with
      | none => rw [h1] at h; simp at h
      | some q =>
        rw [h1, Option.bind_some] at h
        cases h2 : need 58 q.2 with
        | none => rw [h2] at h; simp at h
        | some t =>
          rw [h2, Option.bind_some] at h
          cases h3 : sho t with
          | none => rw [h3] at h; simp at h
          | some q2 =>
            rw [h3] at h
            simp only [Option.map_some, Option.some.injEq] at h
            have a1 := num_lt (n := q.1) (s' := q.2) h1; have a3 := sho_le (n := q2.1) (s' := q2.2) h3
            rw [← h]
            exact hp.snoc ⟨⟨by simp, a3, z, z, z, a1, by simp⟩, by simp, by simp, fun j hj => by simp [kc] at hj⟩
    rw [if_neg h118] at h
    by_cases h40 : c = 40
    · rw [if_pos h40] at h
      cases h1 : headP r with
      | none => rw [h1] at h; simp at h
      | some q =>
        rw [h1, Option.bind_some] at h
        cases h2 : kidsP (nodeP f) (kc q.1.o) 0 q.1 q.2 ns with
        | none => rw [h2] at h; simp at h
        | some y =>
          obtain ⟨y, t, ms⟩ := y
          rw [h2, Option.bind_some] at h
          cases h3 : need 41 t with
          | none => rw [h3] at h; simp at h
          | some t2 =>
            rw [h3] at h
            simp only [Option.map_some, Option.some.injEq] at h
            have a1 := headP_facts (x := q.1) (s' := q.2) h1
            have a0 := headP_ok (x := q.1) (s' := q.2) h1
            have a2 := kidsP_shr (fun s ns p hp => nodeP_shr f s ns p hp) _ _ _ _ _ _ _ _ h2
            have a3 := kidsP_ok (fun s ns p hp => nodeP_shr f s ns p hp) (fun s ns p hl hq hp => nodeP_ok f s ns p hl hq hp) _ _ _ _ _ _ _ _ (by have := kc_le q.1.o; omega) (by simp only [List.length_cons] at hl; omega) hp a0 (fun j hj => by omega) h2
            rw [← h]
            refine a3.1.snoc ⟨a3.2.1, by rw [a2.2.2]; omega, by rw [a2.2.2]; omega, fun j hj => a3.2.2 j ?_⟩
            rw [a2.2.2] at hj
            omega
    · rw [if_neg h40] at h; cases h

theorem wholeP_ok {s : By} {ns : List Nd} (h : wholeP s = some ns) : PlOk ns ∧ ns.length ≤ 10000 ∧ s.length ≤ 10000 := by
  unfold wholeP at h
  by_cases hl : 10000 < s.length
  · rw [if_pos hl] at h; cases h
  rw [if_neg hl] at h
  cases hq : nodeP (s.length + 1) s [] with
  | none => rw [hq] at h; simp at h
  | some p =>
    rw [hq, Option.bind_some] at h
    have hs := nodeP_shr _ _ _ _ hq
    have ho := nodeP_ok _ _ _ _ (by simp; omega) plOk_nil hq
    unfold Shr at hs
    by_cases hp : p.1 = []
    · rw [if_pos hp] at h
      simp only [Option.some.injEq] at h
      rw [← h]
      exact ⟨ho, by simp at hs; omega, by omega⟩
    · rw [if_neg hp] at h; cases h
end Tx
end Go.Proofs.YtkiegiofholofaaGreatDoor
