/-
  Does a literal, do clauses hold in a model: the document's.
-/
import Derived.Test.YtmgkgbhkaoflhaaB9
namespace Go.Proofs.Ytmgkgbhkaoflhaa
open Go.RowKit
namespace Rp
open Cf
set_option maxHeartbeats 1600000
set_option maxRecDepth 100000

/-- A model. -/
def BoolsAt (W : World) (al : Option Addr) (m : List Bool) : Prop :=
  m = [] ∨ ∃ bl ol, al = some ⟨bl, ol, none⟩ ∧ bl < W.heap.size ∧ ∀ (j : Nat) (x : Bool), m[j]? = some x → W.cell? ⟨bl, ol + j, none⟩ = some (.bool x)
theorem BoolsAt.keep {W w : World} {al : Option Addr} {T : List Bool} (h : BoolsAt W al T) (hb : Below W.heap.size W w) : BoolsAt w al T := by
  refine h.imp id ?_
  rintro ⟨ab, ao, h1, h2, h3⟩
  exact ⟨ab, ao, h1, Nat.lt_of_lt_of_le h2 hb.size, fun j v hj => (hb.cell (p := ⟨ab, ao + j, none⟩) h2).trans (h3 j v hj)⟩
theorem bools_at {W : World} {al : Option Addr} {T : List Bool} (h : BoolsAt W al T) {i : Nat} {x : Bool} (hk : T[i]? = some x) : ∃ bl ol, al = some ⟨bl, ol, none⟩ ∧ bl < W.heap.size ∧ W.cell? ⟨bl, ol + i, none⟩ = some (.bool x) := by
  rcases h with h | ⟨bl, ol, h1, h2, h3⟩
  · subst h; simp at hk
  · exact ⟨bl, ol, h1, h2, h3 i x hk⟩
theorem one_pos {m : List Bool} {i : Nat} {x : Bool} (h1 : 1 ≤ i) (hx : m[i]? = some x) : oneM m ((i : Nat) : Int) = x := by
  have hl := (List.getElem?_eq_some_iff.1 hx).1
  unfold oneM
  rw [if_pos (by omega), Int.toNat_natCast, if_pos hl]
  simp [List.getD, hx]
theorem one_neg {m : List Bool} {i : Nat} {x : Bool} (h1 : 1 ≤ i) (hx : m[i]? = some x) : oneM m (-((i : Nat) : Int)) = !x := by
  have hl := (List.getElem?_eq_some_iff.1 hx).1
  unfold oneM
  rw [if_neg (by omega), if_pos (by omega), show (- -((i : Nat) : Int)).toNat = i by omega, if_pos hl]
  simp [List.getD, hx]
theorem one_far {m : List Bool} {l : Int} (h : ∀ j : Nat, 1 ≤ j → j < m.length → l ≠ ((j : Nat) : Int) ∧ l ≠ -((j : Nat) : Int)) : oneM m l = decide (l < 0) := by
  unfold oneM
  by_cases h1 : 0 < l
  · rw [if_pos h1, if_neg (fun c => (h l.toNat (by omega) c).1 (by omega))]
    exact (decide_eq_false (by omega)).symm
  · rw [if_neg h1]
    by_cases h2 : l < 0
    · rw [if_pos h2, if_neg (fun c => (h (-l).toNat (by omega) c).2 (by omega))]
      exact (decide_eq_true h2).symm
    · rw [if_neg h2]
      exact (decide_eq_false h2).symm
theorem rone_any {W : World} {al : Option Addr} {m : List Bool} {l : Int} {len c : Nat} (h : BoolsAt W al m) (hl : len = m.length) (hb : len ≤ 1000000) :
    Calls Try.prog 25 #[.int .i64 l, .slice al len c] W fun e w => e = .returned (.bool (oneM m l)) ∧ W = w := by
  have HT := Lib.hid h
  have HL := Lib.hid hl
  clear h hl
  go_enter Try.func25, Try.ntmps25
  go_wp2_with fail
  go_loopg [5] len (fun gk v5 wr => ∃ i : Nat, v5 = .int .i64 ((i : Nat) : Int) ∧ (i + gk = len + 1) ∧ 1 ≤ i ∧ Hid (∀ j : Nat, 1 ≤ j → j < i → l ≠ ((j : Nat) : Int) ∧ l ≠ -((j : Nat) : Int)) ∧ W = wr)
  case atStart => exact ⟨1, rfl, by omega, by omega, Lib.hid (fun j a b => by omega), rfl⟩
  case round =>
    obtain ⟨i, rfl, hg, hi1, HF, rfl⟩ := hrel
    have HG := Lib.hid hg
    have i0 : (0 : Int) ≤ ((i : Nat) : Int) := by omega
    by_cases hlt : i < len
    · have g1 : decide (((i : Nat) : Int) < ((len : Nat) : Int)) = true := decide_eq_true (by omega)
      have g2 : ((i : Nat) : Int) < ((len : Nat) : Int) := by omega
      obtain ⟨x, hx⟩ : ∃ x, m[i]? = some x := ⟨_, List.getElem?_eq_getElem (by rw [← HL.out]; exact hlt)⟩
      obtain ⟨b, o, rfl, hbl, hc⟩ := bools_at HT.out hx
      have HP := Lib.hid (one_pos hi1 hx)
      have HN := Lib.hid (one_neg hi1 hx)
      have HLT := Lib.hid hlt
      obtain ⟨n1, n2⟩ := neg_i (x := ((i : Nat) : Int)) (by omega) (by omega)
      have HS := Lib.hid (step_i (j := i) (by omega))
      clear hg hx hlt
      by_cases e1 : l = ((i : Nat) : Int)
      · subst e1
        go_wp2_with fail
        go_ret
        exact ⟨by rw [HP.out]; rfl, rfl⟩
      · have d1 : (l == ((i : Nat) : Int)) = false := by simpa using e1
        by_cases e2 : l = -((i : Nat) : Int)
        · subst e2
          have HE1 := Lib.hid e1
          clear e1
          go_wp2_with fail
          go_ret
          exact ⟨by rw [HN.out]; rfl, rfl⟩
        · have d2 : (l == -((i : Nat) : Int)) = false := by simpa using e2
          have HX : Hid (∀ j : Nat, 1 ≤ j → j < i + 1 → l ≠ ((j : Nat) : Int) ∧ l ≠ -((j : Nat) : Int)) := Lib.hid (fun j a b => by
            by_cases e : j = i
            · rw [e]; exact ⟨e1, e2⟩
            · exact HF.out j a (by omega))
          clear e1 e2
          go_wp2_with fail
          go_roundg (gk - 1)
          case measure => have := HG.out; have := HLT.out; omega
          case rel => exact ⟨i + 1, by first | rfl | (rw [HS.out.1]) | go_num, by have := HG.out; have := HLT.out; omega, by omega, HX, rfl⟩
    · have g1 : decide (((i : Nat) : Int) < ((len : Nat) : Int)) = false := decide_eq_false (by omega)
      have g2 : ¬ ((i : Nat) : Int) < ((len : Nat) : Int) := by omega
      have HE : Hid (oneM m l = decide (l < 0)) := Lib.hid (one_far fun j a b => HF.out j a (by have := HL.out; omega))
      clear hg hlt
      go_wp2_with fail
      go_ret
      exact ⟨by rw [HE.out]; rfl, rfl⟩
end Rp
end Go.Proofs.Ytmgkgbhkaoflhaa
