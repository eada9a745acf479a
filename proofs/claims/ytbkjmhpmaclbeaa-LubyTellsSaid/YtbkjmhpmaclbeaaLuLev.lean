/-
  The document's Levels.
-/
import Derived.Test.YtbkjmhpmaclbeaaLuRef
namespace Go.Proofs.Ytbkjmhpmaclbeaa
open Go.RowKit
namespace Lu
set_option maxHeartbeats 1600000
set_option maxRecDepth 100000

/-- A list of ints in memory. -/
def LiAt (W : World) (al : Option Addr) (T : List Int) : Prop := T = [] ∨ ∃ b o, al = some ⟨b, o, none⟩ ∧ b < W.heap.size ∧ ∀ (i : Nat) (x : Int), T[i]? = some x → W.cell? ⟨b, o + i, none⟩ = some (.int .i64 x)
theorem has_snoc {T : List Int} {k : Nat} {x y : Int} (h : T[k]? = some x) : (T.take (k + 1)).contains y = ((T.take k).contains y || x == y) := by
  rw [List.take_add_one, h]
  show (T.take k ++ [x]).contains y = _
  generalize T.take k = l
  induction l with
  | nil =>
    show [x].contains y = (false || x == y)
    rw [Bool.false_or]
    show ((y == x) || false) = (x == y)
    rw [Bool.or_false, Bool.eq_iff_iff, beq_iff_eq, beq_iff_eq]
    exact ⟨Eq.symm, Eq.symm⟩
  | cons z l ih =>
    rw [List.cons_append, List.contains_cons, List.contains_cons, ih, Bool.or_assoc]
theorem rlevels_any {W : World} {al : Option Addr} {T : List Int} {len cap : Nat} (h : LiAt W al T) (hl : len = T.length) (hb : len ≤ 9000000000000000000) : Calls Try.prog 10 #[.slice al len cap] W fun e w => e = .returned (.int .i64 ((levP T len : Nat) : Int)) ∧ ∃ q, w = W.drewN q := by
  have HL := Lib.hid hl
  have HT := Lib.hid h
  clear h hl
  go_enter Try.func10, Try.ntmps10
  go_wp2_with fail
  go_loopg [3, 4] len (fun gk v3 v4 wr => ∃ i m : Nat, v3 = .int .i64 ((m : Nat) : Int) ∧ v4 = .int .i64 ((i : Nat) : Int) ∧ i + gk = len ∧ Hid (m = levP T i) ∧ Hid (∃ q, wr = W.drewN q))
  case atStart => exact ⟨0, 0, rfl, rfl, by omega, Lib.hid rfl, Lib.hid ⟨0, rfl⟩⟩
  case round =>
    obtain ⟨i, m, rfl, rfl, hg, HM, HQ⟩ := hrel
    have HG := Lib.hid hg
    have i0 : (0 : Int) ≤ ((i : Nat) : Int) := by omega
    by_cases hlt : i < len
    · have g1 : decide (((i : Nat) : Int) < ((len : Nat) : Int)) = true := decide_eq_true (by omega)
      have g2 : ((i : Nat) : Int) < ((len : Nat) : Int) := by omega
      have s1 : wrap64 (((i : Nat) : Int) + 1) = ((i : Nat) : Int) + 1 := IntWalk.wrap64_in _ (by omega)
      have hm : m ≤ i := by rw [HM.out]; exact levP_le T i
      have s2 : wrap64 (((m : Nat) : Int) + 1) = ((m : Nat) : Int) + 1 := IntWalk.wrap64_in _ (by omega)
      obtain ⟨y, hy⟩ : ∃ y, T[i]? = some y := ⟨_, List.getElem?_eq_getElem (by rw [← HL.out]; exact hlt)⟩
      obtain ⟨b, o, rfl, hbl, hc⟩ : ∃ b o, al = some ⟨b, o, none⟩ ∧ b < W.heap.size ∧ ∀ (i : Nat) (x : Int), T[i]? = some x → W.cell? ⟨b, o + i, none⟩ = some (.int .i64 x) := by
        rcases HT.out with h0 | h0
        · rw [h0] at hy; cases hy
        · exact h0
      have HC := Lib.hid hc
      have HY := Lib.hid hy
      have HN : Hid (levP T (i + 1) = levP T i + if (T.take i).contains y then 0 else 1) := Lib.hid (by rw [levP, hy]; rfl)
      have HLT := Lib.hid hlt
      clear hg hbl hc hy hm hlt
      go_wp2_with fail
      obtain ⟨wA, hwA⟩ : ∃ wA, wA = wr := ⟨_, rfl⟩
      subst hwA
      obtain ⟨gA, hgA⟩ : ∃ gA, gA = gk := ⟨_, rfl⟩
      subst hgA
      go_loopg [5, 6] i (fun gk v5 v6 wr => ∃ (k : Nat) (t : Bool), v5 = .bool t ∧ v6 = .int .i64 ((k : Nat) : Int) ∧ k + gk = i ∧ Hid (t = (T.take k).contains y) ∧ Hid (∃ q, wr = W.drewN q))
      case atStart => exact ⟨0, false, rfl, rfl, by omega, Lib.hid rfl, HQ⟩
      case round =>
        obtain ⟨k, t, rfl, rfl, hg2, HB, HQ2⟩ := hrel
        have HG2 := Lib.hid hg2
        have k0 : (0 : Int) ≤ ((k : Nat) : Int) := by omega
        by_cases hlt2 : k < i
        · have g3 : decide (((k : Nat) : Int) < ((i : Nat) : Int)) = true := decide_eq_true (by omega)
          have g4 : ((k : Nat) : Int) < ((i : Nat) : Int) := by omega
          have s3 : wrap64 (((k : Nat) : Int) + 1) = ((k : Nat) : Int) + 1 := IntWalk.wrap64_in _ (by omega)
          obtain ⟨x, hx⟩ : ∃ x, T[k]? = some x := ⟨_, List.getElem?_eq_getElem (by have := HLT.out; have := HL.out; omega)⟩
          have c1 : wr.cell? ⟨b, o + k, none⟩ = some (.int .i64 x) := by obtain ⟨q, rfl⟩ := HQ2.out; simpa using HC.out k x hx
          have c2 : wr.cell? ⟨b, o + i, none⟩ = some (.int .i64 y) := by obtain ⟨q, rfl⟩ := HQ2.out; simpa using HC.out i y HY.out
          have HS := Lib.hid (has_snoc (y := y) hx)
          have HQ3 : Hid (∀ j, ∃ q, wr.drewN j = W.drewN q) := Lib.hid (fun j => by obtain ⟨q, hq⟩ := HQ2.out; exact ⟨q + j, by rw [hq, World.drewN_drewN]⟩)
          have HLT2 := Lib.hid hlt2
          clear hg2 hx hlt2
          by_cases he : x = y
          · subst he
            go_wp2_with fail
            go_quiet (fail)
            go_wp2_with fail
            go_roundg (gk - 1)
            case measure => have := HG2.out; have := HLT2.out; omega
            case rel => exact ⟨k + 1, true, rfl, by go_num, by have := HG2.out; have := HLT2.out; omega, Lib.hid (by rw [HS.out]; simp), Lib.hid (HQ3.out _)⟩
          · have g5 : (x == y) = false := by simpa using he
            have HE := Lib.hid g5
            clear he
            go_wp2_with fail
            go_quiet (fail)
            go_wp2_with fail
            go_roundg (gk - 1)
            case measure => have := HG2.out; have := HLT2.out; omega
            case rel => exact ⟨k + 1, t, rfl, by go_num, by have := HG2.out; have := HLT2.out; omega, Lib.hid (by rw [HS.out, HE.out, HB.out]; simp), Lib.hid (HQ3.out _)⟩
        · have g3 : decide (((k : Nat) : Int) < ((i : Nat) : Int)) = false := decide_eq_false (by omega)
          have g4 : ¬ ((k : Nat) : Int) < ((i : Nat) : Int) := by omega
          have HB2 : Hid (t = (T.take i).contains y) := Lib.hid (by rw [HB.out]; congr 2; omega)
          clear hg2
          cases t
          · go_wp2_with fail
            go_roundg (gA - 1)
            case measure => have := HG.out; have := HLT.out; omega
            case rel => exact ⟨i + 1, m + 1, by go_num, by go_num, by have := HG.out; have := HLT.out; omega, Lib.hid (by rw [HN.out, ← HB2.out, HM.out]; rfl), HQ2⟩
          · go_wp2_with fail
            go_roundg (gA - 1)
            case measure => have := HG.out; have := HLT.out; omega
            case rel => exact ⟨i + 1, m, rfl, by go_num, by have := HG.out; have := HLT.out; omega, Lib.hid (by rw [HN.out, ← HB2.out, HM.out]; rfl), HQ2⟩
    · have g1 : decide (((i : Nat) : Int) < ((len : Nat) : Int)) = false := decide_eq_false (by omega)
      have g2 : ¬ ((i : Nat) : Int) < ((len : Nat) : Int) := by omega
      obtain rfl : i = len := by omega
      clear hg hlt
      go_wp2_with fail
      go_ret
      exact ⟨by rw [HM.out]; rfl, HQ.out⟩
end Lu
end Go.Proofs.Ytbkjmhpmaclbeaa
