/-
  The document's Name of an instruction, walked.
-/
import Derived.Test.YtbgcgomefdblpaaDoorDeGet
namespace Go.Proofs.YtbgcgomefdblpaaDoor
open Go.RowKit
namespace De
set_option maxHeartbeats 3200000
set_option maxRecDepth 100000

def noName : ByteArray := ⟨#[]⟩
def nameP (o : Nat) : ByteArray := if 1 ≤ o ∧ o ≤ 68 then namesP.getD (o - 1) noName else noName
theorem name_any {o : Nat} (W : World) : Calls Tryd.prog 13 #[.int .u8 ((o : Nat) : Int)] W fun e w => e = .returned (.string (nameP o)) ∧ Below W.heap.size W w := by
  have HR := Lib.hid (rows_laid W)
  go_enter Tryd.func13, Tryd.ntmps13
  go_wp2_with fail
  refine HR.out.mono ?_
  rintro e w1 ⟨g, c, rfl, hl, hb⟩
  have HL := Lib.hid (And.intro hl hb)
  clear hl hb HR
  go_wp2_with fail
  go_loopg [4] 68 (fun gk v4 wr => ∃ i : Nat, v4 = .int .i64 ((i : Nat) : Int) ∧ i + gk = 68 ∧ wr = w1 ∧ (o = 0 ∨ i < o))
  case atStart => exact ⟨0, rfl, rfl, rfl, by omega⟩
  case round =>
    obtain ⟨i, rfl, hgk, rfl, hno⟩ := hrel
    have HGK := Lib.hid hgk
    by_cases hlt : i < 68
    · have g1 : ((i : Nat) : Int) < 68 := by omega
      have i0 : (0 : Int) ≤ ((i : Nat) : Int) := by omega
      obtain ⟨r, hr⟩ : ∃ r, rowsP[i]? = some r := ⟨_, List.getElem?_eq_getElem (by rw [rows_len]; exact hlt)⟩
      have hop : r.op = i + 1 := by have := rows_op i hlt; rw [hr] at this; simpa using this
      obtain ⟨s, hs, hra⟩ := HL.out.1.2 i r hr
      have c0 := hra.c0
      have c5 := hra.c5
      rw [hop] at c0
      obtain ⟨q, hq⟩ : ∃ q, q = i + 1 := ⟨_, rfl⟩
      rw [← hq] at c0
      have HQ := Lib.hid hq
      have HS := Lib.hid hs
      clear hr hra hs hgk hop hq
      by_cases ho : o = q
      · subst ho
        have HN : Hid (nameP o = s) := Lib.hid (by
          unfold nameP
          rw [if_pos (by have := HQ.out; omega), show o - 1 = i by have := HQ.out; omega]
          simp [List.getD, HS.out])
        clear hno
        go_wp2_with fail
        go_ret
        exact ⟨by rw [HN.out]; rfl, HL.out.2⟩
      · have e1 : (((q : Nat) : Int) == ((o : Nat) : Int)) = false := by rw [beq_eq_false_iff_ne]; omega
        have HO := Lib.hid ho
        have HNO := Lib.hid hno
        clear ho hno
        go_wp2_with fail
        go_roundg (gk - 1)
        case measure => have := HGK.out; omega
        case rel => exact ⟨i + 1, by go_num, by have := HGK.out; omega, rfl, by have := HO.out; have := HNO.out; have := HQ.out; omega⟩
    · have g1 : decide (((i : Nat) : Int) < 68) = false := decide_eq_false (by omega)
      obtain rfl : i = 68 := by omega
      have HN : Hid (nameP o = noName) := Lib.hid (by unfold nameP; rw [if_neg (by omega)])
      clear hgk hno
      go_wp2_with fail
      go_ret
      exact ⟨by rw [HN.out]; rfl, HL.out.2⟩
end De
end Go.Proofs.YtbgcgomefdblpaaDoor
