/-
  The document's Read, as a fact on one call.
-/
import Derived.Test.YtmegadjeficfjaaGreatDoorCfParts
import Derived.Deep.Cut
namespace Go.Proofs.YtmegadjeficfjaaGreatDoor
open Go.RowKit
namespace Cf
set_option maxHeartbeats 2000000
set_option maxRecDepth 100000

def readD (m : Bool) (d : By) : Option Int :=
  if d = [] ∨ 9 < d.length ∨ (d.head? = some 48 ∧ (1 < d.length ∨ m = true)) then none
  else if d.all digB then some (if m then -(valB d : Int) else valB d) else none
theorem read_minus {S d : By} (h : S = 45 :: d) : readB S = readD true d := by subst h; rfl
theorem read_plain {S : By} (h : S.head? ≠ some 45) : readB S = readD false S := by
  unfold readB readD
  have : (S.head? == some 45) = false := by simpa using h
  rw [this]
  rfl
theorem readD_empty {m : Bool} {d : By} (h : d = []) : readD m d = none := by unfold readD; rw [if_pos (.inl h)]
theorem readD_long {m : Bool} {d : By} (h : 9 < d.length) : readD m d = none := by unfold readD; rw [if_pos (.inr (.inl h))]
theorem readD_zero {m : Bool} {d : By} (h : d.head? = some 48) (h2 : 1 < d.length ∨ m = true) : readD m d = none := by unfold readD; rw [if_pos (.inr (.inr ⟨h, h2⟩))]
theorem readD_digit {m : Bool} {d : By} {c : UInt8} (h : c ∈ d) (h2 : digB c = false) : readD m d = none := by
  unfold readD
  have : d.all digB = false := by
    cases hh : d.all digB with
    | false => rfl
    | true => rw [List.all_eq_true.1 hh c h] at h2; cases h2
  rw [this]
  simp
theorem readD_yes {m : Bool} {d : By} (h1 : d ≠ []) (h2 : d.length ≤ 9) (h3 : ¬ (d.head? = some 48 ∧ (1 < d.length ∨ m = true))) (h4 : d.all digB = true) : readD m d = some (if m = true then -((valB d : Nat) : Int) else ((valB d : Nat) : Int)) := by
  unfold readD
  rw [if_neg (by rintro (c | c | c); exact h1 c; omega; exact h3 c), if_pos h4]
theorem bsize (s : ByteArray) : s.size = s.data.toList.length := (Array.length_toList).symm
theorem tlen (s : ByteArray) : s.toList.length = s.size := by rw [ByteArray.toList_eq]; exact Array.length_toList
theorem ne_size {s : ByteArray} (h : 0 < s.size) : s.data.toList ≠ [] := fun c => by
  have e := bsize s
  rw [c] at e
  have e2 : s.size = 0 := e
  omega
theorem byte_at {s : ByteArray} {i : Nat} {c : UInt8} (hi : i < s.size) (hc : s[i]'hi = c) : s.data.toList[i]? = some c := by
  subst hc
  rw [List.getElem?_eq_getElem (by rw [← bsize]; exact hi)]
  rfl
theorem byte_head {s : ByteArray} (h : 0 < s.size) {c : UInt8} (hc : ((s[0]'h).toNat : Int) = ((c.toNat : Nat) : Int)) : s.data.toList.head? = some c := by
  have := byte_at (c := s[0]'h) h rfl
  rw [List.head?_eq_getElem?, this]
  exact congrArg some (UInt8.toNat_inj.1 (by omega))
theorem byte_head_ne {s : ByteArray} (h : 0 < s.size) {c : UInt8} (hc : ¬ ((s[0]'h).toNat : Int) = ((c.toNat : Nat) : Int)) : s.data.toList.head? ≠ some c := by
  have := byte_at (c := s[0]'h) h rfl
  rw [List.head?_eq_getElem?, this]
  intro e
  injection e with e
  exact hc (by rw [e])
theorem str_tail {s : ByteArray} (h : 0 < s.size) (h45 : ((s[0]'h).toNat : Int) = 45) : s.data.toList = 45 :: (s.extract 1 s.size).data.toList := by
  have e := drop_byte (c := s[0]'h) h rfl
  rw [List.drop_zero] at e
  have hc : s[0]'h = 45 := UInt8.toNat_inj.1 (by have : (45 : UInt8).toNat = 45 := rfl; omega)
  rw [hc] at e
  rw [e]
  congr 1
  rw [ByteArray.data_extract]
  simp only [Array.toList_extract, List.extract_eq_take_drop]
  rw [List.take_of_length_le (by rw [List.length_drop, ← bsize]; exact Nat.le_refl _)]
theorem val_lt0 : ∀ {l : By} {acc : Nat}, l.all digB = true → l.foldl (fun n c => 10 * n + (c.toNat - 48)) acc < (acc + 1) * 10 ^ l.length
  | [], acc, _ => by simp
  | c :: r, acc, h => by
    rw [List.all_cons, Bool.and_eq_true] at h
    have hc := h.1
    unfold digB at hc
    simp at hc
    have ih := val_lt0 (l := r) (acc := 10 * acc + (c.toNat - 48)) h.2
    rw [List.foldl_cons, List.length_cons, Nat.pow_succ, Nat.mul_comm (10 ^ r.length) 10, ← Nat.mul_assoc]
    refine Nat.lt_of_lt_of_le ih (Nat.mul_le_mul_right _ (by omega))
theorem val_lt {l : By} (h : l.all digB = true) : valB l < 10 ^ l.length := by
  have := val_lt0 (acc := 0) h
  simpa [valB] using this
theorem take_byte {l : By} {i : Nat} {c : UInt8} (h : l[i]? = some c) : l.take (i + 1) = l.take i ++ [c] := by rw [List.take_add_one, h]; rfl
theorem wrap_u8 (n : Int) : IntKind.u8.wrap n = n % 256 := by simp [IntKind.wrap, IntKind.bits, IntKind.signed]
theorem ret_io {r : Option Int} {z : Int} {b : Bool} (h1 : z = r.getD 0) (h2 : b = r.isSome) : Ending.returned (.tuple #[.int .i64 z, .bool b]) = .returned (.tuple #[.int .i64 (r.getD 0), .bool r.isSome]) := by rw [h1, h2]

end Cf
end Go.Proofs.YtmegadjeficfjaaGreatDoor
