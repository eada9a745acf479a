/-
  Bytes, and the numbers that they are: plain.
-/
import GoSem.Claim
namespace Go.Proofs.Ytjcdpdfchjhjhaa
namespace Rm
/-- The number of n bytes from o on, the lowest first. -/
def ld (f : Nat → Nat) (o : Nat) : Nat → Nat
  | 0 => 0
  | n + 1 => f o + 256 * ld f (o + 1) n
/-- What stands where behind a Store. -/
def st (f : Nat → Nat) (o : Nat) : Nat → Nat → Nat → Nat
  | 0, _ => f
  | n + 1, v => st (fun j => if j = o then v % 256 else f j) (o + 1) n (v / 256)
/-- Every byte is one. -/
def By (f : Nat → Nat) : Prop := ∀ j, f j < 256
theorem by_st : ∀ (n : Nat) {f : Nat → Nat} (o v : Nat), By f → By (st f o n v)
  | 0, _, _, _, h => h
  | n + 1, f, o, v, h => by
    have k : By (fun j => if j = o then v % 256 else f j) := fun j => by
      dsimp only
      split
      · exact Nat.mod_lt _ (by omega)
      · exact h j
    exact by_st n (o + 1) (v / 256) k
theorem st_off : ∀ (n : Nat) (f : Nat → Nat) (o v j : Nat), j < o ∨ o + n ≤ j → st f o n v j = f j
  | 0, _, _, _, _, _ => rfl
  | n + 1, f, o, v, j, h => by
    rw [st, st_off n _ (o + 1) (v / 256) j (by omega), if_neg (by omega)]
theorem ld_lt {f : Nat → Nat} (h : By f) : ∀ (n o : Nat), ld f o n < 256 ^ n
  | 0, _ => by simp [ld]
  | n + 1, o => by
    have a := ld_lt h n (o + 1)
    have b := h o
    rw [ld, Nat.pow_succ]
    omega
theorem ld_eq {f g : Nat → Nat} : ∀ (n o : Nat), (∀ j, o ≤ j → j < o + n → f j = g j) → ld f o n = ld g o n
  | 0, _, _ => rfl
  | n + 1, o, h => by rw [ld, ld, h o (by omega) (by omega), ld_eq n (o + 1) (fun j a b => h j (by omega) (by omega))]
theorem ld_st : ∀ (n : Nat) (f : Nat → Nat) (o v : Nat), ld (st f o n v) o n = v % 256 ^ n
  | 0, _, _, _ => by simp [ld, Nat.mod_one]
  | n + 1, f, o, v => by
    rw [ld, st, ld_st n _ (o + 1) (v / 256), st_off n _ (o + 1) (v / 256) o (by omega), if_pos rfl, Nat.pow_succ, Nat.mul_comm (256 ^ n) 256, Nat.mod_mul]
/-- The same, a byte at a time. -/
theorem st_more : ∀ (n : Nat) (f : Nat → Nat) (o v : Nat), st f o (n + 1) v = fun j => if j = o + n then v / 256 ^ n % 256 else st f o n v j
  | 0, f, o, v => by simp [st]
  | n + 1, f, o, v => by
    rw [st, st_more n _ (o + 1) (v / 256)]
    funext j
    rw [show o + 1 + n = o + (n + 1) by omega, Nat.div_div_eq_div_mul, Nat.pow_succ, Nat.mul_comm 256 (256 ^ n)]
    rfl
theorem ld_more {f : Nat → Nat} (o k : Nat) : ld f o (k + 1) = 256 * ld f (o + 1) k + f o := by rw [ld]; omega
end Rm
end Go.Proofs.Ytjcdpdfchjhjhaa
