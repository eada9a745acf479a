/-
  The walk's step at an exit out of nested blocks, one law a level.
-/
import Derived.Test.YthelkbdiedfmfaaGreatBvMath
namespace Go.Proofs.YthelkbdiedfmfaaGreat
namespace Bv
section
variable {K : Act → World → Prop} {Q : Exit → Act → World → Prop} {a : Act} {w : World} {n k : Nat}
theorem ex_then (h : Q (.exit n) a w) : Exit.then K Q (.exit n) a w := h
theorem ex_far (hk : (n == k) = false) (h : Q (.exit n) a w) : Exit.inBlock k Q (.exit n) a w := by
  have : ¬ n = k := by simpa using hk
  show if n = k then Q .normal a w else Q (.exit n) a w
  rw [if_neg this]; exact h
theorem ex_near (h : Q .normal a w) : Exit.inBlock k Q (.exit k) a w := by
  show if k = k then Q .normal a w else Q (.exit k) a w
  rw [if_pos rfl]; exact h
theorem ex_go (h : K a w) : Exit.then K Q .normal a w := h
end
end Bv
end Go.Proofs.YthelkbdiedfmfaaGreat
