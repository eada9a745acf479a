/-
  The document's Units, as a fact on one call.
-/
import Derived.Test.YtcpehdeddgfpmaaDoorCfGrow
import Derived.Deep.DeepMust
import Derived.OwnWalk
namespace Go.Proofs.YtcpehdeddgfpmaaDoor
open Go.RowKit
namespace Cf
set_option maxHeartbeats 2000000
set_option maxRecDepth 100000

/-- A list of numbers and a yes or no. -/
def ListE (W : World) (T : List Int) (b : Bool) (e : Ending) (w : World) : Prop := ∃ v, e = .returned (.tuple #[v, .bool b]) ∧ GrowI W v T w
theorem listE_int {W w : World} {T : List Int} {b : Bool} {e : Ending} (h : ListE W T b e w) : ∃ a c, e = .returned (.tuple #[.slice a T.length c, .bool b]) ∧ IntsAt w a T ∧ Below W.heap.size W w := by
  obtain ⟨v, he, hg⟩ := h
  obtain ⟨a, c, rfl⟩ := hg.shape
  exact ⟨a, c, he, hg.ints, hg.bel⟩

/-- What follows, of what came and the given that are left. -/
def leftU (v : Int) (C : Cl) (T g : List Int) : List Int × Bool := match givenG v T g with
  | (came, true) => restU C came
  | (came, false) => (came, false)
theorem leftU_nil (v : Int) (C : Cl) (T : List Int) : leftU v C T [] = restU C T := rfl
theorem leftU_pass {v : Int} {C : Cl} {T g : List Int} {l : Int} (h : isL l v = false ∨ T.elem l = true) : leftU v C T (l :: g) = leftU v C T g := by
  unfold leftU
  rw [givenG, if_pos (by rcases h with h | h <;> rw [h] <;> simp)]
theorem leftU_stop {v : Int} {C : Cl} {T g : List Int} {l : Int} (h1 : isL l v = true) (h2 : T.elem l = false) (h3 : T.elem (-l) = true) : leftU v C T (l :: g) = (T, false) := by
  unfold leftU
  rw [givenG, if_neg (by rw [h1, h2]; simp), if_pos h3]
theorem leftU_add {v : Int} {C : Cl} {T g : List Int} {l : Int} (h1 : isL l v = true) (h2 : T.elem l = false) (h3 : T.elem (-l) = false) : leftU v C T (l :: g) = leftU v C (T ++ [l]) g := by
  unfold leftU
  rw [givenG, if_neg (by rw [h1, h2]; simp), if_neg (by rw [h3]; simp)]
theorem units_left {v : Int} {C : Cl} {g : List Int} (hm : mayC v C = true) : unitsC v C g = leftU v C [] g := by
  unfold unitsC leftU restU
  rw [if_pos hm]
  cases givenG v [] g with
  | mk a b => cases b <;> rfl
theorem GrowI.base {W W1 w : World} {v : Value} {T : List Int} (h : GrowI W1 v T w) (hb : Below W.heap.size W W1) : GrowI W v T w := by
  refine ⟨?_, hb.trans (h.bel.mono hb.size)⟩
  rcases h.row with ⟨hl, h1 | ⟨g, cap, cur, hv, hb', hh, r⟩⟩
  · exact ⟨hl, .inl h1⟩
  · exact ⟨hl, .inr ⟨g, cap, cur, hv, Nat.le_trans hb.size hb', hh, r⟩⟩
theorem ret_lb {v : Value} {a b : Bool} (h : a = b) : Ending.returned (.tuple #[v, .bool a]) = .returned (.tuple #[v, .bool b]) := by rw [h]

theorem nextG_cons {T : List Int} {nx : Int} {k : List Int} {r : Cl} : nextG T nx (k :: r) = if (lookC T k).2 then nextG T (if nx = 0 then (lookC T k).1 else nx) r else none := rfl
theorem drop_cl {T : Cl} {j : Nat} {x : List Int} (h : T[j]? = some x) : T.drop j = x :: T.drop (j + 1) := by
  obtain ⟨hl, he⟩ := List.getElem?_eq_some_iff.1 h
  rw [List.drop_eq_getElem_cons hl, he]
end Cf
end Go.Proofs.YtcpehdeddgfpmaaDoor
