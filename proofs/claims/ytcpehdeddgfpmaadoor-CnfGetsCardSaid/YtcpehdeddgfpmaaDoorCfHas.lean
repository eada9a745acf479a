/-
  The document's Is and has, as facts on one call.
-/
import Derived.Test.YtcpehdeddgfpmaaDoorCfData
namespace Go.Proofs.YtcpehdeddgfpmaaDoor
open Go.RowKit
namespace Cf
set_option maxHeartbeats 1000000
set_option maxRecDepth 100000

/-- Of variables that may be. -/
theorem ris_any {l v : Int} {W : World} (hv : 0 ≤ v) (hv2 : v ≤ 1000000) :
    Calls Tryd.prog 22 #[.int .i64 l, .int .i64 v] W fun e w => e = .returned (.bool (isL l v)) ∧ W = w := by
  obtain ⟨n1, n2⟩ := neg_i (x := v) (by omega) (by omega)
  by_cases h0 : l = 0
  · subst h0
    go_enter Tryd.func22, Tryd.ntmps22
    go_wp2_with fail
    go_ret
    exact ⟨rfl, rfl⟩
  · have d0 : (l == 0) = false := by simpa using h0
    have d1 : (l != 0) = true := by simpa using h0
    by_cases h1 : -v ≤ l
    · by_cases h2 : l ≤ v
      · have e : isL l v = true := by unfold isL; simp [h0, h1, h2]
        have HE := Lib.hid e
        clear e
        go_enter Tryd.func22, Tryd.ntmps22
        go_wp2_with fail
        go_ret
        exact ⟨ret_bool HE.out.symm, rfl⟩
      · have e : isL l v = false := by unfold isL; simp [h2]
        have HE := Lib.hid e
        have h2 : v < l := by omega
        clear e
        go_enter Tryd.func22, Tryd.ntmps22
        go_wp2_with fail
        go_ret
        exact ⟨ret_bool HE.out.symm, rfl⟩
    · have e : isL l v = false := by unfold isL; simp [h1]
      have HE := Lib.hid e
      have h1 : l < -v := by omega
      clear e
      go_enter Tryd.func22, Tryd.ntmps22
      go_wp2_with fail
      go_ret
      exact ⟨ret_bool HE.out.symm, rfl⟩

theorem elem_at {T : List Int} {x : Int} {j : Nat} (h : T[j]? = some x) : T.elem x = true := by
  have := List.mem_of_getElem? h
  simpa using this
theorem elem_none {T : List Int} {x : Int} (h : ∀ j : Nat, j < T.length → T[j]? ≠ some x) : T.elem x = false := by
  cases hc : T.elem x with
  | false => rfl
  | true =>
    have hm : x ∈ T := by simpa using hc
    obtain ⟨j, hj⟩ := List.getElem?_of_mem hm
    exact absurd hj (h j (List.getElem?_eq_some_iff.1 hj).1)

end Cf
end Go.Proofs.YtcpehdeddgfpmaaDoor
