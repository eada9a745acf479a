/-
  The document's Is and has, as facts on one call.
-/
import Derived.Test.YtmegadjeficfjaaDoorCfData
namespace Go.Proofs.YtmegadjeficfjaaDoor
open Go.RowKit
namespace Cf
set_option maxHeartbeats 1000000
set_option maxRecDepth 100000

/-- Of variables that may be. -/
theorem ris_any {l v : Int} {W : World} (hv : 0 ≤ v) (hv2 : v ≤ 1000000) :
    Calls Tryd.prog 33 #[.int .i64 l, .int .i64 v] W fun e w => e = .returned (.bool (isL l v)) ∧ W = w := by
  obtain ⟨n1, n2⟩ := neg_i (x := v) (by omega) (by omega)
  by_cases h0 : l = 0
  · subst h0
    go_enter Tryd.func33, Tryd.ntmps33
    go_wp2_with fail
    go_ret
    exact ⟨rfl, rfl⟩
  · have d0 : (l == 0) = false := by simpa using h0
    have d1 : (l != 0) = true := by simpa using h0
    by_cases h1 : -v ≤ l
    · by_cases h2 : l ≤ v
      · have e : isL l v = true := by unfold isL; simp [h0, h1, h2]
        have HE := Lib.hid e
        clear e
        go_enter Tryd.func33, Tryd.ntmps33
        go_wp2_with fail
        go_ret
        exact ⟨ret_bool HE.out.symm, rfl⟩
      · have e : isL l v = false := by unfold isL; simp [h2]
        have HE := Lib.hid e
        have h2 : v < l := by omega
        clear e
        go_enter Tryd.func33, Tryd.ntmps33
        go_wp2_with fail
        go_ret
        exact ⟨ret_bool HE.out.symm, rfl⟩
    · have e : isL l v = false := by unfold isL; simp [h1]
      have HE := Lib.hid e
      have h1 : l < -v := by omega
      clear e
      go_enter Tryd.func33, Tryd.ntmps33
      go_wp2_with fail
      go_ret
      exact ⟨ret_bool HE.out.symm, rfl⟩

theorem elem_at {T : List Int} {x : Int} {j : Nat} (h : T[j]? = some x) : T.elem x = true := by
  have := List.mem_of_getElem? h
  simpa using this
theorem elem_none {T : List Int} {x : Int} (h : ∀ j : Nat, j < T.length → T[j]? ≠ some x) : T.elem x = false := by
  cases hc : T.elem x with
  | false => rfl
  | true =>
    have hm : x ∈ T := by simpa using hc
    obtain ⟨j, hj⟩ := List.getElem?_of_mem hm
    exact absurd hj (h j (List.getElem?_eq_some_iff.1 hj).1)

theorem has_any {W : World} {al : Option Addr} {T : List Int} {c : Nat} {x : Int} (h : IntsAt W al T) (hl : T.length < 4611686018427387904) :
    Calls Tryd.prog 39 #[.slice al T.length c, .int .i64 x] W fun e w => e = .returned (.bool (T.elem x)) ∧ W = w := by
  obtain ⟨n, hn⟩ : ∃ n, n = T.length := ⟨_, rfl⟩
  have HC : Hid (∀ (j : Nat) (v : Int), T[j]? = some v → ∃ bl ol, al = some ⟨bl, ol, none⟩ ∧ W.cell? ⟨bl, ol + j, none⟩ = some (.int .i64 v)) := by
    show ∀ (j : Nat) (v : Int), _ → _
    intro j v hj
    rcases h with h | ⟨bl, ol, h1, _, h3⟩
    · subst h; simp at hj
    · exact ⟨bl, ol, h1, h3 j v hj⟩
  have HN := Lib.hid hn
  rw [← hn] at hl ⊢
  clear hn h
  have HL := Lib.hid hl
  go_enter Tryd.func39, Tryd.ntmps39
  go_wp2_with fail
  go_loopg [5] n (fun gk v5 wr => ∃ j : Nat, v5 = .int .i64 ((j : Nat) : Int) ∧ j + gk = n ∧ W = wr ∧ (∀ q, q < j → T[q]? ≠ some x))
  case atStart => exact ⟨0, rfl, by omega, rfl, fun q hq => by omega⟩
  case round =>
    obtain ⟨j, rfl, hj, rfl, hno⟩ := hrel
    have HJ := Lib.hid hj
    have HNO := Lib.hid hno
    by_cases hlt : j < n
    · obtain ⟨t, ht⟩ : ∃ t, T[j]? = some t := ⟨_, List.getElem?_eq_getElem (by rw [← HN.out]; exact hlt)⟩
      obtain ⟨bl, ol, rfl, hc⟩ := HC.out j t ht
      have q1 : ((j : Nat) : Int) < ((n : Nat) : Int) := by omega
      have q0 : (0 : Int) ≤ ((j : Nat) : Int) := by omega
      have HS := Lib.hid (step_i (j := j) (by omega))
      have HT := Lib.hid ht
      clear hno hj ht hl
      by_cases he : t = x
      · subst he
        go_wp2_with fail
        go_ret
        exact ⟨ret_bool (elem_at HT.out).symm, rfl⟩
      · have d0 : (t == x) = false := by simpa using he
        have HE := Lib.hid he
        clear he
        go_wp2_with fail
        go_roundg (gk - 1)
        case measure => have := HJ.out; omega
        case rel => exact ⟨j + 1, by first | rfl | (rw [HS.out.1]) | (congr 1; exact HS.out.1), by have := HJ.out; omega, rfl, fun q hq => by
          rcases Nat.lt_succ_iff_lt_or_eq.1 hq with c | c
          · exact HNO.out q c
          · rw [c, HT.out]; intro e; injection e with e; exact HE.out e⟩
    · have q1 : decide (((j : Nat) : Int) < ((n : Nat) : Int)) = false := decide_eq_false (by omega)
      obtain rfl : j = n := by omega
      clear hno hj
      go_wp2_with fail
      go_ret
      exact ⟨ret_bool (elem_none (fun q hq => HNO.out q (by rw [HN.out]; exact hq))).symm, rfl⟩
end Cf
end Go.Proofs.YtmegadjeficfjaaDoor
