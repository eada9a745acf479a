/-
  The statements of the layer, walked over what the program's functions answer (Api).
-/
import Derived.Test.YtbkjmhpmaclbeaaLuLev
import Derived.Below
namespace Go.Proofs.Ytbkjmhpmaclbeaa
open Go.RowKit
namespace Lu
set_option maxHeartbeats 1600000
set_option maxRecDepth 100000

/-- What the program's functions answer. -/
structure Api : Prop where
  yes : ∀ (n : Nat) (W : World), 1 ≤ n → n ≤ 1099511627776 → Calls Try.prog 7 #[.int .i64 ((n : Nat) : Int)] W fun e w => e = .returned (.tuple #[.int .i64 ((lub n : Nat) : Int), .int .i64 0]) ∧ Below W.heap.size W w
  no : ∀ (n : Int) (W : World), n < 1 ∨ 1099511627776 < n → Calls Try.prog 7 #[.int .i64 n] W fun e w => e = .returned (.tuple #[.int .i64 0, .int .i64 2]) ∧ Below W.heap.size W w
  syes : ∀ (n : Nat) (W : World), n ≤ 1000000 → Calls Try.prog 12 #[.int .i64 ((n : Nat) : Int)] W fun e w => e = .returned (.tuple #[.int .i64 ((sumL n : Nat) : Int), .int .i64 0]) ∧ Below W.heap.size W w
  sno : ∀ (n : Int) (W : World), n < 0 ∨ 1000000 < n → Calls Try.prog 12 #[.int .i64 n] W fun e w => e = .returned (.tuple #[.int .i64 0, .int .i64 2]) ∧ Below W.heap.size W w
  lev : ∀ (W : World) (al : Option Addr) (T : List Int) (len cap : Nat), LiAt W al T → len = T.length → len ≤ 200 → Calls Try.prog 9 #[.slice al len cap] W fun e w => e = .returned (.int .i64 ((levP T len : Nat) : Int)) ∧ Below W.heap.size W w
theorem LiAt.call {W w : World} {al : Option Addr} {T : List Int} (h : LiAt W al T) (hb : Below W.heap.size W w) : LiAt w al T := by
  rcases h with h | ⟨b, o, e, hl, hc⟩
  · exact .inl h
  · exact .inr ⟨b, o, e, Nat.lt_of_lt_of_le hl hb.size, fun i x hx => (hb.cell (p := ⟨b, _, none⟩) hl).trans (hc i x hx)⟩
theorem bel_q {B : Nat} {W w : World} (h : Below B W w) (q : Nat) : Below B W (w.drewN q) := ⟨h.os, h.tape, h.output, h.size, h.block⟩
theorem bel_c {W w v : World} (h : Below W.heap.size W w) (k : Below w.heap.size w v) : Below W.heap.size W v := h.trans (k.mono h.size)
theorem lub_7 : lub 7 = 4 := by decide +kernel
theorem sum_7 : sumL 7 = 12 := by decide +kernel
theorem lev_3 : levP [1, 2, 1] 3 = 2 := by decide +kernel
theorem lives_any (A : Api) (W : World) : Calls Try.prog 11 #[] W fun e w => e = .returned (.bool true) ∧ Below W.heap.size W w := by
  have HA := Lib.hid A
  have H7 := Lib.hid (fun w => A.yes 7 w (by omega) (by omega))
  have HS := Lib.hid (fun w => A.syes 7 w (by omega))
  have HN := Lib.hid (fun w => A.no 0 w (.inl (by omega)))
  rw [lub_7] at H7
  rw [sum_7] at HS
  clear A
  go_enter Try.func11, Try.ntmps11
  go_wp2_with fail
  refine (H7.out _).mono ?_
  rintro e w1 ⟨rfl, hb⟩
  have HB1 := Lib.hid hb
  clear hb
  go_wp2_with fail
  refine (HS.out _).mono ?_
  rintro e w2 ⟨rfl, hb⟩
  have HB2 := Lib.hid (bel_c HB1.out hb)
  clear hb
  go_wp2_with fail
  refine (HN.out _).mono ?_
  rintro e w3 ⟨rfl, hb⟩
  have HB3 := Lib.hid (bel_c HB2.out hb)
  clear hb
  go_wp2_with fail
  refine (HA.out.lev _ _ [1, 2, 1] 3 3 (.inr ⟨w3.heap.size, 0, rfl, by simp, fun i x hx => ?_⟩) rfl (by omega)).mono ?_
  · match i, hx with
    | 0, hx => simp at hx; subst hx; simp
    | 1, hx => simp at hx; subst hx; simp
    | 2, hx => simp at hx; subst hx; simp
    | i + 3, hx => simp at hx
  rintro e w4 ⟨rfl, hb⟩
  rw [lev_3]
  have HB4 : Hid (Below W.heap.size W w4) := Lib.hid (bel_c (HB3.out.alloc HB3.out.size _) hb)
  clear hb
  go_wp2_with fail
  go_ret
  exact ⟨rfl, HB4.out⟩
end Lu
end Go.Proofs.Ytbkjmhpmaclbeaa
