/-
  The program's Luby and Sum.
-/
import Derived.Test.YtbkjmhpmaclbeaaLuSeq
import Derived.RangeFuncBox
import Derived.BigQuiet
import Derived.Deep.QuietTactic
import Derived.BigGuard
namespace Go.Proofs.Ytbkjmhpmaclbeaa
open Go.RowKit Go.Shelf
namespace Lu
set_option maxHeartbeats 1600000
set_option maxRecDepth 100000

theorem luby_yes (n : Nat) (W : World) (h1 : 1 ≤ n) (h2 : n ≤ 1099511627776) : Calls Try.prog 7 #[.int .i64 ((n : Nat) : Int)] W fun e w => e = .returned (.tuple #[.int .i64 ((lub n : Nat) : Int), .int .i64 0]) ∧ Below W.heap.size W w := by
  have HW := Lib.hid (fun V => worth_any V h1 (by omega))
  have d1 : decide (((n : Nat) : Int) < 1) = false := decide_eq_false (by omega)
  have d2 : decide ((1099511627776 : Int) < ((n : Nat) : Int)) = false := decide_eq_false (by omega)
  have d3 : ¬ ((n : Nat) : Int) < 1 := by omega
  have d4 : ¬ (1099511627776 : Int) < ((n : Nat) : Int) := by omega
  clear h1 h2
  go_enter Try.func7, Try.ntmps7
  go_wp2_with fail
  with_reducible refine (HW.out _).mono ?_
  rintro e w' ⟨rfl, rfl⟩
  go_wp2_with fail
  go_ret2
  exact ⟨rfl, Below.refl _ _⟩
theorem luby_no (n : Int) (W : World) (h : n < 1 ∨ 1099511627776 < n) : Calls Try.prog 7 #[.int .i64 n] W fun e w => e = .returned (.tuple #[.int .i64 0, .int .i64 2]) ∧ Below W.heap.size W w := by
  by_cases d1 : n < 1
  · clear h
    go_enter Try.func7, Try.ntmps7
    go_wp2_with fail
    go_ret2
    exact ⟨rfl, Below.refl _ _⟩
  · have d2 : (1099511627776 : Int) < n := by omega
    clear h
    go_enter Try.func7, Try.ntmps7
    go_wp2_with fail
    go_ret2
    exact ⟨rfl, Below.refl _ _⟩
theorem sum_no (n : Int) (W : World) (h : n < 0 ∨ 1000000 < n) : Calls Try.prog 12 #[.int .i64 n] W fun e w => e = .returned (.tuple #[.int .i64 0, .int .i64 2]) ∧ Below W.heap.size W w := by
  by_cases d1 : n < 0
  · clear h
    go_enter Try.func12, Try.ntmps12
    go_wp2_with fail
    go_ret2
    exact ⟨rfl, (Below.refl _ _).alloc (Nat.le_refl _) _⟩
  · have d2 : (1000000 : Int) < n := by omega
    clear h
    go_enter Try.func12, Try.ntmps12
    go_wp2_with fail
    go_ret2
    exact ⟨rfl, (Below.refl _ _).alloc (Nat.le_refl _) _⟩

/-- Between two rounds: the first k are added up. -/
structure SuI (W : World) (n k : Nat) (V : World) : Prop where
  c0 : V.cell? ⟨W.heap.size, 0, none⟩ = some (.int .i64 ((n : Nat) : Int))
  c1 : V.cell? ⟨W.heap.size + 1, 0, none⟩ = some (.int .i64 ((sumL k : Nat) : Int))
  f1 : V.frozen? ⟨W.heap.size + 1, 0, none⟩ = false
  bel : Below W.heap.size W V
theorem SuI.kept {W : World} {n k B : Nat} {V V' : World} {row : Option Nat} (h : SuI W n k V) (hB : W.heap.size ≤ B) (hg : V.grownBy V' row) (hr : ∀ r, row = some r → B ≤ r ∧ ∃ o : Obj, V.heap[r]? = some o ∧ o.isCells = false) : SuI W n k V' := by
  have hr' : ∀ r, row = some r → ∃ o : Obj, V.heap[r]? = some o ∧ o.isCells = false := fun r e => (hr r e).2
  exact ⟨cell_kept h.c0 hg hr', cell_kept h.c1 hg hr', (frozen_kept h.c1 hg hr').trans h.f1, h.bel.grown hg h.bel.size (fun r e => by have := (hr r e).1; omega)⟩
theorem SuI.next {W : World} {n k : Nat} {V : World} (h : SuI W n k V) : SuI W n (k + 1) (V.setCell ⟨W.heap.size + 1, 0, none⟩ (.int .i64 ((sumL (k + 1) : Nat) : Int))) :=
  ⟨(World.cell?_setCell_other _ _ _ _ (by simp)).trans h.c0, World.cell?_setCell_same' _ _ _ (by rw [h.c1]; rfl), by rw [World.frozen?_setCell]; exact h.f1, h.bel.setCell (show W.heap.size ≤ W.heap.size + 1 by omega) _⟩
theorem sum_bound {k : Nat} (h : k ≤ 1000001) : sumL k ≤ 1000003000002 := by
  have := sumL_le k
  have h2 : k * (k + 1) ≤ 1000001 * (1000001 + 1) := Nat.mul_le_mul h (by omega)
  omega
theorem sum_yes (n : Nat) (W : World) (hn : n ≤ 1000000) : Calls Try.prog 12 #[.int .i64 ((n : Nat) : Int)] W fun e w => e = .returned (.tuple #[.int .i64 ((sumL n : Nat) : Int), .int .i64 0]) ∧ Below W.heap.size W w := by
  have d1 : ¬ ((n : Nat) : Int) < 0 := by omega
  have d2 : ¬ (1000000 : Int) < ((n : Nat) : Int) := by omega
  refine (callsIn_wide (n := 3)).1 ?_
  refine callsIn_of_wp_marks Try.func12 rfl trivial ?_ rfl
  simp only [Try.ntmps12, List.size_toArray, List.length_cons, List.length_nil, Nat.reduceAdd, Nat.reduceSub, Array.replicate_succ, Array.replicate_zero, List.push_toArray, List.append_toArray, List.nil_append, List.cons_append]
  gi_wp2
  obtain ⟨U, hU⟩ : ∃ U, U = (W.alloc (.cells #[.int .i64 ((n : Nat) : Int)] 3)).alloc (.cells #[.int .i64 0] 3) := ⟨_, rfl⟩
  have h0 : SuI W n 0 U := by
    have a0 := (Boxed.new W 3 (.int .i64 ((n : Nat) : Int))).alloc (.cells #[.int .i64 0] 3)
    have a1 := Boxed.new (W.alloc (.cells #[.int .i64 ((n : Nat) : Int)] 3)) 3 (.int .i64 0)
    rw [World.size_alloc] at a1
    rw [hU]
    exact ⟨a0.cell, a1.cell, a1.frozen, ((Below.refl _ _).alloc (Nat.le_refl _) _).alloc (by simp) _⟩
  have hz : U.heap.size = W.heap.size + 2 := by rw [hU]; simp
  rw [← hU]
  clear hU d1 d2
  have H0 := Lib.hid h0
  have HN := Lib.hid hn
  clear h0 hn
  refine range_till (n := 3) (N := n) (id0 := 0) (enc := seqE) (gf := 19) (lb := #[]) rfl (by decide) rfl trivial (enters_of Try.func19 (by kernel_rfl) rfl)
    (seq_till (3 - 1) n (by decide) (by have := HN.out; omega)) (fun _ => rfl)
    (SuI W n) (SuI W n n)
    (fun k V V' row h hg hr => h.kept (B := U.heap.size) (by omega) hg hr)
    (fun k V h => ⟨h.c0, h.c1, h.f1, h.bel.drew⟩)
    (fun _ V V' row h hg hr => h.kept (B := U.heap.size) (by omega) hg hr)
    H0.out (fun k => { tmps := #[.int .i64 ((n : Nat) : Int), .pointer (some ⟨W.heap.size, 0, none⟩), .int .i64 0, .int .i64 0, .pointer (some ⟨W.heap.size + 1, 0, none⟩), .int .i64 ((k : Nat) + 1 : Int), .int .i64 ((lub (k + 1) : Nat) : Int), .int .i64 ((n : Nat) : Int), .bool false, .bool false, .int .i64 ((n : Nat) : Int), .bool false, .bool false, .int .i64 ((k : Nat) + 1 : Int), .int .i64 ((lub (k + 1) : Nat) : Int), undef, undef, undef, undef, undef, undef, undef], defers := [] }) ?assign ?body ?stop
  case assign =>
    intro l k V K hK
    have hsem := @Oper.semAt_some
    unfold seqE
    gi_wp2
    exact hK
  case body =>
    intro l k V hk hI
    have c0 := hI.c0
    have c1 := hI.c1
    have f1 := hI.f1
    have HI := Lib.hid hI
    have hsem := @Oper.semAt_some
    have b1 := sum_bound (k := k) (by have := HN.out; omega)
    have b2 := sum_bound (k := k + 1) (by have := HN.out; omega)
    have hs : sumL (k + 1) = sumL k + lub (k + 1) := rfl
    have HS := Lib.hid hs
    have w1 : wrap64 (((sumL k : Nat) : Int) + ((lub (k + 1) : Nat) : Int)) = ((sumL k : Nat) : Int) + ((lub (k + 1) : Nat) : Int) := IntWalk.wrap64_in _ (by omega)
    clear hI hs b2 b1
    by_cases hkn : k < n
    · have t1 : ¬ ((n : Nat) : Int) < ((k : Nat) : Int) + 1 := by omega
      gi_wp2
      refine ⟨by omega, KeepsOthers.setCell _ _ _, ?_⟩
      have := HI.out.next
      rw [HS.out] at this
      exact this
    · have t1 : ((n : Nat) : Int) < ((k : Nat) : Int) + 1 := by omega
      obtain rfl : n = k := by omega
      gi_wp2
      exact ⟨rfl, KeepsOthers.refl _, HI.out⟩
  case stop =>
    intro D V hD hI hK
    have c1 := hI.c1
    have HI := Lib.hid hI
    have HD := Lib.hid hD
    have HK := Lib.hid hK
    clear hI hD hK
    gi_wp2
    refine ⟨by simp, .inl ⟨_, _, rfl, run_takeDeferred HK.out, ?_⟩⟩
    refine ⟨_, ?res, rfl, ?bel⟩
    case res => simp [results, Try.results12, go_sem]
    case bel => exact HI.out.bel.trans (belowK_b (w := W) (Nat.le_refl _) _ D _ _ (by have := HD.out; omega) HK.out rfl rfl)
end Lu
end Go.Proofs.Ytbkjmhpmaclbeaa
