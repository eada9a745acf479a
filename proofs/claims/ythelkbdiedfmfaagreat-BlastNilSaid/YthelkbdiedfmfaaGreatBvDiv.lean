/-
  What divide of layer bv returns.
-/
import Derived.Test.YthelkbdiedfmfaaGreatBvMid
import Derived.Test.YthelkbdiedfmfaaGreatBvMathB
namespace Go.Proofs.YthelkbdiedfmfaaGreat
open Go.RowKit
namespace Bv
set_option maxHeartbeats 400000

theorem div_u (w v n m : Nat) (hn : n < 18446744073709551616) (W : World) :
    Calls Tryz.prog 105 #[.int .u8 11, .agg #[.int .u8 w, .int .u64 n], .agg #[.int .u8 v, .int .u64 m]] W fun e W' => e = .returned (.int .u64 (numB 11 w v n m : Int)) ∧ Below W.heap.size W W' := by
  by_cases h : m = 0
  · subst h
    go_enter Tryz.func105, Tryz.ntmps105
    go_wp2
    go_ret
    exact ⟨rfl, bel_alloc (bel_alloc (Below.refl _ _) _) _⟩
  · have d1 : ((m : Int) == 0) = false := by simp; omega
    have hp : (1 : Int) ≤ (m : Int) := by omega
    go_enter Tryz.func105, Tryz.ntmps105
    go_wp2
    go_ret
    exact ⟨ret_u64 (num11 w v n m hn h), bel_alloc (bel_alloc (Below.refl _ _) _) _⟩

theorem div_r (w v n m : Nat) (W : World) :
    Calls Tryz.prog 105 #[.int .u8 12, .agg #[.int .u8 w, .int .u64 n], .agg #[.int .u8 v, .int .u64 m]] W fun e W' => e = .returned (.int .u64 (numB 12 w v n m : Int)) ∧ Below W.heap.size W W' := by
  by_cases h : m = 0
  · subst h
    go_enter Tryz.func105, Tryz.ntmps105
    go_wp2
    go_ret
    exact ⟨rfl, bel_alloc (bel_alloc (Below.refl _ _) _) _⟩
  · have d1 : ((m : Int) == 0) = false := by simp; omega
    have hp : (1 : Int) ≤ (m : Int) := by omega
    go_enter Tryz.func105, Tryz.ntmps105
    go_wp2
    go_ret
    refine ⟨ret_u64 (num12 w v n m h), bel_alloc (bel_alloc (Below.refl _ _) _) _⟩

theorem div_s (w v n m : Nat) (hw1 : 1 ≤ w) (hw2 : w ≤ 64) (hn : n < 2 ^ w) (hv1 : 1 ≤ v) (hv2 : v ≤ 64) (hm : m < 2 ^ v) (W : World) :
    Calls Tryz.prog 105 #[.int .u8 13, .agg #[.int .u8 w, .int .u64 n], .agg #[.int .u8 v, .int .u64 m]] W fun e W' => e = .returned (.int .u64 (numB 13 w v n m : Int)) ∧ Below W.heap.size W W' := by
  by_cases h : m = 0
  · subst h
    go_enter Tryz.func105, Tryz.ntmps105
    go_wp2
    go_ret
    exact ⟨rfl, bel_alloc (bel_alloc (Below.refl _ _) _) _⟩
  · have d1 : ((m : Int) == 0) = false := by simp; omega
    have d1' : ((m : Int) != 0) = true := by simp; omega
    have d2 : (wo v m == 0) = false := by simpa using wo_ne hm h
    have d3 : ¬ wo v m = 0 := wo_ne hm h
    go_enter Tryz.func105, Tryz.ntmps105
    go_wp2_with fail
    go_region_held3 (fun w' => w'.cell? ⟨W.heap.size, 0, none⟩ = some (.int .u8 w) ∧ w'.cell? ⟨W.heap.size, 1, none⟩ = some (.int .u64 n) ∧ w'.cell? ⟨W.heap.size + 1, 0, none⟩ = some (.int .u8 v) ∧ w'.cell? ⟨W.heap.size + 1, 1, none⟩ = some (.int .u64 m))
      (first | ((try dsimp only); (try go_split_ands); refine ⟨?_, ?_, ?_, ?_⟩ <;> (rw [hc _ _ (by first | (simp; done) | (simp; omega) | omega)]; first | assumption | (simp [go_sem]; done))) | (go_keep; done))
      (first | (go_at_call 94; (first | (with_reducible refine (worth_any w n hw1 hw2 hn _).mono ?_) | (with_reducible refine (worth_any v m hv1 hv2 hm _).mono ?_)); rintro e w1 ⟨rfl, hb⟩; obtain ⟨hc, hf⟩ := bcell hb; have hz : W.heap.size + 1 < w1.heap.size := by have := hb.size; (try simp at this); omega))
    go_wp2
    go_ret
    refine ⟨ret_u64 (num13 w v n m h), ?_⟩
    refine bel_call ?_ hb
    refine bel_call ?_ (by assumption)
    exact (bel_alloc (bel_alloc (Below.refl _ _) _) _).drew

theorem div_sr (w v n m : Nat) (hw1 : 1 ≤ w) (hw2 : w ≤ 64) (hn : n < 2 ^ w) (hv1 : 1 ≤ v) (hv2 : v ≤ 64) (hm : m < 2 ^ v) (W : World) :
    Calls Tryz.prog 105 #[.int .u8 14, .agg #[.int .u8 w, .int .u64 n], .agg #[.int .u8 v, .int .u64 m]] W fun e W' => e = .returned (.int .u64 (numB 14 w v n m : Int)) ∧ Below W.heap.size W W' := by
  by_cases h : m = 0
  · subst h
    go_enter Tryz.func105, Tryz.ntmps105
    go_wp2
    go_ret
    exact ⟨rfl, bel_alloc (bel_alloc (Below.refl _ _) _) _⟩
  · have d1 : ((m : Int) == 0) = false := by simp; omega
    have d1' : ((m : Int) != 0) = true := by simp; omega
    have d2 : (wo v m == 0) = false := by simpa using wo_ne hm h
    have d3 : ¬ wo v m = 0 := wo_ne hm h
    go_enter Tryz.func105, Tryz.ntmps105
    go_wp2_with fail
    go_region_held3 (fun w' => w'.cell? ⟨W.heap.size, 0, none⟩ = some (.int .u8 w) ∧ w'.cell? ⟨W.heap.size, 1, none⟩ = some (.int .u64 n) ∧ w'.cell? ⟨W.heap.size + 1, 0, none⟩ = some (.int .u8 v) ∧ w'.cell? ⟨W.heap.size + 1, 1, none⟩ = some (.int .u64 m))
      (first | ((try dsimp only); (try go_split_ands); refine ⟨?_, ?_, ?_, ?_⟩ <;> (rw [hc _ _ (by first | (simp; done) | (simp; omega) | omega)]; first | assumption | (simp [go_sem]; done))) | (go_keep; done))
      (first | (go_at_call 94; (first | (with_reducible refine (worth_any w n hw1 hw2 hn _).mono ?_) | (with_reducible refine (worth_any v m hv1 hv2 hm _).mono ?_)); rintro e w1 ⟨rfl, hb⟩; obtain ⟨hc, hf⟩ := bcell hb; have hz : W.heap.size + 1 < w1.heap.size := by have := hb.size; (try simp at this); omega))
    go_wp2
    go_ret
    refine ⟨ret_u64 (num14 w v n m h), ?_⟩
    refine bel_call ?_ hb
    refine bel_call ?_ (by assumption)
    exact (bel_alloc (bel_alloc (Below.refl _ _) _) _).drew

end Bv
end Go.Proofs.YthelkbdiedfmfaaGreat
