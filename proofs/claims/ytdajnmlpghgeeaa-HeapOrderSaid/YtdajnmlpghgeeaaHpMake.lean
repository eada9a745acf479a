/-
  The program's heap: New.
-/
import Derived.Test.YtdajnmlpghgeeaaHpBump
import Derived.Test.YtdajnmlpghgeeaaHpNew
namespace Go.Proofs.Ytdajnmlpghgeeaa
open Go.RowKit
namespace Hp
set_option maxHeartbeats 3200000
set_option maxRecDepth 100000

theorem new_no {n : Int} (h : n < 0 ∨ 1000000 < n) (W : World) : Calls Try.prog 7 #[.int .i64 n] W fun e w => e = .returned (.tuple #[.pointer none, .int .i64 2]) ∧ w = W := by
  by_cases h0 : n < 0
  · clear h
    go_enter Try.func7, Try.ntmps7
    go_wp2_with fail
    go_ret2
    exact ⟨rfl, rfl⟩
  · have h1 : 1000000 < n := h.resolve_left h0
    clear h
    have e0 : decide (n < 0) = false := decide_eq_false h0
    go_enter Try.func7, Try.ntmps7
    go_wp2_with fail
    go_ret2
    exact ⟨rfl, rfl⟩
theorem info_int : (Try.prog.info? 3).map (fun i => (i.zero, i.size, i.bytes)) = some (some (.int .i64 0), 1, 8) := by kernel_rfl
theorem make_ints (n : Nat) (hn : n ≤ 1000000) (W : World) : (Instr.makeSlice 47 (.int .i64 (((n : Nat) : Int) + 1)) (.int .i64 (((n : Nat) : Int) + 1))).run Try.prog W = .ok (.slice (some ⟨W.heap.size, 0, none⟩) (n + 1) (n + 1)) (W.alloc (.cells (List.replicate (n + 1) (Value.int .i64 0)).toArray 3)) := by
  obtain ⟨i0, hinfo, hz0, hz1, hz2⟩ := infos info_int
  have h := run_makeSlice (P := Try.prog) (w := W) 47 3 i0 (.int .i64 0) Try.underlying47 hinfo hz0 .i64 .i64 (((n : Nat) : Int) + 1) (((n : Nat) : Int) + 1) (by omega) (Int.le_refl _) (by rw [hz1]; simp; omega) (by rw [hz2]; omega) (by omega)
  rw [hz1] at h
  have e : (((n : Nat) : Int) + 1).toNat = n + 1 := by omega
  simp only [e] at h
  rw [made_one _ rfl] at h
  exact h
theorem build_mine (w : World) (a b c : Option Addr) (k l c1 d e f : Nat) : (Instr.build 49 #[(0, .slice a k l), (1, .slice b c1 d), (2, .slice c e f)]).run Try.prog w = .ok (.agg #[.slice a k l, .slice b c1 d, .slice c e f]) w := run_build w _ _ _ (by kernel_rfl)
theorem php_made {U : World} {p sb tb qb n : Nat} (hp : U.heap[p]? = some (.cells #[.slice (some ⟨sb, 0, none⟩) (n + 1) (n + 1), .slice (some ⟨tb, 0, none⟩) (n + 1) (n + 1), .slice (some ⟨qb, 0, none⟩) (n + 1) (n + 1)] 49)) (hs : U.heap[sb]? = some (.cells (Array.replicate (n + 1) (.float .f64 0)) 32)) (ht : U.heap[tb]? = some (.cells (Array.replicate (n + 1) (.int .i64 0)) 3)) (hq : U.heap[qb]? = some (.cells (Array.replicate (n + 1) (.int .i64 0)) 3)) (hn : n ≤ 1000000)
    (h1 : p ≠ sb ∧ p ≠ tb ∧ p ≠ qb ∧ sb ≠ tb ∧ sb ≠ qb ∧ tb ≠ qb) : PHp U p sb tb qb n n (fun _ => 0) (fun _ => 0) (fun _ => 0) := by
  have hlt : ∀ {b : Nat} {o : Obj}, U.heap[b]? = some o → b < U.heap.size := fun h => (Array.getElem?_eq_some_iff.1 h).1
  refine ⟨by rw [(cell_of hp 0).1]; simp, by rw [(cell_of hp 1).1]; simp, by rw [(cell_of hp 2).1]; simp, fun j hj => ?_, fun j hj => ?_, fun j hj => ?_, fun j => (cell_of hp j).2, fun j => (cell_of hs j).2, fun j => (cell_of ht j).2, fun j => (cell_of hq j).2, ⟨Nat.le_refl _, hn⟩, ⟨hlt hp, hlt hs, hlt ht, hlt hq⟩, h1⟩
  · rw [(cell_of hs j).1, Array.getElem?_replicate, if_pos (by omega)]
  · rw [(cell_of ht j).1, Array.getElem?_replicate, if_pos (by omega)]; rfl
  · rw [(cell_of hq j).1, Array.getElem?_replicate, if_pos (by omega)]; rfl
theorem four (w1 : World) (o1 o2 o3 o4 : Obj) : (((w1.alloc o1).alloc o2).alloc o3 |>.alloc o4).heap[w1.heap.size]? = some o1 ∧ (((w1.alloc o1).alloc o2).alloc o3 |>.alloc o4).heap[w1.heap.size + 1]? = some o2 ∧ (((w1.alloc o1).alloc o2).alloc o3 |>.alloc o4).heap[w1.heap.size + 1 + 1]? = some o3 ∧ (((w1.alloc o1).alloc o2).alloc o3 |>.alloc o4).heap[w1.heap.size + 1 + 1 + 1]? = some o4 := by
  have e : (((w1.alloc o1).alloc o2).alloc o3 |>.alloc o4).heap = (((w1.heap.push o1).push o2).push o3).push o4 := rfl
  refine ⟨?_, ?_, ?_, ?_⟩
  · rw [e]; simp only [Array.getElem?_push, Array.size_push]; rw [if_neg (by omega), if_neg (by omega), if_neg (by omega), if_pos trivial]
  · rw [e]; simp only [Array.getElem?_push, Array.size_push]; rw [if_neg (by omega), if_neg (by omega), if_pos trivial]
  · rw [e]; simp only [Array.getElem?_push, Array.size_push]; rw [if_neg (by omega), if_pos trivial]
  · rw [e]; simp only [Array.getElem?_push, Array.size_push]; rw [if_pos trivial]
/-- The places while New fills them. -/
def idTo (k : Nat) : Nat → Nat := fun j => if 1 ≤ j ∧ j < k then j else 0
theorem idTo_one : idTo 1 = fun _ => 0 := by
  funext j; unfold idTo; rw [if_neg (by omega)]
theorem idTo_step {k : Nat} (h : 1 ≤ k) : upd (idTo k) k k = idTo (k + 1) := by
  funext j
  unfold upd idTo
  by_cases e : j = k
  · rw [if_pos e, if_pos ⟨by omega, by omega⟩]; exact e.symm
  · rw [if_neg e]
    by_cases c : 1 ≤ j ∧ j < k
    · rw [if_pos c, if_pos ⟨c.1, by omega⟩]
    · rw [if_neg c, if_neg (by omega)]
theorem idTo_fit (n : Nat) : Fit n n (idTo (n + 1)) (idTo (n + 1)) := by
  have q : ∀ j, 1 ≤ j → j ≤ n → idTo (n + 1) j = j := fun j a b => by unfold idTo; rw [if_pos ⟨a, by omega⟩]
  exact ⟨fun i a b => by rw [q i a b, q i a b]; exact ⟨a, b, rfl⟩, fun v a b => by rw [q v a b, q v a b]; exact ⟨b, .inr rfl⟩⟩
theorem idTo_ord (n : Nat) : Ord (fun _ => 0) (idTo (n + 1)) n 1 := by
  have q : ∀ j, 1 ≤ j → j ≤ n → idTo (n + 1) j = j := fun j a b => by unfold idTo; rw [if_pos ⟨a, by omega⟩]
  intro j hj h1
  unfold okT aheadF
  rw [q j (by omega) hj, q (j / 2) h1 (by omega)]
  have h0 : aboveF 0 0 = false := by
    cases h : aboveF 0 0 with
    | false => rfl
    | true => rw [above_asym h] at h; cases h
  rw [h0, decide_eq_true (by omega : j / 2 < j)]; rfl
theorem Only.below {bs : List Nat} {B : Nat} {w w' : World} (h : Only bs w w') (hb : ∀ b ∈ bs, B ≤ b) (hB : B ≤ w.heap.size) : Below B w w' :=
  ⟨h.os, h.tape, h.output, h.size, fun k hk => h.blk k (by omega) (fun hm => by have := hb k hm; omega)⟩
/-- What New has made. -/
def NewF (W : World) (n : Nat) (e : Ending) (w : World) : Prop := ∃ (p sb tb qb : Nat) (T P : Nat → Nat), e = .returned (.tuple #[.pointer (some ⟨p, 0, none⟩), .int .i64 0]) ∧ HAt w p sb tb qb n n (fun _ => 0) T P ∧ (∀ v, 1 ≤ v → v ≤ n → P v ≠ 0) ∧ Below W.heap.size W w ∧ W.heap.size ≤ p ∧ W.heap.size ≤ sb ∧ W.heap.size ≤ tb ∧ W.heap.size ≤ qb
theorem new_yes {n : Nat} (h : n ≤ 1000000) (W : World) : Calls Try.prog 7 #[.int .i64 ((n : Nat) : Int)] W (NewF W n) := by
  have e0 : decide (((n : Nat) : Int) < 0) = false := decide_eq_false (by omega)
  have e1 : decide (1000000 < ((n : Nat) : Int)) = false := decide_eq_false (by omega)
  have hs := step_i (j := n) (by omega)
  have hs2 : IntKind.i64.wrap (((n : Nat) : Int) + 1) = ((n : Nat) : Int) + 1 := by rw [IntKind.wrap_i64]; omega
  have hmf := make_floats n h
  have hmi := make_ints n h
  have hbh := build_mine
  go_enter Try.func7, Try.ntmps7
  go_wp2_with fail
  go_region_with (fail)
  · clear hmf hmi hbh
    go_wp2_with fail
    have HR : Hid (PHp (((((W.alloc (.cells (Array.replicate (n + 1) (.float .f64 0)) 32)).alloc (.cells (Array.replicate (n + 1) (.int .i64 0)) 3)).alloc (.cells (Array.replicate (n + 1) (.int .i64 0)) 3)).alloc (.cells #[.slice (some ⟨W.heap.size, 0, none⟩) (n + 1) (n + 1), .slice (some ⟨W.heap.size + 1, 0, none⟩) (n + 1) (n + 1), .slice (some ⟨W.heap.size + 1 + 1, 0, none⟩) (n + 1) (n + 1)] 49)).drew) (W.heap.size + 1 + 1 + 1) (W.heap.size) (W.heap.size + 1) (W.heap.size + 1 + 1) n n (fun _ => 0) (fun _ => 0) (fun _ => 0) ∧ Below W.heap.size W (((((W.alloc (.cells (Array.replicate (n + 1) (.float .f64 0)) 32)).alloc (.cells (Array.replicate (n + 1) (.int .i64 0)) 3)).alloc (.cells (Array.replicate (n + 1) (.int .i64 0)) 3)).alloc (.cells #[.slice (some ⟨W.heap.size, 0, none⟩) (n + 1) (n + 1), .slice (some ⟨W.heap.size + 1, 0, none⟩) (n + 1) (n + 1), .slice (some ⟨W.heap.size + 1 + 1, 0, none⟩) (n + 1) (n + 1)] 49)).drew)) := Lib.hid (by
      obtain ⟨t1, t2, t3, t4⟩ := four W (.cells (Array.replicate (n + 1) (.float .f64 0)) 32) (.cells (Array.replicate (n + 1) (.int .i64 0)) 3) (.cells (Array.replicate (n + 1) (.int .i64 0)) 3) (.cells #[.slice (some ⟨W.heap.size, 0, none⟩) (n + 1) (n + 1), .slice (some ⟨W.heap.size + 1, 0, none⟩) (n + 1) (n + 1), .slice (some ⟨W.heap.size + 1 + 1, 0, none⟩) (n + 1) (n + 1)] 49)
      exact ⟨(php_made t4 t1 t2 t3 h (by omega)).drewN 1, (((((Below.refl W.heap.size W).alloc (Nat.le_refl _) _).alloc (by simp) _).alloc (by simp; omega) _).alloc (by simp; omega) _).drew⟩)
    generalize ((((W.alloc (.cells (Array.replicate (n + 1) (.float .f64 0)) 32)).alloc (.cells (Array.replicate (n + 1) (.int .i64 0)) 3)).alloc (.cells (Array.replicate (n + 1) (.int .i64 0)) 3)).alloc (.cells #[.slice (some ⟨W.heap.size, 0, none⟩) (n + 1) (n + 1), .slice (some ⟨W.heap.size + 1, 0, none⟩) (n + 1) (n + 1), .slice (some ⟨W.heap.size + 1 + 1, 0, none⟩) (n + 1) (n + 1)] 49)).drew = U at HR ⊢
    obtain ⟨p, sb, tb, qb, hpp, HR, HB⟩ : ∃ p sb tb qb, p = W.heap.size + 1 + 1 + 1 ∧ Hid (PHp U p sb tb qb n n (fun _ => 0) (fun _ => 0) (fun _ => 0) ∧ Below W.heap.size W U) ∧ Hid (W.heap.size ≤ p ∧ W.heap.size ≤ sb ∧ W.heap.size ≤ tb ∧ W.heap.size ≤ qb) := ⟨_, _, _, _, rfl, HR, Lib.hid (by omega)⟩
    rw [← hpp]
    clear hpp
    go_loopg [5] n (fun gk v5 wr => ∃ k : Nat, v5 = .int .i64 ((k : Nat) : Int) ∧ k + gk = n + 1 ∧ 1 ≤ k ∧ Hid (PHp wr p sb tb qb n n (fun _ => 0) (idTo k) (idTo k) ∧ Below W.heap.size W wr))
    case atStart => exact ⟨1, rfl, by omega, by omega, by rw [idTo_one]; exact HR⟩
    case round =>
      obtain ⟨k, rfl, hk, h1, HR2⟩ := hrel
      have HK := Lib.hid hk
      have q0 : (0 : Int) ≤ ((k : Nat) : Int) := by omega
      have hs3 := step_i (j := k) (by omega)
      by_cases hlt : k ≤ n
      · have HSET := Lib.hid (set_any HR2.out.1 hlt hlt)
        have q1 : decide (((k : Nat) : Int) ≤ ((n : Nat) : Int)) = true := decide_eq_true (by omega)
        have q2 : ((k : Nat) : Int) ≤ ((n : Nat) : Int) := by omega
        clear hk
        go_wp2_with fail
        refine HSET.out.mono ?_
        rintro e w ⟨rfl, g, go⟩
        have G : Hid (PHp w p sb tb qb n n (fun _ => 0) (upd (idTo k) k k) (upd (idTo k) k k) ∧ Only [p, sb, tb, qb] wr w) := Lib.hid ⟨g, go⟩
        clear g go
        go_wp2_with fail
        go_roundg (gk - 1)
        case measure => have := HK.out; omega
        case rel => exact ⟨k + 1, rfl, by have := HK.out; omega, by omega, Lib.hid ⟨by rw [← idTo_step h1]; exact G.out.1, HR2.out.2.trans (G.out.2.below (by have := HB.out; simp; omega) HR2.out.2.size)⟩⟩
      · have q1 : decide (((k : Nat) : Int) ≤ ((n : Nat) : Int)) = false := decide_eq_false (by omega)
        have q2 : ¬ ((k : Nat) : Int) ≤ ((n : Nat) : Int) := by omega
        obtain rfl : k = n + 1 := by omega
        clear hk
        go_wp2_with fail
        go_ret2
        exact ⟨p, sb, tb, qb, _, _, rfl, ⟨HR2.out.1, idTo_fit n, idTo_ord n⟩, fun v a b => by unfold idTo; rw [if_pos ⟨a, by omega⟩]; omega, HR2.out.2, HB.out⟩
  · clear hmf hmi hbh
    go_wp2_with fail
    have HR : Hid (PHp (((((W.alloc (.cells (Array.replicate (n + 1) (.float .f64 0)) 32)).alloc (.cells (Array.replicate (n + 1) (.int .i64 0)) 3)).alloc (.cells (Array.replicate (n + 1) (.int .i64 0)) 3)).alloc (.cells #[.slice (some ⟨W.heap.size, 0, none⟩) (n + 1) (n + 1), .slice (some ⟨W.heap.size + 1 + 1, 0, none⟩) (n + 1) (n + 1), .slice (some ⟨W.heap.size + 1, 0, none⟩) (n + 1) (n + 1)] 49)).drew) (W.heap.size + 1 + 1 + 1) (W.heap.size) (W.heap.size + 1 + 1) (W.heap.size + 1) n n (fun _ => 0) (fun _ => 0) (fun _ => 0) ∧ Below W.heap.size W (((((W.alloc (.cells (Array.replicate (n + 1) (.float .f64 0)) 32)).alloc (.cells (Array.replicate (n + 1) (.int .i64 0)) 3)).alloc (.cells (Array.replicate (n + 1) (.int .i64 0)) 3)).alloc (.cells #[.slice (some ⟨W.heap.size, 0, none⟩) (n + 1) (n + 1), .slice (some ⟨W.heap.size + 1 + 1, 0, none⟩) (n + 1) (n + 1), .slice (some ⟨W.heap.size + 1, 0, none⟩) (n + 1) (n + 1)] 49)).drew)) := Lib.hid (by
      obtain ⟨t1, t2, t3, t4⟩ := four W (.cells (Array.replicate (n + 1) (.float .f64 0)) 32) (.cells (Array.replicate (n + 1) (.int .i64 0)) 3) (.cells (Array.replicate (n + 1) (.int .i64 0)) 3) (.cells #[.slice (some ⟨W.heap.size, 0, none⟩) (n + 1) (n + 1), .slice (some ⟨W.heap.size + 1 + 1, 0, none⟩) (n + 1) (n + 1), .slice (some ⟨W.heap.size + 1, 0, none⟩) (n + 1) (n + 1)] 49)
      exact ⟨(php_made t4 t1 t3 t2 h (by omega)).drewN 1, (((((Below.refl W.heap.size W).alloc (Nat.le_refl _) _).alloc (by simp) _).alloc (by simp; omega) _).alloc (by simp; omega) _).drew⟩)
    generalize ((((W.alloc (.cells (Array.replicate (n + 1) (.float .f64 0)) 32)).alloc (.cells (Array.replicate (n + 1) (.int .i64 0)) 3)).alloc (.cells (Array.replicate (n + 1) (.int .i64 0)) 3)).alloc (.cells #[.slice (some ⟨W.heap.size, 0, none⟩) (n + 1) (n + 1), .slice (some ⟨W.heap.size + 1 + 1, 0, none⟩) (n + 1) (n + 1), .slice (some ⟨W.heap.size + 1, 0, none⟩) (n + 1) (n + 1)] 49)).drew = U at HR ⊢
    obtain ⟨p, sb, tb, qb, hpp, HR, HB⟩ : ∃ p sb tb qb, p = W.heap.size + 1 + 1 + 1 ∧ Hid (PHp U p sb tb qb n n (fun _ => 0) (fun _ => 0) (fun _ => 0) ∧ Below W.heap.size W U) ∧ Hid (W.heap.size ≤ p ∧ W.heap.size ≤ sb ∧ W.heap.size ≤ tb ∧ W.heap.size ≤ qb) := ⟨_, _, _, _, rfl, HR, Lib.hid (by omega)⟩
    rw [← hpp]
    clear hpp
    go_loopg [5] n (fun gk v5 wr => ∃ k : Nat, v5 = .int .i64 ((k : Nat) : Int) ∧ k + gk = n + 1 ∧ 1 ≤ k ∧ Hid (PHp wr p sb tb qb n n (fun _ => 0) (idTo k) (idTo k) ∧ Below W.heap.size W wr))
    case atStart => exact ⟨1, rfl, by omega, by omega, by rw [idTo_one]; exact HR⟩
    case round =>
      obtain ⟨k, rfl, hk, h1, HR2⟩ := hrel
      have HK := Lib.hid hk
      have q0 : (0 : Int) ≤ ((k : Nat) : Int) := by omega
      have hs3 := step_i (j := k) (by omega)
      by_cases hlt : k ≤ n
      · have HSET := Lib.hid (set_any HR2.out.1 hlt hlt)
        have q1 : decide (((k : Nat) : Int) ≤ ((n : Nat) : Int)) = true := decide_eq_true (by omega)
        have q2 : ((k : Nat) : Int) ≤ ((n : Nat) : Int) := by omega
        clear hk
        go_wp2_with fail
        refine HSET.out.mono ?_
        rintro e w ⟨rfl, g, go⟩
        have G : Hid (PHp w p sb tb qb n n (fun _ => 0) (upd (idTo k) k k) (upd (idTo k) k k) ∧ Only [p, sb, tb, qb] wr w) := Lib.hid ⟨g, go⟩
        clear g go
        go_wp2_with fail
        go_roundg (gk - 1)
        case measure => have := HK.out; omega
        case rel => exact ⟨k + 1, rfl, by have := HK.out; omega, by omega, Lib.hid ⟨by rw [← idTo_step h1]; exact G.out.1, HR2.out.2.trans (G.out.2.below (by have := HB.out; simp; omega) HR2.out.2.size)⟩⟩
      · have q1 : decide (((k : Nat) : Int) ≤ ((n : Nat) : Int)) = false := decide_eq_false (by omega)
        have q2 : ¬ ((k : Nat) : Int) ≤ ((n : Nat) : Int) := by omega
        obtain rfl : k = n + 1 := by omega
        clear hk
        go_wp2_with fail
        go_ret2
        exact ⟨p, sb, tb, qb, _, _, rfl, ⟨HR2.out.1, idTo_fit n, idTo_ord n⟩, fun v a b => by unfold idTo; rw [if_pos ⟨a, by omega⟩]; omega, HR2.out.2, HB.out⟩
  · clear hmf hmi hbh
    go_wp2_with fail
    have HR : Hid (PHp (((((W.alloc (.cells (Array.replicate (n + 1) (.int .i64 0)) 3)).alloc (.cells (Array.replicate (n + 1) (.float .f64 0)) 32)).alloc (.cells (Array.replicate (n + 1) (.int .i64 0)) 3)).alloc (.cells #[.slice (some ⟨W.heap.size + 1, 0, none⟩) (n + 1) (n + 1), .slice (some ⟨W.heap.size, 0, none⟩) (n + 1) (n + 1), .slice (some ⟨W.heap.size + 1 + 1, 0, none⟩) (n + 1) (n + 1)] 49)).drew) (W.heap.size + 1 + 1 + 1) (W.heap.size + 1) (W.heap.size) (W.heap.size + 1 + 1) n n (fun _ => 0) (fun _ => 0) (fun _ => 0) ∧ Below W.heap.size W (((((W.alloc (.cells (Array.replicate (n + 1) (.int .i64 0)) 3)).alloc (.cells (Array.replicate (n + 1) (.float .f64 0)) 32)).alloc (.cells (Array.replicate (n + 1) (.int .i64 0)) 3)).alloc (.cells #[.slice (some ⟨W.heap.size + 1, 0, none⟩) (n + 1) (n + 1), .slice (some ⟨W.heap.size, 0, none⟩) (n + 1) (n + 1), .slice (some ⟨W.heap.size + 1 + 1, 0, none⟩) (n + 1) (n + 1)] 49)).drew)) := Lib.hid (by
      obtain ⟨t1, t2, t3, t4⟩ := four W (.cells (Array.replicate (n + 1) (.int .i64 0)) 3) (.cells (Array.replicate (n + 1) (.float .f64 0)) 32) (.cells (Array.replicate (n + 1) (.int .i64 0)) 3) (.cells #[.slice (some ⟨W.heap.size + 1, 0, none⟩) (n + 1) (n + 1), .slice (some ⟨W.heap.size, 0, none⟩) (n + 1) (n + 1), .slice (some ⟨W.heap.size + 1 + 1, 0, none⟩) (n + 1) (n + 1)] 49)
      exact ⟨(php_made t4 t2 t1 t3 h (by omega)).drewN 1, (((((Below.refl W.heap.size W).alloc (Nat.le_refl _) _).alloc (by simp) _).alloc (by simp; omega) _).alloc (by simp; omega) _).drew⟩)
    generalize ((((W.alloc (.cells (Array.replicate (n + 1) (.int .i64 0)) 3)).alloc (.cells (Array.replicate (n + 1) (.float .f64 0)) 32)).alloc (.cells (Array.replicate (n + 1) (.int .i64 0)) 3)).alloc (.cells #[.slice (some ⟨W.heap.size + 1, 0, none⟩) (n + 1) (n + 1), .slice (some ⟨W.heap.size, 0, none⟩) (n + 1) (n + 1), .slice (some ⟨W.heap.size + 1 + 1, 0, none⟩) (n + 1) (n + 1)] 49)).drew = U at HR ⊢
    obtain ⟨p, sb, tb, qb, hpp, HR, HB⟩ : ∃ p sb tb qb, p = W.heap.size + 1 + 1 + 1 ∧ Hid (PHp U p sb tb qb n n (fun _ => 0) (fun _ => 0) (fun _ => 0) ∧ Below W.heap.size W U) ∧ Hid (W.heap.size ≤ p ∧ W.heap.size ≤ sb ∧ W.heap.size ≤ tb ∧ W.heap.size ≤ qb) := ⟨_, _, _, _, rfl, HR, Lib.hid (by omega)⟩
    rw [← hpp]
    clear hpp
    go_loopg [5] n (fun gk v5 wr => ∃ k : Nat, v5 = .int .i64 ((k : Nat) : Int) ∧ k + gk = n + 1 ∧ 1 ≤ k ∧ Hid (PHp wr p sb tb qb n n (fun _ => 0) (idTo k) (idTo k) ∧ Below W.heap.size W wr))
    case atStart => exact ⟨1, rfl, by omega, by omega, by rw [idTo_one]; exact HR⟩
    case round =>
      obtain ⟨k, rfl, hk, h1, HR2⟩ := hrel
      have HK := Lib.hid hk
      have q0 : (0 : Int) ≤ ((k : Nat) : Int) := by omega
      have hs3 := step_i (j := k) (by omega)
      by_cases hlt : k ≤ n
      · have HSET := Lib.hid (set_any HR2.out.1 hlt hlt)
        have q1 : decide (((k : Nat) : Int) ≤ ((n : Nat) : Int)) = true := decide_eq_true (by omega)
        have q2 : ((k : Nat) : Int) ≤ ((n : Nat) : Int) := by omega
        clear hk
        go_wp2_with fail
        refine HSET.out.mono ?_
        rintro e w ⟨rfl, g, go⟩
        have G : Hid (PHp w p sb tb qb n n (fun _ => 0) (upd (idTo k) k k) (upd (idTo k) k k) ∧ Only [p, sb, tb, qb] wr w) := Lib.hid ⟨g, go⟩
        clear g go
        go_wp2_with fail
        go_roundg (gk - 1)
        case measure => have := HK.out; omega
        case rel => exact ⟨k + 1, rfl, by have := HK.out; omega, by omega, Lib.hid ⟨by rw [← idTo_step h1]; exact G.out.1, HR2.out.2.trans (G.out.2.below (by have := HB.out; simp; omega) HR2.out.2.size)⟩⟩
      · have q1 : decide (((k : Nat) : Int) ≤ ((n : Nat) : Int)) = false := decide_eq_false (by omega)
        have q2 : ¬ ((k : Nat) : Int) ≤ ((n : Nat) : Int) := by omega
        obtain rfl : k = n + 1 := by omega
        clear hk
        go_wp2_with fail
        go_ret2
        exact ⟨p, sb, tb, qb, _, _, rfl, ⟨HR2.out.1, idTo_fit n, idTo_ord n⟩, fun v a b => by unfold idTo; rw [if_pos ⟨a, by omega⟩]; omega, HR2.out.2, HB.out⟩
  · clear hmf hmi hbh
    go_wp2_with fail
    have HR : Hid (PHp (((((W.alloc (.cells (Array.replicate (n + 1) (.int .i64 0)) 3)).alloc (.cells (Array.replicate (n + 1) (.int .i64 0)) 3)).alloc (.cells (Array.replicate (n + 1) (.float .f64 0)) 32)).alloc (.cells #[.slice (some ⟨W.heap.size + 1 + 1, 0, none⟩) (n + 1) (n + 1), .slice (some ⟨W.heap.size, 0, none⟩) (n + 1) (n + 1), .slice (some ⟨W.heap.size + 1, 0, none⟩) (n + 1) (n + 1)] 49)).drew) (W.heap.size + 1 + 1 + 1) (W.heap.size + 1 + 1) (W.heap.size) (W.heap.size + 1) n n (fun _ => 0) (fun _ => 0) (fun _ => 0) ∧ Below W.heap.size W (((((W.alloc (.cells (Array.replicate (n + 1) (.int .i64 0)) 3)).alloc (.cells (Array.replicate (n + 1) (.int .i64 0)) 3)).alloc (.cells (Array.replicate (n + 1) (.float .f64 0)) 32)).alloc (.cells #[.slice (some ⟨W.heap.size + 1 + 1, 0, none⟩) (n + 1) (n + 1), .slice (some ⟨W.heap.size, 0, none⟩) (n + 1) (n + 1), .slice (some ⟨W.heap.size + 1, 0, none⟩) (n + 1) (n + 1)] 49)).drew)) := Lib.hid (by
      obtain ⟨t1, t2, t3, t4⟩ := four W (.cells (Array.replicate (n + 1) (.int .i64 0)) 3) (.cells (Array.replicate (n + 1) (.int .i64 0)) 3) (.cells (Array.replicate (n + 1) (.float .f64 0)) 32) (.cells #[.slice (some ⟨W.heap.size + 1 + 1, 0, none⟩) (n + 1) (n + 1), .slice (some ⟨W.heap.size, 0, none⟩) (n + 1) (n + 1), .slice (some ⟨W.heap.size + 1, 0, none⟩) (n + 1) (n + 1)] 49)
      exact ⟨(php_made t4 t3 t1 t2 h (by omega)).drewN 1, (((((Below.refl W.heap.size W).alloc (Nat.le_refl _) _).alloc (by simp) _).alloc (by simp; omega) _).alloc (by simp; omega) _).drew⟩)
    generalize ((((W.alloc (.cells (Array.replicate (n + 1) (.int .i64 0)) 3)).alloc (.cells (Array.replicate (n + 1) (.int .i64 0)) 3)).alloc (.cells (Array.replicate (n + 1) (.float .f64 0)) 32)).alloc (.cells #[.slice (some ⟨W.heap.size + 1 + 1, 0, none⟩) (n + 1) (n + 1), .slice (some ⟨W.heap.size, 0, none⟩) (n + 1) (n + 1), .slice (some ⟨W.heap.size + 1, 0, none⟩) (n + 1) (n + 1)] 49)).drew = U at HR ⊢
    obtain ⟨p, sb, tb, qb, hpp, HR, HB⟩ : ∃ p sb tb qb, p = W.heap.size + 1 + 1 + 1 ∧ Hid (PHp U p sb tb qb n n (fun _ => 0) (fun _ => 0) (fun _ => 0) ∧ Below W.heap.size W U) ∧ Hid (W.heap.size ≤ p ∧ W.heap.size ≤ sb ∧ W.heap.size ≤ tb ∧ W.heap.size ≤ qb) := ⟨_, _, _, _, rfl, HR, Lib.hid (by omega)⟩
    rw [← hpp]
    clear hpp
    go_loopg [5] n (fun gk v5 wr => ∃ k : Nat, v5 = .int .i64 ((k : Nat) : Int) ∧ k + gk = n + 1 ∧ 1 ≤ k ∧ Hid (PHp wr p sb tb qb n n (fun _ => 0) (idTo k) (idTo k) ∧ Below W.heap.size W wr))
    case atStart => exact ⟨1, rfl, by omega, by omega, by rw [idTo_one]; exact HR⟩
    case round =>
      obtain ⟨k, rfl, hk, h1, HR2⟩ := hrel
      have HK := Lib.hid hk
      have q0 : (0 : Int) ≤ ((k : Nat) : Int) := by omega
      have hs3 := step_i (j := k) (by omega)
      by_cases hlt : k ≤ n
      · have HSET := Lib.hid (set_any HR2.out.1 hlt hlt)
        have q1 : decide (((k : Nat) : Int) ≤ ((n : Nat) : Int)) = true := decide_eq_true (by omega)
        have q2 : ((k : Nat) : Int) ≤ ((n : Nat) : Int) := by omega
        clear hk
        go_wp2_with fail
        refine HSET.out.mono ?_
        rintro e w ⟨rfl, g, go⟩
        have G : Hid (PHp w p sb tb qb n n (fun _ => 0) (upd (idTo k) k k) (upd (idTo k) k k) ∧ Only [p, sb, tb, qb] wr w) := Lib.hid ⟨g, go⟩
        clear g go
        go_wp2_with fail
        go_roundg (gk - 1)
        case measure => have := HK.out; omega
        case rel => exact ⟨k + 1, rfl, by have := HK.out; omega, by omega, Lib.hid ⟨by rw [← idTo_step h1]; exact G.out.1, HR2.out.2.trans (G.out.2.below (by have := HB.out; simp; omega) HR2.out.2.size)⟩⟩
      · have q1 : decide (((k : Nat) : Int) ≤ ((n : Nat) : Int)) = false := decide_eq_false (by omega)
        have q2 : ¬ ((k : Nat) : Int) ≤ ((n : Nat) : Int) := by omega
        obtain rfl : k = n + 1 := by omega
        clear hk
        go_wp2_with fail
        go_ret2
        exact ⟨p, sb, tb, qb, _, _, rfl, ⟨HR2.out.1, idTo_fit n, idTo_ord n⟩, fun v a b => by unfold idTo; rw [if_pos ⟨a, by omega⟩]; omega, HR2.out.2, HB.out⟩
  · clear hmf hmi hbh
    go_wp2_with fail
    have HR : Hid (PHp (((((W.alloc (.cells (Array.replicate (n + 1) (.int .i64 0)) 3)).alloc (.cells (Array.replicate (n + 1) (.float .f64 0)) 32)).alloc (.cells (Array.replicate (n + 1) (.int .i64 0)) 3)).alloc (.cells #[.slice (some ⟨W.heap.size + 1, 0, none⟩) (n + 1) (n + 1), .slice (some ⟨W.heap.size + 1 + 1, 0, none⟩) (n + 1) (n + 1), .slice (some ⟨W.heap.size, 0, none⟩) (n + 1) (n + 1)] 49)).drew) (W.heap.size + 1 + 1 + 1) (W.heap.size + 1) (W.heap.size + 1 + 1) (W.heap.size) n n (fun _ => 0) (fun _ => 0) (fun _ => 0) ∧ Below W.heap.size W (((((W.alloc (.cells (Array.replicate (n + 1) (.int .i64 0)) 3)).alloc (.cells (Array.replicate (n + 1) (.float .f64 0)) 32)).alloc (.cells (Array.replicate (n + 1) (.int .i64 0)) 3)).alloc (.cells #[.slice (some ⟨W.heap.size + 1, 0, none⟩) (n + 1) (n + 1), .slice (some ⟨W.heap.size + 1 + 1, 0, none⟩) (n + 1) (n + 1), .slice (some ⟨W.heap.size, 0, none⟩) (n + 1) (n + 1)] 49)).drew)) := Lib.hid (by
      obtain ⟨t1, t2, t3, t4⟩ := four W (.cells (Array.replicate (n + 1) (.int .i64 0)) 3) (.cells (Array.replicate (n + 1) (.float .f64 0)) 32) (.cells (Array.replicate (n + 1) (.int .i64 0)) 3) (.cells #[.slice (some ⟨W.heap.size + 1, 0, none⟩) (n + 1) (n + 1), .slice (some ⟨W.heap.size + 1 + 1, 0, none⟩) (n + 1) (n + 1), .slice (some ⟨W.heap.size, 0, none⟩) (n + 1) (n + 1)] 49)
      exact ⟨(php_made t4 t2 t3 t1 h (by omega)).drewN 1, (((((Below.refl W.heap.size W).alloc (Nat.le_refl _) _).alloc (by simp) _).alloc (by simp; omega) _).alloc (by simp; omega) _).drew⟩)
    generalize ((((W.alloc (.cells (Array.replicate (n + 1) (.int .i64 0)) 3)).alloc (.cells (Array.replicate (n + 1) (.float .f64 0)) 32)).alloc (.cells (Array.replicate (n + 1) (.int .i64 0)) 3)).alloc (.cells #[.slice (some ⟨W.heap.size + 1, 0, none⟩) (n + 1) (n + 1), .slice (some ⟨W.heap.size + 1 + 1, 0, none⟩) (n + 1) (n + 1), .slice (some ⟨W.heap.size, 0, none⟩) (n + 1) (n + 1)] 49)).drew = U at HR ⊢
    obtain ⟨p, sb, tb, qb, hpp, HR, HB⟩ : ∃ p sb tb qb, p = W.heap.size + 1 + 1 + 1 ∧ Hid (PHp U p sb tb qb n n (fun _ => 0) (fun _ => 0) (fun _ => 0) ∧ Below W.heap.size W U) ∧ Hid (W.heap.size ≤ p ∧ W.heap.size ≤ sb ∧ W.heap.size ≤ tb ∧ W.heap.size ≤ qb) := ⟨_, _, _, _, rfl, HR, Lib.hid (by omega)⟩
    rw [← hpp]
    clear hpp
    go_loopg [5] n (fun gk v5 wr => ∃ k : Nat, v5 = .int .i64 ((k : Nat) : Int) ∧ k + gk = n + 1 ∧ 1 ≤ k ∧ Hid (PHp wr p sb tb qb n n (fun _ => 0) (idTo k) (idTo k) ∧ Below W.heap.size W wr))
    case atStart => exact ⟨1, rfl, by omega, by omega, by rw [idTo_one]; exact HR⟩
    case round =>
      obtain ⟨k, rfl, hk, h1, HR2⟩ := hrel
      have HK := Lib.hid hk
      have q0 : (0 : Int) ≤ ((k : Nat) : Int) := by omega
      have hs3 := step_i (j := k) (by omega)
      by_cases hlt : k ≤ n
      · have HSET := Lib.hid (set_any HR2.out.1 hlt hlt)
        have q1 : decide (((k : Nat) : Int) ≤ ((n : Nat) : Int)) = true := decide_eq_true (by omega)
        have q2 : ((k : Nat) : Int) ≤ ((n : Nat) : Int) := by omega
        clear hk
        go_wp2_with fail
        refine HSET.out.mono ?_
        rintro e w ⟨rfl, g, go⟩
        have G : Hid (PHp w p sb tb qb n n (fun _ => 0) (upd (idTo k) k k) (upd (idTo k) k k) ∧ Only [p, sb, tb, qb] wr w) := Lib.hid ⟨g, go⟩
        clear g go
        go_wp2_with fail
        go_roundg (gk - 1)
        case measure => have := HK.out; omega
        case rel => exact ⟨k + 1, rfl, by have := HK.out; omega, by omega, Lib.hid ⟨by rw [← idTo_step h1]; exact G.out.1, HR2.out.2.trans (G.out.2.below (by have := HB.out; simp; omega) HR2.out.2.size)⟩⟩
      · have q1 : decide (((k : Nat) : Int) ≤ ((n : Nat) : Int)) = false := decide_eq_false (by omega)
        have q2 : ¬ ((k : Nat) : Int) ≤ ((n : Nat) : Int) := by omega
        obtain rfl : k = n + 1 := by omega
        clear hk
        go_wp2_with fail
        go_ret2
        exact ⟨p, sb, tb, qb, _, _, rfl, ⟨HR2.out.1, idTo_fit n, idTo_ord n⟩, fun v a b => by unfold idTo; rw [if_pos ⟨a, by omega⟩]; omega, HR2.out.2, HB.out⟩
  · clear hmf hmi hbh
    go_wp2_with fail
    have HR : Hid (PHp (((((W.alloc (.cells (Array.replicate (n + 1) (.int .i64 0)) 3)).alloc (.cells (Array.replicate (n + 1) (.int .i64 0)) 3)).alloc (.cells (Array.replicate (n + 1) (.float .f64 0)) 32)).alloc (.cells #[.slice (some ⟨W.heap.size + 1 + 1, 0, none⟩) (n + 1) (n + 1), .slice (some ⟨W.heap.size + 1, 0, none⟩) (n + 1) (n + 1), .slice (some ⟨W.heap.size, 0, none⟩) (n + 1) (n + 1)] 49)).drew) (W.heap.size + 1 + 1 + 1) (W.heap.size + 1 + 1) (W.heap.size + 1) (W.heap.size) n n (fun _ => 0) (fun _ => 0) (fun _ => 0) ∧ Below W.heap.size W (((((W.alloc (.cells (Array.replicate (n + 1) (.int .i64 0)) 3)).alloc (.cells (Array.replicate (n + 1) (.int .i64 0)) 3)).alloc (.cells (Array.replicate (n + 1) (.float .f64 0)) 32)).alloc (.cells #[.slice (some ⟨W.heap.size + 1 + 1, 0, none⟩) (n + 1) (n + 1), .slice (some ⟨W.heap.size + 1, 0, none⟩) (n + 1) (n + 1), .slice (some ⟨W.heap.size, 0, none⟩) (n + 1) (n + 1)] 49)).drew)) := Lib.hid (by
      obtain ⟨t1, t2, t3, t4⟩ := four W (.cells (Array.replicate (n + 1) (.int .i64 0)) 3) (.cells (Array.replicate (n + 1) (.int .i64 0)) 3) (.cells (Array.replicate (n + 1) (.float .f64 0)) 32) (.cells #[.slice (some ⟨W.heap.size + 1 + 1, 0, none⟩) (n + 1) (n + 1), .slice (some ⟨W.heap.size + 1, 0, none⟩) (n + 1) (n + 1), .slice (some ⟨W.heap.size, 0, none⟩) (n + 1) (n + 1)] 49)
      exact ⟨(php_made t4 t3 t2 t1 h (by omega)).drewN 1, (((((Below.refl W.heap.size W).alloc (Nat.le_refl _) _).alloc (by simp) _).alloc (by simp; omega) _).alloc (by simp; omega) _).drew⟩)
    generalize ((((W.alloc (.cells (Array.replicate (n + 1) (.int .i64 0)) 3)).alloc (.cells (Array.replicate (n + 1) (.int .i64 0)) 3)).alloc (.cells (Array.replicate (n + 1) (.float .f64 0)) 32)).alloc (.cells #[.slice (some ⟨W.heap.size + 1 + 1, 0, none⟩) (n + 1) (n + 1), .slice (some ⟨W.heap.size + 1, 0, none⟩) (n + 1) (n + 1), .slice (some ⟨W.heap.size, 0, none⟩) (n + 1) (n + 1)] 49)).drew = U at HR ⊢
    obtain ⟨p, sb, tb, qb, hpp, HR, HB⟩ : ∃ p sb tb qb, p = W.heap.size + 1 + 1 + 1 ∧ Hid (PHp U p sb tb qb n n (fun _ => 0) (fun _ => 0) (fun _ => 0) ∧ Below W.heap.size W U) ∧ Hid (W.heap.size ≤ p ∧ W.heap.size ≤ sb ∧ W.heap.size ≤ tb ∧ W.heap.size ≤ qb) := ⟨_, _, _, _, rfl, HR, Lib.hid (by omega)⟩
    rw [← hpp]
    clear hpp
    go_loopg [5] n (fun gk v5 wr => ∃ k : Nat, v5 = .int .i64 ((k : Nat) : Int) ∧ k + gk = n + 1 ∧ 1 ≤ k ∧ Hid (PHp wr p sb tb qb n n (fun _ => 0) (idTo k) (idTo k) ∧ Below W.heap.size W wr))
    case atStart => exact ⟨1, rfl, by omega, by omega, by rw [idTo_one]; exact HR⟩
    case round =>
      obtain ⟨k, rfl, hk, h1, HR2⟩ := hrel
      have HK := Lib.hid hk
      have q0 : (0 : Int) ≤ ((k : Nat) : Int) := by omega
      have hs3 := step_i (j := k) (by omega)
      by_cases hlt : k ≤ n
      · have HSET := Lib.hid (set_any HR2.out.1 hlt hlt)
        have q1 : decide (((k : Nat) : Int) ≤ ((n : Nat) : Int)) = true := decide_eq_true (by omega)
        have q2 : ((k : Nat) : Int) ≤ ((n : Nat) : Int) := by omega
        clear hk
        go_wp2_with fail
        refine HSET.out.mono ?_
        rintro e w ⟨rfl, g, go⟩
        have G : Hid (PHp w p sb tb qb n n (fun _ => 0) (upd (idTo k) k k) (upd (idTo k) k k) ∧ Only [p, sb, tb, qb] wr w) := Lib.hid ⟨g, go⟩
        clear g go
        go_wp2_with fail
        go_roundg (gk - 1)
        case measure => have := HK.out; omega
        case rel => exact ⟨k + 1, rfl, by have := HK.out; omega, by omega, Lib.hid ⟨by rw [← idTo_step h1]; exact G.out.1, HR2.out.2.trans (G.out.2.below (by have := HB.out; simp; omega) HR2.out.2.size)⟩⟩
      · have q1 : decide (((k : Nat) : Int) ≤ ((n : Nat) : Int)) = false := decide_eq_false (by omega)
        have q2 : ¬ ((k : Nat) : Int) ≤ ((n : Nat) : Int) := by omega
        obtain rfl : k = n + 1 := by omega
        clear hk
        go_wp2_with fail
        go_ret2
        exact ⟨p, sb, tb, qb, _, _, rfl, ⟨HR2.out.1, idTo_fit n, idTo_ord n⟩, fun v a b => by unfold idTo; rw [if_pos ⟨a, by omega⟩]; omega, HR2.out.2, HB.out⟩
end Hp
end Go.Proofs.Ytdajnmlpghgeeaa
