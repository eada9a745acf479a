/-
  The comparison of two lists that are the same; Vars of a number that no node has; the statements' own small check of examples.
-/
import Derived.Test.YtkfnekhjmnjloaaTmVars
import Derived.Deep.LoopGhost
import Derived.BigQuiet
namespace Go.Proofs.Ytkfnekhjmnjloaa
open Go.RowKit Go.Maps Bv
namespace Tm
set_option maxHeartbeats 1000000
set_option maxRecDepth 100000

theorem row_at {w : World} {base : Nat} {v : Value} {T : List Nat} (h : w.ownsRow base 3 1 v T.length (todoRow T)) (hT : 0 < T.length) :
    ∃ g c, v = .slice (some ⟨g, 0, none⟩) T.length c ∧ ∀ j i, T[j]? = some i → w.cell? ⟨g, j, none⟩ = some (.int .i64 ((i : Nat) : Int)) := by
  have hr := h
  rcases h with ⟨hl, ⟨_, h2⟩ | ⟨g, cap, cur, hv, hb, hh, hn, _⟩⟩
  · omega
  · refine ⟨g, cap, hv, fun j i hj => ?_⟩
    have hc := hr.cells (g := g) (by rw [hv]; rfl) j (.int .i64 ((i : Nat) : Int)) (by simp [todoRow, hj])
    have e : (⟨g, 0, none⟩ : Addr).add j = ⟨g, j, none⟩ := by
      unfold Addr.add
      split <;> simp_all
    rw [e] at hc
    exact hc

theorem row_zero {w : World} {base : Nat} {v : Value} {xs : List Value} (h : w.ownsRow base 3 1 v 0 xs) : ∃ a c, v = .slice a 0 c := by
  rcases h with ⟨hl, ⟨h1, _⟩ | ⟨g, cap, cur, hv, _⟩⟩
  · exact ⟨none, 0, h1⟩
  · exact ⟨_, _, hv⟩

theorem ints_same {W : World} {b1 b2 : Nat} {v u : Value} {T : List Nat} (hv : W.ownsRow b1 3 1 v T.length (todoRow T)) (hu : W.ownsRow b2 3 1 u T.length (todoRow T)) (hl : T.length ≤ 1000000) :
    Calls Try.prog 14 #[v, u] W fun e W' => e = .returned (.bool true) ∧ ∃ c, W' = W.drewN c := by
  by_cases hz : T.length = 0
  · rw [hz] at hv hu
    obtain ⟨a1, c1, rfl⟩ := row_zero hv
    obtain ⟨a2, c2, rfl⟩ := row_zero hu
    clear hv hu
    go_enter Try.func14, Try.ntmps14
    go_wp2_with fail
    refine wp_loop_rounds 1 ?_
    rw [rounds_succ]
    go_wp2_with fail
    go_ret
    exact ⟨rfl, 0, rfl⟩
  · obtain ⟨g1, c1, rfl, h1⟩ := row_at hv (by omega)
    obtain ⟨g2, c2, rfl, h2⟩ := row_at hu (by omega)
    obtain ⟨n, hn⟩ : ∃ n, n = T.length := ⟨_, rfl⟩
    have H1 := Lib.hid h1
    have H2 := Lib.hid h2
    have HN := Lib.hid hn
    rw [← hn]
    have dn : (((n : Nat) : Int) != ((n : Nat) : Int)) = false := by simp
    clear hv hu h1 h2 hn hz
    go_enter Try.func14, Try.ntmps14
    go_wp2_with fail
    go_loopg [5] n (fun gk v5 wr => ∃ j c : Nat, v5 = .int .i64 ((j : Nat) : Int) ∧ j + gk = n ∧ wr = W.drewN c)
    case atStart => exact ⟨0, 0, rfl, by omega, rfl⟩
    case round =>
      obtain ⟨j, c, rfl, hj, rfl⟩ := hrel
      by_cases hlt : j < n
      · obtain ⟨i, hi⟩ : ∃ i, T[j]? = some i := ⟨_, List.getElem?_eq_getElem (by rw [← HN.out]; exact hlt)⟩
        have f1 := H1.out j i hi
        have f2 := H2.out j i hi
        have q1 : ((j : Nat) : Int) < ((n : Nat) : Int) := by omega
        have q0 : (0 : Int) ≤ ((j : Nat) : Int) := by omega
        have r1 : IntKind.i64.wrap (((j : Nat) : Int) + 1) = (((j + 1 : Nat) : Nat) : Int) := by rw [IntKind.wrap_i64]; have := HN.out; omega
        have r2 : wrap64 (((j : Nat) : Int) + 1) = (((j + 1 : Nat) : Nat) : Int) := by unfold wrap64; rw [← IntKind.wrap_i64]; exact r1
        have HR2 := Lib.hid r2
        have HJ := Lib.hid hj
        clear hi r1 r2 hj
        go_wp2_with fail
        go_quiet (fail)
        go_wp2_with fail
        go_roundg (gk - 1)
        case measure => have := HJ.out; omega
        case rel => exact ⟨j + 1, _, by first | rfl | (rw [HR2.out]) | (congr 1; exact HR2.out), by have := HJ.out; omega, by first | rfl | (rw [World.drewN_drewN])⟩
      · have q1 : decide (((j : Nat) : Int) < ((n : Nat) : Int)) = false := decide_eq_false (by omega)
        clear hj
        go_wp2_with fail
        go_ret
        exact ⟨rfl, c, rfl⟩

theorem vars_no {B p m : Nat} {k : Int} {sv : Value} {L : List Nd} {W : World} (S : StoreAt B W p m sv L) (hk : inB L k = false) :
    Calls Try.prog 12 #[.pointer (some ⟨p, 0, none⟩), .int .i64 k] W fun e W' => e = .returned (.tuple #[.slice none 0 0, .int .i64 2]) ∧ W = W' := by
  obtain ⟨a, c, rfl⟩ := S.shape
  have c0 := S.c0
  have c1 := S.c1
  have HI := Lib.hid hk
  clear S hk
  go_enter Try.func12, Try.ntmps12
  go_wp2_with (first | (go_at_call 21; refine (none_made p m _ c1).mono ?_; rintro e w' ⟨rfl, rfl⟩) | (go_at_call 25; refine (has_any p _ L c _ _ c0).mono ?_; rw [HI.out]; rintro e w' ⟨rfl, rfl⟩))
  exact bodyPost_ret (v := .tuple #[.slice none 0 0, .int .i64 2]) (by simp [results, Try.results12, go_sem]) rfl ⟨rfl, rfl⟩

/-! ### the small check -/
theorem made_to {B p m : Nat} {sv : Value} {L L' : List Nd} {x : Nd} {W : World} {f : FuncId} {args : Array Value} {a b : Int} (S : StoreAt B W p m sv L) (hB : B ≤ W.heap.size) (h : Calls Try.prog f args W (Made B p m sv L x W)) (h1 : (mk L x).1 = L') (h2 : (((mk L x).2.1 : Nat) : Int) = a) (h3 : (((mk L x).2.2 : Nat) : Int) = b) :
    Calls Try.prog f args W (fun e W' => e = .returned (.tuple #[.int .i64 a, .int .i64 b]) ∧ ∃ v, StoreAt B W' p m v L' ∧ Below B W W') := by
  refine h.mono ?_
  rintro e w' ⟨he, v, S', K, _⟩
  subst h1; subst h2; subst h3
  refine ⟨he, v, S', K.below (fun i hi hc => ?_) hB⟩
  rcases hc with c | c | c
  · have := S.bp; omega
  · have := S.bm; omega
  · have := (S.row.lt i c).1; omega

def w1 : Nd := ⟨2, 8, 0, 0, 0, 0, 0⟩
def w2 : Nd := ⟨1, 8, 0, 0, 0, 1, 0⟩
def w3 : Nd := ⟨8, 8, 0, 1, 0, 0, 0⟩
theorem w3_ok : w3.Ok := ⟨by decide, by decide, by simp [w3, I64], by simp [w3, I64], by simp [w3, I64], by decide, by decide⟩

theorem works_vars : varsOf [w1, w2, w3] 2 = [0] := by
  have g1 := gd_step gd_nil (x := w1) ⟨by decide, by decide, by simp [w1, I64], by simp [w1, I64], by simp [w1, I64], by decide, by decide⟩
  rw [show (mk [] w1).1 = [w1] by decide] at g1
  have g2 := gd_step g1 (x := w2) ⟨by decide, by decide, by simp [w2, I64], by simp [w2, I64], by simp [w2, I64], by decide, by decide⟩
  rw [show (mk [w1] w2).1 = [w1, w2] by decide] at g2
  have g3 := gd_step g2 (x := w3) w3_ok
  rw [show (mk [w1, w2] w3).1 = [w1, w2, w3] by decide] at g3
  refine rising_ext _ _ (varsOf_rising _ _) (by simp) (fun v => ?_)
  rw [mem_varsOf g3]
  constructor
  · rintro ⟨i, x, _, hx, ho, hn⟩
    have : i < 3 := (List.getElem?_eq_some_iff.1 hx).1
    match i, hx with
    | 0, hx => simp at hx; subst hx; subst hn; simp [w1]
    | 1, hx => simp at hx; subst hx; simp [w2] at ho
    | 2, hx => simp at hx; subst hx; simp [w3] at ho
  · intro h
    simp at h
    subst h
    have r2 : Reach [w1, w2, w3] 2 2 := .top
    have r0 := Reach.kid (j := 0) r2 (x := w3) rfl (by decide)
    exact ⟨0, w1, r0, rfl, rfl, rfl⟩

end Tm
end Go.Proofs.Ytkfnekhjmnjloaa
