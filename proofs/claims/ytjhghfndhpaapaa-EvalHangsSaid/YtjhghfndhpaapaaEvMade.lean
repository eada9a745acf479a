/-
  The statements' two stores: what 'made' answers of a list of nodes, as a fact on one call.
-/
import Derived.Test.YtjhghfndhpaapaaTmTwo
import Derived.Test.YtjhghfndhpaapaaEvP1
import Derived.Deep.LoopGhost
namespace Go.Proofs.Ytjhghfndhpaapaa
open Go.RowKit Go.Maps Bv
namespace Tm
set_option maxHeartbeats 1000000
set_option maxRecDepth 100000

theorem mk_len_le (L : List Nd) (x : Nd) : (mk L x).1.length ≤ L.length + 1 := by
  unfold mk
  (repeat' split) <;> simp

/-- Ahead of each node. -/
structure LoopM (W : World) (p m q n k i : Nat) (w : World) : Prop where
  st : ∃ L, TwoE W p m q L L w ∧ MayL L ∧ L.length ≤ i
  le : i ≤ n
  lek : i ≤ k

theorem made_any {W : World} {al : Option Addr} {X : List Nd} {cl n : Nat} (hX : ArgAt W al X) (hok : ∀ x ∈ X, x.Ok) (hn : n = X.length) :
    Calls Try.prog 7 #[.slice al n cl] W fun e W' => ∃ (q : Nat) (L : List Nd), e = .returned (.tuple #[.pointer (some ⟨W.heap.size + 1, 0, none⟩), .pointer (some ⟨q, 0, none⟩)]) ∧ TwoE W (W.heap.size + 1) W.heap.size q L L W' ∧ MayL L ∧ L.length ≤ 60 := by
  have HX := Lib.hid hX
  have HOK := Lib.hid hok
  have HN := Lib.hid hn
  clear hX hok hn
  go_enter Try.func7, Try.ntmps7
  go_wp2_with (go_at_call 15; refine (new_at W).mono ?_; rintro e v0 ⟨rfl, S0, hb0⟩)
  have HT0 := Lib.hid (two_start S0 hb0)
  clear S0 hb0
  obtain ⟨qq, hqq⟩ : ∃ qq, v0.heap.size = qq := ⟨_, rfl⟩
  rw [hqq] at HT0
  simp only [hqq]
  go_loopg [6] (min n 60) (fun gk u6 wr => ∃ i : Nat, u6 = .int .i64 ((i : Nat) : Int) ∧ i + gk = min n 60 ∧ LoopM W (W.heap.size + 1) W.heap.size qq n 60 i wr)
  case atStart => exact ⟨0, rfl, by omega, ⟨_, HT0.out, mayL_nil, Nat.le_refl _⟩, Nat.zero_le _, Nat.zero_le _⟩
  case round =>
    obtain ⟨i, rfl, hgk, ⟨⟨L, hst, hmay, hll⟩, hle, hlek⟩⟩ := hrel
    clear HT0 hqq
    have HMAY := Lib.hid hmay
    have HLL := Lib.hid (And.intro hll hlek)
    clear hll
    by_cases hin : i < n ∧ i < 60
    case pos =>
      obtain ⟨x, hx⟩ : ∃ x, X[i]? = some x := ⟨_, List.getElem?_eq_getElem (by rw [← HN.out]; exact hin.1)⟩
      obtain ⟨bl, ol, rfl, lbl, hcell⟩ := HX.out.at' hx
      have hxok := HOK.out x (List.mem_of_getElem? hx)
      have hb := hst.b
      obtain ⟨f0, f1, f2, f3, f4, f5, f6⟩ := cells_far (hcell wr hb)
      have q1 : ((i : Nat) : Int) < ((n : Nat) : Int) := by omega
      have q2 : ((i : Nat) : Int) < 60 := by omega
      have q0 : (0 : Int) ≤ ((i : Nat) : Int) := by omega
      have r1 : IntKind.i64.wrap (((i : Nat) : Int) + 1) = (((i + 1 : Nat) : Nat) : Int) := by rw [IntKind.wrap_i64]; omega
      have r2 : wrap64 (((i : Nat) : Int) + 1) = (((i + 1 : Nat) : Nat) : Int) := by unfold wrap64; rw [← IntKind.wrap_i64]; exact r1
      have HR2 := Lib.hid r2
      obtain ⟨a, ha⟩ : ∃ a, (mk L x).2.1 = a := ⟨_, rfl⟩
      obtain ⟨er, he⟩ : ∃ er, (mk L x).2.2 = er := ⟨_, rfl⟩
      have HM := Lib.hid (two_make hst hxok a er ha he)
      have HM2 := Lib.hid (fun w1 (h : TwoE W (W.heap.size + 1) W.heap.size qq (mk L x).1 L w1) => two_rmake h hxok a er ha he)
      unfold Nd.val at HM HM2
      have HC := Lib.hid hcell
      have HGK := Lib.hid (And.intro hgk hin)
      clear hst hgk hle hlek hx hcell hxok ha he r1 r2 hb hin hmay
      go_wp2_with (first | (go_at_call 16; refine HM.out.mono ?_; rintro e w1 ⟨rfl, hs1⟩; obtain ⟨g0, g1, g2, g3, g4, g5, g6⟩ := cells_far (HC.out w1 hs1.b); have HS1 := Lib.hid hs1; clear hs1) | (go_at_call 17; refine (HM2.out _ HS1.out).mono ?_; rintro e w2 ⟨rfl, hs2⟩; have HS2 := Lib.hid hs2; clear hs2))
      go_roundg (gk - 1)
      case measure => have := HGK.out; omega
      case rel => exact ⟨i + 1, by first | rfl | (rw [HR2.out]) | (congr 1; exact HR2.out), by have := HGK.out; omega, ⟨_, HS2.out, mayL_step HMAY.out x, Nat.le_trans (mk_len_le L x) (Nat.succ_le_succ HLL.out.1)⟩, by have := HGK.out; omega, by have := HGK.out; omega⟩
    case neg =>
      have ex : (n ≤ i) ∨ (i < n ∧ (60 : Int) ≤ ((i : Nat) : Int)) := by omega
      have HST := Lib.hid hst
      clear hin hgk hle hlek hst hmay
      rcases ex with ex | ⟨ex1, ex2⟩
      all_goals
        go_wp2_with fail
        refine bodyPost_ret (v := .tuple #[.pointer (some ⟨W.heap.size + 1, 0, none⟩), .pointer (some ⟨qq, 0, none⟩)]) (by simp [results, Try.results7, go_sem]) rfl ?_
        exact ⟨qq, L, rfl, HST.out, HMAY.out, Nat.le_trans HLL.out.1 HLL.out.2⟩
end Tm
end Go.Proofs.Ytjhghfndhpaapaa
