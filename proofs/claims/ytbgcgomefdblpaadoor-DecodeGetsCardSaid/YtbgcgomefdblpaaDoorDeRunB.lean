/-
  Rows of Ops that follow each other: the document's run, walked.
-/
import Derived.Test.YtbgcgomefdblpaaDoorDeRun
import Derived.OwnWalk
import Derived.Deep.RegionLaw
namespace Go.Proofs.YtbgcgomefdblpaaDoor
open Go.RowKit
namespace De
set_option maxHeartbeats 3200000
set_option maxRecDepth 100000

theorem build_row (w : World) (a b c d e : Int) (s : ByteArray) : (Instr.build 44 #[(0, .int .u8 a), (1, .int .u8 b), (2, .int .u32 c), (3, .int .u32 d), (4, .int .u32 e), (5, .string s)]).run Tryd.prog w = .ok (.agg #[.int .u8 a, .int .u8 b, .int .u32 c, .int .u32 d, .int .u32 e, .string s]) w := run_build w _ _ _ (by kernel_rfl)
theorem runP_take {op fm code : Nat} {f3 f7 : List Nat} {i : Nat} (h : i < f3.length) : (runP op fm code f3 f7).take (i + 1) = (runP op fm code f3 f7).take i ++ [⟨op + i, fm, code, f3.getD i 0, f7.getD i 0⟩] := by
  unfold runP
  rw [List.take_add_one]
  simp [h]
theorem runP_len {op fm code : Nat} {f3 f7 : List Nat} : (runP op fm code f3 f7).length = f3.length := by simp [runP]
theorem run_any {op fm code n b3 b7 bn : Nat} {f3 f7 : List Nat} {ss : List ByteArray} (h3 : f3.length = n) (h7 : f7.length = n) (hs : ss.length = n) (hn : n ≤ 16) (hop : op ≤ 100) {W : World} (c3 : ColAt W b3 (u32s f3)) (c7 : ColAt W b7 (u32s f7)) (cn : ColAt W bn (strs ss)) :
    Calls Tryd.prog 23 #[.int .u8 ((op : Nat) : Int), .int .u8 ((fm : Nat) : Int), .int .u32 ((code : Nat) : Int), .slice (some ⟨b3, 0, none⟩) n n, .slice (some ⟨b7, 0, none⟩) n n, .slice (some ⟨bn, 0, none⟩) n n] W fun e w =>
      ∃ v, e = .returned v ∧ w.ownsRow W.heap.size 44 6 v n (rowsV (runP op fm code f3 f7) ss) ∧ Below W.heap.size W w := by
  have H3 := Lib.hid (And.intro h3 c3)
  have H7 := Lib.hid (And.intro h7 c7)
  have HS := Lib.hid (And.intro hs cn)
  clear h3 h7 hs c3 c7 cn
  go_enter Tryd.func23, Tryd.ntmps23
  go_wp2_with fail
  go_loopg [13, 14] n (fun gk v13 v14 wr => ∃ (i : Nat) (v : Value), v = v13 ∧ v14 = .int .i64 ((i : Nat) : Int) ∧ i + gk = n ∧ Below W.heap.size W wr ∧ wr.ownsRow W.heap.size 44 6 v i (rowsV ((runP op fm code f3 f7).take i) (ss.take i)))
  case atStart => exact ⟨0, _, rfl, rfl, by omega, Below.refl _ _, World.ownsRow_nil _ _ _ _⟩
  case round =>
    obtain ⟨i, v, rfl, rfl, hgk, hb, hrow⟩ := hrel
    have HG := Lib.hid hgk
    have HR := Lib.hid (And.intro hb hrow)
    by_cases hlt : i < n
    · have g1 : ((i : Nat) : Int) < ((n : Nat) : Int) := by omega
      have i0 : (0 : Int) ≤ ((i : Nat) : Int) := by omega
      obtain ⟨x3, hx3⟩ : ∃ x, f3[i]? = some x := ⟨_, List.getElem?_eq_getElem (by rw [H3.out.1]; exact hlt)⟩
      obtain ⟨x7, hx7⟩ : ∃ x, f7[i]? = some x := ⟨_, List.getElem?_eq_getElem (by rw [H7.out.1]; exact hlt)⟩
      obtain ⟨s, hs⟩ : ∃ x, ss[i]? = some x := ⟨_, List.getElem?_eq_getElem (by rw [HS.out.1]; exact hlt)⟩
      have k3 : wr.cell? ⟨b3, i, none⟩ = some (.int .u32 ((x3 : Nat) : Int)) := (hb.cell (p := ⟨b3, i, none⟩) H3.out.2.1).trans (H3.out.2.2 i _ (by simp [u32s, hx3]))
      have k7 : wr.cell? ⟨b7, i, none⟩ = some (.int .u32 ((x7 : Nat) : Int)) := (hb.cell (p := ⟨b7, i, none⟩) H7.out.2.1).trans (H7.out.2.2 i _ (by simp [u32s, hx7]))
      have kn : wr.cell? ⟨bn, i, none⟩ = some (.string s) := (hb.cell (p := ⟨bn, i, none⟩) HS.out.2.1).trans (HS.out.2.2 i _ (by simp [strs, hs]))
      have w1 : IntKind.u8.wrap ((i : Nat) : Int) = ((i : Nat) : Int) := wu8' (by omega)
      have w2 : IntKind.u8.wrap (((op : Nat) : Int) + ((i : Nat) : Int)) = ((op : Nat) : Int) + ((i : Nat) : Int) := by
        rw [← Int.natCast_add]; exact wu8' (by omega)
      have HX := Lib.hid (And.intro hx3 (And.intro hx7 hs))
      have HBD := fun w => build_row w (((op : Nat) : Int) + ((i : Nat) : Int)) ((fm : Nat) : Int) ((code : Nat) : Int) ((x3 : Nat) : Int) ((x7 : Nat) : Int) s
      clear hgk hb hrow hx3 hx7 hs
      obtain ⟨j0, hinfo, hz0, hz1, hz2⟩ := infos info_row
      obtain ⟨news, hnews⟩ : ∃ news : List Value, news = [.int .u8 (((op : Nat) : Int) + ((i : Nat) : Int)), .int .u8 ((fm : Nat) : Int), .int .u32 ((code : Nat) : Int), .int .u32 ((x3 : Nat) : Int), .int .u32 ((x7 : Nat) : Int), .string s] := ⟨_, rfl⟩
      have HNL : Hid (news = (rowV ⟨op + i, fm, code, x3, x7⟩ s).toList ∧ news.length = 6 ∧ ∀ u ∈ news, u.oneCell' = true) := Lib.hid ⟨by rw [hnews]; rfl, by rw [hnews]; rfl, by rw [hnews]; simp [Value.oneCell']⟩
      have H1 : Hid (Below W.heap.size W (wr.drew.alloc (.cells news.toArray 44)) ∧ (wr.drew.alloc (.cells news.toArray 44)).ownsRow W.heap.size 44 6 v i (rowsV ((runP op fm code f3 f7).take i) (ss.take i)) ∧ W.heap.size ≤ (wr.drew.alloc (.cells news.toArray 44)).heap.size) := Lib.hid ⟨HR.out.1.drew.alloc HR.out.1.size _, World.ownsRow.alloc (w := wr.drew) HR.out.2 _, by have := HR.out.1.size; simp; omega⟩
      have HNEW := Lib.hid (new_row wr.drew news 44)
      rw [hnews] at H1 HNEW
      go_upto_region 5 with fail
      go_region_law (refine step_append_at rfl (.tmp 21) (.tmp 41) 40 40 rfl W.heap.size 44 j0 (.agg #[.int .u8 0, .int .u8 0, .int .u32 0, .int .u32 0, .int .u32 0, .string ⟨#[]⟩]) 6 32 rfl Tryd.underlying40 hinfo hz0 hz1 hz2 rfl (by decide) v i (rowsV ((runP op fm code f3 f7).take i) (ss.take i)) (by simp [Act.eval]) H1.out.2.1 ⟨wr.heap.size, 0, none⟩ 1 1 news (by simp [Act.eval]) HNL.out.2.1 (by rw [hnews]; exact HNEW.out) HNL.out.2.2 (by unfold maxLen; omega) (by omega) H1.out.2.2 ?_; intro v' w4 hrow hgr hloc)
      all_goals go_wp2_with fail
      all_goals go_roundg (gk - 1)
      all_goals first
        | (have := HG.out; omega)
        | (refine ⟨i + 1, _, rfl, by go_num, by have := HG.out; omega, Below.grown H1.out.1 hgr H1.out.2.2 fun k hk => (H1.out.2.1.lt k hk).1, ?_⟩
           have e3 : f3.getD i 0 = x3 := by simp [List.getD, HX.out.1]
           have e7 : f7.getD i 0 = x7 := by simp [List.getD, HX.out.2.1]
           have es : ss.take (i + 1) = ss.take i ++ [s] := by rw [List.take_add_one, HX.out.2.2]; rfl
           rw [runP_take (by rw [H3.out.1]; exact hlt), es, rowsV_app _ _ _ _ (by simp [runP_len, H3.out.1, HS.out.1]), e3, e7]
           rw [HNL.out.1] at hrow
           exact hrow)
    · have g1 : decide (((i : Nat) : Int) < ((n : Nat) : Int)) = false := decide_eq_false (by omega)
      obtain rfl : i = n := by omega
      clear hgk hb hrow
      go_wp2_with fail
      go_ret
      have := HR.out.2
      rw [List.take_of_length_le (by rw [runP_len, H3.out.1]; exact Nat.le_refl _), List.take_of_length_le (by rw [HS.out.1]; exact Nat.le_refl _)] at this
      exact ⟨_, rfl, this, HR.out.1⟩
end De
end Go.Proofs.YtbgcgomefdblpaaDoor
