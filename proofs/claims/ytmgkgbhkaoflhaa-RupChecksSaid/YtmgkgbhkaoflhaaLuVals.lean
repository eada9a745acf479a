/-
  The library's slices.Values, AppendSeq, Collect over a list of ints.
-/
import Derived.Test.YtmgkgbhkaoflhaaA9
import Derived.Test.YtmgkgbhkaoflhaaChecked
import Derived.RangeFuncNested
import Derived.RangeFuncBound
import Derived.RangeFuncCalls
import Derived.RangeFuncBox
import Derived.RangeFuncLeaves
import Derived.Shelf.Abstract
import Derived.Shelf.RegionOpen
import Derived.WalkKit
import Derived.OwnWalkIn
import Derived.TacticsInMore
import Derived.LoopNIn
import Derived.LoopIn
import Derived.Maps.AppendAt
import Derived.Lib.Hide
namespace Go.Proofs.Ytmgkgbhkaoflhaa
open Go.RowKit Go.Shelf
namespace Lu
set_option maxHeartbeats 2000000
set_option maxRecDepth 100000

theorem info_int : (Try.prog.info? 3).map (fun i => (i.zero, i.size, i.bytes)) = some (some (.int .i64 0), 1, 8) := by kernel_rfl
theorem LiAt.at {W V : World} {al : Option Addr} {T : List Int} (h : LiAt W al T) (hb : Below W.heap.size W V) : ∀ k, k < T.length → ∃ b o, al = some ⟨b, o, none⟩ ∧ V.cell? ⟨b, o + k, none⟩ = some (.int .i64 (T[k]?.getD 0)) := fun k hk => by
  rcases h with rfl | ⟨b, o, e, hl, hc⟩
  · simp at hk
  · exact ⟨b, o, e, (hb.cell (p := ⟨b, o + k, none⟩) hl).trans (hc k _ (by rw [List.getElem?_eq_getElem hk]; rfl))⟩
/-- The elements come one by one. -/
theorem values_stops (n : Nat) (hn : 1 ≤ n) (Bs len cap : Nat) (al : Option Addr) (T : List Int) (w w0 : World) (hl : len = T.length) (hlen : len ≤ 1000000) (hBs : Bs < w.heap.size) (hc : w.cell? ⟨Bs, 0, none⟩ = some (.slice al len cap)) (hT : LiAt w0 al T) (hw : Below w0.heap.size w0 w) :
    SeqStopsK Fence.wide n Try.prog 57 #[.pointer (some ⟨Bs, 0, none⟩)] (fun x : Int => #[Value.int .i64 x]) (Below w0.heap.size) (fun ys => ys = T) (fun pre => pre <+: T) T.length w := by
  intro l J Jx W hW _ _ hY h0
  have hc' := (hW.cell (p := ⟨Bs, 0, none⟩) hBs).trans hc
  have HW0 : Hid (Below w0.heap.size w0 W) := Lib.hid (hw.trans (hW.mono hw.size))
  have HT := Lib.hid hT
  have HL := Lib.hid hl
  clear hl hT hW hc hw
  refine callsIn_of_wp Try.func57 rfl trivial ?_ rfl
  simp only [Try.ntmps57, List.size_toArray, List.length_cons, List.length_nil, Nat.reduceAdd, Nat.reduceSub, Array.replicate_succ, Array.replicate_zero, List.push_toArray, List.append_toArray, List.nil_append, List.cons_append]
  gi_wp2
  gi_loopw [7] (fun i wr => ∃ k : Nat, k ≤ len ∧ i = .int .i64 k ∧ J (T.take k) wr ∧ Below w0.heap.size W wr) (fun i _ => len - (intOf i).toNat)
  case atStart => exact ⟨0, Nat.zero_le _, rfl, h0, Below.refl _ _⟩
  case round =>
    obtain ⟨k, hk, rfl, hJs, hnx⟩ := hrel
    have HNX := Lib.hid hnx
    by_cases hlt : k < len
    · obtain ⟨b, o, rfl, hcx⟩ := HT.out.at (HW0.out.trans HNX.out) k (by have := HL.out; omega)
      obtain ⟨fn, tmps, assign, body, hy, hR⟩ := hY _ (T[k]?.getD 0) wr hJs (by rw [List.length_take]; have := HL.out; omega)
      have hsn : Hid (T.take k ++ [T[k]?.getD 0] = T.take (k + 1)) := Lib.hid (by
        rw [List.take_add_one]
        have hg : T[k]? = some (T[k]?.getD 0) := by rw [List.getElem?_eq_getElem (by have := HL.out; omega)]; rfl
        congr 1
        rw [hg]; rfl)
      have HR := Lib.hid hR
      clear hR hJs hnx
      gi_wp2
      refine HR.out.mono ?_
      rintro e W3 (⟨rfl, hJ3, hk3⟩ | ⟨rfl, hJx3⟩)
      · rw [hsn.out] at hJ3
        have HJ := Lib.hid hJ3
        have HK := Lib.hid hk3
        clear hJ3 hk3
        gi_wp2
        go_roundw
        case rel => exact ⟨k + 1, by omega, by simp, HJ.out, HNX.out.trans HK.out⟩
        case measure => simp [intOf]; omega
      · rw [hsn.out] at hJx3
        have HJ := Lib.hid hJx3
        clear hJx3
        gi_wp2
        refine bodyPost_ret (results_none rfl _ _ _) rfl ?_
        exact ⟨⟨_, rfl⟩, .inr ⟨_, List.take_prefix _ _, HJ.out⟩⟩
    · obtain rfl : k = len := by omega
      have HJ := Lib.hid hJs
      clear hJs hnx
      gi_wp2
      go_end0
      exact ⟨⟨_, rfl⟩, .inl ⟨_, by rw [HL.out, List.take_length], HJ.out⟩⟩
theorem values_any (W : World) (al : Option Addr) (len cap : Nat) : Calls Try.prog 41 #[.slice al len cap] W fun e w => e = .returned (.func (.func 57) #[] #[.pointer (some ⟨W.heap.size, 0, none⟩)]) ∧ w = W.alloc (.cells #[.slice al len cap] 25) := by
  go_enter Try.func41, Try.ntmps41
  go_wp2_with fail
  go_ret
  exact ⟨rfl, rfl⟩
/-- A new slice that holds them. -/
def Copied (w : World) (T : List Int) (e : Ending) (W' : World) : Prop := ∃ v, e = .returned v ∧ W'.ownsRow w.heap.size 3 1 v T.length (T.map (Value.int .i64)) ∧ Below w.heap.size w W'
theorem append_any (Bs len cap : Nat) (al : Option Addr) (T : List Int) (w : World) (hl : len = T.length) (hlen : len ≤ 1000000) (hBs : Bs < w.heap.size) (hc : w.cell? ⟨Bs, 0, none⟩ = some (.slice al len cap)) (hT : LiAt w al T) :
    Calls Try.prog 62 #[.slice none 0 0, .func (.func 57) #[] #[.pointer (some ⟨Bs, 0, none⟩)]] w (Copied w T) := by
  have HL := Lib.hid hl
  have HT := Lib.hid hT
  clear hl hT
  obtain ⟨i0, hi, hz0, hz1, hz2⟩ := info_parts info_int
  refine (callsIn_wide (n := 3)).1 ?_
  refine callsIn_of_wp_marks Try.func62 rfl trivial ?_ rfl
  simp only [Try.ntmps62, List.size_toArray, List.length_cons, List.length_nil, Nat.reduceAdd, Nat.reduceSub, Array.replicate_succ, Array.replicate_zero, List.push_toArray, List.append_toArray, List.nil_append, List.cons_append]
  gi_wp2
  have bO := Boxed.new w 25 (.slice none 0 0)
  have hB0 : Below w.heap.size w (w.alloc (.cells #[.slice none 0 0] 25)) := (Below.refl _ w).alloc (Nat.le_refl _) _
  refine wpIn_rangeFunc_ownG (n := 3) rfl (by decide) (gf := 57) (lb := #[.pointer (some ⟨Bs, 0, none⟩)]) rfl trivial (enters_of Try.func57 (by kernel_rfl) rfl)
    (values_stops (3 - 1) (by decide) Bs len cap al T _ w HL.out hlen (by simp; omega) ((hB0.cell (p := ⟨Bs, 0, none⟩) hBs).trans hc) HT.out hB0) belowK_t (belowK_b (by simp)) (Below.refl _ _) (fun _ => rfl)
    (fun (pre : List Int) W => (∃ v, Boxed W w.heap.size 25 v ∧ W.ownsRow w.heap.size 3 1 v pre.length (pre.map (Value.int .i64)) ∧ True) ∧ Below w.heap.size w W)
    (fun _ _ _ => False)
    (OwnFrom.and (Own.from (holdsRow_own w.heap.size w.heap.size 25 3 1 (fun pre : List Int => pre.length) (fun pre : List Int => pre.map (Value.int .i64)) (fun _ _ => True)) _) (ownFrom_below (Nat.le_refl _) (by simp)))
    (fun _ _ _ _ _ hs _ _ => hs)
    ⟨⟨_, bO, World.ownsRow_nil _ _ _ _, trivial⟩, hB0⟩
    (fun x => { tmps := #[.slice none 0 0, .func (.func 57) #[] #[.pointer (some ⟨Bs, 0, none⟩)], .pointer (some ⟨w.heap.size, 0, none⟩), undef, .slice none 0 0, .int .i64 x, .func (.func 57) #[] #[.pointer (some ⟨Bs, 0, none⟩)], .int .i64 x, undef, undef, undef, undef, undef], defers := [] }) ?assign ?body ?done ?stop
  case assign =>
    intro l x W K hK
    have hsem := @Oper.semAt_some
    gi_wp2
    exact hK
  case body =>
    rintro l pre x W ⟨⟨v, hv, hrow, _⟩, hB⟩ hlt
    have hc := hv.cell
    have hsem := @Oper.semAt_some
    have hpl : pre.length < 1000000 := by have := HL.out; omega
    gi_wp2_with (gi_at_builtin; refine wpListIn_append_own _ rfl _ _ 25 rfl w.heap.size 3 i0 (.int .i64 0) 1 8 Try.underlying25 hi hz0 hz1 hz2 rfl (by decide) _ _ _ rfl (hrow.alloc _) ⟨W.heap.size, 0, none⟩ 1 1 [.int .i64 x] rfl rfl (cell_one_new _ _ _) (by simp [Value.oneCell']) (by unfold maxLen; omega) (by omega) (by have := hB.size; simp; omega) ?_; intro v' w1 hown' hgrow _; obtain ⟨g', cap', rfl⟩ := ownsRow_succ hown'; obtain ⟨hv1, hv2, hr2, hk2, hb2⟩ := hv.appended (by decide) hrow hB.size (Nat.le_refl _) hown' hgrow; have hc1 := hv1.cell; have hf1 := hv1.frozen)
    exact ⟨hk2.from _, hb2, ⟨_, hv2, by simpa using hr2, trivial⟩, hB.trans hb2⟩
  case done =>
    rintro D ys W hD rfl ⟨⟨v, hv, hrow, _⟩, hB⟩ hK
    have hc := hv.cell
    gi_wp2
    refine ⟨by simp, .inl ⟨_, _, rfl, run_takeDeferred hK, ?_⟩⟩
    exact ⟨_, results_tmp rfl _ _ _, v, rfl, ownsRow_putObj hrow _ hK rfl, hB.trans (belowK_b (w := w) (Nat.le_refl _) W D _ _ (by simp at hD; omega) hK rfl rfl)⟩
  case stop =>
    rintro D c pre W _ _ h _
    exact h.elim
theorem collect_any (Bs len cap : Nat) (al : Option Addr) (T : List Int) (w : World) (hl : len = T.length) (hlen : len ≤ 1000000) (hBs : Bs < w.heap.size) (hc : w.cell? ⟨Bs, 0, none⟩ = some (.slice al len cap)) (hT : LiAt w al T) :
    Calls Try.prog 55 #[.func (.func 57) #[] #[.pointer (some ⟨Bs, 0, none⟩)]] w (Copied w T) := by
  have HC := Lib.hid (append_any Bs len cap al T w hl hlen hBs hc hT)
  clear hl hT hc
  go_enter Try.func55, Try.ntmps55
  go_wp2_with fail
  refine (HC.out).mono ?_
  rintro e w' ⟨v, rfl, hr, hb⟩
  have HR := Lib.hid hr
  have HB := Lib.hid hb
  clear hr hb
  go_wp2_with fail
  go_ret
  exact ⟨_, rfl, HR.out, HB.out⟩
end Lu
end Go.Proofs.Ytmgkgbhkaoflhaa
