/-
  The checker takes in a clause.
-/
import Derived.Test.YtmgkgbhkaoflhaaB1
namespace Go.Proofs.Ytmgkgbhkaoflhaa
open Go.RowKit
namespace Rw
open Cf Rp
set_option maxHeartbeats 6400000
set_option maxRecDepth 100000

theorem index_nil (W : World) (kb : Nat) : Calls Try.prog 58 #[.slice none 0 0, fnV kb] W fun e w => e = .returned (.int .i64 (-1)) ∧ w = W := by
  unfold fnV
  go_enter Try.func58, Try.ntmps58
  go_wp2_with fail
  go_loopg [8] 0 (fun gk v8 wr => v8 = .int .i64 0 ∧ wr = W)
  case atStart => exact ⟨rfl, rfl⟩
  case round =>
    obtain ⟨rfl, rfl⟩ := hrel
    go_wp2_with fail
    go_ret
    exact ⟨rfl, rfl⟩
theorem delete_nil (W : World) (kb : Nat) : Calls Try.prog 42 #[.slice none 0 0, fnV kb] W fun e w => e = .returned (.slice none 0 0) ∧ w = W := by
  have HI := Lib.hid (index_nil W kb)
  unfold fnV at HI ⊢
  go_enter Try.func42, Try.ntmps42
  go_wp2_with fail
  refine HI.out.mono ?_
  rintro e w ⟨rfl, rfl⟩
  go_wp2_with fail
  go_ret
  exact ⟨rfl, rfl⟩
/-- What is left of a clause, in memory. -/
def LeftE (B v : Nat) (W : World) (k kb : Nat) (L : Lay) (s : PS) (l : List Int) (e : Ending) (w : World) : Prop :=
  KAt B v w k L s (s.T.elem ·) none ∧ Kept L W w L ∧ w.cell? ⟨kb, 0, none⟩ = some (.pointer (some ⟨k, 0, none⟩)) ∧
  ((l = [] ∧ e = .returned (.slice none 0 0)) ∨ ∃ g cap, e = .returned (.slice (some ⟨g, 0, none⟩) l.length cap) ∧ w.ownsRow B 3 1 (.slice (some ⟨g, 0, none⟩) l.length cap) l.length (rowI l) ∧ L.tag g = .non ∧ kb ≠ g ∧ W.heap.size ≤ g)
theorem left_any {B B' v : Nat} {W W0 : World} {k kb : Nat} {L : Lay} {s : PS} {x : Value} {q : List Int} (h : KAt B v W k L s (s.T.elem ·) none) (hv : v ≤ 1000000) (hk0 : Kept L W0 W L) (hB : B ≤ W0.heap.size) (hkb : W.cell? ⟨kb, 0, none⟩ = some (.pointer (some ⟨k, 0, none⟩))) (hlt : kb < B') (hBB : W0.heap.size ≤ B') (hq : areL v q = true) (hlen : q.length ≤ 1000000)
    (hr : W.ownsRow B' 3 1 x (Lib.compact (sorted q)).length (rowI (Lib.compact (sorted q)))) (htag : ∀ b, W0.heap.size ≤ b → L.tag b = .non) :
    Calls Try.prog 42 #[x, fnV kb] W (LeftE B v W0 k kb L s (leftOf s q)) := by
  have hr2 := hr
  rcases hr.2 with ⟨rfl, h0⟩ | ⟨g, cap, cur, rfl, hb, _⟩
  · refine (delete_nil W kb).mono ?_
    rintro e w ⟨rfl, rfl⟩
    have e0 : Lib.compact (sorted q) = [] := List.eq_nil_of_length_eq_zero h0
    exact ⟨h, hk0, hkb, .inl ⟨by unfold leftOf; rw [e0]; rfl, rfl⟩⟩
  · have hg := htag g (by omega)
    have hne : kb ≠ g := by omega
    have hp := pred_any h hv hg hkb hne (xs := Lib.compact (sorted q)) fun y hy => List.all_eq_true.1 hq y (((compact_sorted q).2 y).1 hy)
    refine (delete_any (row_base hr2 (Nat.le_trans hB hBB)) rfl (Nat.le_trans (compact_len q) hlen) hp).mono ?_
    rintro e w ⟨rfl, hrow, hgr⟩
    refine ⟨h.same hgr.size fun b hbt => hgr.block b (h.low b hbt).2 (fun e => hbt (by injection e with e; rw [e]; exact hg)), hk0.grown hgr (fun b e => ?_), hgr.cell hkb (fun e => hne (by injection e)), .inr ⟨g, cap, rfl, hrow, hg, hne, Nat.le_trans hBB hb⟩⟩
    injection e with e
    exact .inr (by omega)
/-- What 'add' has done. -/
def AddE (B v : Nat) (C : Cl) (W : World) (k : Nat) (L : Lay) (s : PS) (e : Ending) (w : World) : Prop :=
  e = .returned (.tuple #[]) ∧ ∃ (L' : Lay) (s' : PS), KAt B v w k L' s' (s'.T.elem ·) none ∧ Kept L W w L' ∧ s'.T = [] ∧ CI v C s' ∧ s'.ids.length ≤ s.ids.length + 1 ∧ ∀ c ∈ s'.ids, (s'.lit c).length ≤ 1000000
theorem add_any {B v : Nat} {C : Cl} {W : World} {k : Nat} {L : Lay} {s : PS} (h : KAt B v W k L s (s.T.elem ·) none) (hv : v ≤ 1000000) (hB : B ≤ W.heap.size) (hT : s.T = []) (hci : CI v C s) {al : Option Addr} {q : List Int} {len cap : Nat} (hq : areL v q = true) (hI : IntsAt W al q) (hl : len = q.length) (hlen : len ≤ 1000000) (hids : s.ids.length ≤ 999999) (hls : ∀ c ∈ s.ids, (s.lit c).length ≤ 1000000) :
    Calls Try.prog 27 #[.pointer (some ⟨k, 0, none⟩), .slice al len cap] W (AddE B v (C ++ [q]) W k L s) := by
  have HK := Lib.hid h
  have HB := Lib.hid hB
  have HT := Lib.hid hT
  have HCI := Lib.hid hci
  have HQ := Lib.hid hq
  have HI := Lib.hid hI
  have HL := Lib.hid hl
  have HLS := Lib.hid hls
  have htag : ∀ b, W.heap.size ≤ b → L.tag b = .non := fun b hb => Classical.byContradiction fun hn => by
    have := (h.low b hn).2
    omega
  have HTG := Lib.hid htag
  have hmf : ∀ kb W, (Instr.makeFunc (Fn.func 43) #[] #[.pointer (some ⟨kb, 0, none⟩)]).run Try.prog W = .ok (fnV kb) W := fun kb W => rfl
  clear h hB hT hci hq hI hl hls htag
  go_enter Try.func27, Try.ntmps27
  go_wp2_with fail
  refine (Lu.values_any _ al len cap).mono ?_
  rintro e w ⟨rfl, rfl⟩
  have hbs : ∃ Bs, Bs = (W.alloc (.cells #[.pointer (some ⟨k, 0, none⟩)] 40)).heap.size := ⟨_, rfl⟩
  obtain ⟨Bs, hbs⟩ := hbs
  obtain ⟨w1, hw1⟩ : ∃ w1, w1 = (W.alloc (.cells #[.pointer (some ⟨k, 0, none⟩)] 40)).alloc (.cells #[.slice al len cap] 25) := ⟨_, rfl⟩
  have hB1 : Below W.heap.size W w1 := by rw [hw1]; exact ((Below.refl _ _).alloc (Nat.le_refl _) _).alloc (by simp) _
  have hsz : Bs = W.heap.size + 1 ∧ w1.heap.size = W.heap.size + 2 := by rw [hbs, hw1]; simp
  have hc0 : w1.cell? ⟨W.heap.size, 0, none⟩ = some (.pointer (some ⟨k, 0, none⟩)) := by
    rw [hw1]
    exact ((((Below.refl (W.alloc (.cells #[.pointer (some ⟨k, 0, none⟩)] 40)).heap.size _).alloc (Nat.le_refl _) (.cells #[.slice al len cap] 25))).cell (p := ⟨W.heap.size, 0, none⟩) (by simp)).trans (new_cell W #[.pointer (some ⟨k, 0, none⟩)] 40 0)
  have hc1 : w1.cell? ⟨Bs, 0, none⟩ = some (.slice al len cap) := by rw [hw1, hbs]; exact new_cell _ #[.slice al len cap] 25 0
  have hli : Lu.LiAt w1 al q := by
    rcases HI.out with e | ⟨b, o, e1, e2, e3⟩
    · exact .inl e
    · exact .inr ⟨b, o, e1, Nat.lt_of_lt_of_le e2 hB1.size, fun i x hx => (hB1.cell (p := ⟨b, _, none⟩) e2).trans (e3 i x hx)⟩
  have HK1 : Hid (KAt B v w1 k L s (s.T.elem ·) none ∧ Kept L W w1 L) := Lib.hid ⟨HK.out.call hB1, (Kept.refl L W).below hB1⟩
  have HC0 := Lib.hid hc0
  have HSZ := Lib.hid hsz
  have HSO := Lib.hid (sortedR_any Bs len cap al q w1 HL.out hlen (by omega) hc1 hli)
  rw [← hbs, ← hw1]
  clear hbs hw1 hB1 hc0 hc1 hli hsz
  go_wp2_with fail
  refine HSO.out.mono ?_
  rintro e w2 ⟨v2, rfl, hr2, hb2⟩
  have HB2 := Lib.hid hb2
  have HR2 := Lib.hid hr2
  have HCO := Lib.hid (compactR_any (hr2) (sorted_len q).symm (by have := HL.out; omega))
  clear hr2 hb2 HSO
  go_wp2_with fail
  refine HCO.out.mono ?_
  rintro e w3 ⟨v3, rfl, hr3, hg3, ho3⟩
  have hx : ∀ g, v2.ownBlock = some g → W.heap.size ≤ g := fun g e => by have := (HR2.out.lt g e).1; have := HSZ.out.2; omega
  have HLF := Lib.hid (left_any (W := w3) (W0 := W) (kb := W.heap.size) (L := L) (s := s) (q := q) (B := B) (x := v3)
    (((HK1.out.1.call HB2.out).same hg3.size fun b hb => hg3.block b ((HK1.out.1.call HB2.out).low b hb).2 (fun e => hb (HTG.out b (hx b e.symm))))) hv
    ((HK1.out.2.below HB2.out).grown hg3 fun g e => .inr (hx g e)) HB.out
    (hg3.cell ((HB2.out.cell (p := ⟨W.heap.size, 0, none⟩) (by have := HSZ.out.2; show W.heap.size < _; omega)).trans HC0.out) (fun e => by have := (HR2.out.lt W.heap.size e.symm).1; have := HSZ.out.2; omega)) (B' := w1.heap.size) (by have := HSZ.out.2; show W.heap.size < _; omega) (by have := HSZ.out.2; omega) HQ.out (by have := HL.out; omega) hr3 HTG.out)
  clear hr3 hg3 ho3 HCO HR2 HB2 HK1 HC0
  go_wp2_with fail
  refine HLF.out.mono ?_
  rintro e w4 ⟨hk4, hp4, hkb4, hcase⟩
  have HK4 := Lib.hid (And.intro hk4 hp4)
  clear HLF hk4 hp4
  rcases hcase with ⟨hl0, rfl⟩ | ⟨g, cp, rfl, hrow, htg, hng, hgw⟩
  · have HL0 := Lib.hid hl0
    have c5 := HK4.out.1.cells.1 5
    have f5 := HK4.out.1.cells.2 5
    have c5 : w4.cell? ⟨k, 5, none⟩ = some (.bool s.br) := c5
    have HF := Lib.hid (HK4.out.1.setBr true)
    have HP := Lib.hid (HK4.out.2.put (g := k) (by rw [HK4.out.1.tk]; nofun) 5 (.bool true))
    clear hl0
    go_wp2_with fail
    go_end0
    exact ⟨rfl, L, { s with br := true }, HF.out, HP.out, HT.out, HCI.out.none HT.out HL0.out, by show s.ids.length ≤ _; omega, HLS.out⟩
  have HROW := Lib.hid hrow
  have HG := Lib.hid (And.intro htg (And.intro hng hgw))
  obtain ⟨l, hll⟩ : ∃ l, l = leftOf s q := ⟨_, rfl⟩
  rw [← hll] at HROW ⊢
  have HLL := Lib.hid hll
  obtain ⟨n, hn⟩ : ∃ n, n = l.length := ⟨_, rfl⟩
  rw [← hn] at HROW ⊢
  clear hrow htg hng hll hgw
  have c5 := HK4.out.1.cells.1 5
  have f5 := HK4.out.1.cells.2 5
  have c5 : w4.cell? ⟨k, 5, none⟩ = some (.bool s.br) := c5
  rcases l with _ | ⟨x, _ | ⟨y, r⟩⟩
  · obtain rfl : n = 0 := hn
    have HF := Lib.hid (HK4.out.1.setBr true)
    have HP := Lib.hid (HK4.out.2.put (g := k) (by rw [HK4.out.1.tk]; nofun) 5 (.bool true))
    go_wp2_with fail
    go_end0
    exact ⟨rfl, L, { s with br := true }, HF.out, HP.out, HT.out, HCI.out.none HT.out HLL.out.symm, by show s.ids.length ≤ _; omega, HLS.out⟩
  · obtain rfl : n = 1 := hn
    have hx0 : w4.cell? ⟨g, 0, none⟩ = some (.int .i64 x) := by rw [HROW.out.cellAt 0 (by simp)]; rfl
    have hxm := left_mem.1 (show x ∈ leftOf s q by rw [← HLL.out]; simp)
    have HDC := Lib.hid (decide_any (C := C ++ [q]) (HK4.out.1.drewN 1) hv (Nat.le_trans HB.out HK4.out.2.size) (List.all_eq_true.1 HQ.out x hxm.1) HT.out (by omega) HLS.out HCI.out.wi (fun e => (HCI.out.bad e).more fun y hy => List.mem_append_left _ hy) (HCI.out.single HT.out HLL.out.symm))
    clear c5 f5 hxm
    go_wp2_with fail
    go_still_tail 4, (by kernel_rfl)
    change wpList _ _ _ _ _ (w4.drewN 1)
    have HP5 := Lib.hid (HK4.out.2.drewN 1)
    generalize w4.drewN 1 = w5 at HDC HP5 ⊢
    clear hx0 hkb4 HK4 HROW
    go_wp2_with fail
    refine HDC.out.mono ?_
    rintro e w6 ⟨rfl, L6, s6, hk6, hp6, ht6, hi6, hl6, hc6⟩
    have H6 : Hid (KAt B v w6 k L6 s6 (s6.T.elem ·) none ∧ Kept L W w6 L6 ∧ s6.T = [] ∧ CI v (C ++ [q]) s6 ∧ s6.ids.length ≤ s.ids.length + 1 ∧ ∀ c ∈ s6.ids, (s6.lit c).length ≤ 1000000) := Lib.hid ⟨hk6, HP5.out.trans hp6, ht6, hc6, by rw [hi6]; omega, fun c hc => by
      rw [hi6] at hc
      rw [(hl6 c hc).length_eq]
      exact HLS.out c hc⟩
    clear hk6 hp6 ht6 hi6 hl6 hc6 HDC
    go_wp2_with fail
    go_end0
    exact ⟨rfl, L6, s6, H6.out⟩
  · have HN := Lib.hid hn
    clear hn
    have hx0 : w4.cell? ⟨g, 0, none⟩ = some (.int .i64 x) := by rw [HROW.out.cellAt 0 (by rw [HN.out]; simp)]; rfl
    have hy0 : w4.cell? ⟨g, 1, none⟩ = some (.int .i64 y) := by rw [HROW.out.cellAt 1 (by rw [HN.out]; simp)]; rfl
    have hnn : 2 ≤ n ∧ n ≤ 1000000 := by
      refine ⟨by rw [HN.out]; simp, ?_⟩
      have := left_len s q
      rw [← HLL.out, ← HN.out] at this
      have := HL.out
      omega
    have t0 : (((n : Nat) : Int) == 0) = false := by simp; omega
    have t1 : (((n : Nat) : Int) == 1) = false := by simp; omega
    have n0 : (0 : Int) < ((n : Nat) : Int) := by omega
    have n1 : (1 : Int) < ((n : Nat) : Int) := by omega
    have n2 : 0 < n := by omega
    have n3 : 1 < n := by omega
    have hgs : g < w4.heap.size := (HROW.out.lt g rfl).2
    have hks : W.heap.size < w4.heap.size := World.block_lt_of_cell? w4 _ hkb4
    have hcn : w4.heap.size ∉ s.ids := fun hc => by
      have := (HK4.out.1.low w4.heap.size (by rw [HK4.out.1.ti _ hc]; nofun)).2
      omega
    have htc : L.tag w4.heap.size = .non := HTG.out _ (by omega)
    have hB4 : B ≤ w4.heap.size := Nat.le_trans HB.out HK4.out.2.size
    have HNC : Hid (KAt B v (w4.alloc (.cells #[.slice (some ⟨g, 0, none⟩) n cp, .int .i64 1] 76)) k { L with lv := up L.lv w4.heap.size (.slice (some ⟨g, 0, none⟩) n cp), tag := tagOf (tagOf L.tag (some w4.heap.size) .cls) (some g) (.lit w4.heap.size) } { s with ids := s.ids ++ [w4.heap.size], lit := up s.lit w4.heap.size (x :: y :: r), ax := up s.ax w4.heap.size 1 } (s.T.elem ·) none ∧ Kept L W (w4.alloc (.cells #[.slice (some ⟨g, 0, none⟩) n cp, .int .i64 1] 76)) { L with lv := up L.lv w4.heap.size (.slice (some ⟨g, 0, none⟩) n cp), tag := tagOf (tagOf L.tag (some w4.heap.size) .cls) (some g) (.lit w4.heap.size) }) := Lib.hid (by
      have hr := HROW.out.alloc (.cells #[.slice (some ⟨g, 0, none⟩) n cp, .int .i64 1] 76)
      have hh := heap_alloc_new w4 (.cells #[.slice (some ⟨g, 0, none⟩) n cp, .int .i64 1] 76)
      rw [show n = (x :: y :: r).length from HN.out] at hr hh ⊢
      refine ⟨(HK4.out.1.alloc _).clauseNew hcn hB4 htc HG.out.1 (by omega) hh hr, (HK4.out.2.alloc _).tag fun b hb ht => ?_⟩
      show tagOf (tagOf L.tag (some w4.heap.size) .cls) (some g) (.lit w4.heap.size) b = _
      rw [tagOf_ne, tagOf_ne]
      · exact ht
      · intro e
        injection e with e
        omega
      · intro e
        injection e with e
        have := HG.out.2.2
        omega)
    have hb5 := (Below.refl w4.heap.size w4).alloc (Nat.le_refl _) (.cells #[.slice (some ⟨g, 0, none⟩) n cp, .int .i64 1] 76)
    have hk5 : (w4.alloc (.cells #[.slice (some ⟨g, 0, none⟩) n cp, .int .i64 1] 76)).cell? ⟨W.heap.size, 0, none⟩ = some (.pointer (some ⟨k, 0, none⟩)) := (hb5.cell (p := ⟨W.heap.size, 0, none⟩) hks).trans hkb4
    have hx5 : (w4.alloc (.cells #[.slice (some ⟨g, 0, none⟩) n cp, .int .i64 1] 76)).cell? ⟨g, 0, none⟩ = some (.int .i64 x) := (hb5.cell (p := ⟨g, 0, none⟩) hgs).trans hx0
    have hsz5 : (w4.alloc (.cells #[.slice (some ⟨g, 0, none⟩) n cp, .int .i64 1] 76)).heap.size = w4.heap.size + 1 := by simp
    have hxm := left_mem.1 (show x ∈ leftOf s q by rw [← HLL.out]; simp)
    have hym := left_mem.1 (show y ∈ leftOf s q by rw [← HLL.out]; simp)
    have HXY := Lib.hid (And.intro (List.all_eq_true.1 HQ.out x hxm.1) (List.all_eq_true.1 HQ.out y hym.1))
    obtain ⟨c, hc⟩ : ∃ c, c = w4.heap.size := ⟨_, rfl⟩
    have HCC : Hid (c ∉ s.ids ∧ c ≠ g ∧ B ≤ c ∧ W.heap.size < c) := Lib.hid ⟨by rw [hc]; exact hcn, by omega, by omega, by omega⟩
    rw [← hc] at HNC hsz5
    clear hb5 hkb4 hx0 hy0 hgs hks hcn htc hB4 c5 f5 hxm hym
    go_wp2_with fail
    rw [← hc]
    clear hc
    obtain ⟨L5, hL5⟩ : ∃ L5 : Lay, L5 = { L with lv := up L.lv c (.slice (some ⟨g, 0, none⟩) n cp), tag := tagOf (tagOf L.tag (some c) .cls) (some g) (.lit c) } := ⟨_, rfl⟩
    have ht5 : L5.tag W.heap.size = .non := by
      rw [hL5]
      show tagOf (tagOf L.tag (some c) .cls) (some g) (.lit c) W.heap.size = .non
      rw [tagOf_ne (fun e => by injection e with e; exact HG.out.2.1 e.symm), tagOf_ne (fun e => by injection e with e; have := HCC.out.2.2.2; omega)]
      exact HTG.out _ (Nat.le_refl _)
    have hv5 : L5.lv c = .slice (some ⟨g, 0, none⟩) n cp := by rw [hL5]; exact up_at _ _ _
    rw [← hL5] at HNC
    generalize w4.alloc (.cells #[.slice (some ⟨g, 0, none⟩) n cp, .int .i64 1] 76) = w5 at HNC hk5 hx5 hsz5 ⊢
    have HW1 := Lib.hid (watch_any (HNC.out.1.drewN 1) hv (Nat.le_trans HB.out (HNC.out.2.drewN 1).size) HXY.out.1 c nofun (Nat.le_trans (HCI.out.wi.len _) (by omega)))
    have HD5 : Hid (Kept L W (w5.drewN 1) L5 ∧ (w5.drewN 1).heap[W.heap.size]? = w5.heap[W.heap.size]? ∧ W.heap.size < (w5.drewN 1).heap.size) := Lib.hid ⟨HNC.out.2.drewN 1, rfl, World.block_lt_of_cell? w5 _ hk5⟩
    have HK5 := Lib.hid (And.intro hk5 (And.intro ht5 hv5))
    go_still_tail 5, (by kernel_rfl)
    change wpList _ _ _ _ _ (w5.drewN 1)
    generalize w5.drewN 1 = w6 at HW1 HD5 ⊢
    clear hk5 hx5 hsz5 ht5 hv5 hL5
    go_wp2_with fail
    refine HW1.out.mono ?_
    rintro e w7 ⟨rfl, L7, hk7, hp7, hl7⟩
    have hc7 : w7.cell? ⟨W.heap.size, 0, none⟩ = some (.pointer (some ⟨k, 0, none⟩)) := (World.cell?_of_block (a := ⟨W.heap.size, 0, none⟩) ((hp7.blk _ HD5.out.2.2 HK5.out.2.1).1.trans HD5.out.2.1)).trans HK5.out.1
    obtain ⟨g7, cap7, e1, e2, e3, e4, e5⟩ := hk7.lits (c := c) (by show c ∈ s.ids ++ [c]; simp) (by show 0 < (up s.lit c (x :: y :: r) c).length; rw [up_at]; simp)
    have e6 : ({ s with ids := s.ids ++ [c], lit := up s.lit c (x :: y :: r), ax := up s.ax c 1 } : PS).lit c = x :: y :: r := up_at _ _ _
    have hy7 := e3 1 y (by show (up s.lit c (x :: y :: r) c)[1]? = _; rw [up_at]; rfl)
    rw [hl7, HK5.out.2.2] at e1
    injection e1 with e1 e8 e9
    injection e1 with e1
    injection e1 with e1
    subst e1
    have hpxy : pl v x ≠ pl v y := fun e => by
      have := pl_inj HXY.out.1 HXY.out.2 e
      have hnd := left_nodup s q
      rw [← HLL.out, this] at hnd
      simp at hnd
    have HPX := Lib.hid hpxy
    have HW2 := Lib.hid (watch_any (hk7.drewN 1) hv (Nat.le_trans HB.out ((HD5.out.1.trans hp7).drewN 1).size) HXY.out.2 c nofun (by
      show (up s.W (pl v x) (s.W (pl v x) ++ [c]) (pl v y)).length ≤ _
      rw [up_ne hpxy.symm]
      exact Nat.le_trans (HCI.out.wi.len _) (by omega)))
    have HD7 := Lib.hid ((HD5.out.1.trans hp7).drewN 1)
    clear hk7 hp7 hl7 e2 e3 e4 e5 e6 e8 e9 hpxy HW1 HD5 HNC
    go_wp2_with fail
    go_still_tail 5, (by kernel_rfl)
    change wpList _ _ _ _ _ (w7.drewN 1)
    generalize w7.drewN 1 = w8 at HW2 HD7 ⊢
    clear hc7 hy7
    go_wp2_with fail
    refine HW2.out.mono ?_
    rintro e w9 ⟨rfl, L9, hk9, hp9, -⟩
    have H9 := Lib.hid (And.intro hk9 (HD7.out.trans hp9))
    clear hk9 hp9 HW2 HD7
    go_wp2_with fail
    go_end0
    have e0 : up s.W (pl v x) (s.W (pl v x) ++ [c]) (pl v y) = s.W (pl v y) := up_ne HPX.out.symm
    have hk := H9.out.1
    simp only [e0] at hk
    refine ⟨rfl, L9, s.more v c x y r, hk, H9.out.2, HT.out, HCI.out.two HT.out HQ.out HLL.out.symm HCC.out.1, by show (s.ids ++ [c]).length ≤ _; simp, fun c' hc' => ?_⟩
    rcases List.mem_append.1 hc' with hc' | hc'
    · have hne : c' ≠ c := fun e => HCC.out.1 (e ▸ hc')
      show (up s.lit c (x :: y :: r) c').length ≤ _
      rw [up_ne hne]
      exact HLS.out c' hc'
    · have hc' : c' = c := by simpa using hc'
      show (up s.lit c (x :: y :: r) c').length ≤ _
      rw [hc', up_at, ← HN.out]
      exact hnn.2
end Rw
end Go.Proofs.Ytmgkgbhkaoflhaa
