/-
The checker's small functions: a literal's place, whether a bit is set, and setting it.
The checker's come and forget.
A clause's other literal.
-/
import Derived.Test.YtmgkgbhkaoflhaaRwMem
import Derived.BigQuiet
import Derived.IntWalk
import Derived.Lib.Walk
import Derived.Deep.LoopGhost
import Derived.Deep.QuietTactic
import Derived.Deep.Cut
import Derived.Deep.DeepMust
import Derived.StillTailTactics
import Derived.Lib.SliceRun
import Derived.Laws.IdiomCopy
import Derived.Deep.CutRange
import Derived.Laws.NewFold
namespace Go.Proofs.Ytmgkgbhkaoflhaa
open Go.RowKit
namespace Rw
open Cf Rp
set_option maxHeartbeats 1600000
set_option maxRecDepth 100000

theorem pl_is {v : Nat} {l : Int} (hl : isL l v = true) : ((pl v l : Nat) : Int) = (v : Int) + l := by
  have := isL_ne hl
  unfold pl; omega
theorem lt_pl {v : Nat} {l : Int} (hl : isL l v = true) : lt v (pl v l) = l := by
  unfold lt
  rw [pl_is hl]; omega
theorem place_any {B v : Nat} {W : World} {k : Nat} {L : Lay} {s : PS} {D : Int → Bool} {gap : Option Nat} (h : KAt B v W k L s D gap) (hv : v ≤ 1000000) {l : Int} (hl : isL l v = true) :
    Calls Try.prog 46 #[.pointer (some ⟨k, 0, none⟩), .int .i64 l] W fun e w => e = .returned (.int .i64 ((pl v l : Nat) : Int)) ∧ w = W := by
  have c0 : W.cell? ⟨k, 0, none⟩ = some (.int .i64 ((v : Nat) : Int)) := h.cells.1 0
  have hb := isL_ne hl
  have e1 := pl_is hl
  have e2 : wrap64 ((v : Int) + l) = (v : Int) + l := by unfold wrap64; omega
  rw [e1]
  clear h
  go_enter Try.func46, Try.ntmps46
  go_wp2_with fail
  go_ret
  exact ⟨by first | rfl | rw [e2], rfl⟩
theorem and63 {q : Nat} (hq : q < 4611686018427387904) : bits .and .i64 ((q : Nat) : Int) 63 = ((q % 64 : Nat) : Int) := by
  have h1 : (BitVec.ofInt 64 ((q : Nat) : Int)).toNat = q := by
    rw [BitVec.ofInt_natCast, BitVec.toNat_ofNat]; exact Nat.mod_eq_of_lt (by omega)
  show IntKind.i64.wrap ((BitVec.ofInt 64 ((q : Nat) : Int) &&& BitVec.ofInt 64 63).toNat : Int) = _
  rw [BitVec.toNat_and, h1, show (BitVec.ofInt 64 63).toNat = 2 ^ 6 - 1 from by decide, Nat.and_two_pow_sub_one_eq_mod, IntKind.wrap_i64]
  omega
theorem has_any {n b q : Nat} {W : World} {f : Nat → Bool} (h : BitsAt W b n f) (hq : q < 64 * n) (hn : n ≤ 1000000) :
    Calls Try.prog 47 #[.slice (some ⟨b, 0, none⟩) n n, .int .i64 ((q : Nat) : Int)] W fun e w => e = .returned (.bool (f q)) ∧ w = W := by
  obtain ⟨x, hx, c0, _, hbit, _⟩ := h.put hq
  have q0 : (0 : Int) ≤ ((q : Nat) : Int) := by omega
  have q1 : ((q : Nat) : Int) / 64 < ((n : Nat) : Int) := by omega
  have e1 := and63 (q := q) (by omega)
  obtain ⟨r, hr⟩ : ∃ r, r = q % 64 := ⟨_, rfl⟩
  have hr64 : r < 64 := by omega
  rw [← hr] at e1 hbit
  have hy := Nat.lt_of_le_of_lt (Nat.div_le_self x (2 ^ r)) hx
  have e5 : x.testBit r = decide (x / 2 ^ r % 2 = 1) := Nat.testBit_eq_decide_div_mod_eq
  rw [e5] at hbit
  obtain ⟨y, hyv⟩ : ∃ y, y = x / 2 ^ r := ⟨_, rfl⟩
  rw [← hyv] at hy hbit
  have e3 : bits .and .u64 ((y : Nat) : Int) 1 = ((y % 2 : Nat) : Int) := by
    rw [show (1 : Int) = ((1 : Nat) : Int) from rfl, bits_and_u64_nat y 1 hy (by decide), show (1 : Nat) = 2 ^ 1 - 1 from rfl, Nat.and_two_pow_sub_one_eq_mod]
  have HB : Hid ((((y % 2 : Nat) : Int) == 1) = f q) := by
    show _ = _
    rw [← hbit]
    rcases Nat.mod_two_eq_zero_or_one y with e | e
    · rw [e]; rfl
    · rw [e]; rfl
  obtain ⟨z, hz⟩ : ∃ z, z = y % 2 := ⟨_, rfl⟩
  have e3 : bits .and .u64 (((x : Nat) : Int) / 2 ^ r) 1 = ((z : Nat) : Int) := by
    rw [show ((x : Nat) : Int) / 2 ^ r = ((y : Nat) : Int) by rw [hyv, Int.natCast_ediv, Int.natCast_pow]; rfl, e3, hz]
  rw [← hz] at HB
  clear h hbit hyv hr hx hy e5 hz
  go_enter Try.func47, Try.ntmps47
  go_wp2_with fail
  go_ret
  exact ⟨by rw [← HB.out]; rfl, rfl⟩
theorem put_any {n b q : Nat} {W : World} {f : Nat → Bool} (h : BitsAt W b n f) (hq : q < 64 * n) (hn : n ≤ 1000000) :
    Calls Try.prog 48 #[.slice (some ⟨b, 0, none⟩) n n, .int .i64 ((q : Nat) : Int)] W fun e w => e = .returned (.tuple #[]) ∧ ∃ (m i x : Nat), w = (W.setCell ⟨b, i, none⟩ (.int .u64 ((x : Nat) : Int))).drewN m ∧ BitsAt (W.setCell ⟨b, i, none⟩ (.int .u64 ((x : Nat) : Int))) b n fun j => f j || decide (j = q) := by
  obtain ⟨x, hx, c0, f0, hbit, hput⟩ := h.put hq
  have q0 : (0 : Int) ≤ ((q : Nat) : Int) := by omega
  have q1 : ((q : Nat) : Int) / 64 < ((n : Nat) : Int) := by omega
  have e1 := and63 (q := q) (by omega)
  have HP := Lib.hid hput
  have hr64 : q % 64 < 64 := Nat.mod_lt _ (by decide)
  have HO : Hid (bits BinOp.or IntKind.u64 ((x : Nat) : Int) (IntKind.u64.wrap (2 ^ (q % 64))) = ((x ||| 1 <<< (q % 64) : Nat) : Int)) := by
    show _ = _
    have hp : (2 : Nat) ^ (q % 64) < 18446744073709551616 := Nat.pow_lt_pow_right (n := 64) (by decide) hr64
    have e : (2 : Int) ^ (q % 64) = ((2 ^ (q % 64) : Nat) : Int) := by rw [Int.natCast_pow]; rfl
    rw [e, Nat.one_shiftLeft]
    generalize (2 : Nat) ^ (q % 64) = y at hp ⊢
    have e2 : IntKind.u64.wrap ((y : Nat) : Int) = ((y : Nat) : Int) := by rw [IntKind.wrap_u64]; omega
    rw [e2, bits_or_u64_nat _ _ hx hp]
  clear h hbit hput hr64 hx
  go_enter Try.func48, Try.ntmps48
  go_wp2_with fail
  go_region
  go_end0
  exact ⟨rfl, 1, q / 64, _, by rw [HO.out]; rfl, HP.out⟩
theorem hol_bits {v : Nat} {l : Int} (hl : isL l v = true) (hv : v ≤ 1000000) : pl v l < 64 * nw v ∧ nw v ≤ 1000000 := by
  have := pl_lt hl
  unfold nw
  omega
theorem holds_any {B v : Nat} {W : World} {k : Nat} {L : Lay} {s : PS} {gap : Option Nat} (h : KAt B v W k L s (s.T.elem ·) gap) (hv : v ≤ 1000000) {l : Int} (hl : isL l v = true) :
    Calls Try.prog 29 #[.pointer (some ⟨k, 0, none⟩), .int .i64 l] W fun e w => e = .returned (.bool (s.hol l)) ∧ w = W := by
  have c2 : W.cell? ⟨k, 2, none⟩ = some (.slice (some ⟨L.sb, 0, none⟩) (nw v) (nw v)) := h.cells.1 2
  have c3 : W.cell? ⟨k, 3, none⟩ = some (.slice (some ⟨L.db, 0, none⟩) (nw v) (nw v)) := h.cells.1 3
  have HP := Lib.hid (place_any h hv hl)
  obtain ⟨b1, b2⟩ := hol_bits hl hv
  have HS := Lib.hid (has_any h.su b1 b2)
  have HD := Lib.hid (has_any h.de b1 b2)
  rw [lt_pl hl] at HS HD
  have he : s.hol l = (s.S l || s.T.elem l) := rfl
  rw [he]
  clear h he b1 b2
  cases h1 : s.S l with
  | true =>
    rw [h1] at HS
    clear h1
    go_enter Try.func29, Try.ntmps29
    go_wp2_with fail
    refine HP.out.mono ?_
    rintro e w ⟨rfl, rfl⟩
    go_wp2_with fail
    refine HS.out.mono ?_
    rintro e w ⟨rfl, rfl⟩
    go_wp2_with fail
    go_ret
    exact ⟨rfl, rfl⟩
  | false =>
    rw [h1] at HS
    clear h1
    go_enter Try.func29, Try.ntmps29
    go_wp2_with fail
    refine HP.out.mono ?_
    rintro e w ⟨rfl, rfl⟩
    go_wp2_with fail
    refine HS.out.mono ?_
    rintro e w ⟨rfl, rfl⟩
    go_wp2_with fail
    refine HD.out.mono ?_
    rintro e w ⟨rfl, rfl⟩
    go_wp2_with fail
    go_ret
    exact ⟨by simp, rfl⟩
end Rw
end Go.Proofs.Ytmgkgbhkaoflhaa

namespace Go.Proofs.Ytmgkgbhkaoflhaa
open Go.RowKit
namespace Rw
open Cf Rp
set_option maxHeartbeats 3200000
set_option maxRecDepth 100000

theorem KAt.k_far {B v : Nat} {w w2 : World} {k : Nat} {L : Lay} {s : PS} {D : Int → Bool} {gap : Option Nat} (h : KAt B v w k L s D gap) {x : Option Nat} (hg : w.grownBy w2 x) (hx : ∀ g, x = some g → L.tag g ≠ .chk) : (∀ j, w2.cell? ⟨k, j, none⟩ = (cellsK v L s.br)[j]?) ∧ ∀ j, w2.frozen? ⟨k, j, none⟩ = false := by
  have e := hg.block k (h.low k (by rw [h.tk]; nofun)).2 (fun c => hx k c.symm h.tk)
  exact ⟨fun j => (World.cell?_of_block (a := ⟨k, j, none⟩) e).trans (h.cells.1 j), fun j => (World.frozen?_of_block (a := ⟨k, j, none⟩) e).trans (h.cells.2 j)⟩
theorem Kept.grown {L L1 : Lay} {w w1 w2 : World} (h : Kept L w w1 L1) {x : Option Nat} (hg : w1.grownBy w2 x) (hx : ∀ g, x = some g → L.tag g ≠ .non ∨ w.heap.size ≤ g) : Kept L w w2 L1 :=
  ⟨hg.os.trans h.os, hg.tape.trans h.tape, hg.output.trans h.output, Nat.le_trans h.size hg.size, fun b hb ht => ⟨(hg.block b (Nat.lt_of_lt_of_le hb h.size) (fun e => by
    rcases hx b e.symm with c | c
    · exact c ht
    · omega)).trans (h.blk b hb ht).1, (h.blk b hb ht).2⟩⟩
theorem Kept.tag {L L1 L2 : Lay} {w w1 : World} (h : Kept L w w1 L1) (hx : ∀ b, b < w.heap.size → L1.tag b = .non → L2.tag b = .non) : Kept L w w1 L2 :=
  ⟨h.os, h.tape, h.output, h.size, fun b hb ht => ⟨(h.blk b hb ht).1, hx b hb (h.blk b hb ht).2⟩⟩
theorem Kept.mine {L L1 : Lay} {w w1 : World} (h : Kept L w w1 L1) {g : Nat} (hg : L1.tag g ≠ .non) : L.tag g ≠ .non ∨ w.heap.size ≤ g := by
  by_cases c : g < w.heap.size
  · exact .inl fun e => hg (h.blk g c e).2
  · exact .inr (by omega)
theorem Kept.put {L L1 : Lay} {w w1 : World} (h : Kept L w w1 L1) {g : Nat} (hg : L1.tag g ≠ .non) (i : Nat) (x : Value) : Kept L w (w1.setCell ⟨g, i, none⟩ x) L1 :=
  ⟨h.os, h.tape, h.output, by simpa [World.setCell] using h.size, fun b hb ht => ⟨(heap_setCell_other w1 _ b _ (fun e => hg (by rw [show g = b from e.symm]; exact (h.blk b hb ht).2))).trans (h.blk b hb ht).1, (h.blk b hb ht).2⟩⟩
theorem Kept.tagged {L L1 : Lay} {w w1 w2 : World} (h : Kept L w w1 L1) {y x : Option Nat} {r : Role} (hg : w1.grownBy w2 y) (hy : ∀ g, y = some g → L1.tag g ≠ .non) (hx : x = y ∨ x = none ∨ ∃ g, w1.heap.size ≤ g ∧ x = some g) {L2 : Lay} (hL : L2.tag = tagOf L1.tag x r) : Kept L w w2 L2 := by
  refine (h.grown hg fun g e => h.mine (hy g e)).tag fun b hb ht => ?_
  rw [hL, tagOf_ne ?_]
  · exact ht
  · intro e
    rcases hx with c | c | ⟨g, c1, c2⟩
    · exact hy b (c ▸ e) ht
    · rw [c] at e; cases e
    · rw [c2] at e
      injection e with e
      have := h.size
      omega
theorem come_any {B v : Nat} {W : World} {k : Nat} {L : Lay} {s : PS} {gap : Option Nat} (h : KAt B v W k L s (s.T.elem ·) gap) (hv : v ≤ 1000000) (hB : B ≤ W.heap.size) {l : Int} (hl : isL l v = true) (hT : s.T.length < 1000000000) :
    Calls Try.prog 30 #[.pointer (some ⟨k, 0, none⟩), .int .i64 l] W fun e w => e = .returned (.tuple #[]) ∧ ∃ L', KAt B v w k L' (s.come l) ((s.come l).T.elem ·) gap ∧ Kept L W w L' := by
  have HH := Lib.hid (holds_any h hv hl)
  cases hs : s.hol l with
  | true =>
    rw [hs] at HH
    have e : s.come l = s := by unfold PS.come; rw [hs]; rfl
    rw [e]
    have HK := Lib.hid h
    clear h
    go_enter Try.func30, Try.ntmps30
    go_wp2_with fail
    refine HH.out.mono ?_
    rintro e w ⟨rfl, rfl⟩
    go_wp2_with fail
    go_end0
    exact ⟨rfl, L, HK.out, Kept.refl _ _⟩
  | false =>
    rw [hs] at HH
    have e : s.come l = { s with T := s.T ++ [l] } := by unfold PS.come; rw [hs]; rfl
    rw [e]
    obtain ⟨b1, b2⟩ := hol_bits hl hv
    have HP : Hid (∀ w' : World, w'.heap = W.heap → Calls Try.prog 46 #[.pointer (some ⟨k, 0, none⟩), .int .i64 l] w' fun e w => e = .returned (.int .i64 ((pl v l : Nat) : Int)) ∧ w = w') := Lib.hid fun w' e => place_any (h.same (by rw [e]; exact Nat.le_refl _) fun b _ => by rw [e]) hv hl
    have HD : Hid (∀ w' : World, w'.heap = W.heap → Calls Try.prog 48 #[.slice (some ⟨L.db, 0, none⟩) (nw v) (nw v), .int .i64 ((pl v l : Nat) : Int)] w' fun e w => e = .returned (.tuple #[]) ∧ ∃ (m i x : Nat), w = (w'.setCell ⟨L.db, i, none⟩ (.int .u64 ((x : Nat) : Int))).drewN m ∧ BitsAt (w'.setCell ⟨L.db, i, none⟩ (.int .u64 ((x : Nat) : Int))) L.db (nw v) fun j => s.T.elem (lt v j) || decide (j = pl v l)) := Lib.hid fun w' e => put_any (h.de.same (by rw [e])) b1 b2
    have c3 : W.cell? ⟨k, 3, none⟩ = some (.slice (some ⟨L.db, 0, none⟩) (nw v) (nw v)) := h.cells.1 3
    have HK := Lib.hid h
    clear h b1 b2 hs e
    go_enter Try.func30, Try.ntmps30
    go_wp2_with fail
    refine HH.out.mono ?_
    rintro e w ⟨rfl, rfl⟩
    go_upto_region 1 with fail
    go_still_tail 7, (by kernel_rfl)
    still_call (HP.out _ rfl)
    refine wpStill_nil ?_
    change wpList _ _ _ _ _ w.drew
    have HKK : Hid (KAt B v w.drew k L s (s.T.elem ·) gap ∧ Kept L w w.drew L) := Lib.hid ⟨HK.out.drewN 1, (Kept.refl L w).drewN 1⟩
    have HD2 := Lib.hid (HD.out w.drew rfl)
    have HB2 : Hid (B ≤ w.drew.heap.size) := Lib.hid hB
    clear HK HP HD c3 hB HH
    generalize w.drew = w2 at HKK HD2 HB2 ⊢
    go_wp2_with fail
    refine HD2.out.mono ?_
    rintro e w3 ⟨rfl, m, i, x, rfl, hbit⟩
    have HK3 : Hid (KAt B v ((w2.setCell ⟨L.db, i, none⟩ (.int .u64 ((x : Nat) : Int))).drewN m) k L s ((s.T ++ [l]).elem ·) gap ∧ Kept L w ((w2.setCell ⟨L.db, i, none⟩ (.int .u64 ((x : Nat) : Int))).drewN m) L ∧ B ≤ ((w2.setCell ⟨L.db, i, none⟩ (.int .u64 ((x : Nat) : Int))).drewN m).heap.size) := Lib.hid (by
      refine ⟨(HKK.out.1.setD (hbit.congr fun q hq => ?_)).drewN m, (HKK.out.2.set (by rw [HKK.out.1.td]; nofun) _ _).drewN m, by simpa [World.setCell] using HB2.out⟩
      rw [elem_snoc]
      congr 1
      have e := isL_ne hl
      by_cases e2 : q = pl v l
      · subst e2
        rw [lt_pl hl]; simp
      · rw [decide_eq_false e2]
        symm
        have : lt v q ≠ l := fun c => e2 (by unfold lt at c; unfold pl; omega)
        simpa using this)
    generalize (w2.setCell ⟨L.db, i, none⟩ (.int .u64 ((x : Nat) : Int))).drewN m = w3 at HK3 ⊢
    clear HKK HD2 HB2 hbit
    obtain ⟨ca, cc, hcv⟩ := row_shape HK3.out.1.ca
    have c4 : w3.cell? ⟨k, 4, none⟩ = some (.slice ca s.T.length cc) := by rw [HK3.out.1.cells.1 4, ← hcv]; rfl
    have hrow := HK3.out.1.ca
    rw [hcv] at hrow
    have HROW := Lib.hid hrow
    have HCV := Lib.hid hcv
    clear hrow hcv
    go_wp2_with (at_builtin; refine wpList_grew info_int Try.underlying25 rfl (by decide) (by decide) (v := .slice ca s.T.length cc) (n := s.T.length) (xs := rowI s.T) (news := #[.int .i64 l]) rfl (.tmp 20) (.tmp 22) rfl rfl HROW.out HK3.out.2.2 rfl rfl (by simp [Value.oneCell']) rfl (by omega) ?_; intro g cp w4 hg4; obtain ⟨C4, F4⟩ := ((HK3.out.1.alloc _).k_far hg4.gr (fun g e => by rw [HK3.out.1.tc g (by rw [HCV.out]; exact e)]; nofun)).imp (fun f => f 4) (fun f => f 4); have C4 : w4.cell? ⟨k, 4, none⟩ = some L.cv := C4; rw [HCV.out] at C4; have HG := Lib.hid hg4; clear hg4)
    go_end0
    have e1 : (Value.slice ca s.T.length cc).ownBlock = L.cv.ownBlock := by rw [HCV.out]
    have hgr := HG.out.gr
    have hlo := HG.out.loc
    rw [e1] at hgr hlo
    have hr : w4.ownsRow B 3 1 (.slice (some ⟨g, 0, none⟩) (s.T.length + 1) cp) (s.T ++ [l]).length (rowI (s.T ++ [l])) := by
      have := HG.out.row
      rw [List.length_append]
      simpa [rowI] using this
    have hlo2 : (Value.slice (some ⟨g, 0, none⟩) (s.T.length + 1) cp).ownBlock = L.cv.ownBlock ∨ (Value.slice (some ⟨g, 0, none⟩) (s.T.length + 1) cp).ownBlock = none ∨ ∃ g', (w3.alloc (.cells #[.int .i64 l] 3)).heap.size ≤ g' ∧ (Value.slice (some ⟨g, 0, none⟩) (s.T.length + 1) cp).ownBlock = some g' := by
      rcases hlo with c | c
      · exact .inl c
      · exact .inr (.inr c)
    have hKA := (HK3.out.1.alloc (.cells #[.int .i64 l] 3)).setCame hr hgr hlo2
    exact ⟨rfl, _, hKA, ((HK3.out.2.1.alloc _).tagged (L2 := { L with cv := .slice (some ⟨g, 0, none⟩) (s.T.length + 1) cp, tag := tagOf L.tag (Value.slice (some ⟨g, 0, none⟩) (s.T.length + 1) cp).ownBlock .cam }) hgr (fun b e => by rw [HK3.out.1.tc b e]; nofun) hlo2 rfl).put (by rw [hKA.tk]; nofun) _ _⟩
theorem heap_setCells {g : Nat} {t : TypeId} : ∀ (vs : List Value) (o : Nat) (w : World) (xs : List Value), w.heap[g]? = some (.cells xs.toArray t (0, 0)) → xs.length = o + vs.length → (w.setCells g o vs).heap[g]? = some (.cells (xs.take o ++ vs).toArray t (0, 0))
  | [], o, w, xs, h, hl => by
    simp at hl
    rw [← hl, List.take_length, List.append_nil]
    exact h
  | x :: vs, o, w, xs, h, hl => by
    simp at hl
    have h1 := heap_setCell_same w g o _ _ x h
    rw [List.setIfInBounds_toArray] at h1
    have h2 := heap_setCells vs (o + 1) (w.setCell ⟨g, o, none⟩ x) (xs.set o x) h1 (by simp; omega)
    have e : (xs.set o x).take (o + 1) ++ vs = xs.take o ++ x :: vs := by
      rw [List.take_add_one, List.take_set_of_le (Nat.le_refl _)]
      have : (xs.set o x)[o]? = some x := by rw [List.getElem?_set_self (by omega)]
      rw [this]; simp
    rw [← e]
    exact h2
theorem heap_setCells_far {g : Nat} : ∀ (vs : List Value) (o : Nat) (w : World) {b : Nat}, b ≠ g → (w.setCells g o vs).heap[b]? = w.heap[b]?
  | [], _, _, _, _ => rfl
  | x :: vs, o, w, b, hb => (heap_setCells_far vs (o + 1) (w.setCell ⟨g, o, none⟩ x) hb).trans (heap_setCell_other w _ b _ hb)
theorem size_cells {g : Nat} : ∀ (vs : List Value) (o : Nat) (w : World), (w.setCells g o vs).heap.size = w.heap.size
  | [], _, _ => rfl
  | x :: vs, o, w => (size_cells vs (o + 1) (w.setCell ⟨g, o, none⟩ x)).trans (by simp [World.setCell])
theorem kept_cells {L L1 : Lay} {g : Nat} : ∀ (vs : List Value) (o : Nat) {w w1 : World}, Kept L w w1 L1 → L1.tag g ≠ .non → Kept L w (w1.setCells g o vs) L1
  | [], _, _, _, h, _ => h
  | x :: vs, o, _w, _w1, h, hg => kept_cells vs (o + 1) (h.put hg o x) hg
/-- All that came is cleared. -/
theorem KAt.clearD {B v : Nat} {w : World} {k : Nat} {L : Lay} {s : PS} {D : Int → Bool} {gap : Option Nat} (h : KAt B v w k L s D gap) : KAt B v (w.setCells L.db 0 (List.replicate (nw v) (.int .u64 0))) k L s (fun _ => false) gap := by
  have hz : w.heap.size ≤ (w.setCells L.db 0 (List.replicate (nw v) (.int .u64 0))).heap.size := by rw [size_cells]; exact Nat.le_refl _
  have hs : ∀ g, L.tag g ≠ .dec → (w.setCells L.db 0 (List.replicate (nw v) (.int .u64 0))).heap[g]? = w.heap[g]? := fun g hg => heap_setCells_far _ _ _ (fun e => hg (by rw [e]; exact h.td))
  refine ⟨(hs _ (by rw [h.tk]; nofun)).trans h.ck, (hs _ (by rw [h.tw]; nofun)).trans h.cw, h.su.same (hs _ (by rw [h.ts]; nofun)), ?_,
    same_row h.ca (fun g e => hs g (by rw [h.tc g e]; nofun)), fun p hp hg => same_row (h.ws p hp hg) (fun g e => hs g (by rw [h.tl p hp hg g e]; nofun)),
    fun c hc => (hs c (by rw [h.ti c hc]; nofun)).trans (h.cl c hc), fun c hc => same_row (h.cq c hc) (fun g e => hs g (by rw [h.tq c hc g e]; nofun)),
    h.tk, h.tw, h.ts, h.td, h.tc, h.tl, h.ti, h.tq, fun b hb => ⟨(h.low b hb).1, Nat.lt_of_lt_of_le (h.low b hb).2 hz⟩⟩
  obtain ⟨ws, h1, h2, h3, h4⟩ := h.de
  refine ⟨List.replicate (nw v) 0, by simp, ?_, fun x hx => by rw [(List.mem_replicate.1 hx).2]; decide, fun q _ => ?_⟩
  · have := heap_setCells (List.replicate (nw v) (.int .u64 0)) 0 w (ws.map wordV) h2 (by simp [h1])
    rw [this]
    simp [wordV]
  · have : (List.replicate (nw v) 0).getD (q / 64) 0 = 0 := by
      rw [List.getD, List.getElem?_replicate]
      split <;> rfl
    rw [this]
    exact Nat.zero_testBit _
theorem row_none {w : World} {B : Nat} {e : TypeId} {x : Value} {n : Nat} {xs : List Value} (h : w.ownsRow B e 1 x n xs) : ∃ a c, x = .slice a n c ∧ w.ownsRow B e 1 (.slice a 0 c) 0 [] ∧ (∀ y, a = some y → y = ⟨y.block, 0, none⟩) := by
  rcases h with ⟨h0, ⟨h1, h2⟩ | ⟨g, cap, cur, hv, hb, hh, hc, hm, hz, _⟩⟩
  · subst h2
    exact ⟨none, 0, h1, World.ownsRow_nil _ _ _ _, fun y e => by cases e⟩
  · exact ⟨_, _, hv, ⟨rfl, .inr ⟨g, cap, cur, rfl, hb, hh, Nat.zero_le _, hm, hz, by simp⟩⟩, fun y e => by injection e with e; subst e; rfl⟩
theorem info_u64 : (Try.prog.info? 87).map (fun i => (i.zero, i.size, i.bytes)) = some (some (.int .u64 0), 1, 8) := by kernel_rfl
theorem forget_any {B v : Nat} {W : World} {k : Nat} {L : Lay} {s : PS} {D : Int → Bool} {gap : Option Nat} (h : KAt B v W k L s D gap) :
    Calls Try.prog 28 #[.pointer (some ⟨k, 0, none⟩)] W fun e w => e = .returned (.tuple #[]) ∧ ∃ L', KAt B v w k L' { s with T := [] } (fun _ => false) gap ∧ Kept L W w L' := by
  have c3 : W.cell? ⟨k, 3, none⟩ = some (.slice (some ⟨L.db, 0, none⟩) (nw v) (nw v)) := h.cells.1 3
  have hcl : ∀ ty, (Builtin.clear_ #[50] ty #[.slice (some ⟨L.db, 0, none⟩) (nw v) (nw v)]).run Try.prog W = .ok (.tuple #[]) (W.setCells L.db 0 (List.replicate (nw v) (.int .u64 0))) := fun ty => by
    obtain ⟨ws, h1, h2, h3, h4⟩ := h.de
    refine Lib.run_clear_slice W 50 87 ty (.int .u64 0) Try.underlying50 (fun w => Try.zeroValue87 w) rfl rfl L.db 0 (nw v) (nw v) (by unfold nw; omega) (fun j hj => ?_) (fun j hj => ?_)
    · rw [cell_of_row W L.db _ _ _ _ h2]
      simp [h1]; omega
    · exact frozen_of_row W L.db _ _ _ h2
  have HK := h.clearD
  have HP := kept_cells (List.replicate (nw v) (.int .u64 0)) 0 (Kept.refl L W) (g := L.db) (by rw [h.td]; nofun)
  clear h
  generalize hw1 : W.setCells L.db 0 (List.replicate (nw v) (.int .u64 0)) = w1 at HK HP hcl
  clear hw1
  have c4 : w1.cell? ⟨k, 4, none⟩ = some L.cv := HK.cells.1 4
  have f4 := HK.cells.2 4
  rcases HK.ca with ⟨h0, ⟨h1, h2⟩ | ⟨g, cap, cur, hv, hb, hh, hc, hm, hz, _⟩⟩
  · rw [h1] at c4
    have HF := Lib.hid (HK.setCame (w1 := w1) (T := []) (World.ownsRow_nil _ _ _ _) ⟨rfl, rfl, rfl, Nat.le_refl _, fun _ _ _ => rfl⟩ (.inr (.inl rfl)))
    have HQ := Lib.hid (HP.put (g := k) (by rw [HK.tk]; nofun) 4 (.slice none 0 0))
    clear HK HP h0 h1 h2
    go_enter Try.func28, Try.ntmps28
    go_wp2_with fail
    go_end0
    exact ⟨rfl, _, HF.out, HQ.out.tag fun b _ ht => (tagOf_ne (tag := L.tag) (x := (Value.slice none 0 0).ownBlock) (r := .cam) (b := b) (by simp [Value.ownBlock])).trans ht⟩
  · rw [hv] at c4
    have hr : w1.ownsRow B 3 1 (.slice (some ⟨g, 0, none⟩) 0 cap) ([] : List Int).length (rowI []) := ⟨rfl, .inr ⟨g, cap, cur, rfl, hb, hh, Nat.zero_le _, hm, hz, by simp [rowI]⟩⟩
    have HF := Lib.hid (HK.setCame (w1 := w1) (T := []) hr ⟨rfl, rfl, rfl, Nat.le_refl _, fun _ _ _ => rfl⟩ (.inl (by rw [hv]; rfl)))
    have HQ := Lib.hid (HP.put (g := k) (by rw [HK.tk]; nofun) 4 (.slice (some ⟨g, 0, none⟩) 0 cap))
    have HT := Lib.hid (HK.tc g (by rw [hv]; rfl))
    clear HK HP h0 hv hb hh hm hz hr
    obtain ⟨n, hn⟩ : ∃ n, n = s.T.length := ⟨_, rfl⟩
    rw [← hn] at hc c4
    clear hn
    go_enter Try.func28, Try.ntmps28
    go_wp2_with fail
    go_end0
    exact ⟨rfl, _, HF.out, HQ.out.tag fun b _ ht => (tagOf_ne (tag := L.tag) (x := (Value.slice (some ⟨g, 0, none⟩) 0 cap).ownBlock) (r := .cam) (b := b) (fun e => by
      have e : g = b := by simpa [Value.ownBlock] using e
      subst e
      rw [HT.out] at ht; cases ht)).trans ht⟩
end Rw
end Go.Proofs.Ytmgkgbhkaoflhaa

namespace Go.Proofs.Ytmgkgbhkaoflhaa
open Go.RowKit
namespace Rw
open Cf Rp
set_option maxHeartbeats 3200000
set_option maxRecDepth 100000

theorem up_up {α : Type} {f : Nat → α} {i : Nat} {x y : α} : up (up f i x) i y = up f i y := by
  funext j
  unfold up
  split <;> rfl
theorem other_same {B v : Nat} {W : World} {k : Nat} {L : Lay} {s : PS} {D : Int → Bool} {gap : Option Nat} (h : KAt B v W k L s D gap) {c : Nat} {x y : Int} {r : List Int} (hc : c ∈ s.ids) (hl : s.lit c = x :: y :: r) (hxy : x ≠ y) :
    Calls Try.prog 59 #[.pointer (some ⟨c, 0, none⟩), .int .i64 y] W fun e w => e = .returned (.int .i64 x) ∧ w = W := by
  obtain ⟨g, cap, hv, hcap, hx, _, _⟩ := h.lits hc (by rw [hl]; simp)
  have c0 := (h.clause hc).1
  rw [hv] at c0
  have x0 := hx 0 x (by rw [hl]; rfl)
  obtain ⟨n, hn⟩ : ∃ n, n = (s.lit c).length := ⟨_, rfl⟩
  have hn2 : 2 ≤ n := by rw [hn, hl]; simp
  rw [← hn] at c0
  have n0 : (0 : Int) < ((n : Nat) : Int) := by omega
  have e1 : (x == y) = false := by simpa using hxy
  clear h hl hn hv hx
  go_enter Try.func59, Try.ntmps59
  go_wp2_with fail
  go_ret
  exact ⟨rfl, rfl⟩
theorem other_swap {B v : Nat} {W : World} {k : Nat} {L : Lay} {s : PS} {D : Int → Bool} {gap : Option Nat} (h : KAt B v W k L s D gap) {c : Nat} {x y : Int} {r : List Int} (hc : c ∈ s.ids) (hl : s.lit c = x :: y :: r) :
    Calls Try.prog 59 #[.pointer (some ⟨c, 0, none⟩), .int .i64 x] W fun e w => e = .returned (.int .i64 y) ∧ KAt B v w k L { s with lit := up s.lit c (y :: x :: r) } D gap ∧ Kept L W w L := by
  obtain ⟨g, cap, hv, hcap, hx, hf, htg⟩ := h.lits hc (by rw [hl]; simp)
  have c0 := (h.clause hc).1
  rw [hv] at c0
  have x0 := hx 0 x (by rw [hl]; rfl)
  have x1 := hx 1 y (by rw [hl]; rfl)
  have f0 := hf 0
  have f1 := hf 1
  have hcg : c ≠ g := fun e => by
    have := h.ti c hc
    rw [e, htg] at this; cases this
  have K1 := h.setLit (j := 0) (x := y) hc hv
  have K2 := K1.setLit (c := c) (g := g) (cap := cap) (j := 1) (x := x) hc (by rw [hv]; show _ = Value.slice _ (up s.lit c ((s.lit c).set 0 y) c).length _; rw [up_at, List.length_set])
  have e2 : up (up s.lit c ((s.lit c).set 0 y)) c ((up s.lit c ((s.lit c).set 0 y) c).set 1 x) = up s.lit c (y :: x :: r) := by rw [up_up, up_at, hl]; rfl
  have K2 : KAt B v ((W.setCell ⟨g, 0, none⟩ (.int .i64 y)).setCell ⟨g, 1, none⟩ (.int .i64 x)) k L { s with lit := up s.lit c (y :: x :: r) } D gap := by rw [← e2]; exact K2
  have HK := Lib.hid K2
  have HP : Hid (Kept L W ((W.setCell ⟨g, 0, none⟩ (.int .i64 y)).setCell ⟨g, 1, none⟩ (.int .i64 x)) L) := Lib.hid (((Kept.refl L W).put (by rw [htg]; nofun) _ _).put (by rw [htg]; nofun) _ _)
  obtain ⟨n, hn⟩ : ∃ n, n = (s.lit c).length := ⟨_, rfl⟩
  have hn2 : 2 ≤ n := by rw [hn, hl]; simp
  rw [← hn] at c0
  have n0 : (0 : Int) < ((n : Nat) : Int) := by omega
  have n1 : (1 : Int) < ((n : Nat) : Int) := by omega
  clear h hl hn hv hx hf K1 K2 e2 htg
  go_enter Try.func59, Try.ntmps59
  go_wp2_with fail
  go_region
  all_goals go_wp2_with fail
  all_goals go_ret
  all_goals exact ⟨rfl, HK.out.drewN 1, HP.out.drewN 1⟩
end Rw
end Go.Proofs.Ytmgkgbhkaoflhaa
