/-
The document's bits of a node that are sure, as masks: a fact on one call.
The statement that the bits that are sure are the document's, as a fact on one call.
-/
import Derived.Test.YtigjbngedbbdbaaPt26
import Derived.StillTailTactics
import Derived.Test.YtigjbngedbbdbaaPt13
import Derived.Test.YtigjbngedbbdbaaPt22
namespace Go.Proofs.Ytigjbngedbbdbaa
open Go.RowKit Go.Maps Bv Tm Kn
namespace Kr
set_option maxHeartbeats 3200000
set_option maxRecDepth 100000

/-- What the shift's statement reads. -/
structure ShAt (W : World) (L : List Nd) (m i xb yb qa ba n ca : Nat) (x0 x1 x2 x3 x4 x5 x6 y0 y1 y2 y3 y4 y5 y6 : Value) (w : World) : Prop where
  lf : LfAt W w L m i
  box : At7 w xb x0 x1 x2 x3 x4 x5 x6
  by_ : At7 w yb y0 y1 y2 y3 y4 y5 y6
  cell : w.cell? ⟨W.heap.size + 1, qa, none⟩ = some (.slice (some ⟨ba, 0, none⟩) n ca)
  row : RowAt w ba n (tri (kn L qa))
  lt : qa < i
section
variable {W w w' : World} {L : List Nd} {m i xb yb qa ba n ca : Nat} {x0 x1 x2 x3 x4 x5 x6 y0 y1 y2 y3 y4 y5 y6 : Value}
theorem ShAt.call (h : ShAt W L m i xb yb qa ba n ca x0 x1 x2 x3 x4 x5 x6 y0 y1 y2 y3 y4 y5 y6 w) (k : Below w.heap.size w w') : ShAt W L m i xb yb qa ba n ca x0 x1 x2 x3 x4 x5 x6 y0 y1 y2 y3 y4 y5 y6 w' :=
  ⟨h.lf.call k, h.box.keep k, h.by_.keep k, (k.cell (p := ⟨W.heap.size + 1, qa, none⟩) h.lf.lt).trans h.cell, h.row.call k h.row.1, h.lt⟩
theorem ShAt.put (h : ShAt W L m i xb yb qa ba n ca x0 x1 x2 x3 x4 x5 x6 y0 y1 y2 y3 y4 y5 y6 w) (hi : i < m) (hx : xb ≠ W.heap.size + 1) (hy : yb ≠ W.heap.size + 1) (hb : ba ≠ W.heap.size + 1) (v : Value) : ShAt W L m i xb yb qa ba n ca x0 x1 x2 x3 x4 x5 x6 y0 y1 y2 y3 y4 y5 y6 (w.setCell ⟨W.heap.size + 1, i, none⟩ v) := by
  have hlt := h.lt
  have e : ∀ b o, b ≠ W.heap.size + 1 → (w.setCell ⟨W.heap.size + 1, i, none⟩ v).cell? ⟨b, o, none⟩ = w.cell? ⟨b, o, none⟩ := fun b o hb => World.cell?_setCell_other _ _ _ _ (by first | (simp; done) | (simp; exact fun q => absurd q.symm hb))
  have hbx := h.box
  have hby := h.by_
  unfold At7 at hbx hby
  refine ⟨h.lf.put hi v, ?_, ?_, (World.cell?_setCell_other _ _ _ _ (by first | (simp; done) | (simp; omega))).trans h.cell, ⟨by simpa [World.setCell] using h.row.1, fun j hj => (e _ _ hb).trans (h.row.2 j hj)⟩, hlt⟩
  · unfold At7
    simp only [e xb _ hx]
    exact hbx
  · unfold At7
    simp only [e yb _ hy]
    exact hby
end
/-- The masks so far: of the first q bits. -/
structure MkAt (W w : World) (k b n c o : Nat) (K : Kb) (q : Nat) : Prop where
  bel : Below W.heap.size W w
  r0 : w.cell? ⟨W.heap.size, 0, none⟩ = some (.int .u64 0)
  r1 : w.cell? ⟨W.heap.size, 1, none⟩ = some (.int .u64 0)
  rf : ∀ j, w.frozen? ⟨W.heap.size, j, none⟩ = false
  cl : w.cell? ⟨W.heap.size + 1, k, none⟩ = some (.slice (some ⟨b, 0, none⟩) n c)
  row : ∀ j, j < n → w.cell? ⟨b, j, none⟩ = some (.int .u8 ((tri K j : Nat) : Int))
  z : w.cell? ⟨o, 0, none⟩ = some (.int .u64 ((K.1 % 2 ^ q : Nat) : Int))
  u : w.cell? ⟨o, 1, none⟩ = some (.int .u64 ((K.2 % 2 ^ q : Nat) : Int))
  of : ∀ j, w.frozen? ⟨o, j, none⟩ = false
  lo : o < w.heap.size
  hl : W.heap.size + 1 < o
  hb : b ≠ o
section
variable {W w : World} {k b n c o q : Nat} {K : Kb}
theorem MkAt.set (h : MkAt W w k b n c o K q) (e x y : Nat) (he : e = 0 ∧ K.1 % 2 ^ (q + 1) = x ∧ K.2 % 2 ^ (q + 1) = K.2 % 2 ^ q ∨ e = 1 ∧ K.2 % 2 ^ (q + 1) = x ∧ K.1 % 2 ^ (q + 1) = K.1 % 2 ^ q) (hx : y = x) : MkAt W (w.setCell ⟨o, e, none⟩ (.int .u64 ((y : Nat) : Int))) k b n c o K (q + 1) := by
  subst hx
  have hl := h.hl
  have hb := h.hb
  have ne : ∀ b' j, b' ≠ o → (w.setCell ⟨o, e, none⟩ (.int .u64 ((y : Nat) : Int))).cell? ⟨b', j, none⟩ = w.cell? ⟨b', j, none⟩ := fun b' j hb' => World.cell?_setCell_other _ _ _ _ (by first | (simp; done) | (simp; exact fun r => absurd r.symm hb'))
  refine ⟨h.bel.setCell (show W.heap.size ≤ o by omega) _, (ne _ _ (by omega)).trans h.r0, (ne _ _ (by omega)).trans h.r1, fun j => by rw [World.frozen?_setCell]; exact h.rf j, (ne _ _ (by omega)).trans h.cl, fun j hj => (ne _ _ hb).trans (h.row j hj), ?_, ?_, fun j => by rw [World.frozen?_setCell]; exact h.of j, by simpa [World.setCell] using h.lo, hl, hb⟩
  · rcases he with ⟨rfl, e1, _⟩ | ⟨rfl, _, e1⟩
    · rw [e1]
      exact World.cell?_setCell_same' _ _ _ (by rw [h.z]; rfl)
    · rw [e1]
      exact (World.cell?_setCell_other _ _ _ _ (by simp)).trans h.z
  · rcases he with ⟨rfl, _, e1⟩ | ⟨rfl, e1, _⟩
    · rw [e1]
      exact (World.cell?_setCell_other _ _ _ _ (by simp)).trans h.u
    · rw [e1]
      exact World.cell?_setCell_same' _ _ _ (by rw [h.u]; rfl)
theorem MkAt.skip (h : MkAt W w k b n c o K q) (h1 : K.1 % 2 ^ (q + 1) = K.1 % 2 ^ q) (h2 : K.2 % 2 ^ (q + 1) = K.2 % 2 ^ q) : MkAt W w k b n c o K (q + 1) :=
  ⟨h.bel, h.r0, h.r1, h.rf, h.cl, h.row, by rw [h1]; exact h.z, by rw [h2]; exact h.u, h.of, h.lo, h.hl, h.hb⟩
theorem mk_new {L : List Nd} {m i : Nat} {y : Nd} (h : LfAt W w L m i) (hc : w.cell? ⟨W.heap.size + 1, k, none⟩ = some (.slice (some ⟨b, 0, none⟩) y.w c)) (_hb : W.heap.size + 1 < b) (hr : RowAt w b y.w (tri K)) : MkAt W (w.alloc (.cells #[.int .u64 0, .int .u64 0] 29)) k b y.w c w.heap.size K 0 := by
  have l := h.lt
  have h1 := (MapKept.heap_alloc w (.cells #[.int .u64 0, .int .u64 0] 29)).1
  have kk : Below w.heap.size w (w.alloc (.cells #[.int .u64 0, .int .u64 0] 29)) := bel_alloc (Below.refl _ _) _
  refine ⟨bel_alloc h.bel _, (kk.cell (p := ⟨W.heap.size, 0, none⟩) (show W.heap.size < _ by omega)).trans h.r0, (kk.cell (p := ⟨W.heap.size, 1, none⟩) (show W.heap.size < _ by omega)).trans h.r1, fun o => (kk.frozen (p := ⟨W.heap.size, o, none⟩) (show W.heap.size < _ by omega)).trans (h.rf o), (kk.cell (p := ⟨W.heap.size + 1, k, none⟩) l).trans hc, fun j hj => (kk.cell (p := ⟨b, j, none⟩) hr.1).trans (hr.2 j hj), ?_, ?_, fun j => (cell_of h1 j).2, by rw [size_alloc]; omega, l, by have := hr.1; omega⟩
  · rw [(cell_of h1 0).1]
    simp [Nat.mod_one]
  · rw [(cell_of h1 1).1]
    simp [Nat.mod_one]
end
theorem or_pow {m q : Nat} (hm : m < 18446744073709551616) (hq : q < 64) : bits .or .u64 ((m : Nat) : Int) (IntKind.u64.wrap (2 ^ q)) = ((m ||| 2 ^ q : Nat) : Int) := by
  have h2 := Nat.pow_lt_pow_right (a := 2) (by omega) hq
  have e : IntKind.u64.wrap (2 ^ q) = ((2 ^ q : Nat) : Int) := by
    have e1 : ((2 : Int) ^ q) = ((2 ^ q : Nat) : Int) := by simp
    have h3 : (2 : Nat) ^ 64 = 18446744073709551616 := rfl
    rw [e1, IntKind.wrap_u64]
    rw [h3] at h2
    exact Int.emod_eq_of_lt (Int.natCast_nonneg _) (by generalize 2 ^ q = c at h2 ⊢; omega)
  rw [e]
  exact bits_or_u64_nat m (2 ^ q) hm (by have h3 : (2 : Nat) ^ 64 = 18446744073709551616 := rfl; omega)
theorem opK_sh {o : Nat} (h : 15 ≤ o ∧ o ≤ 17) {w n l w0 w1 : Nat} {a b c : Kb} : opK o w n l w0 w1 a b c none = (0, 0) := by
  unfold opK
  rw [if_neg (by omega), if_neg (by omega), if_neg (by omega), if_neg (by omega), if_neg (by omega), if_neg (by omega), if_neg (by omega), if_pos (by omega)]
  rfl
theorem rof_yes {B p k : Nat} {rv : Value} {L : List Nd} {W : World} (S : RefAt B W p rv L) (hM : MayL L) (hk : k < L.length) :
    Calls Try.prog 8 #[.pointer (some ⟨p, 0, none⟩), .int .i64 ((k : Nat) : Int)] W fun e W' => e = .returned (.tuple #[.agg #[.int .u64 (((kn L k).1 : Nat) : Int), .int .u64 (((kn L k).2 : Nat) : Int)], .int .i64 0]) ∧ Below W.heap.size W W' := by
  have HS := Lib.hid S
  obtain ⟨sa, sc, rfl⟩ := S.shape
  have hlen := S.good.len
  have HG := Lib.hid S.good
  have HMM := Lib.hid hM
  have hk0 : (0 : Int) ≤ ((k : Nat) : Int) := by omega
  have hkb : ((k : Nat) : Int) ≤ 200000 := by omega
  have hkl : ((k : Nat) : Int) < ((L.length : Nat) : Int) := by omega
  have hmk : ∀ W, (Instr.makeSlice 67 (.int .i64 (((k : Nat) : Int) + 1)) (.int .i64 (((k : Nat) : Int) + 1))).run Try.prog W = .ok (.slice (some ⟨W.heap.size, 0, none⟩) (k + 1) (k + 1)) (W.alloc (.cells (Array.replicate (k + 1) (Value.slice none 0 0)) 68)) := fun W => make_rows (k + 1) (by omega) W
  have H0 := Lib.hid (lf_new W L (k + 1))
  have c0 := S.c0
  have hlt := S.lt
  have g1 : decide (((k : Nat) : Int) < 0) = false := decide_eq_false (by omega)
  have g2 : decide (L.length ≤ k) = false := decide_eq_false (by omega)
  have HK := Lib.hid hk
  clear S hM hk
  go_enter Try.func8, Try.ntmps8
  go_wp2_with fail
  go_loopg [7] (k + 1) (fun gk u7 wr => ∃ i : Nat, u7 = .int .i64 ((i : Nat) : Int) ∧ i + gk = k + 1 ∧ LfAt W wr L (k + 1) i)
  case atStart => exact ⟨0, rfl, by omega, H0.out⟩
  case round =>
    obtain ⟨i, rfl, hg, hev⟩ := hrel
    clear H0 hmk c0 hlt g1 g2
    have HE := Lib.hid hev
    have HGK := Lib.hid hg
    have lw := hev.lt
    by_cases hi : i < k + 1
    case neg =>
      have hie : i = k + 1 := by omega
      subst hie
      obtain ⟨y, b, c, hy, hc, hb, hrow⟩ := hev.rows k (by omega)
      have hyw := HG.out.w y (List.mem_of_getElem? hy)
      have hy64 := hyw.2
      have hkl2 := kn_lt HMM.out k y hy
      have hdj := dj_kn HG.out HMM.out hy
      obtain ⟨K, hK⟩ : ∃ K, kn L k = K := ⟨_, rfl⟩
      rw [hK] at hrow hkl2 hdj
      have HKK := Lib.hid hK
      have HM0 := Lib.hid (mk_new hev hc hb hrow)
      have SR := HS.out.call (bel_alloc hev.bel (.cells #[.int .u64 0, .int .u64 0] 29))
      have q1 : ¬ ((k + 1 : Nat) : Int) ≤ ((k : Nat) : Int) := by omega
      have q2 : ((k : Nat) : Int) < ((k : Nat) : Int) + 1 := by omega
      have HKL := Lib.hid hkl2
      have HDJ := Lib.hid hdj
      have HY := Lib.hid hy
      have HY64 := Lib.hid hy64
      clear hev hg hi hy hc hb hrow hyw hK hkl2 hdj SR
      obtain ⟨n, hn⟩ : ∃ n, n = y.w := ⟨_, rfl⟩
      rw [← hn] at HM0 HKL HY64
      have hn64 := HY64.out
      have HN := Lib.hid hn
      clear hn
      obtain ⟨wA, hwA⟩ : ∃ wA, wA = wr := ⟨_, rfl⟩
      obtain ⟨gA, hgA⟩ : ∃ gA, gA = gk := ⟨_, rfl⟩
      subst hwA
      subst hgA
      have e0 := HM0.out.cl
      go_wp2_with fail
      go_loopg [11] n (fun gk u11 wr => ∃ q : Nat, u11 = .int .i64 ((q : Nat) : Int) ∧ q + gk = n ∧ MkAt W wr k b n c wA.heap.size K q)
      case atStart => exact ⟨0, rfl, by omega, HM0.out⟩
      case round =>
        obtain ⟨q, rfl, hgk, hm⟩ := hrel
        have HGK2 := Lib.hid hgk
        have HM := Lib.hid hm
        have hq0 : (0 : Int) ≤ ((q : Nat) : Int) := by omega
        have d0 := hm.cl
        clear e0 HM0
        by_cases hlt : q < n
        · have g1 : decide (((q : Nat) : Int) < ((n : Nat) : Int)) = true := decide_eq_true (by omega)
          have g2 : ((q : Nat) : Int) < ((n : Nat) : Int) := by omega
          have rq := hm.row q hlt
          have c0 := hm.z
          have c1 := hm.u
          have fz := hm.of
          have lo := hm.lo
          have HLT := Lib.hid hlt
          have hq64 : q < 64 := by omega
          obtain ⟨t, ht⟩ : ∃ t, tri K q = t := ⟨_, rfl⟩
          have ht2 := tri_le K q
          rw [ht] at rq ht2
          have HT := Lib.hid ht
          have hz64 : K.1 % 2 ^ q < 18446744073709551616 := Nat.lt_of_le_of_lt (Nat.mod_le _ _) (Nat.lt_of_lt_of_le HKL.out.1 (pow_le64 hn64))
          have hu64 : K.2 % 2 ^ q < 18446744073709551616 := Nat.lt_of_le_of_lt (Nat.mod_le _ _) (Nat.lt_of_lt_of_le HKL.out.2 (pow_le64 hn64))
          have hoz := or_pow hz64 hq64
          have hou := or_pow hu64 hq64
          obtain ⟨z, hz⟩ : ∃ z, K.1 % 2 ^ q = z := ⟨_, rfl⟩
          obtain ⟨u, hu⟩ : ∃ u, K.2 % 2 ^ q = u := ⟨_, rfl⟩
          rw [hz] at c0 hoz
          rw [hu] at c1 hou
          have HZU := Lib.hid (And.intro hz hu)
          have ht3 := three ht2
          have HQ := Lib.hid (And.intro hoz hou)
          clear hgk hm hlt ht ht2 hz64 hu64 hz hu hoz hou
          rcases ht3 with rfl | rfl | rfl
          · have rz : wr.cell? ⟨b, q, none⟩ = some (.int .u8 0) := rq
            clear rq
            go_wp2_with fail
            go_roundg (gk - 1)
            case measure => have := HGK2.out; have := HLT.out; omega
            case rel =>
              rw [HQ.out.1]
              have e := up_0 HDJ.out HT.out
              rw [HZU.out.1] at e
              exact ⟨q + 1, by go_num, by have := HGK2.out; have := HLT.out; omega, HM.out.set 0 _ _ (.inl ⟨rfl, e.1, e.2⟩) rfl⟩
          · have rz : wr.cell? ⟨b, q, none⟩ = some (.int .u8 1) := rq
            clear rq
            go_wp2_with fail
            go_roundg (gk - 1)
            case measure => have := HGK2.out; have := HLT.out; omega
            case rel =>
              rw [HQ.out.2]
              have e := up_1 HT.out
              rw [HZU.out.2] at e
              exact ⟨q + 1, by go_num, by have := HGK2.out; have := HLT.out; omega, HM.out.set 1 _ _ (.inr ⟨rfl, e.2, e.1⟩) rfl⟩
          · have rz : wr.cell? ⟨b, q, none⟩ = some (.int .u8 2) := rq
            clear rq
            go_wp2_with fail
            go_roundg (gk - 1)
            case measure => have := HGK2.out; have := HLT.out; omega
            case rel => exact ⟨q + 1, by go_num, by have := HGK2.out; have := HLT.out; omega, HM.out.skip (up_2 HT.out).1 (up_2 HT.out).2⟩
        · obtain rfl : q = n := by omega
          have g1 : decide (((q : Nat) : Int) < ((q : Nat) : Int)) = false := decide_eq_false (by omega)
          have SR := HS.out.call HM.out.bel
          obtain ⟨g, gc, hsg, hcg⟩ := row_nd_at SR.row HY.out
          simp only [Value.slice.injEq] at hsg
          obtain ⟨rfl, _, rfl⟩ := hsg
          obtain ⟨m0, m1, m2, m3, m4, m5, m6⟩ := cells_near (fun j u hj => hcg k y HY.out j u hj)
          rw [← HN.out] at m1
          have lg : g < wr.heap.size := World.block_lt_of_cell? wr _ m0
          have s0 := SR.c0
          have lpr := SR.lt
          have c0 := hm.z
          have c1 := hm.u
          have fz := hm.of 0
          have lo := hm.lo
          have a0 := hm.r0
          have a1 := hm.r1
          have fa0 := hm.rf 0
          have fa1 := hm.rf 1
          have hlo := hm.hl
          rw [Nat.mod_eq_of_lt HKL.out.1] at c0
          rw [Nat.mod_eq_of_lt HKL.out.2] at c1
          have HB := Lib.hid hm.bel
          have HMK : Hid (∀ w, Calls Try.prog 11 #[.int .u8 ((q : Nat) : Int)] w fun e w' => e = .returned (.int .u64 ((2 ^ q - 1 : Nat) : Int)) ∧ w' = w) := Lib.hid (fun w => (rmask_any q hn64 w).mono fun _ _ h => ⟨h.1, h.2.symm⟩)
          have hz64 : K.1 < 18446744073709551616 := Nat.lt_of_lt_of_le HKL.out.1 (pow_le64 hn64)
          have hand : bits .and .u64 ((K.1 : Nat) : Int) ((2 ^ q - 1 : Nat) : Int) = ((K.1 : Nat) : Int) := by
            have := pow_le64 hn64
            rw [bits_and_u64_nat _ _ hz64 (by omega), Nat.and_two_pow_sub_one_eq_mod, Nat.mod_eq_of_lt HKL.out.1]
          obtain ⟨z, hz⟩ : ∃ z, K.1 = z := ⟨_, rfl⟩
          obtain ⟨u, hu⟩ : ∃ u, K.2 = u := ⟨_, rfl⟩
          rw [hz] at c0 hand
          rw [hu] at c1
          have HZU := Lib.hid (And.intro hz hu)
          clear hgk hm hlt SR hcg m0 m2 m3 m4 m5 m6 hz64 hz hu
          go_wp2_with fail
          go_still_tail 13, (by kernel_rfl)
          still_call (HMK.out _)
          repeat still_step
          refine wpStill_nil ?_
          change wpList _ _ _ _ _ wr.drew
          go_wp2_with fail
          exact bodyPost_ret (v := .tuple #[.agg #[.int .u64 ((z : Nat) : Int), .int .u64 ((u : Nat) : Int)], .int .i64 0]) (by simp [results, Try.results8, go_sem, a0, a1]) rfl ⟨by rw [HKK.out, HZU.out.1, HZU.out.2], (((HB.out.setCell (show W.heap.size ≤ wA.heap.size by omega) _).setCell (Nat.le_refl _) _).setCell (Nat.le_refl _) _).drew⟩
    case pos =>
      have hil : i < L.length := by have := HK.out; omega
      obtain ⟨x, hx⟩ : ∃ x, L[i]? = some x := ⟨_, List.getElem?_eq_getElem hil⟩
      have SR := HS.out.call hev.bel
      obtain ⟨g, gc, hsg, hcg⟩ := row_nd_at SR.row hx
      simp only [Value.slice.injEq] at hsg
      obtain ⟨rfl, _, rfl⟩ := hsg
      obtain ⟨m0, m1, m2, m3, m4, m5, m6⟩ := cells_near (fun j u hj => hcg i x hx j u hj)
      have lg : g < wr.heap.size := World.block_lt_of_cell? wr _ m0
      have s0 := SR.c0
      have lpr := SR.lt
      have q0 : (0 : Int) ≤ ((i : Nat) : Int) := by omega
      have q1 : ((i : Nat) : Int) < ((L.length : Nat) : Int) := by omega
      have q2 : ((i : Nat) : Int) < ((k + 1 : Nat) : Int) := by omega
      have q3 : ((i : Nat) : Int) ≤ ((k : Nat) : Int) := by omega
      have q4 : ((i : Nat) : Int) < ((k : Nat) : Int) + 1 := by omega
      have r1 : IntKind.i64.wrap (((i : Nat) : Int) + 1) = (((i + 1 : Nat) : Nat) : Int) := by rw [IntKind.wrap_i64]; omega
      have r2 : wrap64 (((i : Nat) : Int) + 1) = (((i + 1 : Nat) : Nat) : Int) := by unfold wrap64; rw [← IntKind.wrap_i64]; exact r1
      have HR2 := Lib.hid r2
      have HI := Lib.hid hi
      have HX := Lib.hid hx
      have HEA := Lib.hid (hev.alloc (.cells #[.int .u8 ((x.o : Nat) : Int), .int .u8 ((x.w : Nat) : Int), .int .i64 x.k0, .int .i64 x.k1, .int .i64 x.k2, .int .u64 ((x.n : Nat) : Int), .int .u8 ((x.l : Nat) : Int)] 57))
      have HCALL := Lib.hid (rall_any (bl := W.heap.size + 1) (ln := k + 1) (lc := k + 1) HG.out HMM.out hx (by have := HEA.out.lt; omega) (by omega) HEA.out.get)
      unfold Nd.val at HCALL
      have HBX := Lib.hid (At7.new wr (.int .u8 ((x.o : Nat) : Int)) (.int .u8 ((x.w : Nat) : Int)) (.int .i64 x.k0) (.int .i64 x.k1) (.int .i64 x.k2) (.int .u64 ((x.n : Nat) : Int)) (.int .u8 ((x.l : Nat) : Int)) 57)
      clear hev hg hi hil hx SR hcg r1 r2
      go_wp2_with fail
      refine HCALL.out.mono ?_
      rintro e w5 ⟨b, rfl, hb1, hb2, hb3⟩
      have H5 := Lib.hid (HEA.out.call hb3)
      have HB5 := Lib.hid (HBX.out.keep hb3)
      have HROW := Lib.hid hb2
      have HBL : Hid (W.heap.size + 1 < b) := Lib.hid (by have := HEA.out.lt; omega)
      have t2 := H5.out.fr i
      have t4 := H5.out.lt
      obtain ⟨ov, hov⟩ := H5.out.rest i (by have := HI.out; omega)
      obtain ⟨z0, z1, z2, z3, z4, z5, z6⟩ := HB5.out
      clear hb1 hb2 hb3
      by_cases hsh : 15 ≤ x.o ∧ x.o ≤ 17
      case neg =>
        have HST := Lib.hid (H5.out.step (c := x.w) (by have := HI.out; omega) HX.out HBL.out (by rw [← docA_no hsh]; exact HROW.out))
        have d1 : (((x.o : Nat) : Int) == 15) = false := by rw [beq_eq_false_iff_ne]; omega
        have d2 : (((x.o : Nat) : Int) == 16) = false := by rw [beq_eq_false_iff_ne]; omega
        have d3 : (((x.o : Nat) : Int) == 17) = false := by rw [beq_eq_false_iff_ne]; omega
        clear hsh
        go_wp2_with fail
        go_roundg (gk - 1)
        case measure => have := HGK.out; have := HI.out; omega
        case rel => exact ⟨i + 1, by first | rfl | (rw [HR2.out]) | (congr 1; exact HR2.out), by have := HGK.out; have := HI.out; omega, HST.out⟩
      case pos =>
        have SR6 := HS.out.call H5.out.bel
        have hk2 : kc x.o = 2 := by unfold kc; rw [if_neg (by omega), if_pos (by omega)]
        obtain ⟨ya, hya, hla, ha0, haw, hav⟩ := kid_in HMM.out HX.out (show 0 < kc x.o by omega)
        obtain ⟨yb, hyb, hlb, hb0, hbw, hbv⟩ := kid_in HMM.out HX.out (show 1 < kc x.o by omega)
        have ww := wd_bin HMM.out HX.out (by omega)
        have hkn := kn_is HX.out
        unfold oneK at hkn
        obtain ⟨xo, xw, x0, x1, x2, xn, xl⟩ := x
        have f0 : Nd.kid ⟨xo, xw, x0, x1, x2, xn, xl⟩ 0 = x0 := rfl
        have f1 : Nd.kid ⟨xo, xw, x0, x1, x2, xn, xl⟩ 1 = x1 := rfl
        rw [f0] at hya hla ha0 haw hav
        rw [f1] at hyb hlb hb0 hbw hbv
        simp only at *
        obtain ⟨qa, rfl⟩ : ∃ qa : Nat, x0 = ((qa : Nat) : Int) := ⟨x0.toNat, by omega⟩
        obtain ⟨qb, rfl⟩ : ∃ qb : Nat, x1 = ((qb : Nat) : Int) := ⟨x1.toNat, by omega⟩
        rw [Int.toNat_natCast] at hya hla hav hyb hlb hbv
        obtain ⟨g', gc', hsg', hcg'⟩ := row_nd_at SR6.row hyb
        simp only [Value.slice.injEq, Option.some.injEq, Addr.mk.injEq] at hsg'
        obtain ⟨⟨eg, _⟩, _, es⟩ := hsg'
        subst eg
        subst es
        obtain ⟨n0, n1, n2, n3, n4, n5, n6⟩ := cells_near (fun j u hj => hcg' qb yb hyb j u hj)
        have s6 := SR6.c0
        have l6 := SR6.lt
        have lg6 := World.block_lt_of_cell? _ _ n0
        have lgW : g < W.heap.size := (HS.out.row.lt g rfl).2
        have lpW := HS.out.lt
        have lz := HB5.out.lt
        have qb0 : (0 : Int) ≤ ((qb : Nat) : Int) := by omega
        have qa0 : (0 : Int) ≤ ((qa : Nat) : Int) := by omega
        have qa1 : ((qa : Nat) : Int) < ((k : Nat) : Int) + 1 := by have := HI.out; omega
        have qb1 : ((qb : Nat) : Int) < ((L.length : Nat) : Int) := by omega
        obtain ⟨ra, ba, ca, hra, hrc, hrb, hrow⟩ := H5.out.rows qa hla
        rw [hya] at hra
        obtain rfl := Option.some.inj hra
        have HRO := Lib.hid hrow
        obtain ⟨yo, yw, y0, y1, y2, yn, yl⟩ := yb
        have hx3 : xo = 15 ∨ xo = 16 ∨ xo = 17 := by omega
        have HRC := Lib.hid hrc
        by_cases hyo : yo = 1
        case neg =>
          have hdo : docA L i xo = fun _ => 2 := docA_yes hsh
          have HST := Lib.hid (H5.out.step (c := xw) (by have := HI.out; omega) HX.out HBL.out (by
            have e : ∀ j, docA L i xo j = tri (kn L i) j := fun j => by
              rw [hdo, hkn]
              have e2 : farOf L ((qb : Nat) : Int) = none := by unfold farOf; rw [Int.toNat_natCast, hyb]; exact if_neg hyo
              rw [e2, opK_sh hsh]
              exact tri_nil j
            exact ⟨HROW.out.1, fun j hj => by rw [← e j]; exact HROW.out.2 j hj⟩))
          have d4 : (((yo : Nat) : Int) == 1) = false := by rw [beq_eq_false_iff_ne]; omega
          have h3 : ((((xo : Nat) : Int) == 15) = true) ∨ ((((xo : Nat) : Int) == 15) = false ∧ (((xo : Nat) : Int) == 16) = true) ∨ ((((xo : Nat) : Int) == 15) = false ∧ (((xo : Nat) : Int) == 16) = false ∧ (((xo : Nat) : Int) == 17) = true) := by
            simp only [beq_iff_eq, beq_eq_false_iff_ne]
            omega
          clear hx3 hsh hk2 hya haw hav hyb hbw hbv ww hkn hcg' hla hlb ha0 hb0 hrb hrc hrow hdo hyo hra
          rcases h3 with d1 | ⟨d1, d2⟩ | ⟨d1, d2, d3⟩
          all_goals
            go_wp2_with fail
            go_region
            go_wp2_with fail
            go_roundg (gk - 1)
            case' measure => have := HGK.out; have := HI.out; omega
            case' rel => exact ⟨i + 1, by first | rfl | (rw [HR2.out]) | (congr 1; exact HR2.out), by have := HGK.out; have := HI.out; omega, (HST.out.alloc _).call (Below.refl _ _).drew⟩
        case pos =>
          -- shifted
          have hyn : yn < 18446744073709551616 := (HG.out.ok _ (List.mem_of_getElem? hyb)).n
          have hwa : ya.w = xw := by rw [← haw]; exact ww.1
          have hxw := HG.out.w _ (List.mem_of_getElem? HX.out)
          have hxw1 : 1 ≤ xw := hxw.1
          have hxw2 : xw ≤ 64 := hxw.2
          have hka := kn_lt HMM.out qa ya hya
          rw [hwa] at hka
          have HSH : Hid (∀ w, RowAt w ba xw (tri (kn L qa)) → Calls Try.prog 19 #[.agg #[.int .u8 ((xo : Nat) : Int), .int .u8 ((xw : Nat) : Int), .int .i64 ((qa : Nat) : Int), .int .i64 ((qb : Nat) : Int), .int .i64 x2, .int .u64 ((xn : Nat) : Int), .int .u8 ((xl : Nat) : Int)], .slice (some ⟨ba, 0, none⟩) xw ca, .int .u64 ((yn : Nat) : Int)] w (NewRow w xw (tri (kn L i)))) := Lib.hid (fun w hw => by
            have hf : farOf L ((qb : Nat) : Int) = some yn := by unfold farOf; rw [Int.toNat_natCast, hyb]; exact if_pos hyo
            have hww : widAt L ((qa : Nat) : Int) = xw := ww.1
            rw [hkn, hf, hav, hww]
            rcases hx3 with rfl | rfl | rfl
            · exact (rsh_shl _ _ _ _ _ _ hxw1 hxw2 hyn hw).mono fun e wz hr => hr.ext fun j hj => (tri_shl hxw2 hj).symm
            · exact (rsh_lshr _ _ _ _ _ _ hxw1 hxw2 hyn hw).mono fun e wz hr => hr.ext fun j hj => (tri_lshr hxw2 hka.1 hka.2 hj).symm
            · exact (rsh_ashr _ _ _ _ _ _ hxw1 hxw2 hyn hw).mono fun e wz hr => hr.ext fun j hj => (tri_ashr hxw1 hxw2 hka.1 hka.2 hj).symm)
          have d4 : (((yo : Nat) : Int) == 1) = true := by rw [beq_iff_eq]; omega
          have h3 : ((((xo : Nat) : Int) == 15) = true) ∨ ((((xo : Nat) : Int) == 15) = false ∧ (((xo : Nat) : Int) == 16) = true) ∨ ((((xo : Nat) : Int) == 15) = false ∧ (((xo : Nat) : Int) == 16) = false ∧ (((xo : Nat) : Int) == 17) = true) := by
            simp only [beq_iff_eq, beq_eq_false_iff_ne]
            omega
          have HP := H5.out.put (show i < k + 1 from HI.out) (.slice (some ⟨b, 0, none⟩) xw xw)
          have h6 : ShAt W L (k + 1) i wr.heap.size w5.heap.size qa ba xw ca (.int .u8 ((xo : Nat) : Int)) (.int .u8 ((xw : Nat) : Int)) (.int .i64 ((qa : Nat) : Int)) (.int .i64 ((qb : Nat) : Int)) (.int .i64 x2) (.int .u64 ((xn : Nat) : Int)) (.int .u8 ((xl : Nat) : Int)) (.int .u8 ((yo : Nat) : Int)) (.int .u8 ((yw : Nat) : Int)) (.int .i64 y0) (.int .i64 y1) (.int .i64 y2) (.int .u64 ((yn : Nat) : Int)) (.int .u8 ((yl : Nat) : Int)) (((w5.setCell ⟨W.heap.size + 1, i, none⟩ (.slice (some ⟨b, 0, none⟩) xw xw)).alloc (.cells #[.int .u8 ((yo : Nat) : Int), .int .u8 ((yw : Nat) : Int), .int .i64 y0, .int .i64 y1, .int .i64 y2, .int .u64 ((yn : Nat) : Int), .int .u8 ((yl : Nat) : Int)] 57)).drew) := by
            have k6 : Below (w5.setCell ⟨W.heap.size + 1, i, none⟩ (.slice (some ⟨b, 0, none⟩) xw xw)).heap.size (w5.setCell ⟨W.heap.size + 1, i, none⟩ (.slice (some ⟨b, 0, none⟩) xw xw)) (((w5.setCell ⟨W.heap.size + 1, i, none⟩ (.slice (some ⟨b, 0, none⟩) xw xw)).alloc (.cells #[.int .u8 ((yo : Nat) : Int), .int .u8 ((yw : Nat) : Int), .int .i64 y0, .int .i64 y1, .int .i64 y2, .int .u64 ((yn : Nat) : Int), .int .u8 ((yl : Nat) : Int)] 57)).drew) := (bel_alloc (Below.refl _ _) _).drew
            have lw2 := lw
            have e5 : (w5.setCell ⟨W.heap.size + 1, i, none⟩ (.slice (some ⟨b, 0, none⟩) xw xw)).heap.size = w5.heap.size := by simp [World.setCell]
            have hy7 := At7.new (w5.setCell ⟨W.heap.size + 1, i, none⟩ (.slice (some ⟨b, 0, none⟩) xw xw)) (.int .u8 ((yo : Nat) : Int)) (.int .u8 ((yw : Nat) : Int)) (.int .i64 y0) (.int .i64 y1) (.int .i64 y2) (.int .u64 ((yn : Nat) : Int)) (.int .u8 ((yl : Nat) : Int)) 57
            rw [e5] at hy7
            have hx7 : At7 (w5.setCell ⟨W.heap.size + 1, i, none⟩ (.slice (some ⟨b, 0, none⟩) xw xw)) wr.heap.size (.int .u8 ((xo : Nat) : Int)) (.int .u8 ((xw : Nat) : Int)) (.int .i64 ((qa : Nat) : Int)) (.int .i64 ((qb : Nat) : Int)) (.int .i64 x2) (.int .u64 ((xn : Nat) : Int)) (.int .u8 ((xl : Nat) : Int)) := by
              have hne : ∀ o, (w5.setCell ⟨W.heap.size + 1, i, none⟩ (.slice (some ⟨b, 0, none⟩) xw xw)).cell? ⟨wr.heap.size, o, none⟩ = w5.cell? ⟨wr.heap.size, o, none⟩ := fun o => World.cell?_setCell_other _ _ _ _ (by first | (simp; done) | (simp; omega))
              unfold At7
              simp only [hne]
              exact HB5.out
            obtain ⟨ya', ba', ca', hr1, hr2, hr3, hr4⟩ := HP.rows qa hla
            have hc2 : (w5.setCell ⟨W.heap.size + 1, i, none⟩ (.slice (some ⟨b, 0, none⟩) xw xw)).cell? ⟨W.heap.size + 1, qa, none⟩ = some (.slice (some ⟨ba, 0, none⟩) ya.w ca) := (World.cell?_setCell_other _ _ _ _ (by first | (simp; done) | (simp; omega))).trans hrc
            rw [hr2] at hc2
            simp only [Option.some.injEq, Value.slice.injEq, Addr.mk.injEq] at hc2
            obtain ⟨⟨rfl, _⟩, _, rfl⟩ := hc2
            rw [hya] at hr1
            obtain rfl := Option.some.inj hr1
            rw [hwa] at hr2 hr4
            have HP6 := HP.call k6
            exact ⟨HP6, (hx7.keep k6), by have := hy7; unfold At7 at this ⊢; simpa using this, (k6.cell (p := ⟨W.heap.size + 1, qa, none⟩) HP.lt).trans hr2, hr4.call k6 hr4.1, hla⟩
          have H6 := Lib.hid h6
          have HNE : Hid (wr.heap.size ≠ W.heap.size + 1 ∧ w5.heap.size ≠ W.heap.size + 1 ∧ ba ≠ W.heap.size + 1) := Lib.hid ⟨by omega, by omega, by omega⟩
          clear hx3 hsh hk2 hya haw hav hyb hbw hbv ww hkn hcg' hla hlb ha0 hb0 hrb hrc hrow hyo hra h6 HP hka hyn hwa hxw hxw1 hxw2
          rcases h3 with d1 | ⟨d1, d2⟩ | ⟨d1, d2, d3⟩
          all_goals
            go_wp2_with fail
            go_region
            obtain ⟨w6, hw6⟩ : ∃ w6, w6 = ((w5.setCell ⟨W.heap.size + 1, i, none⟩ (.slice (some ⟨b, 0, none⟩) xw xw)).alloc (.cells #[.int .u8 ((yo : Nat) : Int), .int .u8 ((yw : Nat) : Int), .int .i64 y0, .int .i64 y1, .int .i64 y2, .int .u64 ((yn : Nat) : Int), .int .u8 ((yl : Nat) : Int)] 57)).drew := ⟨_, rfl⟩
            rw [← hw6] at H6 ⊢
            have hz5 := H6.out.by_
            unfold At7 at hz5
            obtain ⟨k0, k1, k2, k3, k4, k5, k6⟩ := hz5
            clear hw6 z0 z1 z2 z3 z4 z5 z6 n0 n1 n2 n3 n4 n5 n6 s6 t2 hov
            go_wp2_with fail
            have kl := H6.out.lf.fr i
            have lkl := H6.out.lf.lt
            refine wp_region_held_drew (S := ShAt W L (k + 1) i wr.heap.size w5.heap.size qa ba xw ca (.int .u8 ((xo : Nat) : Int)) (.int .u8 ((xw : Nat) : Int)) (.int .i64 ((qa : Nat) : Int)) (.int .i64 ((qb : Nat) : Int)) (.int .i64 x2) (.int .u64 ((xn : Nat) : Int)) (.int .u8 ((xl : Nat) : Int)) (.int .u8 ((yo : Nat) : Int)) (.int .u8 ((yw : Nat) : Int)) (.int .i64 y0) (.int .i64 y1) (.int .i64 y2) (.int .u64 ((yn : Nat) : Int)) (.int .u8 ((yl : Nat) : Int))) (by kernel_rfl) (H6.out.call (Below.refl _ _).drew) (fun hHeld => ?_)
            refine wpAnyH_take (i := 0) (v := .slice (some ⟨W.heap.size + 1, 0, none⟩) (k + 1) (k + 1)) (by simp only [List.getElem?_toArray, List.getElem?_cons_zero]; rfl) (by kernel_rfl) (by kernel_rfl) (by kernel_rfl) (by exact fun _ _ _ h => h) (Or.inl ⟨by rfl, ?_⟩) hHeld ?_
            · intro w' hSw
              obtain ⟨s0, s1, s2, s3, s4, s5⟩ := hSw; have lx1 := s1.lt; have lx2 := s2.lt; have lx3 := s0.lt; unfold At7 at s1 s2; obtain ⟨a0, a1, a2, a3, a4, a5, a6⟩ := s1; obtain ⟨e0, e1, e2, e3, e4, e5, e6⟩ := s2; go_simp; try rfl
            simp only [Act.put, List.setIfInBounds_toArray, List.set_cons_zero, List.set_cons_succ]
            refine wpAnyH_take (i := 1) (v := .int .i64 ((i : Nat) : Int)) (by simp only [List.getElem?_toArray, List.getElem?_cons_zero, List.getElem?_cons_succ]; rfl) (by kernel_rfl) (by kernel_rfl) (by kernel_rfl) (by exact fun _ _ _ h => h) (Or.inl ⟨by rfl, ?_⟩) hHeld ?_
            · intro w' hSw
              obtain ⟨s0, s1, s2, s3, s4, s5⟩ := hSw; have lx1 := s1.lt; have lx2 := s2.lt; have lx3 := s0.lt; unfold At7 at s1 s2; obtain ⟨a0, a1, a2, a3, a4, a5, a6⟩ := s1; obtain ⟨e0, e1, e2, e3, e4, e5, e6⟩ := s2; go_simp; try rfl
            simp only [Act.put, List.setIfInBounds_toArray, List.set_cons_zero, List.set_cons_succ]
            refine wpAnyH_take (i := 2) (v := .agg #[.int .u8 ((xo : Nat) : Int), .int .u8 ((xw : Nat) : Int), .int .i64 ((qa : Nat) : Int), .int .i64 ((qb : Nat) : Int), .int .i64 x2, .int .u64 ((xn : Nat) : Int), .int .u8 ((xl : Nat) : Int)]) (by simp only [List.getElem?_toArray, List.getElem?_cons_zero, List.getElem?_cons_succ]; rfl) (by kernel_rfl) (by kernel_rfl) (by kernel_rfl) (by exact fun _ _ _ h => h) (Or.inl ⟨by rfl, ?_⟩) hHeld ?_
            · intro w' hSw
              obtain ⟨s0, s1, s2, s3, s4, s5⟩ := hSw; have lx1 := s1.lt; have lx2 := s2.lt; have lx3 := s0.lt; unfold At7 at s1 s2; obtain ⟨a0, a1, a2, a3, a4, a5, a6⟩ := s1; obtain ⟨e0, e1, e2, e3, e4, e5, e6⟩ := s2; go_simp; try rfl
            simp only [Act.put, List.setIfInBounds_toArray, List.set_cons_zero, List.set_cons_succ]
            refine wpAnyH_take (i := 3) (v := .slice (some ⟨W.heap.size + 1, 0, none⟩) (k + 1) (k + 1)) (by simp only [List.getElem?_toArray, List.getElem?_cons_zero, List.getElem?_cons_succ]; rfl) (by kernel_rfl) (by kernel_rfl) (by kernel_rfl) (by exact fun _ _ _ h => h) (Or.inl ⟨by rfl, ?_⟩) hHeld ?_
            · intro w' hSw
              obtain ⟨s0, s1, s2, s3, s4, s5⟩ := hSw; have lx1 := s1.lt; have lx2 := s2.lt; have lx3 := s0.lt; unfold At7 at s1 s2; obtain ⟨a0, a1, a2, a3, a4, a5, a6⟩ := s1; obtain ⟨e0, e1, e2, e3, e4, e5, e6⟩ := s2; go_simp; try rfl
            simp only [Act.put, List.setIfInBounds_toArray, List.set_cons_zero, List.set_cons_succ]
            refine wpAnyH_take (i := 4) (v := .pointer (some ⟨wr.heap.size, 2, none⟩)) (by simp only [List.getElem?_toArray, List.getElem?_cons_zero, List.getElem?_cons_succ]; rfl) (by kernel_rfl) (by kernel_rfl) (by kernel_rfl) (by exact fun _ _ _ h => h) (Or.inl ⟨by rfl, ?_⟩) hHeld ?_
            · intro w' hSw
              obtain ⟨s0, s1, s2, s3, s4, s5⟩ := hSw; have lx1 := s1.lt; have lx2 := s2.lt; have lx3 := s0.lt; unfold At7 at s1 s2; obtain ⟨a0, a1, a2, a3, a4, a5, a6⟩ := s1; obtain ⟨e0, e1, e2, e3, e4, e5, e6⟩ := s2; go_simp; try rfl
            simp only [Act.put, List.setIfInBounds_toArray, List.set_cons_zero, List.set_cons_succ]
            refine wpAnyH_take (i := 5) (v := .pointer (some ⟨wr.heap.size, 2, none⟩)) (by simp only [List.getElem?_toArray, List.getElem?_cons_zero, List.getElem?_cons_succ]; rfl) (by kernel_rfl) (by kernel_rfl) (by kernel_rfl) (by exact fun _ _ _ h => h) (Or.inl ⟨by rfl, ?_⟩) hHeld ?_
            · intro w' hSw
              obtain ⟨s0, s1, s2, s3, s4, s5⟩ := hSw; have lx1 := s1.lt; have lx2 := s2.lt; have lx3 := s0.lt; unfold At7 at s1 s2; obtain ⟨a0, a1, a2, a3, a4, a5, a6⟩ := s1; obtain ⟨e0, e1, e2, e3, e4, e5, e6⟩ := s2; go_simp; try rfl
            simp only [Act.put, List.setIfInBounds_toArray, List.set_cons_zero, List.set_cons_succ]
            refine wpAnyH_take (i := 6) (v := .int .i64 ((qa : Nat) : Int)) (by simp only [List.getElem?_toArray, List.getElem?_cons_zero, List.getElem?_cons_succ]; rfl) (by kernel_rfl) (by kernel_rfl) (by kernel_rfl) (by exact fun _ _ _ h => h) (Or.inl ⟨by rfl, ?_⟩) hHeld ?_
            · intro w' hSw
              obtain ⟨s0, s1, s2, s3, s4, s5⟩ := hSw; have lx1 := s1.lt; have lx2 := s2.lt; have lx3 := s0.lt; unfold At7 at s1 s2; obtain ⟨a0, a1, a2, a3, a4, a5, a6⟩ := s1; obtain ⟨e0, e1, e2, e3, e4, e5, e6⟩ := s2; go_simp; try rfl
            simp only [Act.put, List.setIfInBounds_toArray, List.set_cons_zero, List.set_cons_succ]
            refine wpAnyH_take (i := 7) (v := .pointer (some ⟨W.heap.size + 1, qa, none⟩)) (by simp only [List.getElem?_toArray, List.getElem?_cons_zero, List.getElem?_cons_succ]; rfl) (by kernel_rfl) (by kernel_rfl) (by kernel_rfl) (by exact fun _ _ _ h => h) (Or.inl ⟨by rfl, ?_⟩) hHeld ?_
            · intro w' hSw
              obtain ⟨s0, s1, s2, s3, s4, s5⟩ := hSw; have lx1 := s1.lt; have lx2 := s2.lt; have lx3 := s0.lt; unfold At7 at s1 s2; obtain ⟨a0, a1, a2, a3, a4, a5, a6⟩ := s1; obtain ⟨e0, e1, e2, e3, e4, e5, e6⟩ := s2; go_simp; try rfl
            simp only [Act.put, List.setIfInBounds_toArray, List.set_cons_zero, List.set_cons_succ]
            refine wpAnyH_take (i := 8) (v := .slice (some ⟨ba, 0, none⟩) xw ca) (by simp only [List.getElem?_toArray, List.getElem?_cons_zero, List.getElem?_cons_succ]; rfl) (by kernel_rfl) (by kernel_rfl) (by kernel_rfl) (by exact fun _ _ _ h => h) (Or.inl ⟨by rfl, ?_⟩) hHeld ?_
            · intro w' hSw
              obtain ⟨s0, s1, s2, s3, s4, s5⟩ := hSw; have lx1 := s1.lt; have lx2 := s2.lt; have lx3 := s0.lt; unfold At7 at s1 s2; obtain ⟨a0, a1, a2, a3, a4, a5, a6⟩ := s1; obtain ⟨e0, e1, e2, e3, e4, e5, e6⟩ := s2; go_simp; try rfl
            simp only [Act.put, List.setIfInBounds_toArray, List.set_cons_zero, List.set_cons_succ]
            refine wpAnyH_take (i := 9) (v := .pointer (some ⟨w5.heap.size, 5, none⟩)) (by simp only [List.getElem?_toArray, List.getElem?_cons_zero, List.getElem?_cons_succ]; rfl) (by kernel_rfl) (by kernel_rfl) (by kernel_rfl) (by exact fun _ _ _ h => h) (Or.inl ⟨by rfl, ?_⟩) hHeld ?_
            · intro w' hSw
              obtain ⟨s0, s1, s2, s3, s4, s5⟩ := hSw; have lx1 := s1.lt; have lx2 := s2.lt; have lx3 := s0.lt; unfold At7 at s1 s2; obtain ⟨a0, a1, a2, a3, a4, a5, a6⟩ := s1; obtain ⟨e0, e1, e2, e3, e4, e5, e6⟩ := s2; go_simp; try rfl
            simp only [Act.put, List.setIfInBounds_toArray, List.set_cons_zero, List.set_cons_succ]
            refine wpAnyH_take (i := 10) (v := .int .u64 ((yn : Nat) : Int)) (by simp only [List.getElem?_toArray, List.getElem?_cons_zero, List.getElem?_cons_succ]; rfl) (by kernel_rfl) (by kernel_rfl) (by kernel_rfl) (by exact fun _ _ _ h => h) (Or.inl ⟨by rfl, ?_⟩) hHeld ?_
            · intro w' hSw
              obtain ⟨s0, s1, s2, s3, s4, s5⟩ := hSw; have lx1 := s1.lt; have lx2 := s2.lt; have lx3 := s0.lt; unfold At7 at s1 s2; obtain ⟨a0, a1, a2, a3, a4, a5, a6⟩ := s1; obtain ⟨e0, e1, e2, e3, e4, e5, e6⟩ := s2; go_simp; try rfl
            simp only [Act.put, List.setIfInBounds_toArray, List.set_cons_zero, List.set_cons_succ]
            refine wpAnyH_ready (rs := [11]) (by kernel_rfl) (by simp) ?_
            refine AllReadyH.cons (by simp only [List.getElem?_toArray, List.getElem?_cons_zero, List.getElem?_cons_succ]; rfl) (fun K hK => ?_) AllReadyH.nil
            go_simp
            have hSw := hHeld
            refine (HSH.out _ hSw.row).mono ?_
            rintro e w7 ⟨b7, rfl, hb71, hb72, hb73⟩
            have hS7 := hSw.call hb73
            have H7 := Lib.hid hS7
            have HB7 := Lib.hid (And.intro hb71 hb72)
            have HLW := Lib.hid hSw.lf.lt
            refine hK.out _ _ hS7 (fun hHeld => ?_)
            clear hK K hSw hb71 hb72 hb73 hS7
            try simp only [Act.put, List.setIfInBounds_toArray, List.set_cons_zero, List.set_cons_succ]
            refine wpAnyH_take (i := 12) (v := .pointer (some ⟨W.heap.size + 1, i, none⟩)) (by simp only [List.getElem?_toArray, List.getElem?_cons_zero, List.getElem?_cons_succ]; rfl) (by kernel_rfl) (by kernel_rfl) (by kernel_rfl) (by exact fun _ _ _ h => h) (Or.inl ⟨by rfl, ?_⟩) hHeld ?_
            · intro w' hSw
              obtain ⟨s0, s1, s2, s3, s4, s5⟩ := hSw; have lx1 := s1.lt; have lx2 := s2.lt; have lx3 := s0.lt; unfold At7 at s1 s2; obtain ⟨a0, a1, a2, a3, a4, a5, a6⟩ := s1; obtain ⟨e0, e1, e2, e3, e4, e5, e6⟩ := s2; go_simp; try rfl
            simp only [Act.put, List.setIfInBounds_toArray, List.set_cons_zero, List.set_cons_succ]
            refine wpAnyH_ready (rs := [13]) (by kernel_rfl) (by simp) ?_
            refine AllReadyH.cons (by simp only [List.getElem?_toArray, List.getElem?_cons_zero, List.getElem?_cons_succ]; rfl) (fun K hK => ?_) AllReadyH.nil
            obtain ⟨ov7, hov7⟩ := H7.out.lf.rest i HI.out
            have fr7 := H7.out.lf.fr i
            have lt7 := H7.out.lf.lt
            go_simp
            refine hK.out _ _ (H7.out.put HI.out HNE.out.1 HNE.out.2.1 HNE.out.2.2 _) (fun hHeld => ?_)
            clear hK K
            try simp only [Act.put, List.setIfInBounds_toArray, List.set_cons_zero, List.set_cons_succ]
            refine wpAnyH_done (by kernel_rfl) ?_ _
            go_wp2_with fail
            go_roundg (gk - 1)
            case' measure => have := HGK.out; have := HI.out; omega
            case' rel => exact ⟨i + 1, by first | rfl | (rw [HR2.out]) | (congr 1; exact HR2.out), by have := HGK.out; have := HI.out; omega, H7.out.lf.step (x := ⟨xo, xw, ((qa : Nat) : Int), ((qb : Nat) : Int), x2, xn, xl⟩) HI.out HX.out (by have := HB7.out.1; have := HLW.out; omega) HB7.out.2⟩
end Kr
end Go.Proofs.Ytigjbngedbbdbaa

namespace Go.Proofs.Ytigjbngedbbdbaa
open Go.RowKit Go.Maps Bv Tm Kn
namespace Kr
set_option maxHeartbeats 1600000
set_option maxRecDepth 100000

theorem rof_no {B p : Nat} {id : Int} {rv : Value} {L : List Nd} {W : World} (S : RefAt B W p rv L) (hi : inB L id = false) :
    Calls Try.prog 8 #[.pointer (some ⟨p, 0, none⟩), .int .i64 id] W fun e W' => e = .returned (.tuple #[.agg #[.int .u64 0, .int .u64 0], .int .i64 2]) ∧ Below W.heap.size W W' := by
  obtain ⟨sa, sc, rfl⟩ := S.shape
  have hlen := S.good.len
  have HB := Lib.hid (bel_alloc (Below.refl W.heap.size W) (.cells #[.int .u64 0, .int .u64 0] 29))
  have c0 := S.c0
  have hlt := S.lt
  have hcase : id < 0 ∨ ((L.length : Nat) : Int) ≤ id := by
    unfold inB at hi
    simp only [decide_eq_false_iff_not] at hi
    omega
  clear S hi
  by_cases h0 : id < 0
  · have g1 : decide (id < 0) = true := decide_eq_true h0
    go_enter Try.func8, Try.ntmps8
    go_wp2_with fail
    exact bodyPost_ret (v := .tuple #[.agg #[.int .u64 0, .int .u64 0], .int .i64 2]) (by simp [results, Try.results8, go_sem]) rfl ⟨rfl, HB.out⟩
  · have g1 : decide (id < 0) = false := decide_eq_false h0
    have g2 : decide (((L.length : Nat) : Int) ≤ id) = true := decide_eq_true (by omega)
    go_enter Try.func8, Try.ntmps8
    go_wp2_with fail
    exact bodyPost_ret (v := .tuple #[.agg #[.int .u64 0, .int .u64 0], .int .i64 2]) (by simp [results, Try.results8, go_sem]) rfl ⟨rfl, HB.out⟩
/-- Both answer the same. -/
theorem both_of {B p m q : Nat} {sv rv : Value} {L : List Nd} {W : World} (S : StoreAt B W p m sv L) (hM : MayL L) (id : Int) : ∃ z o er : Nat, Calls Try.prog 7 #[.pointer (some ⟨p, 0, none⟩), .int .i64 id] W (fun e W' => e = .returned (.tuple #[.agg #[.int .u64 ((z : Nat) : Int), .int .u64 ((o : Nat) : Int)], .int .i64 ((er : Nat) : Int)]) ∧ Below W.heap.size W W') ∧
    ∀ v, RefAt B v q rv L → Calls Try.prog 8 #[.pointer (some ⟨q, 0, none⟩), .int .i64 id] v (fun e v' => e = .returned (.tuple #[.agg #[.int .u64 ((z : Nat) : Int), .int .u64 ((o : Nat) : Int)], .int .i64 ((er : Nat) : Int)]) ∧ Below v.heap.size v v') := by
  cases hi : inB L id with
  | false => exact ⟨0, 0, 2, of_no S hi, fun v hv => rof_no hv hi⟩
  | true =>
    have hb : 0 ≤ id ∧ id < ((L.length : Nat) : Int) := by
      unfold inB at hi
      simpa using hi
    obtain ⟨k, rfl⟩ : ∃ k : Nat, id = ((k : Nat) : Int) := ⟨id.toNat, by omega⟩
    exact ⟨(kn L k).1, (kn L k).2, 0, of_yes S hM (by omega), fun v hv => rof_yes hv hM (by omega)⟩
theorem tells_any {W : World} {al : Option Addr} {X : List Nd} {cl n : Nat} (id : Int) (hX : ArgAt W al X) (hok : ∀ x ∈ X, x.Ok) (hn : n = X.length) :
    Calls Try.prog 3 #[.slice al n cl, .int .i64 id] W fun e W' => e = .returned (.bool true) ∧ Below W.heap.size W W' := by
  have HMD := Lib.hid (made_any (cl := cl) hX hok hn)
  clear hX hok hn
  go_enter Try.func3, Try.ntmps3
  go_wp2_with fail
  refine HMD.out.mono ?_
  rintro e w1 ⟨q, L, rfl, ⟨sv, rv, T⟩, hM, _⟩
  obtain ⟨z, o, er, hp, hr⟩ := both_of (q := q) (rv := rv) T.s hM id
  have HP := Lib.hid hp
  have HR := Lib.hid hr
  have HT := Lib.hid T
  clear hp hr T HMD
  go_wp2_with fail
  refine HP.out.mono ?_
  rintro e w2 ⟨rfl, hb2⟩
  have HB2 := Lib.hid hb2
  have HR2 := Lib.hid (HR.out (w2.alloc (.cells #[.int .u64 ((z : Nat) : Int), .int .u64 ((o : Nat) : Int)] 29)) ((HT.out.r.call hb2).call (bel_alloc (Below.refl _ _) _)))
  have HA2 := Lib.hid (At2.new w2 (.int .u64 ((z : Nat) : Int)) (.int .u64 ((o : Nat) : Int)) 29)
  clear hb2
  go_wp2_with fail
  refine HR2.out.mono ?_
  rintro e w3 ⟨rfl, hb3⟩
  have hk3 : Below w3.heap.size w3 (w3.alloc (.cells #[.int .u64 ((z : Nat) : Int), .int .u64 ((o : Nat) : Int)] 29)) := bel_alloc (Below.refl _ _) _
  have HA3 := Lib.hid (At2.new w3 (.int .u64 ((z : Nat) : Int)) (.int .u64 ((o : Nat) : Int)) 29)
  have HA4 := Lib.hid ((HA2.out.keep hb3).keep hk3)
  have HB4 := Lib.hid (bel_call (bel_call (bel_alloc (bel_call HT.out.b HB2.out) (.cells #[.int .u64 ((z : Nat) : Int), .int .u64 ((o : Nat) : Int)] 29)) hb3) hk3)
  obtain ⟨la, a0, a1⟩ := HA4.out
  obtain ⟨lb, b0, b1⟩ := HA3.out
  have HWK := Lib.hid (fun w => works_any w)
  clear hb3 hk3 HA2 HA3 HA4 HR2 HR HP
  go_wp2_with fail
  refine (HWK.out _).mono ?_
  rintro e w5 ⟨rfl, hb5⟩
  have HB5 := Lib.hid (bel_call HB4.out hb5)
  clear hb5
  go_wp2_with fail
  go_ret
  exact ⟨rfl, HB5.out⟩
end Kr
end Go.Proofs.Ytigjbngedbbdbaa
