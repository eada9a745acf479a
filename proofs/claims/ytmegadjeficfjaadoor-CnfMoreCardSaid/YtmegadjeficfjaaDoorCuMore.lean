/-
  The statement CnfMore, as a fact on one call.
-/
import Derived.Test.YtmegadjeficfjaaDoorCuLawsA
import Derived.Laws.AppendOwnNone
namespace Go.Proofs.YtmegadjeficfjaaDoor
open Go.RowKit
namespace Cf
set_option maxHeartbeats 3200000
set_option maxRecDepth 100000

def seenT (T : List Int) (x : Int) (j : Nat) : Bool := (T.take j).any (· == x)
theorem seenT_zero (T : List Int) (x : Int) : seenT T x 0 = false := by simp [seenT]
theorem seenT_succ {T : List Int} {x y : Int} {j : Nat} (h : T[j]? = some y) : seenT T x (j + 1) = (seenT T x j || y == x) := by
  unfold seenT
  rw [List.take_add_one, h]
  simp
theorem seenT_all {T : List Int} {x : Int} (h : x ∈ T) : seenT T x T.length = true := by
  unfold seenT
  rw [List.take_length, List.any_eq_true]
  exact ⟨x, h, by simp⟩
/-- A row of lists of the call's own, whose lists lie ahead of it. -/
structure DRow (W : World) (B : Nat) (v : Value) (D : Cl) (w : World) : Prop where
  row : ∃ xs, w.ownsRow B 34 1 v D.length xs ∧ ∀ (i : Nat) (k : List Int), D[i]? = some k → ∃ al c, xs[i]? = some (.slice al k.length c) ∧ IntsAt W al k
theorem DRow.shape {W w : World} {B : Nat} {v : Value} {D : Cl} (h : DRow W B v D w) : ∃ a c, v = .slice a D.length c := by
  obtain ⟨xs, ⟨_, ⟨h1, h2⟩ | ⟨g, cap, cur, hv, _⟩⟩, _⟩ := h.row
  · exact ⟨none, 0, by rw [h1, h2]⟩
  · exact ⟨_, _, hv⟩
theorem DRow.blk {W w : World} {B : Nat} {v : Value} {D : Cl} (h : DRow W B v D w) {g : Nat} (hg : v.ownBlock = some g) : B ≤ g := by
  obtain ⟨xs, ⟨_, ⟨h1, h2⟩ | ⟨g', cap, cur, hv, hb, _⟩⟩, _⟩ := h.row
  · rw [h1] at hg; cases hg
  · rw [hv] at hg; injection hg with hg; rw [← hg]; exact hb
theorem DRow.call {W w w' : World} {B : Nat} {v : Value} {D : Cl} (h : DRow W B v D w) (k : Below w.heap.size w w') : DRow W B v D w' := by
  obtain ⟨xs, hr, hx⟩ := h.row
  exact ⟨xs, row_bel hr k, hx⟩
theorem DRow.setCell {W w : World} {B : Nat} {v : Value} {D : Cl} {p : Addr} {u : Value} (h : DRow W B v D w) (hp : p.block < B) : DRow W B v D (w.setCell p u) := by
  obtain ⟨xs, hr, hx⟩ := h.row
  refine ⟨xs, ?_, hx⟩
  rcases hr with ⟨hl, h1 | ⟨g, cap, cur, hv, hb', hh, r⟩⟩
  · exact ⟨hl, .inl h1⟩
  · refine ⟨hl, .inr ⟨g, cap, cur, hv, hb', ?_, r⟩⟩
    rw [← hh]
    exact Go.Deep.blk_setCell_other w p u g (by omega)
theorem DRow.cls {W w : World} {B n c : Nat} {a : Option Addr} {D : Cl} (h : DRow W B (.slice a n c) D w) (hb : Below W.heap.size W w) : ClsAt w a D := by
  obtain ⟨xs, hr0, hx⟩ := h.row
  have hr := hr0
  rcases hr0 with ⟨_, ⟨h1, h2⟩ | ⟨g, cap, cur, hv, hb', hh, _⟩⟩
  · left; exact List.length_eq_zero_iff.1 h2
  · right
    injection hv with e1 e2 e3
    subst e1
    refine ⟨g, 0, rfl, (Array.getElem?_eq_some_iff.1 hh).1, fun j k hj => ?_⟩
    obtain ⟨al, c', q1, q3⟩ := hx j k hj
    have := hr.cells (g := g) rfl j _ q1
    have e : (⟨g, 0, none⟩ : Addr).add j = ⟨g, 0 + j, none⟩ := by
      unfold Addr.add
      split <;> simp_all
    rw [e] at this
    exact ⟨al, c', this, q3.keep hb⟩
theorem cls_vals {W : World} {b o : Nat} {C : Cl} (h : ∀ (j : Nat) (k : List Int), C[j]? = some k → ∃ kal kc, W.cell? ⟨b, o + j, none⟩ = some (.slice kal k.length kc) ∧ IntsAt W kal k) :
    ∃ xs : List Value, xs.length = C.length ∧ (∀ u ∈ xs, u.oneCell' = true) ∧ (∀ (j : Nat) (u : Value), xs[j]? = some u → W.cell? ⟨b, o + j, none⟩ = some u) ∧ ∀ (i : Nat) (k : List Int), C[i]? = some k → ∃ al c, xs[i]? = some (.slice al k.length c) ∧ IntsAt W al k := by
  have hex : ∀ j : Nat, ∃ y : Option Addr × Nat, ∀ k, C[j]? = some k → W.cell? ⟨b, o + j, none⟩ = some (.slice y.1 k.length y.2) ∧ IntsAt W y.1 k := by
    intro j
    cases hj : C[j]? with
    | none => exact ⟨(none, 0), fun k hk => by cases hk⟩
    | some k =>
      obtain ⟨kal, kc, h1, h2⟩ := h j k hj
      exact ⟨(kal, kc), fun k' hk => by injection hk with hk; subst hk; exact ⟨h1, h2⟩⟩
  obtain ⟨f, hf⟩ := Classical.axiomOfChoice hex
  have hget : ∀ i k, C[i]? = some k → ((List.range C.length).map fun j => Value.slice (f j).1 (C.getD j []).length (f j).2)[i]? = some (Value.slice (f i).1 k.length (f i).2) := by
    intro i k hk
    have hi := (List.getElem?_eq_some_iff.1 hk).1
    rw [List.getElem?_map, List.getElem?_range hi]
    simp only [Option.map_some, List.getD_eq_getElem?_getD, hk, Option.getD_some]
  refine ⟨(List.range C.length).map fun j => Value.slice (f j).1 (C.getD j []).length (f j).2, by simp, ?_, ?_, ?_⟩
  · intro u hu
    obtain ⟨j, _, rfl⟩ := List.mem_map.1 hu
    rfl
  · intro j u hu
    have hj : j < C.length := by
      have := (List.getElem?_eq_some_iff.1 hu).1
      simpa using this
    obtain ⟨k, hk⟩ : ∃ k, C[j]? = some k := ⟨_, List.getElem?_eq_getElem hj⟩
    rw [hget j k hk] at hu
    injection hu with hu
    rw [← hu]
    exact (hf j k hk).1
  · intro i k hk
    exact ⟨(f i).1, (f i).2, hget i k hk, (hf i k hk).2⟩

/-- 'd.Clauses = append(d.Clauses, c.Clauses...)', of none. -/
theorem wpList_all {W w : World} {B : Nat} {C : Cl} {al : Option Addr} {c : Nat} {ops : Array Oper} {rest : List Oper} {o : Oper} {a : Act} {Q : Exit → Act → World → Prop} (hgd : o.guard = none) (s x : Operand)
    (ho : o.op = .call { callee := .builtin .append, args := #[s, x], argTypes := #[22, 22] }) (hs : a.eval s = .slice none 0 0) (h : ClsAt W al C) (hn : al = none → c = 0) (hb : Below W.heap.size W w) (hB : B ≤ w.heap.size) (hx : a.eval x = .slice al C.length c) (hl : C.length ≤ 1000000000)
    (cont : ∀ a' c' w', DRow W B (.slice a' C.length c') C w' → w.grownBy w' none → wpList Tryd.prog ops Q rest (a.put o.dst (.slice a' C.length c')) w') : wpList Tryd.prog ops Q (o :: rest) a w := by
  obtain ⟨i0, hinfo, hi0, hi1, hi2⟩ := infos info_ints
  have hnil : C = [] → DRow W B (.slice none 0 0) C w := fun e => by subst e; exact ⟨[], World.ownsRow_nil _ _ _ _, fun i k h => by simp at h⟩
  cases al with
  | none =>
    have hc := hn rfl
    have hC : C = [] := by
      rcases h with h | ⟨_, _, h, _⟩
      · exact h
      · cases h
    subst hc
    have hD := hnil hC
    subst hC
    exact wpList_append_own_none hgd s x 22 ho B 34 i0 1 Tryd.underlying22 hinfo (.slice none 0 0) 0 [] hs (World.ownsRow_nil _ _ _ _) hx (cont none 0 w hD ⟨rfl, rfl, rfl, Nat.le_refl _, fun _ _ _ => rfl⟩)
  | some ad =>
    obtain ⟨xs, hxl, hx1, hxc, hxr⟩ : ∃ xs : List Value, xs.length = C.length ∧ (∀ u ∈ xs, u.oneCell' = true) ∧ (∀ (j : Nat) (u : Value), xs[j]? = some u → w.cell? (ad.add j) = some u) ∧ ∀ (i : Nat) (k : List Int), C[i]? = some k → ∃ al c, xs[i]? = some (.slice al k.length c) ∧ IntsAt W al k := by
      rcases h with h | ⟨b, o, e, hlt, hc⟩
      · subst h; exact ⟨[], rfl, by simp, by simp, by simp⟩
      · injection e with e
        subst e
        obtain ⟨xs, q1, q2, q3, q4⟩ := cls_vals hc
        refine ⟨xs, q1, q2, fun j u hj => ?_, q4⟩
        have e : (⟨b, o, none⟩ : Addr).add j = ⟨b, o + j, none⟩ := by
          unfold Addr.add
          split <;> simp_all
        rw [e]
        exact (hb.cell (p := ⟨b, o + j, none⟩) hlt).trans (q3 j u hj)
    refine wpList_append_own_at _ hgd s x 22 ho B 34 i0 (.slice none 0 0) 1 24 Tryd.underlying22 hinfo hi0 hi1 hi2 rfl (by decide) (.slice none 0 0) 0 [] hs (World.ownsRow_nil _ _ _ _) ad C.length c xs hx (by omega) hxc hx1 (by unfold maxLen; omega) (by omega) hB ?_
    intro v' w2 hrow hgr _ _
    have hD : DRow W B v' C w2 := ⟨xs, by simpa using hrow, hxr⟩
    obtain ⟨a', c', rfl⟩ := hD.shape
    exact cont a' c' w2 hD hgr
/-- 'd.Clauses = append(d.Clauses, more)'. -/
theorem wpList_one {W w w0 : World} {B : Nat} {v : Value} {C : Cl} {k : List Int} {kal : Option Addr} {kc : Nat} {ops : Array Oper} {rest : List Oper} {o : Oper} {a : Act} {Q : Exit → Act → World → Prop} (hgd : o.guard = none) (s x : Operand)
    (ho : o.op = .call { callee := .builtin .append, args := #[s, x], argTypes := #[22, 22] }) (hs : a.eval s = v) (h : DRow W B v C w0) (hB : B ≤ w0.heap.size) (hI : IntsAt W kal k) (hw : w = w0.alloc (.cells #[.slice kal k.length kc] 34))
    (hx : a.eval x = .slice (some ⟨w0.heap.size, 0, none⟩) 1 1) (hl : C.length + 1 ≤ 1000000000) (cont : ∀ a' c' w', DRow W B (.slice a' (C.length + 1) c') (C ++ [k]) w' → w.grownBy w' v.ownBlock → wpList Tryd.prog ops Q rest (a.put o.dst (.slice a' (C.length + 1) c')) w') : wpList Tryd.prog ops Q (o :: rest) a w := by
  obtain ⟨i0, hinfo, hi0, hi1, hi2⟩ := infos info_ints
  have ka := bel_alloc (Below.refl w0.heap.size w0) (.cells #[.slice kal k.length kc] 34)
  obtain ⟨xs, hr, hxs⟩ := h.row
  subst hw
  have hsz : (w0.alloc (.cells #[.slice kal k.length kc] 34)).heap.size = w0.heap.size + 1 := by simp
  refine wpList_append_own_at _ hgd s x 22 ho B 34 i0 (.slice none 0 0) 1 24 Tryd.underlying22 hinfo hi0 hi1 hi2 rfl (by decide) v C.length xs hs (row_bel hr ka) ⟨w0.heap.size, 0, none⟩ 1 1 [.slice kal k.length kc] hx rfl (cell_one_new w0 _ 34) (by intro u hu; simp at hu; subst hu; rfl) (by unfold maxLen; omega) (by omega) (by omega) ?_
  intro v' w2 hrow hgr _ _
  have e1 : (C ++ [k]).length = C.length + 1 := by simp
  have hlen : xs.length = C.length := by
    rcases hr with ⟨hl, _⟩
    simpa using hl
  have hG : DRow W B v' (C ++ [k]) w2 := by
    refine ⟨xs ++ [.slice kal k.length kc], by rw [e1]; exact hrow, fun i k' hk => ?_⟩
    by_cases hi : i < C.length
    · rw [List.getElem?_append_left hi] at hk
      obtain ⟨al, c, q1, q2⟩ := hxs i k' hk
      exact ⟨al, c, by rw [List.getElem?_append_left (by omega)]; exact q1, q2⟩
    · rw [List.getElem?_append_right (by omega)] at hk
      have hi0 : i - C.length = 0 := by
        have := (List.getElem?_eq_some_iff.1 hk).1
        simp at this
        omega
      rw [hi0] at hk
      obtain rfl : k = k' := by simpa using hk
      exact ⟨kal, kc, by rw [List.getElem?_append_right (by omega), hlen, hi0]; rfl, hI⟩
  obtain ⟨a', c', rfl⟩ := hG.shape
  rw [e1] at hG ⊢
  exact cont a' c' w2 hG hgr

theorem lmore_any {W : World} {al gl ml : Option Addr} {C : Cl} {g m : List Int} {v : Int} {c gc mc : Nat} (h : ClsAt W al C) (hok : OkC C) (hnc : al = none → c = 0) (hgi : IntsAt W gl g) (hgl : g.length < 4611686018427387904) (hmi : IntsAt W ml m) (hml : m.length < 4611686018427387904) (hm6 : ∀ l ∈ m, I64 l) (hT : Tens W) :
    Calls Tryd.prog 7 #[.agg #[.int .i64 v, .slice al C.length c], .slice gl g.length gc, .slice ml m.length mc] W fun e w => e = .returned (.bool true) ∧ Below W.heap.size W w := by
  have HB0 := Lib.hid (bel_alloc (Below.refl W.heap.size W) (.cells #[.int .i64 v, .slice al C.length c] 24))
  have HX0 := Lib.hid (BoxAt.new (W := W) (v := v) (s := .slice al C.length c))
  have HT := Lib.hid hT
  clear hT
  by_cases hgr : greatC C = true ∨ 60 < g.length ∨ 20 < m.length
  · obtain ⟨b, hb⟩ : ∃ b, greatC C = b := ⟨_, rfl⟩
    have HG := Lib.hid (fun (w : World) (hbw : Below W.heap.size W w) => great_bel (W := w) (v := v) (c := c) (h.keep hbw) hok hb)
    have hq : b = true ∨ (b = false ∧ (60 : Int) < ((g.length : Nat) : Int)) ∨ (b = false ∧ decide ((60 : Int) < ((g.length : Nat) : Int)) = false ∧ (20 : Int) < ((m.length : Nat) : Int)) := by
      cases b with
      | true => exact .inl rfl
      | false =>
        by_cases h6 : 60 < g.length
        · exact .inr (.inl ⟨rfl, by omega⟩)
        · rcases hgr with h1 | h1 | h1
          · rw [hb] at h1; cases h1
          · exact absurd h1 h6
          · exact .inr (.inr ⟨rfl, decide_eq_false (by omega), by omega⟩)
    clear h hok hgi hgr hb hmi hm6 hnc
    rcases hq with rfl | ⟨rfl, q6⟩ | ⟨rfl, q6, q7⟩
    all_goals
      go_enter Tryd.func7, Tryd.ntmps7
      go_wp2_with fail
      refine (HG.out _ HB0.out).mono ?_
      rintro e w1 ⟨rfl, hb1⟩
      have HB1 := Lib.hid (bel_call HB0.out hb1)
      clear hb1
      go_wp2_with fail
      refine (lives_any _ (HT.out.keep HB1.out)).mono ?_
      rintro e w2 ⟨rfl, hb2⟩
      go_wp2_with fail
      go_ret
      exact ⟨rfl, bel_call HB1.out hb2⟩
  have hgf : greatC C = false := by
    cases hc : greatC C with
    | false => rfl
    | true => exact absurd (.inl hc) hgr
  have HG := Lib.hid (fun (w : World) (hbw : Below W.heap.size W w) => great_bel (W := w) (v := v) (c := c) (h.keep hbw) hok hgf)
  obtain ⟨hl1, hl2⟩ := greatC_no hgf
  have hg60 : g.length ≤ 60 := by
    have : ¬ 60 < g.length := fun e => hgr (.inr (.inl e))
    omega
  have hm20 : m.length ≤ 20 := by
    have : ¬ 20 < m.length := fun e => hgr (.inr (.inr e))
    omega
  have q6 : decide ((60 : Int) < ((g.length : Nat) : Int)) = false := decide_eq_false (by omega)
  have q7 : decide ((20 : Int) < ((m.length : Nat) : Int)) = false := decide_eq_false (by omega)
  have HCL := Lib.hid h
  have HOK := Lib.hid hok
  have HGI := Lib.hid hgi
  have HM6 := Lib.hid hm6
  have HMI := Lib.hid hmi
  have HNC := Lib.hid hnc
  have HSZ := Lib.hid (And.intro hl1 (And.intro hl2 (And.intro hg60 hm20)))
  clear h hok hgi hm6 hmi hnc hl1 hgr hgf hg60 hm20
  have hbt := build_v
  go_enter Tryd.func7, Tryd.ntmps7
  go_wp2_with fail
  refine (HG.out _ HB0.out).mono ?_
  rintro e w1 ⟨rfl, hb1⟩
  have HB1 := Lib.hid (bel_call HB0.out hb1)
  have HX1 := Lib.hid (HX0.out.call hb1)
  have c0 := HX1.out.c0
  have c1 := HX1.out.c1
  have lb := HX1.out.lt
  clear hb1 HG HB0 HX0
  go_upto_region 4 with fail
  change Code.wp _ _ _ _ (w1.alloc (.cells #[.int .i64 v, .slice none 0 0] 24))
  have HD2 := Lib.hid (ResAt.new (W := w1) (v := v) (s := .slice none 0 0))
  have hk2 := bel_alloc (Below.refl w1.heap.size w1) (.cells #[.int .i64 v, .slice none 0 0] 24)
  have HB2 := Lib.hid hk2
  generalize w1.alloc (.cells #[.int .i64 v, .slice none 0 0] 24) = w2 at hk2 HB2 HD2 ⊢
  have HX2 := Lib.hid (HX1.out.call hk2)
  have d0 := HD2.out.c0
  have d1 := HD2.out.c1
  have df := HD2.out.fr 1
  have dl := HD2.out.lt
  have c0 := HX2.out.c0
  have c1 := HX2.out.c1
  have lb := HX2.out.lt
  have HBW2 := Lib.hid (bel_call HB1.out hk2)
  clear hk2
  go_upto_region 5 with (at_builtin; go_must (refine wpList_all (B := w2.heap.size) rfl (.tmp 32) (.tmp 34) rfl rfl HCL.out HNC.out HBW2.out (Nat.le_refl _) rfl (by omega) ?_; intro va vc w3 hd3 hg3; have HR3 := Lib.hid hd3; have HG3 := Lib.hid hg3; have HD3 := Lib.hid (HD2.out.grown hg3 (fun e => by cases e)); have e0 := HD3.out.c0; have e1 := HD3.out.c1; have ef := HD3.out.fr 1; clear hd3 hg3))
  have HB3 := Lib.hid (bel_grown HB2.out HG3.out (fun i hi => by cases hi))
  have hlt2 : w1.heap.size < w2.heap.size := HD2.out.lt
  have HB4 := Lib.hid (HB3.out.setCell (p := ⟨w1.heap.size, 1, none⟩) (Nat.le_refl _) (.slice va C.length vc))
  have HD4 := Lib.hid (HD3.out.put (u := .slice va C.length vc))
  have HR4 := Lib.hid (HR3.out.setCell (p := ⟨w1.heap.size, 1, none⟩) (u := .slice va C.length vc) hlt2)
  have HS4 : Hid (w2.heap.size ≤ (w3.setCell ⟨w1.heap.size, 1, none⟩ (.slice va C.length vc)).heap.size) := by
    show _ ≤ _
    have := HG3.out.size
    simpa [World.setCell] using this
  clear d0 d1 df dl e0 e1 ef c0 c1 lb HG3 HD3 HR3 HB3 HD2 HX2 HBW2
  generalize w3.setCell ⟨w1.heap.size, 1, none⟩ (.slice va C.length vc) = w4 at HB4 HD4 HR4 HS4 ⊢
  have e0 := HD4.out.c0
  have e1 := HD4.out.c1
  have ef := HD4.out.fr 1
  have el := HD4.out.lt
  go_upto_region 6 with (at_builtin; go_must (refine wpList_one (B := w2.heap.size) (w0 := w4) (kc := mc) rfl (.tmp 38) (.tmp 40) rfl rfl HR4.out HS4.out HMI.out rfl rfl (by omega) ?_; intro xa xc w5 hd5 hg5; have HR5 := Lib.hid hd5; have HG5 := Lib.hid hg5; have HD5 := Lib.hid ((HD4.out.call (bel_alloc (Below.refl _ _) _)).grown hg5 (fun e => by have := HR4.out.blk e.symm; omega)); have i0 := HD5.out.c0; have i1 := HD5.out.c1; have jf := HD5.out.fr 1; clear hd5 hg5))
  have HB5 := Lib.hid (bel_grown (bel_alloc HB4.out _) HG5.out (fun q e => by have := HR4.out.blk e; omega))
  have HB6 := Lib.hid (HB5.out.setCell (p := ⟨w1.heap.size, 1, none⟩) (Nat.le_refl _) (.slice xa (C.length + 1) xc))
  have HD6 := Lib.hid (HD5.out.put (u := .slice xa (C.length + 1) xc))
  have HR6 := Lib.hid (HR5.out.setCell (p := ⟨w1.heap.size, 1, none⟩) (u := .slice xa (C.length + 1) xc) hlt2)
  clear e0 e1 ef el i0 i1 jf HG5 HD5 HR5 HB5 HB4 HD4 HR4 HS4
  generalize w5.setCell ⟨w1.heap.size, 1, none⟩ (.slice xa (C.length + 1) xc) = w6 at HB6 HD6 HR6 ⊢
  have hBW6 : Below W.heap.size W w6 := HB1.out.trans (HB6.out.mono HB1.out.size)
  have HBW6 := Lib.hid hBW6
  have HX6 := Lib.hid (HX1.out.call HB6.out)
  have HDC := Lib.hid (HR6.out.cls hBW6)
  obtain ⟨D, hD⟩ : ∃ D, D = C ++ [m] := ⟨_, rfl⟩
  have hDl : D.length = C.length + 1 := by rw [hD]; simp
  have hDf : D.flatten.length ≤ 420 := by
    rw [hD]
    simp only [List.flatten_append, List.length_append, List.flatten_cons, List.flatten_nil, List.append_nil]
    have := HSZ.out
    omega
  have hDok : OkC D := by
    refine ⟨by omega, fun k hk => ?_, fun k hk l hl => ?_⟩
    · rw [hD] at hk
      rcases List.mem_append.1 hk with e | e
      · exact HOK.out.k k e
      · obtain rfl : k = m := by simpa using e
        exact hml
    · rw [hD] at hk
      rcases List.mem_append.1 hk with e | e
      · exact HOK.out.l k e l hl
      · obtain rfl : k = m := by simpa using e
        exact HM6.out l hl
  rw [← hD] at HDC
  rw [← hDl]
  have HCD : Hid (∀ k ∈ C, k ∈ D) := by show ∀ k ∈ C, _; intro k hk; rw [hD]; simp [hk]
  have HDOK := Lib.hid hDok
  have HDF := Lib.hid hDf
  have HDL := Lib.hid hDl
  have HDD6 := Lib.hid ((⟨HD6.out.lt, HD6.out.c0, HD6.out.c1⟩ : BoxAt w1.heap.size v (.slice xa (C.length + 1) xc) w6))
  rw [← hDl] at HDD6
  clear hD hDf hDok hBW6 HR6 HD6 hDl
  have HMAY := Lib.hid (cmay_any (v := v) (c := xc) HDC.out HDOK.out)
  have c0 := HX6.out.c0
  have c1 := HX6.out.c1
  have lb := HX6.out.lt
  have d0 := HDD6.out.c0
  have d1 := HDD6.out.c1
  have dl := HDD6.out.lt
  cases hm : mayC v D with
  | false =>
    rw [hm] at HMAY
    clear hm
    go_wp2_with fail
    refine HMAY.out.mono ?_
    rintro e w7 ⟨rfl, hb7⟩
    have HB7 := Lib.hid (bel_call HBW6.out hb7)
    clear hb7 c0 c1 lb d0 d1 dl
    go_wp2_with fail
    refine (lives_any _ (HT.out.keep HB7.out)).mono ?_
    rintro e w8 ⟨rfl, hb8⟩
    go_wp2_with fail
    go_ret
    exact ⟨rfl, bel_call HB7.out hb8⟩
  | true =>
    rw [hm] at HMAY
    have HMT := Lib.hid hm
    have hmC : mayC v C = true := by
      obtain ⟨a, b⟩ := mayC_parts hm
      unfold mayC
      rw [a, Bool.true_and, List.all_eq_true]
      intro k hk
      rw [List.all_eq_true]
      exact fun l hl => b k (HCD.out k hk) l hl
    obtain ⟨vn, rfl⟩ : ∃ vn : Nat, v = ((vn : Nat) : Int) := by
      obtain ⟨hmv, _⟩ := mayC_parts hm
      have hv : 0 ≤ v ∧ v ≤ 1000000 := by unfold mayV at hmv; simpa using hmv
      exact ⟨v.toNat, by omega⟩
    have HMC := Lib.hid hmC
    clear hm hmC
    go_wp2_with fail
    refine HMAY.out.mono ?_
    rintro e w7 ⟨rfl, hb7⟩
    have HB7 := Lib.hid (bel_call HBW6.out hb7)
    have HX7 := Lib.hid (HX6.out.call hb7)
    have HD7 := Lib.hid (HDD6.out.call hb7)
    have HDC7 := Lib.hid (HDC.out.keep hb7)
    have c0 := HX7.out.c0
    have c1 := HX7.out.c1
    have lb := HX7.out.lt
    clear hb7 HMAY d0 d1 dl
    obtain ⟨TA, ba, hA⟩ : ∃ T b, unitsC ((vn : Nat) : Int) C g = (T, b) := ⟨_, _, rfl⟩
    obtain ⟨TB, bb, hB⟩ : ∃ T b, unitsC ((vn : Nat) : Int) D g = (T, b) := ⟨_, _, rfl⟩
    have HUA := Lib.hid (cunits_yes (c := c) (gc := gc) (HCL.out.keep HB7.out) HOK.out (HGI.out.keep HB7.out) HMC.out (by have := HSZ.out; omega))
    rw [hA] at HUA
    go_wp2_with fail
    refine HUA.out.mono ?_
    rintro e w8 ⟨aa, ac, rfl, hai, hb8⟩
    have HB8 := Lib.hid (bel_call HB7.out hb8)
    have HD8 := Lib.hid (HD7.out.call hb8)
    have HDC8 := Lib.hid (HDC7.out.keep hb8)
    have HAI8 := Lib.hid hai
    have d0 := HD8.out.c0
    have d1 := HD8.out.c1
    have dl := HD8.out.lt
    have HUB := Lib.hid (cunits_yes (c := xc) (gc := gc) HDC8.out HDOK.out (HGI.out.keep HB8.out) HMT.out (by have := HSZ.out; have := HDL.out; have := HDF.out; omega))
    rw [hB] at HUB
    clear hb8 hai c0 c1 lb HUA
    go_wp2_with fail
    refine HUB.out.mono ?_
    rintro e w9 ⟨xb, xbc, rfl, hbi, hb9⟩
    have HB9 := Lib.hid (bel_call HB8.out hb9)
    have HAI := Lib.hid (HAI8.out.keep hb9)
    have HBI := Lib.hid hbi
    clear hb9 hbi d0 d1 dl HUB
    have hmore : bb = true → ba = true ∧ ∀ l ∈ TA, l ∈ TB := fun e => by
      have := units_more (v := ((vn : Nat) : Int)) (C := C) (D := D) (g := g) HMT.out HCD.out (by rw [hB]; exact e)
      rw [hA, hB] at this
      exact this
    have hTA : TA.length ≤ 1000000 := by have := units_len ((vn : Nat) : Int) C g; rw [hA] at this; replace this : TA.length ≤ g.length + C.flatten.length + 1 := this; have := HSZ.out; omega
    have hTB : TB.length ≤ 1000000 := by have := units_len ((vn : Nat) : Int) D g; rw [hB] at this; replace this : TB.length ≤ g.length + D.flatten.length + 1 := this; have := HSZ.out; have := HDF.out; omega
    clear hA hB
    have HLA := Lib.hid hTA
    have HLB := Lib.hid hTB
    have HMO := Lib.hid hmore
    clear hTA hTB hmore
    cases ba with
    | false =>
      have hb0 : bb = false := by
        cases bb with
        | false => rfl
        | true => exact absurd (HMO.out rfl).1 (by decide)
      subst hb0
      clear HMO
      go_wp2_with fail
      refine (lives_any _ (HT.out.keep HB9.out)).mono ?_
      rintro e w10 ⟨rfl, hb10⟩
      go_wp2_with fail
      go_ret
      exact ⟨rfl, bel_call HB9.out hb10⟩
    | true =>
      cases bb with
      | false =>
        clear HMO
        go_wp2_with fail
        refine (lives_any _ (HT.out.keep HB9.out)).mono ?_
        rintro e w10 ⟨rfl, hb10⟩
        go_wp2_with fail
        go_ret
        exact ⟨rfl, bel_call HB9.out hb10⟩
      | true =>
        have HIN := Lib.hid (HMO.out rfl).2
        obtain ⟨na, hna⟩ : ∃ na, na = TA.length := ⟨_, rfl⟩
        have HNA := Lib.hid hna
        have hla : na ≤ 1000000 := by have := HLA.out; omega
        have HLN := Lib.hid hla
        obtain ⟨nb, hnb⟩ : ∃ nb, nb = TB.length := ⟨_, rfl⟩
        have HNB := Lib.hid hnb
        have hlb : nb ≤ 1000000 := by have := HLB.out; omega
        have HLM := Lib.hid hlb
        rw [← hna, ← hnb]
        clear HMO hna hnb hla hlb
        go_wp2_with fail
        go_loopg [12] na (fun gk v12 wr => ∃ (i : Nat), v12 = .int .i64 ((i : Nat) : Int) ∧ i + gk = na ∧ Below w9.heap.size w9 wr)
        case atStart => exact ⟨0, rfl, by omega, Below.refl _ _⟩
        case round =>
          obtain ⟨i, rfl, hi, hb⟩ := hrel
          obtain ⟨gO, hgO⟩ : ∃ gO, gO = gk := ⟨_, rfl⟩
          subst hgO
          have HI := Lib.hid hi
          have HB := Lib.hid hb
          have q0 : (0 : Int) ≤ ((i : Nat) : Int) := by omega
          by_cases hlt : i < na
          · obtain ⟨x, hx⟩ : ∃ x, TA[i]? = some x := ⟨_, List.getElem?_eq_getElem (by rw [← HNA.out]; exact hlt)⟩
            obtain ⟨ab, ao, rfl, hab, hac⟩ := ints_at HAI.out hx
            have q1 : ((i : Nat) : Int) < ((na : Nat) : Int) := by omega
            have HST := Lib.hid (step_i (j := i) (by have := HLN.out; omega))
            have HXB := Lib.hid (HIN.out x (List.mem_of_getElem? hx))
            clear hi hb hx
            go_wp2_with fail
            go_loopg [13, 14] nb (fun gk v13 v14 w3 => ∃ (j : Nat), v13 = .bool (seenT TB x j) ∧ v14 = .int .i64 ((j : Nat) : Int) ∧ j + gk = nb ∧ Below w9.heap.size w9 w3)
            case atStart => exact ⟨0, by rw [seenT_zero], rfl, by omega, HB.out⟩
            case round =>
              obtain ⟨j, rfl, rfl, hj, hb⟩ := hrel
              have HJ := Lib.hid hj
              have HB3 := Lib.hid hb
              have p0 : (0 : Int) ≤ ((j : Nat) : Int) := by omega
              by_cases hlt2 : j < nb
              · obtain ⟨y, hy⟩ : ∃ y, TB[j]? = some y := ⟨_, List.getElem?_eq_getElem (by rw [← HNB.out]; exact hlt2)⟩
                obtain ⟨bb, bo, rfl, hbb, hbc⟩ := ints_at (HBI.out.keep hb) hy
                have hac3 := (hb.cell (p := ⟨ab, ao + i, none⟩) hab).trans hac
                have p1 : ((j : Nat) : Int) < ((nb : Nat) : Int) := by omega
                have HS2 := Lib.hid (step_i (j := j) (by have := HLM.out; omega))
                have HSU := Lib.hid (seenT_succ (x := x) hy)
                clear hj hb hy hac
                obtain ⟨sb, hsb⟩ : ∃ sb, seenT TB x j = sb := ⟨_, rfl⟩
                rw [hsb] at HSU ⊢
                clear hsb
                cases sb with
                | true =>
                  go_wp2_with fail
                  go_region
                  all_goals go_wp2_with fail
                  go_roundg (gk - 1)
                  case measure => have := HJ.out; omega
                  case rel => exact ⟨j + 1, by rw [HSU.out]; rfl, by first | rfl | (rw [HS2.out.1]) | (congr 1; exact HS2.out.1), by have := HJ.out; omega, by first | exact HB3.out | exact bel_drewN HB3.out 1⟩
                | false =>
                  go_wp2_with fail
                  go_region
                  all_goals go_wp2_with fail
                  go_roundg (gk - 1)
                  case measure => have := HJ.out; omega
                  case rel => exact ⟨j + 1, by rw [HSU.out]; rfl, by first | rfl | (rw [HS2.out.1]) | (congr 1; exact HS2.out.1), by have := HJ.out; omega, by first | exact HB3.out | exact bel_drewN HB3.out 1⟩
              · have p1 : decide (((j : Nat) : Int) < ((nb : Nat) : Int)) = false := decide_eq_false (by omega)
                obtain rfl : j = nb := by omega
                have hall := seenT_all HXB.out
                rw [← HNB.out] at hall
                rw [hall]
                clear hj hb hall hac
                go_wp2_with fail
                go_roundg (gO - 1)
                case measure => have := HI.out; omega
                case rel => exact ⟨i + 1, by first | rfl | (rw [HST.out.1]) | (congr 1; exact HST.out.1), by have := HI.out; omega, HB3.out⟩
          · have q1 : decide (((i : Nat) : Int) < ((na : Nat) : Int)) = false := decide_eq_false (by omega)
            obtain rfl : i = na := by omega
            clear hi hb
            go_wp2_with fail
            have HB10 := Lib.hid (bel_call HB9.out HB.out)
            refine (lives_any _ (HT.out.keep HB10.out)).mono ?_
            rintro e w10 ⟨rfl, hb10⟩
            go_wp2_with fail
            go_ret
            exact ⟨rfl, bel_call HB10.out hb10⟩
end Cf
end Go.Proofs.YtmegadjeficfjaaDoor
