/-
  A list of clauses that the call itself makes and appends to.
-/
import Derived.Test.YtmgkgbhkaoflhaaCfGrow
import Derived.Laws.AppendOwnNone
import Derived.Deep.RegionLaw
import Derived.Deep.Heap
namespace Go.Proofs.Ytmgkgbhkaoflhaa
open Go.RowKit
namespace Cf
set_option maxHeartbeats 3200000
set_option maxRecDepth 100000

theorem info_ints : (Try.prog.info? 25).map (fun i => (i.zero, i.size, i.bytes)) = some (some (.slice none 0 0), 1, 24) := by kernel_rfl
/-- A row of lists of the call's own, whose lists lie ahead of it. -/
structure DRow (W : World) (B : Nat) (v : Value) (D : Cl) (w : World) : Prop where
  row : ∃ xs, w.ownsRow B 25 1 v D.length xs ∧ ∀ (i : Nat) (k : List Int), D[i]? = some k → ∃ al c, xs[i]? = some (.slice al k.length c) ∧ IntsAt W al k
theorem DRow.shape {W w : World} {B : Nat} {v : Value} {D : Cl} (h : DRow W B v D w) : ∃ a c, v = .slice a D.length c := by
  obtain ⟨xs, ⟨_, ⟨h1, h2⟩ | ⟨g, cap, cur, hv, _⟩⟩, _⟩ := h.row
  · exact ⟨none, 0, by rw [h1, h2]⟩
  · exact ⟨_, _, hv⟩
theorem DRow.blk {W w : World} {B : Nat} {v : Value} {D : Cl} (h : DRow W B v D w) {g : Nat} (hg : v.ownBlock = some g) : B ≤ g := by
  obtain ⟨xs, ⟨_, ⟨h1, h2⟩ | ⟨g', cap, cur, hv, hb, _⟩⟩, _⟩ := h.row
  · rw [h1] at hg; cases hg
  · rw [hv] at hg; injection hg with hg; rw [← hg]; exact hb
theorem DRow.call {W w w' : World} {B : Nat} {v : Value} {D : Cl} (h : DRow W B v D w) (k : Below w.heap.size w w') : DRow W B v D w' := by
  obtain ⟨xs, hr, hx⟩ := h.row
  exact ⟨xs, row_bel hr k, hx⟩
theorem DRow.setCell {W w : World} {B : Nat} {v : Value} {D : Cl} {p : Addr} {u : Value} (h : DRow W B v D w) (hp : p.block < B) : DRow W B v D (w.setCell p u) := by
  obtain ⟨xs, hr, hx⟩ := h.row
  refine ⟨xs, ?_, hx⟩
  rcases hr with ⟨hl, h1 | ⟨g, cap, cur, hv, hb', hh, r⟩⟩
  · exact ⟨hl, .inl h1⟩
  · refine ⟨hl, .inr ⟨g, cap, cur, hv, hb', ?_, r⟩⟩
    rw [← hh]
    exact Go.Deep.blk_setCell_other w p u g (by omega)
theorem DRow.cls {W w : World} {B n c : Nat} {a : Option Addr} {D : Cl} (h : DRow W B (.slice a n c) D w) (hb : Below W.heap.size W w) : ClsAt w a D := by
  obtain ⟨xs, hr0, hx⟩ := h.row
  have hr := hr0
  rcases hr0 with ⟨_, ⟨h1, h2⟩ | ⟨g, cap, cur, hv, hb', hh, _⟩⟩
  · left; exact List.length_eq_zero_iff.1 h2
  · right
    injection hv with e1 e2 e3
    subst e1
    refine ⟨g, 0, rfl, (Array.getElem?_eq_some_iff.1 hh).1, fun j k hj => ?_⟩
    obtain ⟨al, c', q1, q3⟩ := hx j k hj
    have := hr.cells (g := g) rfl j _ q1
    have e : (⟨g, 0, none⟩ : Addr).add j = ⟨g, 0 + j, none⟩ := by
      unfold Addr.add
      split <;> simp_all
    rw [e] at this
    exact ⟨al, c', this, q3.keep hb⟩
theorem cls_vals {W : World} {b o : Nat} {C : Cl} (h : ∀ (j : Nat) (k : List Int), C[j]? = some k → ∃ kal kc, W.cell? ⟨b, o + j, none⟩ = some (.slice kal k.length kc) ∧ IntsAt W kal k) :
    ∃ xs : List Value, xs.length = C.length ∧ (∀ u ∈ xs, u.oneCell' = true) ∧ (∀ (j : Nat) (u : Value), xs[j]? = some u → W.cell? ⟨b, o + j, none⟩ = some u) ∧ ∀ (i : Nat) (k : List Int), C[i]? = some k → ∃ al c, xs[i]? = some (.slice al k.length c) ∧ IntsAt W al k := by
  have hex : ∀ j : Nat, ∃ y : Option Addr × Nat, ∀ k, C[j]? = some k → W.cell? ⟨b, o + j, none⟩ = some (.slice y.1 k.length y.2) ∧ IntsAt W y.1 k := by
    intro j
    cases hj : C[j]? with
    | none => exact ⟨(none, 0), fun k hk => by cases hk⟩
    | some k =>
      obtain ⟨kal, kc, h1, h2⟩ := h j k hj
      exact ⟨(kal, kc), fun k' hk => by injection hk with hk; subst hk; exact ⟨h1, h2⟩⟩
  obtain ⟨f, hf⟩ := Classical.axiomOfChoice hex
  have hget : ∀ i k, C[i]? = some k → ((List.range C.length).map fun j => Value.slice (f j).1 (C.getD j []).length (f j).2)[i]? = some (Value.slice (f i).1 k.length (f i).2) := by
    intro i k hk
    have hi := (List.getElem?_eq_some_iff.1 hk).1
    rw [List.getElem?_map, List.getElem?_range hi]
    simp only [Option.map_some, List.getD_eq_getElem?_getD, hk, Option.getD_some]
  refine ⟨(List.range C.length).map fun j => Value.slice (f j).1 (C.getD j []).length (f j).2, by simp, ?_, ?_, ?_⟩
  · intro u hu
    obtain ⟨j, _, rfl⟩ := List.mem_map.1 hu
    rfl
  · intro j u hu
    have hj : j < C.length := by
      have := (List.getElem?_eq_some_iff.1 hu).1
      simpa using this
    obtain ⟨k, hk⟩ : ∃ k, C[j]? = some k := ⟨_, List.getElem?_eq_getElem hj⟩
    rw [hget j k hk] at hu
    injection hu with hu
    rw [← hu]
    exact (hf j k hk).1
  · intro i k hk
    exact ⟨(f i).1, (f i).2, hget i k hk, (hf i k hk).2⟩

/-- 'd.Clauses = append(d.Clauses, c.Clauses...)', of none. -/
theorem wpList_all {W w : World} {B : Nat} {C : Cl} {al : Option Addr} {c : Nat} {ops : Array Oper} {rest : List Oper} {o : Oper} {a : Act} {Q : Exit → Act → World → Prop} (hgd : o.guard = none) (s x : Operand)
    (ho : o.op = .call { callee := .builtin .append, args := #[s, x], argTypes := #[22, 22] }) (hs : a.eval s = .slice none 0 0) (h : ClsAt W al C) (hn : al = none → c = 0) (hb : Below W.heap.size W w) (hB : B ≤ w.heap.size) (hx : a.eval x = .slice al C.length c) (hl : C.length ≤ 1000000000)
    (cont : ∀ a' c' w', DRow W B (.slice a' C.length c') C w' → w.grownBy w' none → wpList Try.prog ops Q rest (a.put o.dst (.slice a' C.length c')) w') : wpList Try.prog ops Q (o :: rest) a w := by
  obtain ⟨i0, hinfo, hi0, hi1, hi2⟩ := infos info_ints
  have hnil : C = [] → DRow W B (.slice none 0 0) C w := fun e => by subst e; exact ⟨[], World.ownsRow_nil _ _ _ _, fun i k h => by simp at h⟩
  cases al with
  | none =>
    have hc := hn rfl
    have hC : C = [] := by
      rcases h with h | ⟨_, _, h, _⟩
      · exact h
      · cases h
    subst hc
    have hD := hnil hC
    subst hC
    exact wpList_append_own_none hgd s x 22 ho B 25 i0 1 Try.underlying22 hinfo (.slice none 0 0) 0 [] hs (World.ownsRow_nil _ _ _ _) hx (cont none 0 w hD ⟨rfl, rfl, rfl, Nat.le_refl _, fun _ _ _ => rfl⟩)
  | some ad =>
    obtain ⟨xs, hxl, hx1, hxc, hxr⟩ : ∃ xs : List Value, xs.length = C.length ∧ (∀ u ∈ xs, u.oneCell' = true) ∧ (∀ (j : Nat) (u : Value), xs[j]? = some u → w.cell? (ad.add j) = some u) ∧ ∀ (i : Nat) (k : List Int), C[i]? = some k → ∃ al c, xs[i]? = some (.slice al k.length c) ∧ IntsAt W al k := by
      rcases h with h | ⟨b, o, e, hlt, hc⟩
      · subst h; exact ⟨[], rfl, by simp, by simp, by simp⟩
      · injection e with e
        subst e
        obtain ⟨xs, q1, q2, q3, q4⟩ := cls_vals hc
        refine ⟨xs, q1, q2, fun j u hj => ?_, q4⟩
        have e : (⟨b, o, none⟩ : Addr).add j = ⟨b, o + j, none⟩ := by
          unfold Addr.add
          split <;> simp_all
        rw [e]
        exact (hb.cell (p := ⟨b, o + j, none⟩) hlt).trans (q3 j u hj)
    refine wpList_append_own_at _ hgd s x 22 ho B 25 i0 (.slice none 0 0) 1 24 Try.underlying22 hinfo hi0 hi1 hi2 rfl (by decide) (.slice none 0 0) 0 [] hs (World.ownsRow_nil _ _ _ _) ad C.length c xs hx (by omega) hxc hx1 (by unfold maxLen; omega) (by omega) hB ?_
    intro v' w2 hrow hgr _ _
    have hD : DRow W B v' C w2 := ⟨xs, by simpa using hrow, hxr⟩
    obtain ⟨a', c', rfl⟩ := hD.shape
    exact cont a' c' w2 hD hgr
/-- 'd.Clauses = append(d.Clauses, more)'. -/
theorem wpList_one {W w w0 : World} {B : Nat} {v : Value} {C : Cl} {k : List Int} {kal : Option Addr} {kc : Nat} {ops : Array Oper} {rest : List Oper} {o : Oper} {a : Act} {Q : Exit → Act → World → Prop} (hgd : o.guard = none) (s x : Operand)
    (ho : o.op = .call { callee := .builtin .append, args := #[s, x], argTypes := #[22, 22] }) (hs : a.eval s = v) (h : DRow W B v C w0) (hB : B ≤ w0.heap.size) (hI : IntsAt W kal k) (hw : w = w0.alloc (.cells #[.slice kal k.length kc] 25))
    (hx : a.eval x = .slice (some ⟨w0.heap.size, 0, none⟩) 1 1) (hl : C.length + 1 ≤ 1000000000) (cont : ∀ a' c' w', DRow W B (.slice a' (C.length + 1) c') (C ++ [k]) w' → w.grownBy w' v.ownBlock → wpList Try.prog ops Q rest (a.put o.dst (.slice a' (C.length + 1) c')) w') : wpList Try.prog ops Q (o :: rest) a w := by
  obtain ⟨i0, hinfo, hi0, hi1, hi2⟩ := infos info_ints
  have ka := bel_alloc (Below.refl w0.heap.size w0) (.cells #[.slice kal k.length kc] 25)
  obtain ⟨xs, hr, hxs⟩ := h.row
  subst hw
  have hsz : (w0.alloc (.cells #[.slice kal k.length kc] 25)).heap.size = w0.heap.size + 1 := by simp
  refine wpList_append_own_at _ hgd s x 22 ho B 25 i0 (.slice none 0 0) 1 24 Try.underlying22 hinfo hi0 hi1 hi2 rfl (by decide) v C.length xs hs (row_bel hr ka) ⟨w0.heap.size, 0, none⟩ 1 1 [.slice kal k.length kc] hx rfl (cell_one_new w0 _ 25) (by intro u hu; simp at hu; subst hu; rfl) (by unfold maxLen; omega) (by omega) (by omega) ?_
  intro v' w2 hrow hgr _ _
  have e1 : (C ++ [k]).length = C.length + 1 := by simp
  have hlen : xs.length = C.length := by
    rcases hr with ⟨hl, _⟩
    simpa using hl
  have hG : DRow W B v' (C ++ [k]) w2 := by
    refine ⟨xs ++ [.slice kal k.length kc], by rw [e1]; exact hrow, fun i k' hk => ?_⟩
    by_cases hi : i < C.length
    · rw [List.getElem?_append_left hi] at hk
      obtain ⟨al, c, q1, q2⟩ := hxs i k' hk
      exact ⟨al, c, by rw [List.getElem?_append_left (by omega)]; exact q1, q2⟩
    · rw [List.getElem?_append_right (by omega)] at hk
      have hi0 : i - C.length = 0 := by
        have := (List.getElem?_eq_some_iff.1 hk).1
        simp at this
        omega
      rw [hi0] at hk
      obtain rfl : k = k' := by simpa using hk
      exact ⟨kal, kc, by rw [List.getElem?_append_right (by omega), hlen, hi0]; rfl, hI⟩
  obtain ⟨a', c', rfl⟩ := hG.shape
  rw [e1] at hG ⊢
  exact cont a' c' w2 hG hgr

/-- The same, as one step of a region that draws. -/
theorem step_one {W w w0 : World} {B : Nat} {v : Value} {C : Cl} {k : List Int} {kal : Option Addr} {kn kc : Nat} {ops : Array Oper} {o : Oper} {a : Act} {K : Act → World → Prop} {Q : Exit → Act → World → Prop} {E : Prop} (hgd : o.guard = none) (s x : Operand)
    (ho : o.op = .call { callee := .builtin .append, args := #[s, x], argTypes := #[22, 22] }) (hs : a.eval s = v) (h : DRow W B v C w0) (hB : B ≤ w0.heap.size) (hI : IntsAt W kal k) (hkn : kn = k.length) (hw : w = w0.alloc (.cells #[.slice kal kn kc] 25))
    (hx : a.eval x = .slice (some ⟨w0.heap.size, 0, none⟩) 1 1) (hl : C.length + 1 ≤ 1000000000) (cont : ∀ a' c' w', DRow W B (.slice a' (C.length + 1) c') (C ++ [k]) w' → w.grownBy w' v.ownBlock → K (a.put o.dst (.slice a' (C.length + 1) c')) w') : if Region.wanted o (yielded ops a.tmps) = true then Oper.wp Try.prog o a w K Q else E := by
  have hwd : Region.wanted o (yielded ops a.tmps) = true := by simp [Region.wanted, hgd]
  rw [if_pos hwd]
  obtain ⟨i0, hinfo, hi0, hi1, hi2⟩ := infos info_ints
  subst hkn
  have ka := bel_alloc (Below.refl w0.heap.size w0) (.cells #[.slice kal k.length kc] 25)
  obtain ⟨xs, hr, hxs⟩ := h.row
  subst hw
  have hsz : (w0.alloc (.cells #[.slice kal k.length kc] 25)).heap.size = w0.heap.size + 1 := by simp
  obtain ⟨v', w2, hrun, hrow, hgr, _, _⟩ := run_append_own_at (P := Try.prog) (w0.alloc (.cells #[.slice kal k.length kc] 25)) B 22 o.type 25 i0 (.slice none 0 0) 1 24 Try.underlying22 hinfo hi0 hi1 hi2 rfl (by decide) v C.length xs (row_bel hr ka) ⟨w0.heap.size, 0, none⟩ 1 1 [.slice kal k.length kc] rfl (cell_one_new w0 _ 25) (by intro u hu; simp at hu; subst hu; rfl) (by unfold maxLen; omega) (by omega) (by omega)
  have e1 : (C ++ [k]).length = C.length + 1 := by simp
  have hlen : xs.length = C.length := by
    rcases hr with ⟨hl, _⟩
    simpa using hl
  have hG : DRow W B v' (C ++ [k]) w2 := by
    refine ⟨xs ++ [.slice kal k.length kc], by rw [e1]; exact hrow, fun i k' hk => ?_⟩
    by_cases hi : i < C.length
    · rw [List.getElem?_append_left hi] at hk
      obtain ⟨al, c, q1, q2⟩ := hxs i k' hk
      exact ⟨al, c, by rw [List.getElem?_append_left (by omega)]; exact q1, q2⟩
    · rw [List.getElem?_append_right (by omega)] at hk
      have hi0 : i - C.length = 0 := by
        have := (List.getElem?_eq_some_iff.1 hk).1
        simp at this
        omega
      rw [hi0] at hk
      obtain rfl : k = k' := by simpa using hk
      exact ⟨kal, kc, by rw [List.getElem?_append_right (by omega), hlen, hi0]; rfl, hI⟩
  obtain ⟨a', c', rfl⟩ := hG.shape
  rw [e1] at hG hrun
  unfold Oper.wp
  simp [execOp, ho, resolve, invoke, builtin, hs, hx, hrun, Result.andThen]
  exact cont a' c' w2 hG hgr
end Cf
end Go.Proofs.Ytmgkgbhkaoflhaa
