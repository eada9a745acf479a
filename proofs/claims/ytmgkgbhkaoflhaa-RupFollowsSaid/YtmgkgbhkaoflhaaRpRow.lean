/-
  A list of clauses that the call itself makes, and whose clauses it makes, too.
-/
import Derived.Test.YtmgkgbhkaoflhaaRpLawA
namespace Go.Proofs.Ytmgkgbhkaoflhaa
open Go.RowKit
namespace Rp
open Cf
set_option maxHeartbeats 3200000
set_option maxRecDepth 100000

/-- A clause that lies neither in block b nor in the row v. -/
def LAt (b : Nat) (v : Value) (w : World) (al : Option Addr) (k : List Int) : Prop :=
  k = [] ∨ ∃ bl o, al = some ⟨bl, o, none⟩ ∧ bl < w.heap.size ∧ bl ≠ b ∧ some bl ≠ v.ownBlock ∧ ∀ (j : Nat) (x : Int), k[j]? = some x → w.cell? ⟨bl, o + j, none⟩ = some (.int .i64 x)
structure ORow (B b : Nat) (v : Value) (D : Cl) (w : World) : Prop where
  row : ∃ xs, w.ownsRow B 25 1 v D.length xs ∧ ∀ (i : Nat) (k : List Int), D[i]? = some k → ∃ al c, xs[i]? = some (.slice al k.length c) ∧ LAt b v w al k
theorem LAt.ints {b : Nat} {v : Value} {w : World} {al : Option Addr} {k : List Int} (h : LAt b v w al k) : IntsAt w al k := by
  refine h.imp id ?_
  rintro ⟨bl, o, h1, h2, _, _, h3⟩
  exact ⟨bl, o, h1, h2, h3⟩
theorem LAt.call {b : Nat} {v : Value} {w w' : World} {al : Option Addr} {k : List Int} (h : LAt b v w al k) (hb : Below w.heap.size w w') : LAt b v w' al k := by
  refine h.imp id ?_
  rintro ⟨bl, o, h1, h2, h4, h5, h3⟩
  exact ⟨bl, o, h1, Nat.lt_of_lt_of_le h2 hb.size, h4, h5, fun j x hj => (hb.cell (p := ⟨bl, o + j, none⟩) h2).trans (h3 j x hj)⟩
theorem ORow.shape {B b : Nat} {v : Value} {D : Cl} {w : World} (h : ORow B b v D w) : ∃ a c, v = .slice a D.length c := by
  obtain ⟨xs, ⟨_, ⟨h1, h2⟩ | ⟨g, cap, cur, hv, _⟩⟩, _⟩ := h.row
  · exact ⟨none, 0, by rw [h1, h2]⟩
  · exact ⟨_, _, hv⟩
theorem ORow.blk {B b : Nat} {v : Value} {D : Cl} {w : World} (h : ORow B b v D w) {g : Nat} (hg : v.ownBlock = some g) : B ≤ g := by
  obtain ⟨xs, ⟨_, ⟨h1, h2⟩ | ⟨g', cap, cur, hv, hb, _⟩⟩, _⟩ := h.row
  · rw [h1] at hg; cases hg
  · rw [hv] at hg; injection hg with hg; rw [← hg]; exact hb
theorem ORow.call {B b : Nat} {v : Value} {D : Cl} {w w' : World} (h : ORow B b v D w) (k : Below w.heap.size w w') : ORow B b v D w' := by
  obtain ⟨xs, hr, hx⟩ := h.row
  refine ⟨xs, row_bel hr k, fun i l hl => ?_⟩
  obtain ⟨al, c, q1, q2⟩ := hx i l hl
  exact ⟨al, c, q1, q2.call k⟩
theorem ORow.put {B b o : Nat} {v u : Value} {D : Cl} {w : World} (h : ORow B b v D w) (hb : b < B) : ORow B b v D (w.setCell ⟨b, o, none⟩ u) := by
  obtain ⟨xs, hr, hx⟩ := h.row
  refine ⟨xs, ?_, fun i l hl => ?_⟩
  · rcases hr with ⟨hl, h1 | ⟨g, cap, cur, hv, hb', hh, r⟩⟩
    · exact ⟨hl, .inl h1⟩
    · refine ⟨hl, .inr ⟨g, cap, cur, hv, hb', ?_, r⟩⟩
      rw [← hh]
      exact Go.Deep.blk_setCell_other w ⟨b, o, none⟩ u g (by simp; omega)
  · obtain ⟨al, c, q1, q2⟩ := hx i l hl
    refine ⟨al, c, q1, q2.imp id ?_⟩
    rintro ⟨bl, o2, e1, e2, e3, e4, e5⟩
    exact ⟨bl, o2, e1, by simpa [World.setCell] using e2, e3, e4, fun j x hj => (World.cell?_setCell_other _ _ _ _ (by simp; exact fun e => absurd e.symm e3)).trans (e5 j x hj)⟩
theorem ORow.cls {B b n c : Nat} {a : Option Addr} {D : Cl} {w : World} (h : ORow B b (.slice a n c) D w) : ClsAt w a D := by
  obtain ⟨xs, hr0, hx⟩ := h.row
  have hr := hr0
  rcases hr0 with ⟨_, ⟨h1, h2⟩ | ⟨g, cap, cur, hv, hb', hh, _⟩⟩
  · left; exact List.length_eq_zero_iff.1 h2
  · right
    injection hv with e1 e2 e3
    subst e1
    refine ⟨g, 0, rfl, (Array.getElem?_eq_some_iff.1 hh).1, fun j k hj => ?_⟩
    obtain ⟨al, c', q1, q3⟩ := hx j k hj
    have := hr.cells (g := g) rfl j _ q1
    have e : (⟨g, 0, none⟩ : Addr).add j = ⟨g, 0 + j, none⟩ := by
      unfold Addr.add
      split <;> simp_all
    rw [e] at this
    exact ⟨al, c', this, q3.ints⟩
/-- What lies ahead of it all. -/
theorem ORow.of {W w : World} {B b : Nat} {v : Value} {D : Cl} (h : DRow W B v D w) (hb : Below W.heap.size W w) (h1 : W.heap.size ≤ b) (h2 : W.heap.size ≤ B) : ORow B b v D w := by
  have hk := fun g => DRow.blk h (g := g)
  obtain ⟨xs, hr, hx⟩ := h.row
  refine ⟨xs, hr, fun i l hl => ?_⟩
  obtain ⟨al, c, q1, q2⟩ := hx i l hl
  refine ⟨al, c, q1, q2.imp id ?_⟩
  rintro ⟨bl, o, e1, e2, e3⟩
  exact ⟨bl, o, e1, Nat.lt_of_lt_of_le e2 hb.size, by omega, fun e => by have := hk bl e.symm; omega, fun j x hj => (hb.cell (p := ⟨bl, o + j, none⟩) e2).trans (e3 j x hj)⟩
/-- 'd.Clauses = append(d.Clauses, k)', as one step of a region that draws. -/
theorem step_own {w w0 : World} {B b : Nat} {v : Value} {C : Cl} {k : List Int} {kal : Option Addr} {kn kc : Nat} {ops : Array Oper} {o : Oper} {a : Act} {K : Act → World → Prop} {Q : Exit → Act → World → Prop} {E : Prop} (hgd : o.guard = none) (s x : Operand)
    (ho : o.op = .call { callee := .builtin .append, args := #[s, x], argTypes := #[22, 22] }) (hs : a.eval s = v) (h : ORow B b v C w0) (hB : B ≤ w0.heap.size) (hI : LAt b v w0 kal k) (hkn : kn = k.length) (hw : w = w0.alloc (.cells #[.slice kal kn kc] 25))
    (hx : a.eval x = .slice (some ⟨w0.heap.size, 0, none⟩) 1 1) (hl : C.length + 1 ≤ 1000000000) (cont : ∀ a' c' w', ORow B b (.slice a' (C.length + 1) c') (C ++ [k]) w' → w.grownBy w' v.ownBlock → K (a.put o.dst (.slice a' (C.length + 1) c')) w') : if Region.wanted o (yielded ops a.tmps) = true then Oper.wp Try.prog o a w K Q else E := by
  have hwd : Region.wanted o (yielded ops a.tmps) = true := by simp [Region.wanted, hgd]
  rw [if_pos hwd]
  obtain ⟨i0, hinfo, hi0, hi1, hi2⟩ := infos info_ints
  subst hkn
  have ka := bel_alloc (Below.refl w0.heap.size w0) (.cells #[.slice kal k.length kc] 25)
  have h' := h.call ka
  have hI' := hI.call ka
  obtain ⟨xs, hr, hxs⟩ := h'.row
  subst hw
  have hsz : (w0.alloc (.cells #[.slice kal k.length kc] 25)).heap.size = w0.heap.size + 1 := by simp
  obtain ⟨v', w2, hrun, hrow, hgr, _, hloc⟩ := run_append_own_at (P := Try.prog) (w0.alloc (.cells #[.slice kal k.length kc] 25)) B 22 o.type 25 i0 (.slice none 0 0) 1 24 Try.underlying22 hinfo hi0 hi1 hi2 rfl (by decide) v C.length xs hr ⟨w0.heap.size, 0, none⟩ 1 1 [.slice kal k.length kc] rfl (cell_one_new w0 _ 25) (by intro u hu; simp at hu; subst hu; rfl) (by unfold maxLen; omega) (by omega) (by omega)
  have mv : ∀ {al : Option Addr} {l : List Int}, LAt b v (w0.alloc (.cells #[.slice kal k.length kc] 25)) al l → LAt b v' w2 al l := fun hla => by
    refine hla.imp id ?_
    rintro ⟨bl, o2, e1, e2, e3, e4, e5⟩
    refine ⟨bl, o2, e1, Nat.lt_of_lt_of_le e2 hgr.size, e3, ?_, fun j x hj => (World.cell?_of_block (a := ⟨bl, o2 + j, none⟩) (hgr.block bl e2 e4)).trans (e5 j x hj)⟩
    rcases hloc with e | e
    · rw [e]; exact e4
    · rw [e]; intro ee; injection ee with ee; omega
  have e1 : (C ++ [k]).length = C.length + 1 := by simp
  have hlen : xs.length = C.length := by
    rcases hr with ⟨hl, _⟩
    simpa using hl
  have hG : ORow B b v' (C ++ [k]) w2 := by
    refine ⟨xs ++ [.slice kal k.length kc], by rw [e1]; exact hrow, fun i k' hk => ?_⟩
    by_cases hi : i < C.length
    · rw [List.getElem?_append_left hi] at hk
      obtain ⟨al, c, q1, q2⟩ := hxs i k' hk
      exact ⟨al, c, by rw [List.getElem?_append_left (by omega)]; exact q1, mv q2⟩
    · rw [List.getElem?_append_right (by omega)] at hk
      have hi0 : i - C.length = 0 := by
        have := (List.getElem?_eq_some_iff.1 hk).1
        simp at this
        omega
      rw [hi0] at hk
      obtain rfl : k = k' := by simpa using hk
      exact ⟨kal, kc, by rw [List.getElem?_append_right (by omega), hlen, hi0]; rfl, mv hI'⟩
  obtain ⟨a', c', rfl⟩ := hG.shape
  rw [e1] at hG hrun
  unfold Oper.wp
  simp [execOp, ho, resolve, invoke, builtin, hs, hx, hrun, Result.andThen]
  exact cont a' c' w2 hG hgr
end Rp
end Go.Proofs.Ytmgkgbhkaoflhaa
