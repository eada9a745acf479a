/-
  A list of numbers that the call itself makes and appends to.
-/
import Derived.Test.YtmgkgbhkaoflhaaCfLook
import Derived.Maps.AppendAt
namespace Go.Proofs.Ytmgkgbhkaoflhaa
open Go.RowKit
namespace Cf
set_option maxHeartbeats 1000000
set_option maxRecDepth 100000

def rowI (T : List Int) : List Value := T.map fun x => .int .i64 x
structure GrowI (W : World) (v : Value) (T : List Int) (w : World) : Prop where
  row : w.ownsRow W.heap.size 3 1 v T.length (rowI T)
  bel : Below W.heap.size W w
theorem GrowI.zero {W w : World} (h : Below W.heap.size W w) : GrowI W (.slice none 0 0) [] w := ⟨World.ownsRow_nil _ _ _ _, h⟩
theorem GrowI.shape {W w : World} {v : Value} {T : List Int} (h : GrowI W v T w) : ∃ a c, v = .slice a T.length c := by
  rcases h.row with ⟨_, ⟨h1, h2⟩ | ⟨g, cap, cur, hv, _⟩⟩
  · exact ⟨none, 0, by rw [h1, h2]⟩
  · exact ⟨_, _, hv⟩
theorem GrowI.ints {W w : World} {a : Option Addr} {n c : Nat} {T : List Int} (h : GrowI W (.slice a n c) T w) : IntsAt w a T := by
  have hr := h.row
  rcases h.row with ⟨_, ⟨h1, h2⟩ | ⟨g, cap, cur, hv, hb, hh, _⟩⟩
  · left; exact List.length_eq_zero_iff.1 h2
  · right
    injection hv with e1 e2 e3
    subst e1
    refine ⟨g, 0, rfl, (Array.getElem?_eq_some_iff.1 hh).1, fun j v hj => ?_⟩
    have := hr.cells (g := g) rfl j (.int .i64 v) (by simp [rowI, hj])
    have e : (⟨g, 0, none⟩ : Addr).add j = ⟨g, 0 + j, none⟩ := by
      unfold Addr.add
      split <;> simp_all
    rw [e] at this
    exact this
theorem row_bel {w w' : World} {base size : Nat} {e : TypeId} {v : Value} {n : Nat} {xs : List Value} (h : w.ownsRow base e size v n xs) (k : Below w.heap.size w w') : w'.ownsRow base e size v n xs := by
  rcases h with ⟨hl, h1 | ⟨g, cap, cur, hv, hb, hh, r⟩⟩
  · exact ⟨hl, .inl h1⟩
  · exact ⟨hl, .inr ⟨g, cap, cur, hv, hb, (k.block g (Array.getElem?_eq_some_iff.1 hh).1).trans hh, r⟩⟩
theorem GrowI.call {W w w' : World} {v : Value} {T : List Int} (h : GrowI W v T w) (k : Below w.heap.size w w') : GrowI W v T w' := ⟨row_bel h.row k, bel_call h.bel k⟩
theorem GrowI.drewN {W w : World} {v : Value} {T : List Int} (h : GrowI W v T w) (q : Nat) : GrowI W v T (w.drewN q) := h.call (bel_drewN (Below.refl _ _) q)
theorem bel_grown {W w w' : World} {r : Option Nat} (h : Below W.heap.size W w) (g : w.grownBy w' r) (hr : ∀ i, r = some i → W.heap.size ≤ i) : Below W.heap.size W w' := by
  refine ⟨g.os.trans h.os, g.tape.trans h.tape, g.output.trans h.output, Nat.le_trans h.size g.size, fun i hi => ?_⟩
  exact (g.block i (Nat.lt_of_lt_of_le hi h.size) (fun e => by have := hr i e.symm; omega)).trans (h.block i hi)
theorem infos {t : TypeId} {z : Value} {a b : Nat} (h : (Try.prog.info? t).map (fun i => (i.zero, i.size, i.bytes)) = some (some z, a, b)) : ∃ i, Try.prog.info? t = some i ∧ i.zero = some z ∧ i.size = a ∧ i.bytes = b := by
  cases hi : Try.prog.info? t with
  | none => rw [hi] at h; cases h
  | some i =>
    rw [hi] at h
    simp only [Option.map_some, Option.some.injEq, Prod.mk.injEq] at h
    exact ⟨i, rfl, h.1, h.2.1, h.2.2⟩
theorem info_int : (Try.prog.info? 3).map (fun i => (i.zero, i.size, i.bytes)) = some (some (.int .i64 0), 1, 8) := by kernel_rfl

/-- 'came = append(came, x)'. -/
theorem wpList_grow {W w w0 : World} {v : Value} {T : List Int} {z : Int} {ops : Array Oper} {rest : List Oper} {o : Oper} {a : Act} {Q : Exit → Act → World → Prop} (hgd : o.guard = none) (s x : Operand)
    (ho : o.op = .call { callee := .builtin .append, args := #[s, x], argTypes := #[25, 25] }) (hs : a.eval s = v) (h : GrowI W v T w0) (hw : w = w0.alloc (.cells #[.int .i64 z] 3))
    (hx : a.eval x = .slice (some ⟨w0.heap.size, 0, none⟩) 1 1) (hl : T.length + 1 ≤ 1000000000) (k : ∀ a' c' w', GrowI W (.slice a' (T.length + 1) c') (T ++ [z]) w' → wpList Try.prog ops Q rest (a.put o.dst (.slice a' (T.length + 1) c')) w') : wpList Try.prog ops Q (o :: rest) a w := by
  obtain ⟨i0, hinfo, hz0, hz1, hz2⟩ := infos info_int
  have hb : w0.heap.size < (w0.alloc (.cells #[.int .i64 z] 3)).heap.size := by simp
  have h' := h.call (bel_alloc (Below.refl w0.heap.size w0) (.cells #[.int .i64 z] 3))
  subst hw
  refine wpList_append_own_at _ hgd s x 25 ho W.heap.size 3 i0 (.int .i64 0) 1 8 Try.underlying25 hinfo hz0 hz1 hz2 rfl (by decide) v T.length (rowI T) hs h'.row ⟨w0.heap.size, 0, none⟩ 1 1 [.int .i64 z] hx rfl (cell_one_new w0 (.int .i64 z) 3) (by intro u hu; simp at hu; subst hu; rfl) (by unfold maxLen; omega) (by omega) h'.bel.size ?_
  intro v' w2 hrow hgr _ hloc
  have hG : GrowI W v' (T ++ [z]) w2 := by
    refine ⟨?_, ?_⟩
    · have e1 : (T ++ [z]).length = T.length + 1 := by simp
      have e2 : rowI (T ++ [z]) = rowI T ++ [.int .i64 z] := by simp [rowI]
      rw [e1, e2]; exact hrow
    · exact bel_grown h'.bel hgr (fun i hi => by
        rcases h.row with ⟨_, ⟨h1, h2⟩ | ⟨g, cap, cur, hv, hb, _⟩⟩
        · rw [h1] at hi; cases hi
        · rw [hv] at hi; injection hi with hi; rw [← hi]; exact hb)
  obtain ⟨a', c', rfl⟩ := hG.shape
  have e1 : (T ++ [z]).length = T.length + 1 := by simp
  rw [e1] at hG ⊢
  exact k a' c' w2 hG
theorem new_cell (W : World) (A : Array Value) (t : TypeId) (j : Nat) : (W.alloc (.cells A t)).cell? ⟨W.heap.size, j, none⟩ = A[j]? := by
  have h : (W.alloc (.cells A t)).heap[W.heap.size]? = some (.cells A t) := by
    show (W.heap.push (.cells A t))[W.heap.size]? = _
    simp
  unfold World.cell?
  rw [h]
  simp
end Cf
end Go.Proofs.Ytmgkgbhkaoflhaa
