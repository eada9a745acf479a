/-
  The document's parts (what stands between bytes), as a fact on one call; lists of texts, and of lists, that the call itself makes.
-/
import Derived.Test.YtcpehdeddgfpmaaDoorCfNum
import Derived.Maps.AppendAt
namespace Go.Proofs.YtcpehdeddgfpmaaDoor
open Go.RowKit
namespace Cf
set_option maxHeartbeats 1000000
set_option maxRecDepth 100000

structure GrowV (e : TypeId) (W : World) (v : Value) (xs : List Value) (w : World) : Prop where
  row : w.ownsRow W.heap.size e 1 v xs.length xs
  bel : Below W.heap.size W w
theorem GrowV.zero {e : TypeId} {W w : World} (h : Below W.heap.size W w) : GrowV e W (.slice none 0 0) [] w := ⟨World.ownsRow_nil _ _ _ _, h⟩
theorem GrowV.shape {e : TypeId} {W w : World} {v : Value} {xs : List Value} (h : GrowV e W v xs w) : ∃ a c, v = .slice a xs.length c := by
  rcases h.row with ⟨_, ⟨h1, h2⟩ | ⟨g, cap, cur, hv, _⟩⟩
  · exact ⟨none, 0, by rw [h1, h2]⟩
  · exact ⟨_, _, hv⟩
theorem GrowV.call {e : TypeId} {W w w' : World} {v : Value} {xs : List Value} (h : GrowV e W v xs w) (k : Below w.heap.size w w') : GrowV e W v xs w' := ⟨row_bel h.row k, bel_call h.bel k⟩
/-- Cells of a list. -/
def ValsAt (W : World) (al : Option Addr) (xs : List Value) : Prop :=
  xs = [] ∨ ∃ bl ol, al = some ⟨bl, ol, none⟩ ∧ bl < W.heap.size ∧ ∀ (j : Nat) (v : Value), xs[j]? = some v → W.cell? ⟨bl, ol + j, none⟩ = some v
theorem ValsAt.keep {W w : World} {al : Option Addr} {xs : List Value} (h : ValsAt W al xs) (hb : Below W.heap.size W w) : ValsAt w al xs := by
  refine h.imp id ?_
  rintro ⟨ab, ao, h1, h2, h3⟩
  exact ⟨ab, ao, h1, Nat.lt_of_lt_of_le h2 hb.size, fun j v hj => (hb.cell (p := ⟨ab, ao + j, none⟩) h2).trans (h3 j v hj)⟩
theorem GrowV.vals {e : TypeId} {W w : World} {a : Option Addr} {n c : Nat} {xs : List Value} (h : GrowV e W (.slice a n c) xs w) : ValsAt w a xs := by
  have hr := h.row
  rcases h.row with ⟨_, ⟨h1, h2⟩ | ⟨g, cap, cur, hv, hb, hh, _⟩⟩
  · left; exact List.length_eq_zero_iff.1 h2
  · right
    injection hv with e1 e2 e3
    subst e1
    refine ⟨g, 0, rfl, (Array.getElem?_eq_some_iff.1 hh).1, fun j v hj => ?_⟩
    have := hr.cells (g := g) rfl j v hj
    have e : (⟨g, 0, none⟩ : Addr).add j = ⟨g, 0 + j, none⟩ := by
      unfold Addr.add
      split <;> simp_all
    rw [e] at this
    exact this
theorem info_str : (Tryd.prog.info? 9).map (fun i => (i.zero, i.size, i.bytes)) = some (some (.string ⟨#[]⟩), 1, 16) := by kernel_rfl
theorem info_ints : (Tryd.prog.info? 34).map (fun i => (i.zero, i.size, i.bytes)) = some (some (.slice none 0 0), 1, 24) := by kernel_rfl

/-- 'l = append(l, x)', whatever the elements are. -/
theorem wpList_growV {e t : TypeId} {z0 : Value} {bytes : Nat} (hinf : (Tryd.prog.info? e).map (fun i => (i.zero, i.size, i.bytes)) = some (some z0, 1, bytes)) (ht : Tryd.prog.underlying t = some (.slice e)) (hz0 : z0.cells.size = 1) (hby : bytes ≤ 100)
    {W w w0 : World} {v : Value} {xs : List Value} {z : Value} {ops : Array Oper} {rest : List Oper} {o : Oper} {a : Act} {Q : Exit → Act → World → Prop} (hgd : o.guard = none) (s x : Operand)
    (ho : o.op = .call { callee := .builtin .append, args := #[s, x], argTypes := #[t, t] }) (hs : a.eval s = v) (h : GrowV e W v xs w0) (hw : w = w0.alloc (.cells #[z] e)) (hz : z.oneCell' = true)
    (hx : a.eval x = .slice (some ⟨w0.heap.size, 0, none⟩) 1 1) (hl : xs.length + 1 ≤ 1000000000) (k : ∀ a' c' w', GrowV e W (.slice a' (xs.length + 1) c') (xs ++ [z]) w' → wpList Tryd.prog ops Q rest (a.put o.dst (.slice a' (xs.length + 1) c')) w') : wpList Tryd.prog ops Q (o :: rest) a w := by
  obtain ⟨i0, hinfo, hi0, hi1, hi2⟩ := infos hinf
  have h' := h.call (bel_alloc (Below.refl w0.heap.size w0) (.cells #[z] e))
  subst hw
  have hm : (xs.length + 1) * bytes ≤ (xs.length + 1) * 100 := Nat.mul_le_mul_left _ hby
  refine wpList_append_own_at _ hgd s x t ho W.heap.size e i0 z0 1 bytes ht hinfo hi0 hi1 hi2 hz0 (by decide) v xs.length xs hs h'.row ⟨w0.heap.size, 0, none⟩ 1 1 [z] hx rfl (cell_one_new w0 z e) (by intro u hu; simp at hu; subst hu; exact hz) (by unfold maxLen; omega) (by omega) h'.bel.size ?_
  intro v' w2 hrow hgr _ hloc
  have hG : GrowV e W v' (xs ++ [z]) w2 := by
    refine ⟨?_, ?_⟩
    · have e1 : (xs ++ [z]).length = xs.length + 1 := by simp
      rw [e1]; exact hrow
    · exact bel_grown h'.bel hgr (fun i hi => by
        rcases h.row with ⟨_, ⟨h1, h2⟩ | ⟨g, cap, cur, hv, hb, _⟩⟩
        · rw [h1] at hi; cases hi
        · rw [hv] at hi; injection hi with hi; rw [← hi]; exact hb)
  obtain ⟨a', c', rfl⟩ := hG.shape
  have e1 : (xs ++ [z]).length = xs.length + 1 := by simp
  rw [e1] at hG ⊢
  exact k a' c' w2 hG

def strV (s : By) : Value := .string ⟨s.toArray⟩
def consB (p : By) : List By → List By
  | h :: t => (p ++ h) :: t
  | [] => [p]
theorem split_cons (b c : UInt8) (r : By) : splitB b (c :: r) = if c = b then [] :: splitB b r else consB [c] (splitB b r) := by
  rw [splitB]
  split
  · rfl
  · cases splitB b r <;> rfl
theorem consB_cat (p q : By) (l : List By) : consB p (consB q l) = consB (p ++ q) l := by
  cases l <;> simp [consB]
theorem consB_nil {b : UInt8} {s : By} : consB [] (splitB b s) = splitB b s := by
  cases h : splitB b s with
  | nil => exact absurd h (split_ne b s)
  | cons x y => rfl
theorem extract_snoc {s : ByteArray} {f i : Nat} {c : UInt8} (hf : f ≤ i) (hi : i < s.size) (hc : s[i]'hi = c) : (s.extract f (i + 1)).data.toList = (s.extract f i).data.toList ++ [c] := by
  subst hc
  have hs : s.size = s.data.toList.length := (Array.length_toList).symm
  rw [ByteArray.data_extract, ByteArray.data_extract]
  simp only [Array.toList_extract, List.extract_eq_take_drop]
  rw [show i + 1 - f = (i - f) + 1 by omega, List.take_add_one]
  congr 1
  rw [List.getElem?_drop, show f + (i - f) = i by omega]
  have hi' : i < s.data.toList.length := by rw [← hs]; exact hi
  rw [List.getElem?_eq_getElem hi']
  simp
  rfl
theorem str_of {s : ByteArray} {t : By} (h : s.data.toList = t) : Value.string s = strV t := by
  subst h
  rfl
theorem drop_byte {s : ByteArray} {i : Nat} {c : UInt8} (hi : i < s.size) (hc : s[i]'hi = c) : s.data.toList.drop i = c :: s.data.toList.drop (i + 1) := by
  subst hc
  have hs : s.size = s.data.toList.length := (Array.length_toList).symm
  rw [List.drop_eq_getElem_cons (by rw [← hs]; exact hi)]
  congr 1

theorem grow_str {W w : World} {v z : Value} {acc : List By} {x : ByteArray} (h : GrowV 9 W v (acc.map strV ++ [z]) w) (hz : z = .string x) : GrowV 9 W v ((acc ++ [x.data.toList]).map strV) w := by
  subst hz
  rw [List.map_append]
  exact h
def PartsE (W : World) (b : UInt8) (S : By) (e : Ending) (w : World) : Prop := ∃ v, e = .returned v ∧ GrowV 9 W v ((splitB b S).map strV) w
theorem rparts_any {s : ByteArray} {bi : Int} {b : UInt8} {W : World} (hb : bi = ((b.toNat : Nat) : Int)) (hs : s.size ≤ 1000000) :
    Calls Tryd.prog 20 #[.string s, .int .u8 bi] W (PartsE W b s.data.toList) := by
  obtain ⟨R, hR⟩ : ∃ R, R = splitB b s.data.toList := ⟨_, rfl⟩
  have HR := Lib.hid hR
  have HB := Lib.hid hb
  unfold PartsE
  rw [← hR]
  clear hR hb
  go_enter Tryd.func20, Tryd.ntmps20
  go_wp2_with fail
  go_loopg [5, 6, 7] s.size (fun gk v5 v6 v7 wr => ∃ (i f : Nat) (acc : List By), v6 = .int .i64 ((f : Nat) : Int) ∧ v7 = .int .i64 ((i : Nat) : Int) ∧ i + gk = s.size ∧ f ≤ i ∧ acc.length ≤ i ∧ GrowV 9 W v5 (acc.map strV) wr ∧ R = acc ++ consB (s.extract f i).data.toList (splitB b (s.data.toList.drop i)))
  case atStart => exact ⟨0, 0, [], rfl, rfl, by omega, Nat.le_refl _, by simp, GrowV.zero (Below.refl _ _), by rw [HR.out]; simp [consB_nil]⟩
  case round =>
    obtain ⟨i, f, acc, rfl, rfl, hi, hfi, hal, hg, hr⟩ := hrel
    obtain ⟨ga, gc, rfl⟩ := hg.shape
    have HI := Lib.hid hi
    have HG := Lib.hid hg
    have HRR := Lib.hid hr
    have HAL := Lib.hid hal
    have HFI := Lib.hid hfi
    have q0 : (0 : Int) ≤ ((i : Nat) : Int) := by omega
    have f0 : (0 : Int) ≤ ((f : Nat) : Int) := by omega
    have f1 : ((f : Nat) : Int) ≤ ((i : Nat) : Int) := by omega
    have hml : (acc.map strV).length = acc.length := by simp
    obtain ⟨na, hna⟩ : ∃ na, na = (acc.map strV).length := ⟨_, rfl⟩
    have HNA := Lib.hid (hna.trans hml)
    rw [← hna] at HG ⊢
    by_cases hlt : i < s.size
    · have q1 : ((i : Nat) : Int) < ((s.size : Nat) : Int) := by omega
      have q2 : ((i : Nat) : Int) ≤ ((s.size : Nat) : Int) := by omega
      have HS := Lib.hid (step_i (j := i) (by omega))
      obtain ⟨c, hc⟩ : ∃ c, c = s[i]'hlt := ⟨_, rfl⟩
      have HX := Lib.hid (extract_snoc hfi hlt hc.symm)
      have HD := Lib.hid (drop_byte hlt hc.symm)
      have HE : Hid (f = i → s.extract f i = ⟨#[]⟩) := by
        show _ → _
        intro e
        subst e
        apply ByteArray.ext
        simp
      by_cases he : c = b
      · have d1 : (((s[i]'hlt).toNat : Int) == bi) = true := by rw [HB.out, ← hc, he]; simp
        have HSPL : Hid (R = (acc ++ [(s.extract f i).data.toList]) ++ consB (s.extract (i + 1) (i + 1)).data.toList (splitB b (s.data.toList.drop (i + 1)))) := by
          show _ = _
          rw [HRR.out, HD.out, split_cons, if_pos he]
          have : (s.extract (i + 1) (i + 1)).data.toList = [] := by simp
          rw [this, consB_nil]
          simp [consB]
        clear hi hfi hal hg hr hml hna hc he
        go_wp2_with (at_builtin; refine wpList_growV info_str Tryd.underlying48 rfl (by decide) rfl (.tmp 19) (.tmp 24) rfl rfl HG.out rfl rfl rfl (by have := HAL.out; simp; omega) ?_; intro va vc w2 hg2; rw [List.length_map] at hg2 ⊢; have HG2 := Lib.hid (grow_str hg2 rfl); clear hg2)
        go_roundg (gk - 1)
        case measure => have := HI.out; omega
        case rel => exact ⟨i + 1, i + 1, acc ++ [(s.extract f i).data.toList], by first | rfl | (rw [HS.out.1]) | (congr 1; exact HS.out.1), by first | rfl | (rw [HS.out.1]) | (congr 1; exact HS.out.1), by have := HI.out; omega, Nat.le_refl _, by have := HAL.out; simp; omega, HG2.out, HSPL.out⟩
      · have d1 : (((s[i]'hlt).toNat : Int) == bi) = false := by
          rw [HB.out, ← hc]
          have : ¬ ((c.toNat : Nat) : Int) = ((b.toNat : Nat) : Int) := fun e => he (UInt8.toNat_inj.1 (by omega))
          simpa using this
        have HSPL : Hid (R = acc ++ consB (s.extract f (i + 1)).data.toList (splitB b (s.data.toList.drop (i + 1)))) := by
          show _ = _
          rw [HRR.out, HD.out, split_cons, if_neg he, consB_cat, HX.out]
        clear hi hfi hal hg hr hml hna hc he
        go_wp2_with fail
        go_roundg (gk - 1)
        case measure => have := HI.out; omega
        case rel => exact ⟨i + 1, f, acc, rfl, by first | rfl | (rw [HS.out.1]) | (congr 1; exact HS.out.1), by have := HI.out; omega, by have := HFI.out; omega, by have := HAL.out; omega, HG.out, HSPL.out⟩
    · have q1 : decide (((i : Nat) : Int) < ((s.size : Nat) : Int)) = false := decide_eq_false (by omega)
      have q5 : decide (i < s.size) = false := decide_eq_false hlt
      have hie : i = s.size := by omega
      have HE : Hid (R = acc ++ [(s.extract f s.size).data.toList]) := by
        show _ = _
        rw [HRR.out, ← hie, List.drop_eq_nil_of_le (by rw [hie]; exact Nat.le_of_eq (Array.length_toList))]
        simp [splitB, consB]
      have f2 : ((f : Nat) : Int) ≤ ((s.size : Nat) : Int) := by omega
      have HIE := Lib.hid hie
      clear hi hfi hal hg hr hml hna hie hlt
      go_wp2_with (at_builtin; refine wpList_growV info_str Tryd.underlying48 rfl (by decide) rfl (.tmp 28) (.tmp 32) rfl rfl HG.out rfl rfl rfl (by have := HAL.out; have := HIE.out; simp; omega) ?_; intro va vc w2 hg2; rw [List.length_map] at hg2 ⊢; have HG2 := Lib.hid (grow_str hg2 rfl); clear hg2)
      go_ret
      exact ⟨_, rfl, by rw [HE.out]; exact HG2.out⟩
end Cf
end Go.Proofs.YtcpehdeddgfpmaaDoor
