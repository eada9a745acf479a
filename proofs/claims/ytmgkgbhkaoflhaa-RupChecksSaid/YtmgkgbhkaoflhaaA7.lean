/-
A list of watchers that is cut in place: memory while it is gone through.
The clauses that watch a literal watch another one, or what else they watch comes.
-/
import Derived.Test.YtmgkgbhkaoflhaaRwMoves
namespace Go.Proofs.Ytmgkgbhkaoflhaa
open Go.RowKit
namespace Rw
open Cf Rp
set_option maxHeartbeats 3200000
set_option maxRecDepth 100000

/-- What stays the same while literals come. -/
structure Like (s s' : PS) : Prop where
  ids : s'.ids = s.ids
  S : s'.S = s.S
  br : s'.br = s.br
  perm : ∀ id ∈ s.ids, (s'.lit id).Perm (s.lit id)
  T : ∃ more, s'.T = s.T ++ more
theorem Like.refl (s : PS) : Like s s := ⟨rfl, rfl, rfl, fun _ _ => List.Perm.refl _, [], by simp⟩
theorem Like.trans {s s1 s2 : PS} (h : Like s s1) (k : Like s1 s2) : Like s s2 := by
  obtain ⟨m, hm⟩ := h.T
  obtain ⟨n, hn⟩ := k.T
  exact ⟨k.ids.trans h.ids, k.S.trans h.S, k.br.trans h.br, fun id hid => (k.perm id (by rw [h.ids]; exact hid)).trans (h.perm id hid), m ++ n, by rw [hn, hm, List.append_assoc]⟩
theorem Like.lit {s : PS} {c a : Nat} {W : Nat → List Nat} {l : List Int} (h : c ∈ s.ids → l.Perm (s.lit c)) : Like s { s with lit := up s.lit c l, ax := up s.ax c a, W := W } :=
  ⟨rfl, rfl, rfl, fun id hid => by
    show (up s.lit c l id).Perm _
    by_cases e : id = c
    · subst e; rw [up_at]; exact h hid
    · rw [up_ne e], [], by simp⟩
theorem Like.come (s : PS) (x : Int) : Like s (s.come x) := by
  unfold PS.come
  split
  · exact Like.refl _
  · exact ⟨rfl, rfl, rfl, fun _ _ => List.Perm.refl _, [x], rfl⟩
theorem Like.hol {s s' : PS} (h : Like s s') {x : Int} (hx : s.hol x = true) : s'.hol x = true := by
  obtain ⟨m, hm⟩ := h.T
  unfold PS.hol at *
  rw [h.S, hm]
  simp at *
  rcases hx with e | e
  · exact .inl e
  · exact .inr (.inl e)
theorem Like.len {s s' : PS} (h : Like s s') {id : Nat} (hid : id ∈ s.ids) : (s'.lit id).length = (s.lit id).length := (h.perm id hid).length_eq
theorem WI.len {v : Nat} {s : PS} (h : WI v s) (p : Nat) : (s.W p).length ≤ s.ids.length := List.Nodup.length_le_of_subset (h.nodup p) fun id hid => (h.sub p id hid).1
theorem nodup_lits {v : Nat} {T : List Int} (h : T.Nodup) (hl : ∀ x ∈ T, isL x v = true) : T.length ≤ 2 * v + 1 := by
  have h1 : (T.map (pl v)).Nodup := List.pairwise_map.2 (List.Pairwise.imp_of_mem (fun {a b} ha hb hne => fun e => hne (pl_inj (hl a ha) (hl b hb) e)) h)
  have := List.Nodup.length_le_of_subset (l₂ := List.range (2 * v + 1)) h1 fun y hy => by
    obtain ⟨x, hx, rfl⟩ := List.mem_map.1 hy
    exact List.mem_range.2 (pl_lt (hl x hx))
  simpa using this
theorem RI.base {v : Nat} {C : Cl} {g : List Int} {s : PS} {Pr : Nat → Int → Prop} (h : RI v C g s Pr) : RI v C g s (fun _ z => s.S z = true) := by
  have ls : ∀ x, s.S x = true → s.hol x = true := fun x hx => by unfold PS.hol; rw [hx]; rfl
  exact ⟨h.wi, h.i0, h.cons, h.ent, h.entS, h.snd, h.nod, fun id hid x y ht hs => ls y (h.i0 id hid x y ht hs), fun _ z hz => ls z hz⟩

section
variable {B v : Nat} {w w' : World} {k : Nat} {L : Lay} {s : PS} {D : Int → Bool} {gap : Option Nat}
/-- What the gap's list is said to be does not matter. -/
theorem KAt.gapW {p : Nat} (h : KAt B v w k L s D (some p)) (l : List Nat) : KAt B v w k L { s with W := up s.W p l } D (some p) :=
  ⟨h.ck, h.cw, h.su, h.de, h.ca, fun p' hp hg => by
    have e : p' ≠ p := fun e => hg (by rw [e])
    show w.ownsRow B _ 1 _ (up s.W p l p').length (rowC (up s.W p l p'))
    rw [up_ne e]; exact h.ws p' hp hg, h.cl, h.cq, h.tk, h.tw, h.ts, h.td, h.tc, h.tl, h.ti, h.tq, h.low⟩
/-- Into the gap. -/
theorem KAt.enter (h : KAt B v w k L s D none) {p g n cap : Nat} (hp : p < 2 * v + 1) (hv : L.wv p = .slice (some ⟨g, 0, none⟩) n cap) :
    KAt B v w k { L with tag := tagOf L.tag (some g) .non } s D (some p) ∧ (∃ xs : List Value, w.heap[g]? = some (.cells xs.toArray 74 (0, 0)) ∧ xs.length = cap ∧ xs.take n = rowC (s.W p)) ∧ n = (s.W p).length ∧ n ≤ cap ∧ cap ≤ maxLen ∧ B ≤ g ∧ g < w.heap.size ∧ L.tag g = .lst p := by
  have hr := h.ws p hp nofun
  have tg := h.tl p hp nofun g (by rw [hv]; rfl)
  have ne : ∀ {b : Nat} {r : Role}, L.tag b = r → r ≠ .lst p → tagOf L.tag (some g) .non b = r := fun {b r} e h1 => (tagOf_ne (fun c => by
    injection c with c
    subst c
    exact h1 (e.symm.trans tg))).trans e
  refine ⟨⟨h.ck, h.cw, h.su, h.de, h.ca, fun p' hp' _ => h.ws p' hp' nofun, h.cl, h.cq, ne h.tk nofun, ne h.tw nofun, ne h.ts nofun, ne h.td nofun, fun b e => ne (h.tc b e) nofun, fun p' hp' hg b e => ne (h.tl p' hp' nofun b e) (fun c => by injection c with c; exact hg (by rw [c])), fun c hc => ne (h.ti c hc) nofun, fun c hc b e => ne (h.tq c hc b e) nofun, fun b hb => ?_⟩, ?_⟩
  · have hb : tagOf L.tag (some g) .non b ≠ .non := hb
    by_cases e : some g = some b
    · injection e with e
      subst e
      rw [tagOf_at] at hb
      exact absurd rfl hb
    · rw [tagOf_ne e] at hb
      exact h.low b hb
  · rcases hr with ⟨h0, ⟨h1, h2⟩ | ⟨g', cap', cur, hv', hb, hh, hc, hm, hz, ht⟩⟩
    · rw [hv] at h1; cases h1
    · rw [hv] at hv'
      injection hv' with e1 e2 e3
      injection e1 with e1
      injection e1 with e1
      subst e1 e2 e3
      exact ⟨⟨cur.toList, by simpa using hh, by simpa using hz, by simpa using ht⟩, rfl, hc, hm, hb, (h.low g (by rw [tg]; nofun)).2, tg⟩
/-- Out of the gap: 'watching[p] = x'. -/
theorem KAt.leaveGap {p g n cap : Nat} {l : List Nat} {xs : List Value} (h : KAt B v w k L s D (some p)) (hp : p < 2 * v + 1) (hg : L.tag g = .non) (hB : B ≤ g) (hh : w.heap[g]? = some (.cells xs.toArray 74 (0, 0))) (hl : xs.length = cap) (hm : cap ≤ maxLen) (hn : n = l.length) (ht : xs.take n = rowC l) (hc : n ≤ cap) :
    KAt B v (w.setCell ⟨L.wb, p, none⟩ (.slice (some ⟨g, 0, none⟩) n cap)) k { L with wv := up L.wv p (.slice (some ⟨g, 0, none⟩) n cap), tag := tagOf L.tag (some g) (.lst p) } { s with W := up s.W p l } D none := by
  have hgs : g < w.heap.size := (Array.getElem?_eq_some_iff.1 hh).1
  have hz : w.heap.size ≤ (w.setCell ⟨L.wb, p, none⟩ (.slice (some ⟨g, 0, none⟩) n cap)).heap.size := by simp [World.setCell]
  have hs : ∀ b, L.tag b ≠ .wat → (w.setCell ⟨L.wb, p, none⟩ (.slice (some ⟨g, 0, none⟩) n cap)).heap[b]? = w.heap[b]? := fun b hb => heap_setCell_other w _ b _ (fun e => hb (by rw [show b = L.wb from e]; exact h.tw))
  have q : ∀ {b : Nat} {r : Role}, L.tag b = r → r ≠ .non → tagOf L.tag (some g) (.lst p) b = r := fun {b r} hb h1 => (tagOf_ne (fun e => by
    injection e with e
    subst e
    exact h1 (hb.symm.trans hg))).trans hb
  subst hn
  refine ⟨(hs k (by rw [h.tk]; nofun)).trans h.ck, by rw [← rowW_set]; exact heap_setCell_same w L.wb p _ _ _ h.cw, h.su.same (hs _ (by rw [h.ts]; nofun)), h.de.same (hs _ (by rw [h.td]; nofun)),
    same_row h.ca (fun b e => hs b (by rw [h.tc b e]; nofun)), fun p' hp' _ => ?_,
    fun c hc => (hs c (by rw [h.ti c hc]; nofun)).trans (h.cl c hc), fun c hc => same_row (h.cq c hc) (fun b e => hs b (by rw [h.tq c hc b e]; nofun)),
    q h.tk nofun, q h.tw nofun, q h.ts nofun, q h.td nofun, fun b e => q (h.tc b e) nofun, fun p' hp' _ b e => ?_, fun c hc => q (h.ti c hc) nofun, fun c hc b e => q (h.tq c hc b e) nofun, fun b hb => ?_⟩
  · show World.ownsRow _ B _ 1 (up L.wv p _ p') (up s.W p l p').length (rowC (up s.W p l p'))
    by_cases e : p' = p
    · subst e
      rw [up_at, up_at]
      exact ⟨by simp [rowC], .inr ⟨g, cap, xs.toArray, rfl, hB, (hs g (by rw [hg]; nofun)).trans hh, hc, hm, by simpa using hl, by simpa using ht⟩⟩
    · rw [up_ne e, up_ne e]
      have hgp : some p ≠ some p' := fun c => e (by injection c with c; exact c.symm)
      exact same_row (h.ws p' hp' hgp) (fun b e2 => hs b (by rw [h.tl p' hp' hgp b e2]; nofun))
  · have e : (up L.wv p _ p').ownBlock = some b := e
    show tagOf L.tag (some g) (.lst p) b = _
    by_cases e2 : p' = p
    · subst e2
      rw [up_at] at e
      have e : some g = some b := e
      injection e with e
      subst e
      exact tagOf_at
    · rw [up_ne e2] at e
      exact q (h.tl p' hp' (fun c => e2 (by injection c with c; exact c.symm)) b e) nofun
  · by_cases e : some g = some b
    · injection e with e
      subst e
      exact ⟨hB, Nat.lt_of_lt_of_le hgs hz⟩
    · have hb : tagOf L.tag (some g) (.lst p) b ≠ .non := hb
      rw [tagOf_ne e] at hb
      exact ⟨(h.low b hb).1, Nat.lt_of_lt_of_le (h.low b hb).2 hz⟩
theorem Kept.setRow {L1 : Lay} {w0 : World} (h : Kept L w0 w L1) {g : Nat} (hg : L.tag g ≠ .non) (cs : Array Value) : Kept L w0 (w.setRow g cs) L1 :=
  ⟨h.os, h.tape, h.output, by simpa using h.size, fun b hb ht => ⟨(setRow_other w g b cs (fun e => hg (by rw [← e]; exact ht))).trans (h.blk b hb ht).1, (h.blk b hb ht).2⟩⟩
theorem KAt.setRow (h : KAt B v w k L s D gap) {g : Nat} (hg : L.tag g = .non) (cs : Array Value) : KAt B v (w.setRow g cs) k L s D gap :=
  h.same (by simp) fun b hb => setRow_other w g b cs (fun e => hb (by rw [e]; exact hg))
end
/-- An append that has room. -/
theorem run_room (w : World) (ty : TypeId) {g n cap m c : Nat} {xs news : List Value} {a : Addr} (hh : w.heap[g]? = some (.cells xs.toArray 74 (0, 0))) (hl : xs.length = cap) (hn : news.length = m) (hc : ∀ j u, news[j]? = some u → w.cell? (a.add j) = some u) (h1 : ∀ u ∈ news, u.oneCell' = true) (hroom : n + m ≤ cap) :
    (Builtin.append_ #[86, 86] ty #[.slice (some ⟨g, 0, none⟩) n cap, .slice (some a) m c]).run Try.prog w = .ok (.slice (some ⟨g, 0, none⟩) (n + m) cap) (w.setRow g (xs.take n ++ news ++ xs.drop (n + m)).toArray) := by
  obtain ⟨i0, hinfo, hz0, hz1, hz2⟩ := infos info_ptr
  have := run_append_room w 86 ty 74 i0 Try.underlying86 hinfo g n cap xs.toArray hh a m c news (by rw [hz1, hn, Nat.mul_one]) hc h1 hroom (by rw [hz1]; simp; omega)
  rw [hz1, Nat.mul_one, hn] at this
  simpa using this
theorem wpList_run {W : World} {ops : Array Oper} {rest : List Oper} {o : Oper} {a : Act} {Q : Exit → Act → World → Prop} (hgd : o.guard = none) (sl x : Operand) (t : TypeId)
    (ho : o.op = .call { callee := .builtin .append, args := #[sl, x], argTypes := #[t, t] }) {sv xv v' : Value} {W' : World} (hs : a.eval sl = sv) (hx : a.eval x = xv) (hr : (Builtin.append_ #[t, t] o.type #[sv, xv]).run Try.prog W = .ok v' W')
    (h : wpList Try.prog ops Q rest (a.put o.dst v') W') : wpList Try.prog ops Q (o :: rest) a W := by
  refine wpList_plain hgd fun K hK => ?_
  unfold Oper.wp execOp
  simp only [ho, resolve, invoke, builtin, Sem.run_bind, Sem.run_pure, Result.andThen_ok, List.map_toArray, List.map_cons, List.map_nil, hs, hx, hr]
  exact hK _ _ h
theorem step_run {W : World} {ops : Array Oper} {o : Oper} {a : Act} {K : Act → World → Prop} {Q : Exit → Act → World → Prop} {E : Prop} (hgd : o.guard = none) (sl x : Operand) (t t2 : TypeId)
    (ho : o.op = .call { callee := .builtin .append, args := #[sl, x], argTypes := #[t, t2] }) {sv xv v' : Value} {W' : World} (hs : a.eval sl = sv) (hx : a.eval x = xv) (hr : (Builtin.append_ #[t, t2] o.type #[sv, xv]).run Try.prog W = .ok v' W')
    (h : K (a.put o.dst v') W') : if Region.wanted o (yielded ops a.tmps) = true then Oper.wp Try.prog o a W K Q else E := by
  have hw : Region.wanted o (yielded ops a.tmps) = true := by simp [Region.wanted, hgd]
  rw [if_pos hw]
  unfold Oper.wp
  simp [execOp, ho, resolve, invoke, builtin, hs, hx, hr, Result.andThen]
  exact h
/-- Which of the two it is. -/
theorem other_any {B v : Nat} {W : World} {k : Nat} {L : Lay} {s : PS} {D : Int → Bool} {gap : Option Nat} (h : KAt B v W k L s D gap) {c : Nat} {o l : Int} {r : List Int} (hc : c ∈ s.ids) (hl : s.lit c = o :: l :: r ∨ s.lit c = l :: o :: r) (hxy : o ≠ l) :
    Calls Try.prog 59 #[.pointer (some ⟨c, 0, none⟩), .int .i64 l] W fun e w => e = .returned (.int .i64 o) ∧ KAt B v w k L { s with lit := up s.lit c (o :: l :: r) } D gap ∧ Kept L W w L := by
  rcases hl with hl | hl
  · refine (other_same h hc hl hxy).mono ?_
    rintro e w ⟨rfl, rfl⟩
    rw [up_self hl]
    exact ⟨rfl, h, Kept.refl _ _⟩
  · exact other_swap h hc hl
theorem RI.other {v : Nat} {C : Cl} {g : List Int} {s : PS} {Pr : Nat → Int → Prop} (h : RI v C g s Pr) {c : Nat} {o l : Int} {r : List Int} (hc : c ∈ s.ids) (hl : s.lit c = o :: l :: r ∨ s.lit c = l :: o :: r) : RI v C g { s with lit := up s.lit c (o :: l :: r) } Pr := by
  rcases hl with hl | hl
  · rw [up_self hl]; exact h
  · exact h.swap hc hl
theorem up_comm {α : Type} {f : Nat → α} {i j : Nat} {x y : α} (h : i ≠ j) : up (up f i x) j y = up (up f j y) i x := by
  funext q
  unfold up
  by_cases e1 : q = i
  · by_cases e2 : q = j
    · omega
    · rw [if_neg e2, if_pos e1, if_pos e1]
  · by_cases e2 : q = j
    · rw [if_pos e2, if_neg e1, if_pos e2]
    · rw [if_neg e2, if_neg e1, if_neg e1, if_neg e2]
end Rw
end Go.Proofs.Ytmgkgbhkaoflhaa

namespace Go.Proofs.Ytmgkgbhkaoflhaa
open Go.RowKit
namespace Rw
open Cf Rp
set_option maxHeartbeats 12800000
set_option maxRecDepth 100000

/-- What 'leave' has done. -/
def LeaveE (B v : Nat) (C : Cl) (G : List Int) (W : World) (k : Nat) (L : Lay) (s : PS) (P : Int → Prop) (l : Int) (e : Ending) (w : World) : Prop :=
  ∃ (b : Bool) (L' : Lay) (s' : PS), e = .returned (.bool b) ∧ KAt B v w k L' s' (s'.T.elem ·) none ∧ Kept L W w L' ∧ Like s s' ∧ (b = true → RI v C G s' (fun _ z => P z ∨ z = -l)) ∧ (b = false → Bad C G) ∧ RI v C G s' (fun _ z => s'.S z = true)
/-- What holds while the list is gone through. -/
structure GapI (B v : Nat) (C : Cl) (G : List Int) (W : World) (k : Nat) (L : Lay) (s : PS) (P : Int → Prop) (l : Int) (g cap n0 i : Nat) (Lc : Lay) (sc : PS) (stay rest : List Nat) (xs : List Value) (wr : World) : Prop where
  num : i + rest.length = n0
  le : stay.length ≤ i
  ka : KAt B v wr k Lc sc (sc.T.elem ·) (some (pl v l))
  kp : Kept L W wr Lc
  like : Like s sc
  ri : RI v C G sc (PrL P l rest)
  W : sc.W (pl v l) = stay ++ rest
  tag : Lc.tag g = .non
  hh : wr.heap[g]? = some (.cells xs.toArray 74 (0, 0))
  len : xs.length = cap
  st : xs.take stay.length = rowC stay
  re : ∀ (j c : Nat), rest[j]? = some c → xs[i + j]? = some (ptr c)
  so : sc.hol (-l) = true
/-- What a clause of the list looks like. -/
theorem WI.at {v : Nat} {s : PS} (h : WI v s) {l : Int} (hl : isL l v = true) {c : Nat} (hc : c ∈ s.W (pl v l)) : c ∈ s.ids ∧ ∃ o r, (s.lit c = o :: l :: r ∨ s.lit c = l :: o :: r) ∧ o ≠ l ∧ isL o v = true ∧ (∀ x ∈ r, isL x v = true ∧ x ≠ l) ∧ 1 ≤ s.ax c ∧ s.ax c < r.length + 2 ∧ (o :: l :: r).Nodup := by
  obtain ⟨h1, x, y, r, h2, h3⟩ := h.sub _ _ hc
  obtain ⟨k1, k2, k3, k4⟩ := h.ok c h1
  rw [h2] at k1 k2 k4
  have k1' := k1
  simp only [List.nodup_cons, List.mem_cons, not_or] at k1'
  refine ⟨h1, ?_⟩
  rcases h3 with h3 | h3
  · have e := pl_inj hl (k2 x (by simp)) h3
    subst e
    exact ⟨y, r, .inr h2, fun e => k1'.1.1 e.symm, k2 y (by simp), fun z hz => ⟨k2 z (by simp [hz]), fun e => k1'.1.2 (e ▸ hz)⟩, k3, by simpa using k4, (List.Perm.swap l y r).nodup_iff.2 k1⟩
  · have e := pl_inj hl (k2 y (by simp)) h3
    subst e
    exact ⟨x, r, .inl h2, k1'.1.1, k2 x (by simp), fun z hz => ⟨k2 z (by simp [hz]), fun e => k1'.2.1 (e ▸ hz)⟩, k3, by simpa using k4, k1⟩
theorem kept_heap {L L' : Lay} {w w' : World} (h : Kept L w w' L') {g : Nat} {o : Obj} (hg : L.tag g = .non) (hh : w.heap[g]? = some o) : w'.heap[g]? = some o ∧ L'.tag g = .non := by
  have hlt := (Array.getElem?_eq_some_iff.1 hh).1
  exact ⟨(h.blk g hlt hg).1.trans hh, (h.blk g hlt hg).2⟩
theorem Kept.tag2 {L L1 L2 : Lay} {w w1 : World} (h : Kept L w w1 L1) (hx : ∀ b, b < w.heap.size → L.tag b = .non → L1.tag b = .non → L2.tag b = .non) : Kept L w w1 L2 :=
  ⟨h.os, h.tape, h.output, h.size, fun b hb ht => ⟨(h.blk b hb ht).1, hx b hb ht (h.blk b hb ht).2⟩⟩
theorem room_row {xs : List Value} {stay : List Nat} {c i : Nat} (h1 : xs.take stay.length = rowC stay) (h2 : stay.length ≤ i) (h3 : i < xs.length) :
    (xs.take stay.length ++ [ptr c] ++ xs.drop (stay.length + 1)).length = xs.length ∧ (xs.take stay.length ++ [ptr c] ++ xs.drop (stay.length + 1)).take (stay ++ [c]).length = rowC (stay ++ [c]) ∧ ∀ j, i < j → (xs.take stay.length ++ [ptr c] ++ xs.drop (stay.length + 1))[j]? = xs[j]? := by
  have hl : (rowC stay).length = stay.length := by simp [rowC]
  refine ⟨by simp; omega, ?_, fun j hj => ?_⟩
  · rw [h1, List.length_append, List.length_singleton]
    have : (rowC stay ++ [ptr c]).length = stay.length + 1 := by simp [hl]
    rw [List.take_append_of_le_length (by omega), ← this, List.take_length]
    simp [rowC]
  · rw [h1, List.getElem?_append_right (by simp [hl]; omega)]
    simp only [List.length_append, List.length_singleton, hl, List.getElem?_drop]
    congr 1; omega
theorem row_app {xs news : List Value} {stay rest : List Nat} (h1 : xs.take stay.length = rowC stay) (hn : news = rowC rest) (hl : stay.length + rest.length ≤ xs.length) :
    (xs.take stay.length ++ news ++ xs.drop (stay.length + rest.length)).length = xs.length ∧ (xs.take stay.length ++ news ++ xs.drop (stay.length + rest.length)).take (stay.length + rest.length) = rowC (stay ++ rest) := by
  subst hn
  have ha : (rowC stay).length = stay.length := by simp [rowC]
  have hb : (rowC rest).length = rest.length := by simp [rowC]
  refine ⟨by simp [hb]; omega, ?_⟩
  rw [h1]
  have : (rowC stay ++ rowC rest).length = stay.length + rest.length := by simp [ha, hb]
  rw [List.take_append_of_le_length (by omega), ← this, List.take_length]
  simp [rowC]
theorem leave_any {B v : Nat} {C : Cl} {G : List Int} {W : World} {k : Nat} {L : Lay} {s : PS} {P : Int → Prop} (h : KAt B v W k L s (s.T.elem ·) none) (hv : v ≤ 1000000) (hB : B ≤ W.heap.size) {l : Int} (hl : isL l v = true) (hri : RI v C G s (fun _ z => P z)) (hso : s.hol (-l) = true) (hids : s.ids.length ≤ 1000000) (hlen : ∀ c ∈ s.ids, (s.lit c).length ≤ 1000000) :
    Calls Try.prog 49 #[.pointer (some ⟨k, 0, none⟩), .int .i64 l] W (LeaveE B v C G W k L s P l) := by
  have HP := Lib.hid (place_any h hv hl)
  have hp := pl_lt hl
  have c1 : W.cell? ⟨k, 1, none⟩ = some (.slice (some ⟨L.wb, 0, none⟩) (2 * v + 1) (2 * v + 1)) := h.cells.1 1
  have cw := h.head.1 (pl v l) hp
  have hr := h.ws (pl v l) hp nofun
  have fw := h.head.2 (pl v l)
  have HK := Lib.hid h
  have HRI := Lib.hid hri
  have HSO := Lib.hid hso
  have HLEN := Lib.hid hlen
  have HL := Lib.hid hl
  have HPL := Lib.hid hp
  have HB := Lib.hid hB
  obtain ⟨p, hpv⟩ : ∃ p, p = pl v l := ⟨_, rfl⟩
  rw [← hpv] at HP cw fw hp hr
  have HPV := Lib.hid hpv
  have p0 : (0 : Int) ≤ ((p : Nat) : Int) := by omega
  have p1 : ((p : Nat) : Int) < 2 * ((v : Nat) : Int) + 1 := by omega
  clear h hri hso hlen hl hB hp hpv
  rcases hr with ⟨hr0, ⟨hr1, hr2⟩ | ⟨g, cap, cur, hr1, hr2, hr3, hr4, hr5, hr6, hr7⟩⟩
  · -- none watches it
    rw [hr1] at cw
    have hnil : s.W (pl v l) = [] := by rw [← HPV.out]; exact List.eq_nil_of_length_eq_zero hr2
    have HF := Lib.hid (HK.out.setW (w1 := W) (x := .slice none 0 0) (l := []) HPL.out nofun (World.ownsRow_nil _ _ _ _) ⟨rfl, rfl, rfl, Nat.le_refl _, fun _ _ _ => rfl⟩ (.inl (by rw [← HPV.out, hr1])))
    have HQ := Lib.hid ((Kept.refl L W).put (g := L.wb) (by rw [HK.out.tw]; nofun) (pl v l) (.slice none 0 0))
    have HN := Lib.hid hnil
    have HR1 := Lib.hid hr1
    rw [← HPV.out] at HF HQ
    clear hr1 hr0 hr2 hnil
    go_enter Try.func49, Try.ntmps49
    go_wp2_with fail
    refine HP.out.mono ?_
    rintro e w ⟨rfl, rfl⟩
    go_wp2_with fail
    go_loopg [7, 25] 0 (fun gk v7 v25 wr => v7 = .slice none 0 0 ∧ v25 = .int .i64 0 ∧ wr = w)
    case atStart => exact ⟨rfl, rfl, rfl⟩
    case round =>
      obtain ⟨rfl, rfl, rfl⟩ := hrel
      go_wp2_with fail
      go_ret
      have e1 : ({ s with W := up s.W p [] } : PS) = s := by rw [up_self (by rw [HPV.out]; exact HN.out)]
      have HF2 := HF.out
      rw [e1] at HF2
      refine ⟨true, _, s, rfl, HF2, HQ.out.tag fun b _ ht => (tagOf_ne (tag := L.tag) (x := (Value.slice none 0 0).ownBlock) (r := .lst p) (b := b) (by simp [Value.ownBlock])).trans ht, Like.refl _, fun _ => ?_, nofun, HRI.out.base⟩
      exact (HRI.out.start HN.out HSO.out).fin
  -- the list is cut in place
  obtain ⟨n0, hn0⟩ : ∃ n0, n0 = (s.W p).length := ⟨_, rfl⟩
  rw [← hn0] at hr1 hr4
  clear hn0
  obtain ⟨E1, ⟨xs, E2, E3, E4⟩, E5, E6, E7, E8, E9, E10⟩ := HK.out.enter HPL.out (by rw [← HPV.out]; exact hr1)
  have HE : Hid (GapI B v C G W k L s P l g cap n0 0 { L with tag := tagOf L.tag (some g) .non } s [] (s.W (pl v l)) xs W) := Lib.hid (by
    refine ⟨by rw [E5]; omega, Nat.le_refl _, E1, (Kept.refl L W).tag fun b _ ht => ?_, Like.refl _, HRI.out.start rfl HSO.out, rfl, tagOf_at, E2, E3, rfl, fun j c hj => ?_, HSO.out⟩
    · show tagOf L.tag (some g) .non b = _
      by_cases e : some g = some b
      · rw [e]; exact tagOf_at
      · rw [tagOf_ne e]; exact ht
    · have hj2 := (List.getElem?_eq_some_iff.1 hj).1
      have : (xs.take n0)[j]? = some (ptr c) := by rw [E4]; simp [rowC, hj]
      rw [List.getElem?_take, if_pos (by omega)] at this
      rw [Nat.zero_add]; exact this)
  have HG : Hid (n0 ≤ cap ∧ cap ≤ maxLen ∧ B ≤ g ∧ L.tag g = .lst (pl v l)) := Lib.hid ⟨E6, E7, E8, E10⟩
  have hncap := E6
  have HN0 : Hid (n0 ≤ 1000000) := Lib.hid (by rw [E5]; exact Nat.le_trans (HRI.out.wi.len _) hids)
  have hn0b := HN0.out
  rw [hr1] at cw
  clear hr0 hr1 hr2 hr3 hr4 hr5 hr6 hr7 E1 E2 E3 E4 E5 E6 E7 E8 E9 E10
  go_enter Try.func49, Try.ntmps49
  go_wp2_with fail
  refine HP.out.mono ?_
  rintro e w ⟨rfl, rfl⟩
  go_wp2_with fail
  go_loopg [7, 25] n0 (fun gk v7 v25 wr => ∃ (i : Nat) (Lc : Lay) (sc : PS) (stay rest : List Nat) (xs : List Value), v7 = .slice (some ⟨g, 0, none⟩) stay.length cap ∧ v25 = .int .i64 ((i : Nat) : Int) ∧ rest.length = gk ∧ GapI B v C G w k L s P l g cap n0 i Lc sc stay rest xs wr)
  case atStart => exact ⟨0, _, s, [], s.W (pl v l), xs, rfl, rfl, by have := HE.out.num; omega, HE.out⟩
  case round =>
    obtain ⟨i, Lc, sc, stay, rest, xs, rfl, rfl, hgk, hI⟩ := hrel
    clear HE cw fw c1 HP
    obtain ⟨m0, hm0⟩ : ∃ m0, m0 = stay.length := ⟨_, rfl⟩
    have HM0 := Lib.hid hm0
    have hm1 : m0 ≤ i := by rw [hm0]; exact hI.le
    rw [← hm0]
    clear hm0
    cases rest with
    | nil =>
      have hi : i = n0 := by have := hI.num; simpa using this
      have c1 : wr.cell? ⟨k, 1, none⟩ = some (.slice (some ⟨Lc.wb, 0, none⟩) (2 * v + 1) (2 * v + 1)) := hI.ka.cells.1 1
      have cw := hI.ka.head.1 (pl v l) HPL.out
      have fw := hI.ka.head.2 (pl v l)
      rw [← HPV.out] at cw fw
      have hl0 := hI.ka.leaveGap HPL.out hI.tag HG.out.2.2.1 hI.hh hI.len HG.out.2.1 HM0.out (by rw [HM0.out]; exact hI.st) (by have := HG.out.1; omega)
      have e1 : ({ sc with W := up sc.W (pl v l) stay } : PS) = sc := by rw [up_self (by rw [hI.W]; simp)]
      rw [e1, ← HPV.out] at hl0
      have HF := Lib.hid hl0
      have HQ := Lib.hid (hI.kp.put (g := Lc.wb) (by rw [hI.ka.tw]; nofun) p (.slice (some ⟨g, 0, none⟩) m0 cap))
      have HI := Lib.hid hI
      have q1 : decide (((i : Nat) : Int) < ((n0 : Nat) : Int)) = false := decide_eq_false (by omega)
      clear hI hl0 e1 hgk hm1
      subst hi
      go_wp2_with fail
      go_ret
      refine ⟨true, _, sc, rfl, HF.out, HQ.out.tag2 fun b hb ht0 ht => ?_, HI.out.like, fun _ => HI.out.ri.fin, nofun, HI.out.ri.base⟩
      refine (tagOf_ne (tag := Lc.tag) (x := some g) (r := .lst p) (b := b) (fun e => ?_)).trans ht
      injection e with e
      subst e
      rw [HG.out.2.2.2] at ht0; cases ht0
    | cons c rest =>
      have hc0 : c ∈ sc.W (pl v l) := by rw [hI.W]; simp
      obtain ⟨hc, o, r, hlc, hol, hlo, hlr, ha1, ha2, hnd⟩ := hI.ri.wi.at HL.out hc0
      have hlen : (sc.lit c).length ≤ 1000000 := by rw [hI.like.len (by rw [← hI.like.ids]; exact hc)]; exact HLEN.out c (by rw [← hI.like.ids]; exact hc)
      have hrl : r.length ≤ 1000000 := by
        rcases hlc with e | e
        · rw [e] at hlen; simp at hlen; omega
        · rw [e] at hlen; simp at hlen; omega
      have hin : i < n0 := by have := hI.num; simp at this; omega
      have hxi : i < xs.length := by rw [hI.len]; omega
      have hci : wr.cell? ⟨g, i, none⟩ = some (.pointer (some ⟨c, 0, none⟩)) := by
        show _ = some (ptr c)
        rw [cell_of_row wr g i _ _ _ hI.hh]
        have := hI.re 0 c rfl
        rw [Nat.add_zero] at this
        simpa using this
      have i0 : (0 : Int) ≤ ((i : Nat) : Int) := by omega
      have i1 : ((i : Nat) : Int) < ((n0 : Nat) : Int) := by omega
      have HO := Lib.hid (other_any hI.ka hc hlc hol)
      have hri1 := hI.ri.other hc hlc
      obtain ⟨s1, hs1⟩ : ∃ s1 : PS, s1 = { sc with lit := up sc.lit c (o :: l :: r) } := ⟨_, rfl⟩
      rw [← hs1] at HO hri1
      have hp1 : (o :: l :: r).Perm (sc.lit c) := by
        rcases hlc with e | e
        · rw [e]
        · rw [e]; exact List.Perm.swap _ _ _
      have hk1 : Like sc s1 := by
        have := Like.lit (s := sc) (c := c) (a := sc.ax c) (W := sc.W) (l := o :: l :: r) fun _ => hp1
        rw [up_self rfl] at this
        rw [hs1]; exact this
      have hl1 : s1.lit c = o :: l :: r := by rw [hs1]; exact up_at _ _ _
      have hw1 : s1.W (pl v l) = stay ++ c :: rest := by rw [hs1]; exact hI.W
      have hso1 : s1.hol (-l) = true := by rw [hs1]; exact hI.so
      have hc1 : c ∈ s1.ids := by rw [hs1]; exact hc
      have hax1 : 1 ≤ s1.ax c ∧ s1.ax c < r.length + 2 := by rw [hs1]; exact ⟨ha1, ha2⟩
      have ht1 : s1.T = sc.T := by rw [hs1]
      have hid1 : s1.ids.length ≤ 1000000 := by rw [hs1]; show sc.ids.length ≤ _; rw [hI.like.ids]; exact hids
      have o1 := isL_ne hlo
      have o2 : wrap64 (-o) = -o := by unfold wrap64; omega
      have HI := Lib.hid hI
      have HRI1 := Lib.hid hri1
      have HS1 : Hid (Like s s1 ∧ s1.lit c = o :: l :: r ∧ s1.W (pl v l) = stay ++ c :: rest ∧ s1.hol (-l) = true ∧ c ∈ s1.ids) := Lib.hid ⟨hI.like.trans hk1, hl1, hw1, hso1, hc1⟩
      have HS2 := Lib.hid (And.intro hax1 hid1)
      have HT1 := Lib.hid ht1
      have HR := Lib.hid (And.intro hol (And.intro hlo (And.intro hlr (And.intro hnd hrl))))
      have HIN := Lib.hid hxi
      have HGK := Lib.hid hgk
      clear hI hri1 hk1 hl1 hw1 hso1 hc1 hax1 hid1 ht1 hol hlo hlr hnd hrl hxi hlc hp1 hs1 hlen hc0 hc ha1 ha2 hgk hm1
      go_wp2_with fail
      refine HO.out.mono ?_
      rintro e w1 ⟨rfl, hk1, hp1⟩
      obtain ⟨hh1, ht1⟩ := kept_heap hp1 HI.out.tag HI.out.hh
      rw [← HT1.out] at hk1
      have HK1 : Hid (KAt B v w1 k Lc s1 (s1.T.elem ·) (some (pl v l)) ∧ Kept L w w1 Lc ∧ B ≤ w1.heap.size ∧ w1.heap[g]? = some (.cells xs.toArray 74 (0, 0))) := Lib.hid ⟨hk1, HI.out.kp.trans hp1, Nat.le_trans HB.out (HI.out.kp.trans hp1).size, hh1⟩
      clear hk1 hp1 hh1 ht1 HO hci
      have HH1 := Lib.hid (holds_any HK1.out.1 hv HR.out.2.1)
      cases ho : s1.hol o with
      | true =>
        rw [ho] at HH1
        have hne : s1.hol (-o) = false := HRI1.out.cons o ho
        have HEN : Hid (Ent C G o ∧ s1.hol (-o) = false) := Lib.hid ⟨HRI1.out.so ho, hne⟩
        clear ho hne
        go_wp2_with fail
        refine HH1.out.mono ?_
        rintro e w2 ⟨rfl, rfl⟩
        clear HH1
        have h3 := room_row (c := c) HI.out.st HI.out.le HIN.out
        obtain ⟨ys, hys⟩ : ∃ ys, ys = xs.take stay.length ++ [ptr c] ++ xs.drop (stay.length + 1) := ⟨_, rfl⟩
        have hrun : ∀ ty, (Builtin.append_ #[86, 86] ty #[.slice (some ⟨g, 0, none⟩) m0 cap, .slice (some ⟨w2.heap.size, 0, none⟩) 1 1]).run Try.prog (w2.alloc (.cells #[.pointer (some ⟨c, 0, none⟩)] 74)) = .ok (.slice (some ⟨g, 0, none⟩) (m0 + 1) cap) ((w2.alloc (.cells #[.pointer (some ⟨c, 0, none⟩)] 74)).setRow g ys.toArray) := fun ty => by
          rw [hys, HM0.out]
          exact run_room (w2.alloc (.cells #[.pointer (some ⟨c, 0, none⟩)] 74)) ty (news := [ptr c]) (m := 1) (c := 1) (by rw [heap_alloc_old _ _ (Array.getElem?_eq_some_iff.1 HK1.out.2.2.2).1]; exact HK1.out.2.2.2) HI.out.len rfl (cell_one_new w2 (ptr c) 74) (by intro u hu; simp at hu; subst hu; rfl) (by have := HI.out.le; have := HIN.out; have := HI.out.len; omega)
        rw [← hys] at h3
        have ht : Lc.tag g = .non := HI.out.tag
        have HK3 : Hid (KAt B v ((w2.alloc (.cells #[.pointer (some ⟨c, 0, none⟩)] 74)).setRow g ys.toArray) k Lc s1 (s1.T.elem ·) (some (pl v l)) ∧ Kept L w ((w2.alloc (.cells #[.pointer (some ⟨c, 0, none⟩)] 74)).setRow g ys.toArray) Lc ∧ ((w2.alloc (.cells #[.pointer (some ⟨c, 0, none⟩)] 74)).setRow g ys.toArray).heap[g]? = some (.cells ys.toArray 74 (0, 0)) ∧ B ≤ ((w2.alloc (.cells #[.pointer (some ⟨c, 0, none⟩)] 74)).setRow g ys.toArray).heap.size) := Lib.hid
          ⟨(HK1.out.1.alloc _).setRow ht _, (HK1.out.2.1.alloc _).setRow (by rw [HG.out.2.2.2]; nofun) _, setRow_heap _ g xs.toArray _ _ _ (by rw [heap_alloc_old _ _ (Array.getElem?_eq_some_iff.1 HK1.out.2.2.2).1]; exact HK1.out.2.2.2), by simp; have := HK1.out.2.2.1; omega⟩
        have H3 := Lib.hid h3
        have HH3 := Lib.hid (holds_any HK3.out.1 hv (isL_neg HR.out.2.1))
        clear h3 hys ht
        rw [HEN.out.2] at HH3
        have HC3 := Lib.hid (come_any HK3.out.1 hv HK3.out.2.2.2 HR.out.2.1 (by have := nodup_lits HRI1.out.nod.1 (fun x hx => (HRI1.out.nod.2 x hx).1); omega))
        go_wp2_with (at_builtin; refine wpList_run (sv := .slice (some ⟨g, 0, none⟩) m0 cap) (xv := .slice (some ⟨w2.heap.size, 0, none⟩) 1 1) (v' := .slice (some ⟨g, 0, none⟩) (m0 + 1) cap) (W' := (w2.alloc (.cells #[.pointer (some ⟨c, 0, none⟩)] 74)).setRow g ys.toArray) rfl (.tmp 42) (.tmp 44) 86 rfl rfl rfl (hrun _) ?_)
        clear hrun
        refine HH3.out.mono ?_
        rintro e w3 ⟨rfl, rfl⟩
        go_wp2_with fail
        refine HC3.out.mono ?_
        rintro e w4 ⟨rfl, L4, hk4, hp4⟩
        have HM4 : Hid (GapI B v C G w k L s P l g cap n0 (i + 1) L4 (s1.come o) (stay ++ [c]) rest ys w4) := Lib.hid (by
          obtain ⟨y1, y2⟩ := kept_heap hp4 HI.out.tag HK3.out.2.2.1
          obtain ⟨q1, q2, q3, q4, q5, q6⟩ := come_parts (s := s1) (x := o)
          have hri := HRI1.out.come HEN.out.1 HEN.out.2 HR.out.2.1
          refine ⟨by have := HI.out.num; simp at this; omega, by have := HI.out.le; simp; omega, hk4, HK3.out.2.1.trans hp4, HS1.out.1.trans (Like.come _ _), hri.keep (by rw [q2]; exact HS1.out.2.2.2.2) (by rw [q3]; exact HS1.out.2.1) (by rw [hol_come, HS1.out.2.2.2.1]; rfl) (by rw [hol_come]; simp), by rw [q1, HS1.out.2.2.1]; simp, y2, y1, by rw [H3.out.1]; exact HI.out.len, H3.out.2.1, fun q d hq => ?_, by rw [hol_come, HS1.out.2.2.2.1]; rfl⟩
          rw [H3.out.2.2 _ (by omega)]
          have := HI.out.re (q + 1) d (by simpa using hq)
          rw [show i + 1 + q = i + (q + 1) by omega]; exact this)
        clear hk4 hp4 HC3 HK3 HK1 HI HRI1 HS1 HH3
        go_wp2_with fail
        go_roundg (gk - 1)
        case measure => have := HGK.out; simp at this; omega
        case rel => exact ⟨i + 1, L4, _, stay ++ [c], rest, ys, by rw [HM0.out]; simp, rfl, by have := HGK.out; simp at this; omega, HM4.out⟩
      | false =>
        rw [ho] at HH1
        have HNO := Lib.hid ho
        clear ho
        have HMV := Lib.hid (moves_any HK1.out.1 hv HK1.out.2.2.1 HS1.out.2.2.2.2 HS1.out.2.1 (fun x hx => (HR.out.2.2.1 x hx).1) (fun m hm e => by injection e with e; exact (HR.out.2.2.1 m hm).2 (pl_inj (HR.out.2.2.1 m hm).1 HL.out e.symm)) (fun q => Nat.le_trans (HRI1.out.wi.len q) HS2.out.2) HR.out.2.2.2.2 HS2.out.1.1 HS2.out.1.2)
        go_wp2_with fail
        refine HH1.out.mono ?_
        rintro e w2 ⟨rfl, rfl⟩
        clear HH1
        go_wp2_with fail
        refine HMV.out.mono ?_
        rintro e w2 (⟨rfl, a, x1, x2, hk2, hp2, hall⟩ | ⟨rfl, a, j, m, L2, x1, x2, x3, x4, hk2, hp2⟩)
        · obtain ⟨s2, hs2⟩ : ∃ s2 : PS, s2 = { s1 with ax := up s1.ax c a } := ⟨_, rfl⟩
          have HKA : Hid (KAt B v w2 k Lc s2 (s2.T.elem ·) (some (pl v l)) ∧ Kept L w w2 Lc ∧ B ≤ w2.heap.size ∧ w2.heap[g]? = some (.cells xs.toArray 74 (0, 0))) := Lib.hid (by
            rw [hs2]
            exact ⟨hk2, HK1.out.2.1.trans hp2, Nat.le_trans HK1.out.2.2.1 hp2.size, (kept_heap hp2 HI.out.tag HK1.out.2.2.2).1⟩)
          have HRA : Hid (RI v C G s2 (PrL P l (c :: rest))) := Lib.hid (by
            rw [hs2]
            exact HRI1.out.ax x1 (by rw [HS1.out.2.1]; simpa using x2))
          have HSA : Hid (Like s s2 ∧ s2.lit c = o :: l :: r ∧ s2.W (pl v l) = stay ++ c :: rest ∧ s2.hol (-l) = true ∧ c ∈ s2.ids) := Lib.hid (by
            rw [hs2]
            exact ⟨HS1.out.1.trans ⟨rfl, rfl, rfl, fun _ _ => List.Perm.refl _, [], by simp⟩, HS1.out.2.1, HS1.out.2.2.1, HS1.out.2.2.2.1, HS1.out.2.2.2.2⟩)
          have HNA : Hid (s2.hol o = false ∧ ∀ m ∈ r, s2.hol (-m) = true) := Lib.hid (by
            rw [hs2]
            exact ⟨HNO.out, hall⟩)
          clear hk2 hp2 x1 x2 hall hs2 HMV HK1 HRI1 HS1 HNO
          cases hno : s2.hol (-o) with
          | true =>
            have HBAD : Hid (Bad C G) := Lib.hid (HRA.out.none HSA.out.2.2.2.2 fun x hx => by
              rw [HSA.out.2.1] at hx
              rcases List.mem_cons.1 hx with rfl | hx
              · exact hno
              · rcases List.mem_cons.1 hx with rfl | hx
                · exact HSA.out.2.2.2.1
                · exact HNA.out.2 x hx)
            have h3 := room_row (c := c) HI.out.st HI.out.le HIN.out
            obtain ⟨ys, hys⟩ : ∃ ys, ys = xs.take stay.length ++ [ptr c] ++ xs.drop (stay.length + 1) := ⟨_, rfl⟩
            have hrun : ∀ ty, (Builtin.append_ #[86, 86] ty #[.slice (some ⟨g, 0, none⟩) m0 cap, .slice (some ⟨w2.heap.size, 0, none⟩) 1 1]).run Try.prog (w2.alloc (.cells #[.pointer (some ⟨c, 0, none⟩)] 74)) = .ok (.slice (some ⟨g, 0, none⟩) (m0 + 1) cap) ((w2.alloc (.cells #[.pointer (some ⟨c, 0, none⟩)] 74)).setRow g ys.toArray) := fun ty => by
              rw [hys, HM0.out]
              exact run_room (w2.alloc (.cells #[.pointer (some ⟨c, 0, none⟩)] 74)) ty (news := [ptr c]) (m := 1) (c := 1) (by rw [heap_alloc_old _ _ (Array.getElem?_eq_some_iff.1 HKA.out.2.2.2).1]; exact HKA.out.2.2.2) HI.out.len rfl (cell_one_new w2 (ptr c) 74) (by intro u hu; simp at hu; subst hu; rfl) (by have := HI.out.le; have := HIN.out; have := HI.out.len; omega)
            rw [← hys] at h3
            have ht : Lc.tag g = .non := HI.out.tag
            have HK3 : Hid (KAt B v ((w2.alloc (.cells #[.pointer (some ⟨c, 0, none⟩)] 74)).setRow g ys.toArray) k Lc s2 (s2.T.elem ·) (some (pl v l)) ∧ Kept L w ((w2.alloc (.cells #[.pointer (some ⟨c, 0, none⟩)] 74)).setRow g ys.toArray) Lc ∧ ((w2.alloc (.cells #[.pointer (some ⟨c, 0, none⟩)] 74)).setRow g ys.toArray).heap[g]? = some (.cells ys.toArray 74 (0, 0)) ∧ B ≤ ((w2.alloc (.cells #[.pointer (some ⟨c, 0, none⟩)] 74)).setRow g ys.toArray).heap.size) := Lib.hid
              ⟨(HKA.out.1.alloc _).setRow ht _, (HKA.out.2.1.alloc _).setRow (by rw [HG.out.2.2.2]; nofun) _, setRow_heap _ g xs.toArray _ _ _ (by rw [heap_alloc_old _ _ (Array.getElem?_eq_some_iff.1 HKA.out.2.2.2).1]; exact HKA.out.2.2.2), by simp; have := HKA.out.2.2.1; omega⟩
            have H3 := Lib.hid h3
            have HH3 := Lib.hid (holds_any HK3.out.1 hv (isL_neg HR.out.2.1))
            clear h3 hys ht
            rw [hno] at HH3
            clear hno
            go_wp2_with (at_builtin; refine wpList_run (sv := .slice (some ⟨g, 0, none⟩) m0 cap) (xv := .slice (some ⟨w2.heap.size, 0, none⟩) 1 1) (v' := .slice (some ⟨g, 0, none⟩) (m0 + 1) cap) (W' := (w2.alloc (.cells #[.pointer (some ⟨c, 0, none⟩)] 74)).setRow g ys.toArray) rfl (.tmp 42) (.tmp 44) 86 rfl rfl rfl (hrun _) ?_)
            clear hrun
            refine HH3.out.mono ?_
            rintro e w3 ⟨rfl, rfl⟩
            have hmr : rest.length = n0 - (i + 1) := by have := HI.out.num; simp at this; omega
            have hrow := row_app (xs := ys) (stay := stay ++ [c]) (rest := rest) (news := rowC rest) (by have := H3.out.2.1; simpa using this) rfl (by rw [H3.out.1, HI.out.len]; have := HI.out.le; simp; omega)
            have e9 : (stay ++ [c]).length = m0 + 1 := by rw [HM0.out]; simp
            rw [e9, hmr] at hrow
            obtain ⟨zs, hzs⟩ : ∃ zs, zs = ys.take (m0 + 1) ++ rowC rest ++ ys.drop (m0 + 1 + (n0 - (i + 1))) := ⟨_, rfl⟩
            rw [← hzs] at hrow
            have ht : Lc.tag g = .non := HI.out.tag
            generalize (w2.alloc (.cells #[.pointer (some ⟨c, 0, none⟩)] 74)).setRow g ys.toArray = w5 at HK3 ⊢
            have hrun : ∀ ty a c', (a = ⟨g, i + 1, none⟩ ∨ rest.length = 0) → (Builtin.append_ #[86, 86] ty #[.slice (some ⟨g, 0, none⟩) (m0 + 1) cap, .slice (some a) (n0 - (i + 1)) c']).run Try.prog w5.drew = .ok (.slice (some ⟨g, 0, none⟩) (m0 + 1 + (n0 - (i + 1))) cap) (w5.drew.setRow g zs.toArray) := fun ty a c' ha => by
              rw [hzs]
              refine run_room w5.drew ty (news := rowC rest) (m := n0 - (i + 1)) (c := c') HK3.out.2.2.1 (H3.out.1.trans HI.out.len) (by rw [← hmr]; simp [rowC]) (fun j u hj => ?_) (fun u hu => ?_) (by have := HI.out.le; have := HM0.out; have h7 := HI.out.num; simp at h7; omega)
              · have hj2 := (List.getElem?_eq_some_iff.1 hj).1
                simp [rowC] at hj2
                rcases ha with ha | ha
                · subst ha
                  have e0 : (⟨g, i + 1, none⟩ : Addr).add j = ⟨g, i + 1 + j, none⟩ := by unfold Addr.add; split <;> simp_all
                  rw [e0, cell_of_row w5.drew g _ _ _ _ HK3.out.2.2.1]
                  obtain ⟨d, hd⟩ : ∃ d, rest[j]? = some d := ⟨_, List.getElem?_eq_getElem hj2⟩
                  have h4 := HI.out.re (j + 1) d (by simpa using hd)
                  have h5 := H3.out.2.2 (i + 1 + j) (by omega)
                  rw [show i + 1 + j = i + (j + 1) by omega, h4] at h5
                  rw [show i + 1 + j = i + (j + 1) by omega]
                  simp only [rowC, List.getElem?_map, hd, Option.map_some, Option.some.injEq] at hj
                  rw [← hj]
                  simpa using h5
                · omega
              · simp only [rowC, List.mem_map] at hu
                obtain ⟨d, _, rfl⟩ := hu
                rfl
            have hz4 : zs.length = cap := hrow.1.trans (H3.out.1.trans HI.out.len)
            have HK4 : Hid (KAt B v (w5.drew.setRow g zs.toArray) k Lc s2 (s2.T.elem ·) (some (pl v l)) ∧ Kept L w (w5.drew.setRow g zs.toArray) Lc ∧ (w5.drew.setRow g zs.toArray).heap[g]? = some (.cells zs.toArray 74 (0, 0))) := Lib.hid
              ⟨(HK3.out.1.drewN 1).setRow ht _, (HK3.out.2.1.drewN 1).setRow (by rw [HG.out.2.2.2]; nofun) _, setRow_heap _ g ys.toArray _ _ _ HK3.out.2.2.1⟩
            have c1 : w5.cell? ⟨k, 1, none⟩ = some (.slice (some ⟨Lc.wb, 0, none⟩) (2 * v + 1) (2 * v + 1)) := HK3.out.1.cells.1 1
            have C1 : (w5.drew.setRow g zs.toArray).cell? ⟨k, 1, none⟩ = some (.slice (some ⟨Lc.wb, 0, none⟩) (2 * v + 1) (2 * v + 1)) := HK4.out.1.cells.1 1
            have C2 := HK4.out.1.head.1 (pl v l) HPL.out
            have F2 := HK4.out.1.head.2 (pl v l)
            rw [← HPV.out] at C2 F2
            have hl0 := HK4.out.1.leaveGap (n := m0 + 1 + (n0 - (i + 1))) (l := stay ++ c :: rest) HPL.out ht HG.out.2.2.1 HK4.out.2.2 hz4 HG.out.2.1 (by rw [HM0.out]; simp; omega) (by have := hrow.2; rw [this]; simp) (by have := HI.out.le; have := HM0.out; have h7 := HI.out.num; simp at h7; omega)
            have e1 : ({ s2 with W := up s2.W (pl v l) (stay ++ c :: rest) } : PS) = s2 := by rw [up_self HSA.out.2.2.1]
            rw [e1, ← HPV.out] at hl0
            have HF := Lib.hid hl0
            have HQ := Lib.hid (HK4.out.2.1.put (g := Lc.wb) (by rw [HK4.out.1.tw]; nofun) p (.slice (some ⟨g, 0, none⟩) (m0 + 1 + (n0 - (i + 1))) cap))
            have HHR := Lib.hid hrun
            clear hl0 e1 hrow hz4 HK3 HK4 HH3 ht hzs hrun hmr
            have hi1 : ((i : Nat) : Int) + 1 ≤ ((n0 : Nat) : Int) := by have h7 := HI.out.num; simp at h7; omega
            have hi2 : (0 : Int) ≤ ((i : Nat) : Int) + 1 := by omega
            have hst := (step_i (j := i) (by omega)).2
            have hi3 : i + 1 ≤ n0 := by omega
            by_cases hce : cap = i + 1
            · have e0 : n0 - (i + 1) = 0 := by omega
              rw [e0] at HHR HF HQ
              simp only [Nat.add_zero] at HHR HF HQ
              have hrun := fun ty c' => HHR.out ty ⟨g, 0, none⟩ c' (.inr (by have := HI.out.num; simp at this; omega))
              clear e0
              subst hce
              go_wp2_with fail
              go_region_law (refine step_run (sv := .slice (some ⟨g, 0, none⟩) (m0 + 1) (i + 1)) (xv := .slice (some ⟨g, 0, none⟩) 0 0) (v' := .slice (some ⟨g, 0, none⟩) (m0 + 1) (i + 1)) (W' := w5.drew.setRow g zs.toArray) rfl (.tmp 55) (.tmp 59) _ _ rfl (by simp [Act.eval, Act.put]) (by simp [Act.eval, Act.put]) (hrun _ _) ?_)
              all_goals
                clear hrun HHR c1 C1 C2 F2
                go_wp2_with fail
                go_ret
                refine ⟨false, _, s2, rfl, HF.out, HQ.out.tag2 fun b hb ht0 ht => ?_, HSA.out.1, nofun, fun _ => HBAD.out, HRA.out.base⟩
                refine (tagOf_ne (tag := Lc.tag) (x := some g) (r := .lst p) (b := b) (fun e => ?_)).trans ht
                injection e with e
                subst e
                rw [HG.out.2.2.2] at ht0; cases ht0
            · have hrun := fun ty c' => HHR.out ty ⟨g, i + 1, none⟩ c' (.inl rfl)
              go_wp2_with fail
              go_region_law (refine step_run (sv := .slice (some ⟨g, 0, none⟩) (m0 + 1) cap) (xv := .slice (some ⟨g, i + 1, none⟩) (n0 - (i + 1)) (cap - (i + 1))) (v' := .slice (some ⟨g, 0, none⟩) (m0 + 1 + (n0 - (i + 1))) cap) (W' := w5.drew.setRow g zs.toArray) rfl (.tmp 55) (.tmp 59) _ _ rfl (by simp [Act.eval, Act.put]) (by simp [Act.eval, Act.put]) (hrun _ _) ?_)
              all_goals
                clear hrun HHR c1 C1 C2 F2
                go_wp2_with fail
                go_ret
                refine ⟨false, _, s2, rfl, HF.out, HQ.out.tag2 fun b hb ht0 ht => ?_, HSA.out.1, nofun, fun _ => HBAD.out, HRA.out.base⟩
                refine (tagOf_ne (tag := Lc.tag) (x := some g) (r := .lst p) (b := b) (fun e => ?_)).trans ht
                injection e with e
                subst e
                rw [HG.out.2.2.2] at ht0; cases ht0
          | false =>
            have HEN : Hid (Ent C G o ∧ s2.hol (-o) = false) := Lib.hid ⟨HRA.out.one HSA.out.2.2.2.2 (by rw [HSA.out.2.1]; simp) fun x hx hne => by
              rw [HSA.out.2.1] at hx
              rcases List.mem_cons.1 hx with e | hx
              · exact absurd e hne
              · rcases List.mem_cons.1 hx with rfl | hx
                · exact HSA.out.2.2.2.1
                · exact HNA.out.2 x hx, hno⟩
            clear hno
            have h3 := room_row (c := c) HI.out.st HI.out.le HIN.out
            obtain ⟨ys, hys⟩ : ∃ ys, ys = xs.take stay.length ++ [ptr c] ++ xs.drop (stay.length + 1) := ⟨_, rfl⟩
            have hrun : ∀ ty, (Builtin.append_ #[86, 86] ty #[.slice (some ⟨g, 0, none⟩) m0 cap, .slice (some ⟨w2.heap.size, 0, none⟩) 1 1]).run Try.prog (w2.alloc (.cells #[.pointer (some ⟨c, 0, none⟩)] 74)) = .ok (.slice (some ⟨g, 0, none⟩) (m0 + 1) cap) ((w2.alloc (.cells #[.pointer (some ⟨c, 0, none⟩)] 74)).setRow g ys.toArray) := fun ty => by
              rw [hys, HM0.out]
              exact run_room (w2.alloc (.cells #[.pointer (some ⟨c, 0, none⟩)] 74)) ty (news := [ptr c]) (m := 1) (c := 1) (by rw [heap_alloc_old _ _ (Array.getElem?_eq_some_iff.1 HKA.out.2.2.2).1]; exact HKA.out.2.2.2) HI.out.len rfl (cell_one_new w2 (ptr c) 74) (by intro u hu; simp at hu; subst hu; rfl) (by have := HI.out.le; have := HIN.out; have := HI.out.len; omega)
            rw [← hys] at h3
            have ht : Lc.tag g = .non := HI.out.tag
            have HK3 : Hid (KAt B v ((w2.alloc (.cells #[.pointer (some ⟨c, 0, none⟩)] 74)).setRow g ys.toArray) k Lc s2 (s2.T.elem ·) (some (pl v l)) ∧ Kept L w ((w2.alloc (.cells #[.pointer (some ⟨c, 0, none⟩)] 74)).setRow g ys.toArray) Lc ∧ ((w2.alloc (.cells #[.pointer (some ⟨c, 0, none⟩)] 74)).setRow g ys.toArray).heap[g]? = some (.cells ys.toArray 74 (0, 0)) ∧ B ≤ ((w2.alloc (.cells #[.pointer (some ⟨c, 0, none⟩)] 74)).setRow g ys.toArray).heap.size) := Lib.hid
              ⟨(HKA.out.1.alloc _).setRow ht _, (HKA.out.2.1.alloc _).setRow (by rw [HG.out.2.2.2]; nofun) _, setRow_heap _ g xs.toArray _ _ _ (by rw [heap_alloc_old _ _ (Array.getElem?_eq_some_iff.1 HKA.out.2.2.2).1]; exact HKA.out.2.2.2), by simp; have := HKA.out.2.2.1; omega⟩
            have H3 := Lib.hid h3
            have HH3 := Lib.hid (holds_any HK3.out.1 hv (isL_neg HR.out.2.1))
            clear h3 hys ht
            rw [HEN.out.2] at HH3
            have HC3 := Lib.hid (come_any HK3.out.1 hv HK3.out.2.2.2 HR.out.2.1 (by have := nodup_lits HRA.out.nod.1 (fun x hx => (HRA.out.nod.2 x hx).1); omega))
            go_wp2_with (at_builtin; refine wpList_run (sv := .slice (some ⟨g, 0, none⟩) m0 cap) (xv := .slice (some ⟨w2.heap.size, 0, none⟩) 1 1) (v' := .slice (some ⟨g, 0, none⟩) (m0 + 1) cap) (W' := (w2.alloc (.cells #[.pointer (some ⟨c, 0, none⟩)] 74)).setRow g ys.toArray) rfl (.tmp 42) (.tmp 44) 86 rfl rfl rfl (hrun _) ?_)
            clear hrun
            refine HH3.out.mono ?_
            rintro e w3 ⟨rfl, rfl⟩
            go_wp2_with fail
            refine HC3.out.mono ?_
            rintro e w4 ⟨rfl, L4, hk4, hp4⟩
            have HM4 : Hid (GapI B v C G w k L s P l g cap n0 (i + 1) L4 (s2.come o) (stay ++ [c]) rest ys w4) := Lib.hid (by
              obtain ⟨y1, y2⟩ := kept_heap hp4 HI.out.tag HK3.out.2.2.1
              obtain ⟨q1, q2, q3, q4, q5, q6⟩ := come_parts (s := s2) (x := o)
              have hri := HRA.out.come HEN.out.1 HEN.out.2 HR.out.2.1
              refine ⟨by have := HI.out.num; simp at this; omega, by have := HI.out.le; simp; omega, hk4, HK3.out.2.1.trans hp4, HSA.out.1.trans (Like.come _ _), hri.keep (by rw [q2]; exact HSA.out.2.2.2.2) (by rw [q3]; exact HSA.out.2.1) (by rw [hol_come, HSA.out.2.2.2.1]; rfl) (by rw [hol_come]; simp), by rw [q1, HSA.out.2.2.1]; simp, y2, y1, by rw [H3.out.1]; exact HI.out.len, H3.out.2.1, fun q d hq => ?_, by rw [hol_come, HSA.out.2.2.2.1]; rfl⟩
              rw [H3.out.2.2 _ (by omega)]
              have := HI.out.re (q + 1) d (by simpa using hq)
              rw [show i + 1 + q = i + (q + 1) by omega]; exact this)
            clear hk4 hp4 HC3 HK3 HKA HI HRA HSA HH3
            go_wp2_with fail
            go_roundg (gk - 1)
            case measure => have := HGK.out; simp at this; omega
            case rel => exact ⟨i + 1, L4, _, stay ++ [c], rest, ys, by rw [HM0.out]; simp, rfl, by have := HGK.out; simp at this; omega, HM4.out⟩
        · have HM2 : Hid (GapI B v C G w k L s P l g cap n0 (i + 1) L2 (s1.move v c a j o l m r stay rest) stay rest xs w2) := Lib.hid (by
            obtain ⟨y1, y2⟩ := kept_heap hp2 HI.out.tag HK1.out.2.2.2
            have pne : pl v m ≠ pl v l := fun e => (HR.out.2.2.1 m (List.mem_of_getElem? x3)).2 (pl_inj (HR.out.2.2.1 m (List.mem_of_getElem? x3)).1 HL.out e)
            refine ⟨by have := HI.out.num; simp at this; omega, by have := HI.out.le; omega, ?_, HK1.out.2.1.trans hp2, HS1.out.1.trans (Like.lit fun _ => by rw [HS1.out.2.1]; exact (set_perm x3).cons o), HRI1.out.move HS1.out.2.2.2.2 HS1.out.2.1 x3 HS1.out.2.2.1 x1 x2 HS1.out.2.2.2.1 x4, ?_, y2, y1, HI.out.len, HI.out.st, fun q d hq => ?_, HS1.out.2.2.2.1⟩
            · have := hk2.gapW (stay ++ rest)
              rw [show up (up s1.W (pl v m) (s1.W (pl v m) ++ [c])) (pl v l) (stay ++ rest) = up (up s1.W (pl v l) (stay ++ rest)) (pl v m) (s1.W (pl v m) ++ [c]) from up_comm pne] at this
              exact this
            · show up (up s1.W (pl v l) (stay ++ rest)) (pl v m) _ (pl v l) = _
              rw [up_ne pne.symm, up_at]
            · have := HI.out.re (q + 1) d (by simpa using hq)
              rw [show i + 1 + q = i + (q + 1) by omega]; exact this)
          clear hk2 hp2 x1 x2 x3 x4 HMV HK1 HI HRI1 HS1
          go_wp2_with fail
          go_roundg (gk - 1)
          case measure => have := HGK.out; simp at this; omega
          case rel => exact ⟨i + 1, L2, _, stay, rest, xs, by rw [HM0.out], rfl, by have := HGK.out; simp at this; omega, HM2.out⟩
end Rw
end Go.Proofs.Ytmgkgbhkaoflhaa
