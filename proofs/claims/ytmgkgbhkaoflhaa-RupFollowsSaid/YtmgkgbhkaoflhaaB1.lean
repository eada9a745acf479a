/-
A clause's literals, sorted, each once: slices.Sorted of slices.Values, then slices.Compact.
A clause more: what holds behind it. Plain facts, and a new clause in memory.
-/
import Derived.Test.YtmgkgbhkaoflhaaA8
import Derived.Test.YtmgkgbhkaoflhaaLuVals
import Derived.Test.YtmgkgbhkaoflhaaA9
import Derived.Test.YtmgkgbhkaoflhaaLuShelf
import Derived.Test.YtmgkgbhkaoflhaaTmShelf
import Derived.Sort.OwnSortedInts
namespace Go.Proofs.Ytmgkgbhkaoflhaa
open Go.RowKit Go.Shelf Go.Sort
namespace Rw
open Cf Rp
set_option maxHeartbeats 3200000
set_option maxRecDepth 100000

def sorted (T : List Int) : List Int := T.mergeSort fun x y => decide (x ≤ y)
open Go.Lib in
theorem compact_sorted (T : List Int) : (compact (sorted T)).Nodup ∧ ∀ x, x ∈ compact (sorted T) ↔ x ∈ T := by
  have hp := List.mergeSort_perm T (fun x y => decide (x ≤ y))
  have hs := List.pairwise_mergeSort (le := fun x y : Int => decide (x ≤ y)) (fun a b c h1 h2 => by simp at *; omega) (fun a b => by simp; omega) T
  unfold sorted
  generalize hS : (T.mergeSort fun x y => decide (x ≤ y)) = S at hp hs
  have hd : ∀ i j, i ≤ j → j < S.toArray.size → S.toArray[i]! ≤ S.toArray[j]! := fun i j hij hj => by
    rw [getElem!_pos S.toArray j hj, getElem!_pos S.toArray i (by omega)]
    by_cases e : i = j
    · subst e; exact Int.le_refl _
    · have := List.pairwise_iff_getElem.1 hs i j (by simp at hj; omega) (by simpa using hj) (by omega)
      simpa using this
  have h1 := Lu.upTo_rise hd S.length (by simp)
  have h2 := Lu.upTo_mem (d := S.toArray) S.length (by simp)
  refine ⟨h1.1.imp (fun h e => by omega), fun x => ?_⟩
  unfold compact
  rw [h2 x, List.take_of_length_le (by simp)]
  exact hp.mem_iff
theorem sorted_len (T : List Int) : (sorted T).length = T.length := List.length_mergeSort T
theorem compact_len (T : List Int) : (Lib.compact (sorted T)).length ≤ T.length :=
  List.Nodup.length_le_of_subset (compact_sorted T).1 fun x hx => ((compact_sorted T).2 x).1 hx
/-- Sorted in a new slice. -/
def SortedR (W : World) (T : List Int) (e : Ending) (w : World) : Prop := ∃ v, e = .returned v ∧ w.ownsRow W.heap.size 3 1 v T.length (rowI (sorted T)) ∧ Below W.heap.size W w
theorem sortedR_any (Bs len cap : Nat) (al : Option Addr) (T : List Int) (w : World) (hl : len = T.length) (hlen : len ≤ 1000000) (hBs : Bs < w.heap.size) (hc : w.cell? ⟨Bs, 0, none⟩ = some (.slice al len cap)) (hT : Lu.LiAt w al T) :
    Calls Try.prog 40 #[.func (.func 57) #[] #[.pointer (some ⟨Bs, 0, none⟩)]] w (SortedR w T) := by
  have HC := Lib.hid (Lu.collect_any Bs len cap al T w hl hlen hBs hc hT)
  have HL := Lib.hid hl
  have HN := Lib.hid hlen
  clear hl hT hc hlen
  go_enter Try.func40, Try.ntmps40
  go_wp2_with fail
  refine (HC.out).mono ?_
  rintro e w1 ⟨v, rfl, hr, hb⟩
  have HB := Lib.hid hb
  clear hb
  rcases hr.2 with ⟨rfl, h0⟩ | ⟨g, cp, cur, rfl, hbase, hh, h1, h2, h3, h4⟩
  · have h0' : T = [] := List.eq_nil_of_length_eq_zero h0
    subst h0'
    clear hr h0
    go_wp2_with fail
    refine (Try.slices_Sort_int_none none 0 w1).mono ?_
    rintro e w' ⟨rfl, rfl⟩
    go_wp2_with fail
    go_ret
    have e0 : sorted [] = [] := by simp [sorted]
    exact ⟨.slice none 0 0, rfl, by rw [e0]; exact World.ownsRow_nil _ _ _ _, HB.out⟩
  · have hS : T.length < 4611686018427387904 := by have := HL.out; have := HN.out; omega
    have hc := Try.slices_Sort_int g 0 cp T w1 (holds_of_blockI hh (by simpa using h4)) (Array.getElem?_eq_some_iff.1 hh).1 hS
    have HHH : Hid (∀ n os, Below w.heap.size w (grow (putRow (Value.int .i64) (Sort.ahead w1 n) g 0 (T.mergeSort fun x y => decide (x ≤ y)).toArray) os) ∧ (grow (putRow (Value.int .i64) (Sort.ahead w1 n) g 0 (T.mergeSort fun x y => decide (x ≤ y)).toArray) os).ownsRow w.heap.size 3 1 (.slice (some ⟨g, 0, none⟩) T.length cp) T.length (rowI (sorted T))) := Lib.hid (fun n os =>
      ⟨HB.out.grown (grownBy_sortedI _) HB.out.size (fun j hj => by cases hj; exact hbase), ownsRow_sortedI (sorted_len T) hbase hh h1 h2 h3⟩)
    have HC2 := Lib.hid hc
    clear hc hh h1 h2 h3 h4 hr hbase hS HC
    go_wp2_with fail
    refine (HC2.out).mono ?_
    rintro e w' ⟨rfl, n, os, rfl⟩
    have H3 := Lib.hid (HHH.out n os)
    generalize grow (putRow (Value.int .i64) (Sort.ahead w1 n) g 0 (T.mergeSort fun x y => decide (x ≤ y)).toArray) os = w2 at H3 ⊢
    clear HHH HC2
    go_wp2_with fail
    go_ret
    exact ⟨_, rfl, H3.out.2, H3.out.1⟩
/-- Each once. -/
theorem compactR_any {B n : Nat} {W : World} {v : Value} {xs : List Int} (hr : W.ownsRow B 3 1 v n (rowI xs)) (hn : n = xs.length) (hsz : n ≤ 1000000) :
    Calls Try.prog 39 #[v] W fun e w => ∃ v', e = .returned v' ∧ w.ownsRow B 3 1 v' (Lib.compact xs).length (rowI (Lib.compact xs)) ∧ W.grownBy w v.ownBlock ∧ v'.ownBlock = v.ownBlock := by
  rcases hr.2 with ⟨rfl, h0⟩ | ⟨g, cp, cur, rfl, hbase, hh, h1, h2, h3, h4⟩
  · have h0' : xs = [] := List.eq_nil_of_length_eq_zero (by omega)
    subst h0'
    refine (Try.slices_Compact_int_empty none 0 W).mono ?_
    rintro e w ⟨rfl, rfl⟩
    exact ⟨_, rfl, World.ownsRow_nil _ _ _ _, ⟨rfl, rfl, rfl, Nat.le_refl _, fun _ _ _ => rfl⟩, rfl⟩
  · subst hn
    have hle : (Lib.compact xs).length ≤ xs.length := by
      have : ∀ (d : Array Int) m, (Lib.compactUpTo d m).length ≤ m := fun d m => by
        induction m with
        | zero => simp [Lib.compactUpTo]
        | succ m ih =>
          rw [Lib.compactUpTo_succ]
          split <;> simp <;> omega
      exact this _ _
    refine (Try.slices_Compact_int g 0 cp xs W (holds_of_blockI hh (by simpa [rowI] using h4)) (by omega) h1).mono ?_
    rintro e w ⟨rfl, q, rfl⟩
    have hb := heap_sortedI (n := q) (os := #[]) (Lib.compact xs ++ List.replicate (xs.length - (Lib.compact xs).length) 0).toArray hh
    have hg := grownBy_sortedI (w := W) (g := g) (n := q) (os := #[]) (Lib.compact xs ++ List.replicate (xs.length - (Lib.compact xs).length) 0).toArray
    rw [grow_empty] at hb hg
    have ht := take_putCellsI cur (Lib.compact xs ++ List.replicate (xs.length - (Lib.compact xs).length) 0) (by simp; omega)
    refine ⟨_, rfl, ⟨by simp [rowI], .inr ⟨g, cp, _, rfl, hbase, hb, by omega, h2, by simp [putCells, h3], ?_⟩⟩, hg, rfl⟩
    have := congrArg (List.take (Lib.compact xs).length) ht
    rw [List.take_take, Nat.min_eq_left (by simp)] at this
    rw [Nat.mul_one, this]
    simp [rowI]
end Rw
end Go.Proofs.Ytmgkgbhkaoflhaa

namespace Go.Proofs.Ytmgkgbhkaoflhaa
open Go.RowKit
namespace Rw
open Cf Rp
set_option maxHeartbeats 1600000
set_option maxRecDepth 100000

/-- What is left of a clause. -/
def leftOf (s : PS) (q : List Int) : List Int := (Lib.compact (sorted q)).filter fun x => !s.hol (-x)
theorem left_mem {s : PS} {q : List Int} {x : Int} : x ∈ leftOf s q ↔ x ∈ q ∧ s.hol (-x) = false := by
  unfold leftOf
  rw [List.mem_filter, (compact_sorted q).2 x]
  simp
theorem left_nodup (s : PS) (q : List Int) : (leftOf s q).Nodup := (compact_sorted q).1.filter _
theorem left_len (s : PS) (q : List Int) : (leftOf s q).length ≤ q.length := Nat.le_trans (List.length_filter_le _ _) (compact_len q)
theorem left_no {s : PS} {q : List Int} {x : Int} (hx : x ∈ q) (h : x ∉ leftOf s q) : s.hol (-x) = true := by
  cases hh : s.hol (-x) with
  | true => rfl
  | false => exact absurd (left_mem.2 ⟨hx, hh⟩) h
section
variable {v : Nat} {C : Cl} {s : PS} {q : List Int}
theorem CI.none (h : CI v C s) (hT : s.T = []) (hl : leftOf s q = []) : CI v (C ++ [q]) { s with br := true } := by
  have hs : ∀ x ∈ C, x ∈ C ++ [q] := fun x hx => List.mem_append_left _ hx
  refine CI.broken (h.wi.same rfl rfl rfl rfl) ?_ rfl
  cases hb : s.br with
  | true => exact (h.bad hb).more hs
  | false =>
    intro A hA _
    refine hA.can q (by simp) fun x hx => ?_
    have := left_no hx (by rw [hl]; simp)
    rw [hol_nil hT] at this
    exact h.entS hb _ this A (hA.less hs) fun l hl => by cases hl
theorem CI.single (h : CI v C s) (hT : s.T = []) {x : Int} (hl : leftOf s q = [x]) (hb : s.br = false) :
    RI v (C ++ [q]) [] s (fun _ z => s.S z = true) ∧ Ent (C ++ [q]) [] x ∧ s.hol (-x) = false ∧ CmpA (C ++ [q]) (s.come x) := by
  have hs : ∀ x ∈ C, x ∈ C ++ [q] := fun x hx => List.mem_append_left _ hx
  have hx := left_mem.1 (show x ∈ leftOf s q by rw [hl]; simp)
  refine ⟨h.ri hb hs hT, fun A hA _ => hA.unit q (by simp) x hx.1 fun y hy hne => ?_, hx.2, fun k hk => ?_⟩
  · have := left_no hy (by rw [hl]; simpa using hne)
    rw [hol_nil hT] at this
    exact h.entS hb _ this A (hA.less hs) fun l hl => by cases hl
  · rcases List.mem_append.1 hk with hk | hk
    · exact ((h.cmp hb).all.like (Like.come s x)) k hk
    · simp at hk
      subst hk
      exact .inr (.inl ⟨x, hx.1, by rw [hol_come]; simp⟩)
/-- With a clause of two literals or more. -/
def PS.more (s : PS) (v c : Nat) (x y : Int) (r : List Int) : PS :=
  { s with ids := s.ids ++ [c], lit := up s.lit c (x :: y :: r), ax := up s.ax c 1, W := up (up s.W (pl v x) (s.W (pl v x) ++ [c])) (pl v y) (s.W (pl v y) ++ [c]) }
theorem CI.two (h : CI v C s) (hT : s.T = []) (hq : areL v q = true) {c : Nat} {x y : Int} {r : List Int} (hl : leftOf s q = x :: y :: r) (hc : c ∉ s.ids) : CI v (C ++ [q]) (s.more v c x y r) := by
  have hs : ∀ x ∈ C, x ∈ C ++ [q] := fun x hx => List.mem_append_left _ hx
  have hnd := left_nodup s q
  rw [hl] at hnd
  have hlit : ∀ z ∈ x :: y :: r, isL z v = true := fun z hz => List.all_eq_true.1 hq z (left_mem.1 (hl ▸ hz)).1
  have hol : ∀ z ∈ x :: y :: r, s.hol (-z) = false := fun z hz => (left_mem.1 (hl ▸ hz)).2
  have hxy : pl v x ≠ pl v y := fun e => by
    have := pl_inj (hlit x (by simp)) (hlit y (by simp)) e
    subst this
    simp at hnd
  have lc : (s.more v c x y r).lit c = x :: y :: r := up_at _ _ _
  have lo : ∀ id, id ≠ c → (s.more v c x y r).lit id = s.lit id := fun id e => up_ne e
  have cn : ∀ p, c ∉ s.W p := fun p hp => hc (h.wi.sub p c hp).1
  have w1 : (s.more v c x y r).W (pl v x) = s.W (pl v x) ++ [c] := by
    show up (up _ _ _) _ _ _ = _
    rw [up_ne hxy, up_at]
  have w2 : (s.more v c x y r).W (pl v y) = s.W (pl v y) ++ [c] := up_at _ _ _
  have w3 : ∀ p, p ≠ pl v x → p ≠ pl v y → (s.more v c x y r).W p = s.W p := fun p e1 e2 => by
    show up (up _ _ _) _ _ _ = _
    rw [up_ne e2, up_ne e1]
  have wsub : ∀ p id, id ∈ (s.more v c x y r).W p → id ∈ s.W p ∨ (id = c ∧ (p = pl v x ∨ p = pl v y)) := fun p id hid => by
    by_cases e1 : p = pl v x
    · subst e1
      rw [w1] at hid
      rcases List.mem_append.1 hid with a | a
      · exact .inl a
      · exact .inr ⟨by simpa using a, .inl rfl⟩
    · by_cases e2 : p = pl v y
      · subst e2
        rw [w2] at hid
        rcases List.mem_append.1 hid with a | a
        · exact .inl a
        · exact .inr ⟨by simpa using a, .inr rfl⟩
      · rw [w3 p e1 e2] at hid; exact .inl hid
  have wsup : ∀ p id, id ∈ s.W p → id ∈ (s.more v c x y r).W p := fun p id hid => by
    by_cases e1 : p = pl v x
    · subst e1; rw [w1]; exact List.mem_append_left _ hid
    · by_cases e2 : p = pl v y
      · subst e2; rw [w2]; exact List.mem_append_left _ hid
      · rw [w3 p e1 e2]; exact hid
  have wi : WI v (s.more v c x y r) := by
    refine ⟨fun p id hid => ?_, fun p => ?_, fun id hid => ?_, fun id hid => ?_⟩
    · rcases wsub p id hid with a | ⟨a, b⟩
      · obtain ⟨i1, a1, a2, a3, a4, a5⟩ := h.wi.sub p id a
        exact ⟨List.mem_append_left _ i1, a1, a2, a3, by rw [lo id (fun e => hc (e ▸ i1))]; exact a4, a5⟩
      · subst a
        exact ⟨by show _ ∈ s.ids ++ [_]; simp, x, y, r, lc, b⟩
    · have sn : ∀ p, (s.W p ++ [c]).Nodup := fun p => List.nodup_append.2 ⟨h.wi.nodup p, by simp, fun a ha b hb => by simp at hb; subst hb; exact fun e => cn p (e ▸ ha)⟩
      by_cases e1 : p = pl v x
      · subst e1; rw [w1]; exact sn _
      · by_cases e2 : p = pl v y
        · subst e2; rw [w2]; exact sn _
        · rw [w3 p e1 e2]; exact h.wi.nodup p
    · rcases List.mem_append.1 hid with hid | hid
      · obtain ⟨a1, a2, a3, a4, a5, a6⟩ := h.wi.mem id hid
        exact ⟨a1, a2, a3, by rw [lo id (fun e => hc (e ▸ hid))]; exact a4, wsup _ _ a5, wsup _ _ a6⟩
      · simp at hid
        subst hid
        exact ⟨x, y, r, lc, by rw [w1]; simp, by rw [w2]; simp⟩
    · rcases List.mem_append.1 hid with hid | hid
      · have hne : id ≠ c := fun e => hc (e ▸ hid)
        have ho := h.wi.ok id hid
        rw [lo id hne]
        refine ⟨ho.1, ho.2.1, ?_, ?_⟩
        · show 1 ≤ up s.ax c 1 id
          rw [up_ne hne]; exact ho.2.2.1
        · show up s.ax c 1 id < _
          rw [up_ne hne]; exact ho.2.2.2
      · simp at hid
        subst hid
        rw [lc]
        refine ⟨hnd, hlit, ?_, ?_⟩
        · show 1 ≤ up s.ax id 1 id
          rw [up_at]; exact Nat.le_refl _
        · show up s.ax id 1 id < _
          rw [up_at]; simp
  cases hb : s.br with
  | true => exact CI.broken wi ((h.bad hb).more hs) hb
  | false =>
    have two : ∀ id, id ≠ c → ∀ a b, Two (s.more v c x y r) id a b → Two s id a b := fun id hne a b ht => by
      unfold Two at ht ⊢
      rw [lo id hne] at ht
      exact ht
    have ids : ∀ id, id ∈ (s.more v c x y r).ids → (id ∈ s.ids ∧ id ≠ c) ∨ id = c := fun id hid => by
      rcases List.mem_append.1 hid with hid | hid
      · exact .inl ⟨hid, fun e => hc (e ▸ hid)⟩
      · exact .inr (by simpa using hid)
    have hn := fun z => hol_nil hT (s := s) z
    refine ⟨wi, fun e => absurd (hb.symm.trans e) (by decide), fun _ id hid a b ht hsa => ?_, fun _ => h.cons hb, fun _ z hz => (h.entS hb z hz).more hs, fun _ id hid => ?_, fun _ k hk => ?_⟩
    · rcases ids id hid with ⟨i1, i2⟩ | rfl
      · exact h.i0 hb id i1 a b (two id i2 a b ht) hsa
      · have ha : a ∈ x :: y :: r := by
          rcases two_at lc ht with ⟨e, _⟩ | ⟨e, _⟩ <;> rw [e] <;> simp
        have := hol a ha
        rw [hn] at this
        have hsa : s.S (-a) = true := hsa
        rw [this] at hsa; cases hsa
    · rcases ids id hid with ⟨i1, i2⟩ | rfl
      · obtain ⟨k, hk, a, b⟩ := h.snd hb id i1
        rw [lo id i2]
        exact ⟨k, hs k hk, a, b⟩
      · rw [lc, ← hl]
        refine ⟨q, by simp, fun z hz => ?_, fun z hz => (left_mem.1 hz).1⟩
        by_cases e : z ∈ leftOf s q
        · exact .inl e
        · have := left_no hz e
          rw [hn] at this
          exact .inr this
    · rcases List.mem_append.1 hk with hk | hk
      · rcases h.cmp hb k hk with e | e | ⟨id, e1, e2⟩
        · exact .inl e
        · exact .inr (.inl e)
        · exact .inr (.inr ⟨id, List.mem_append_left _ e1, by rw [lo id (fun e => hc (e ▸ e1))]; exact e2⟩)
      · simp at hk
        subst hk
        exact .inr (.inr ⟨c, by show c ∈ s.ids ++ [c]; simp, fun z hz => by rw [lc, ← hl] at hz; exact (left_mem.1 hz).1⟩)
end
theorem row_base {w : World} {B B' : Nat} {e : TypeId} {size : Nat} {x : Value} {n : Nat} {xs : List Value} (h : w.ownsRow B' e size x n xs) (hb : B ≤ B') : w.ownsRow B e size x n xs := by
  rcases h with ⟨h0, h1 | ⟨g, cap, cur, a, b, r⟩⟩
  · exact ⟨h0, .inl h1⟩
  · exact ⟨h0, .inr ⟨g, cap, cur, a, Nat.le_trans hb b, r⟩⟩
/-- A new clause in memory. -/
theorem KAt.clauseNew {B v : Nat} {w : World} {k : Nat} {L : Lay} {s : PS} {D : Int → Bool} {gap : Option Nat} (h : KAt B v w k L s D gap) {c g cap : Nat} {l : List Int} (hc : c ∉ s.ids) (hB : B ≤ c) (tc : L.tag c = .non) (tg : L.tag g = .non) (hcg : c ≠ g)
    (hh : w.heap[c]? = some (.cells #[.slice (some ⟨g, 0, none⟩) l.length cap, .int .i64 1] 76 (0, 0))) (hr : w.ownsRow B 3 1 (.slice (some ⟨g, 0, none⟩) l.length cap) l.length (rowI l)) :
    KAt B v w k { L with lv := up L.lv c (.slice (some ⟨g, 0, none⟩) l.length cap), tag := tagOf (tagOf L.tag (some c) .cls) (some g) (.lit c) } { s with ids := s.ids ++ [c], lit := up s.lit c l, ax := up s.ax c 1 } D gap := by
  have q : ∀ {b : Nat} {r : Role}, L.tag b = r → r ≠ .non → tagOf (tagOf L.tag (some c) .cls) (some g) (.lit c) b = r := fun {b r} hb h1 => by
    rw [tagOf_ne, tagOf_ne]
    · exact hb
    · intro e
      injection e with e
      subst e
      exact h1 (hb.symm.trans tc)
    · intro e
      injection e with e
      subst e
      exact h1 (hb.symm.trans tg)
  have qc : tagOf (tagOf L.tag (some c) .cls) (some g) (.lit c) c = .cls := by
    rw [tagOf_ne (fun e => hcg (by injection e with e; exact e.symm)), tagOf_at]
  have ne : ∀ c' ∈ s.ids, c' ≠ c := fun c' hc' e => hc (e ▸ hc')
  refine ⟨h.ck, h.cw, h.su, h.de, h.ca, h.ws, fun c' hc' => ?_, fun c' hc' => ?_, q h.tk nofun, q h.tw nofun, q h.ts nofun, q h.td nofun, fun b e => q (h.tc b e) nofun, fun p hp hg b e => q (h.tl p hp hg b e) nofun, fun c' hc' => ?_, fun c' hc' b e => ?_, fun b hb => ?_⟩
  · show w.heap[c']? = some (Obj.cells #[up L.lv c _ c', .int .i64 ((up s.ax c 1 c' : Nat) : Int)] _ _)
    rcases List.mem_append.1 hc' with hc' | hc'
    · rw [up_ne (ne c' hc'), up_ne (ne c' hc')]
      exact h.cl c' hc'
    · simp at hc'
      subst hc'
      rw [up_at, up_at]
      exact hh
  · show w.ownsRow B _ 1 (up L.lv c _ c') (up s.lit c l c').length (rowI (up s.lit c l c'))
    rcases List.mem_append.1 hc' with hc' | hc'
    · rw [up_ne (ne c' hc'), up_ne (ne c' hc')]
      exact h.cq c' hc'
    · simp at hc'
      subst hc'
      rw [up_at, up_at]
      exact hr
  · show tagOf _ _ _ c' = _
    rcases List.mem_append.1 hc' with hc' | hc'
    · exact q (h.ti c' hc') nofun
    · simp at hc'
      subst hc'
      exact qc
  · have e : (up L.lv c (.slice (some ⟨g, 0, none⟩) l.length cap) c').ownBlock = some b := e
    show tagOf _ _ _ b = _
    rcases List.mem_append.1 hc' with hc' | hc'
    · rw [up_ne (ne c' hc')] at e
      exact q (h.tq c' hc' b e) nofun
    · simp at hc'
      subst hc'
      rw [up_at] at e
      have e : some g = some b := e
      injection e with e
      subst e
      exact tagOf_at
  · have hb : tagOf (tagOf L.tag (some c) .cls) (some g) (.lit c) b ≠ .non := hb
    by_cases e : b = c
    · rw [e]
      exact ⟨hB, (Array.getElem?_eq_some_iff.1 hh).1⟩
    · by_cases e2 : b = g
      · rw [e2]
        exact hr.lt g rfl
      · rw [tagOf_ne (fun c => e2 (by injection c with c; exact c.symm)), tagOf_ne (fun c' => e (by injection c' with c'; exact c'.symm))] at hb
        exact h.low b hb
end Rw
end Go.Proofs.Ytmgkgbhkaoflhaa
