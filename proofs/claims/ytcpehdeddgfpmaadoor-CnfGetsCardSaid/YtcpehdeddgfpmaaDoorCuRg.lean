/-
A range over a function that keeps what is left in a cell of its own: the rule for the statement, and the contract that it asks of the function.
A text's lines with their ends, and what stands between bytes, piece by piece by where a byte comes first. Plain facts.
strings.Lines and the function that it returns: the lines come, one by one.
strings.SplitSeq by one byte, and the function that it returns: what stands between comes, piece by piece.
-/
import Derived.RangeFuncNested
import Derived.RangeFuncBound
import Derived.RangeFuncCalls
import Derived.RangeFuncLeaves
import Derived.RangeFuncFrom
import Derived.Lib.IndexLaws
import Derived.Lib.IndexBytes
import Derived.Test.YtcpehdeddgfpmaaDoorCfText
import Derived.Test.YtcpehdeddgfpmaaDoorCuShelf
import Derived.Test.YtcpehdeddgfpmaaDoorCuStand
import Derived.Shelf.Abstract
import Derived.Shelf.RegionOpen
import Derived.WalkKit
import Derived.OwnWalkIn
import Derived.TacticsInMore
import Derived.LoopNIn
import Derived.LoopIn
import Derived.Laws.DeepStrings4
namespace Go.Proofs.YtcpehdeddgfpmaaDoor
open Go.RowKit
namespace Cf
set_option maxHeartbeats 1600000

/-- The cells at the heads of these blocks read as they did. -/
def Same (bs : List Nat) (V V' : World) : Prop := ∀ c ∈ bs, V'.cell? ⟨c, 0, none⟩ = V.cell? ⟨c, 0, none⟩ ∧ V'.frozen? ⟨c, 0, none⟩ = V.frozen? ⟨c, 0, none⟩
theorem Same.trans {bs : List Nat} {A B C : World} (h : Same bs A B) (k : Same bs B C) : Same bs A C := fun c hc => ⟨(k c hc).1.trans (h c hc).1, (k c hc).2.trans (h c hc).2⟩

/-- What the function's call owes: piece by piece the rounds are run, whatever the caller keeps between two of them, as long as the cells bs are the function's alone, of which it writes b. -/
def Gives (F : Fence) (n : Nat) (P : Program) (g b : Nat) (bs : List Nat) (lb : Array Value) (Z : World → Prop) (xs : List Value) : Prop :=
  ∀ (l : Nat) (J : Nat → World → Prop) (Jx : World → Prop) (W : World),
    Z W →
    (∀ k V v, J k V → J k (V.setCell ⟨b, 0, none⟩ v)) → (∀ k V, J k V → J k V.drew) → (∀ k V o, J k V → J k (V.alloc o)) →
    (∀ k x V, xs[k]? = some x → J k V → YieldAt F (n - 1) P l #[x] V fun e V' =>
      (e = .returned (.bool true) ∧ J (k + 1) V' ∧ Same bs V V') ∨ (e = .returned (.bool false) ∧ Jx V')) →
    J 0 W → CallsIn F n P g (#[.func (.yield l) #[] #[]] ++ lb) W fun e V' => (∃ v, e = .returned v) ∧ (J xs.length V' ∨ Jx V')

/-- How a round may end: on, or by the function's return. -/
def pieceEnd (bs : List Nat) (I : Nat → World → Prop) (Ix : World → Prop) (k : Nat) (V : World) : Exit → Act → World → Prop
  | .normal, _, V' => KeepsOthers V V' ∧ Same bs V V' ∧ I (k + 1) V'
  | .ret, _, V' => KeepsOthers V V' ∧ Ix V'
  | _, _, _ => False

/-- The statement's own two blocks. -/
def Books (D : Nat) (r : Loop) (V : World) : Prop := V.heap[D + 1]? = some (.loop r) ∧ V.heap[D]? = some (.deferred (some []))
theorem Books.set {D b : Nat} {r : Loop} {V : World} (h : Books D r V) (hb : b < D) (v : Value) : Books D r (V.setCell ⟨b, 0, none⟩ v) :=
  ⟨(Below.heap_setCell V _ v (D + 1) (show D + 1 ≠ b by omega)).trans h.1, (Below.heap_setCell V _ v D (show D ≠ b by omega)).trans h.2⟩
theorem Books.alloc {D : Nat} {r : Loop} {V : World} (h : Books D r V) (o : Obj) : Books D r (V.alloc o) :=
  ⟨(Below.heap_alloc V o (D + 1) (Array.getElem?_eq_some_iff.1 h.1).1).trans h.1, (Below.heap_alloc V o D (Array.getElem?_eq_some_iff.1 h.2).1).trans h.2⟩
theorem Books.others {D : Nat} {r : Loop} {V V' : World} (h : Books D r V) (k : KeepsOthers V V') : Books D r V' := ⟨k.same _ _ h.1 rfl, k.same _ _ h.2 rfl⟩
theorem Books.put {D : Nat} {r : Loop} {V : World} (h : Books D r V) (r' : Loop) : Books D r' (V.putObj (D + 1) (.loop r')) :=
  ⟨World.putObj_heap_same (Array.getElem?_eq_some_iff.1 h.1).1, (World.putObj_heap_other (by omega)).trans h.2⟩
theorem same_putObj {V : World} {D : Nat} {bs : List Nat} (hb : ∀ c ∈ bs, c < D) (o : Obj) : Same bs V (V.putObj (D + 1) o) := fun c hc => by
  have h : (V.putObj (D + 1) o).heap[c]? = V.heap[c]? := World.putObj_heap_other (by have := hb c hc; omega)
  exact ⟨World.cell?_of_block h, World.frozen?_of_block h⟩

section
variable {F : Fence} {n : Nat} {P : Program}
theorem range_cell {g : Operand} {ps : Array Tmp} {assign body : Code} {Q : Exit → Act → World → Prop} {a : Act} {w : World} {gf b : Nat} {bs : List Nat} {Z : World → Prop} {xs : List Value}
    (hro : F.round = none) (h1 : 1 ≤ n) {lb : Array Value} (hg : a.eval g = .func (.func gf) #[] lb) (hFg : F.fn gf) (eg : ∀ args V, (callFunc gf args).run P V = .ok (.enter gf args) V)
    (hit : Gives F (n - 1) P gf b bs lb Z xs) (hb : ∀ c ∈ bs, c < w.heap.size) (hbb : b ∈ bs) (hZ : Z w) (hZs : ∀ V V', Same bs V V' → Z V → Z V') (hps : ps.size = 1)
    (I : Nat → World → Prop) (Ix : World → Prop) (hI : OwnFrom w.heap.size I) (hIb : ∀ k V v, I k V → I k (V.setCell ⟨b, 0, none⟩ v)) (hId : ∀ k V, I k V → I k V.drew) (hIx : OwnFrom w.heap.size (fun (_ : Unit) => Ix)) (h0 : I 0 w)
    (a₁ : Value → Act)
    (hassign : ∀ (l : Nat) (x : Value) (V : World) (K : Act → World → Prop), K (a₁ x) V → assign.wpIn (F.inRound l) (n - 1 - 1) P (Exit.then K (fun _ _ _ => False)) { tmps := (ps.zip #[x]).foldl (fun t (p, v) => t.setIfInBounds p v) a.tmps, defers := [] } V)
    (hbody : ∀ (l k : Nat) (x : Value) (V : World), xs[k]? = some x → I k V → body.wpIn (F.inRound l) (n - 1 - 1) P (pieceEnd bs I Ix k V) (a₁ x) V)
    (hdone : ∀ (D : Nat) (V : World), w.heap.size ≤ D → I xs.length V → V.heap[D]? = some (.deferred (some [])) → Q .normal { a with defers := { target := .collected D, args := #[] } :: a.defers } V)
    (hstop : ∀ (D : Nat) (V : World), w.heap.size ≤ D → Ix V → V.heap[D]? = some (.deferred (some [])) → Code.ret.wpIn F n P Q { a with defers := { target := .collected D, args := #[] } :: a.defers } V) :
    (Code.rangeFunc g ps assign body).wpIn F n P Q a w := by
  refine wpIn_rangeFunc fun fn hfn => ?_
  rw [hro]
  obtain ⟨D, hD⟩ : ∃ D, D = w.heap.size := ⟨_, rfl⟩
  obtain ⟨r, hr⟩ : ∃ r : LoopState → Option Code → Loop, r = fun st pe => { state := st, pending := pe, fn, tmps := a.tmps, params := ps, assign, body, defers := D } := ⟨_, rfl⟩
  obtain ⟨U, hU⟩ : ∃ U, U = (w.alloc (.deferred (some []))).alloc (.loop (r .ready none)) := ⟨_, rfl⟩
  have hen : (Instr.enterLoop fn a.tmps ps assign body none).run P w = .ok (D + 1, [{ target := .collected D, args := #[] }]) U := by
    rw [hU, hr, hD]; exact run_enterLoop_outer fn a.tmps ps assign body
  have hbk : Books D (r .ready none) U := by
    constructor
    · rw [hU, show D + 1 = (w.alloc (.deferred (some []))).heap.size by rw [World.size_alloc, hD]]; exact World.alloc_heap_new _ _
    · rw [hU, Below.heap_alloc _ _ _ (by rw [World.size_alloc]; omega), hD]; exact World.alloc_heap_new _ _
  have hbU : Same bs w U := fun c hc => by
    have h : U.heap[c]? = w.heap[c]? := by rw [hU, Below.heap_alloc _ _ _ (by rw [World.size_alloc]; have := hb c hc; omega), Below.heap_alloc _ _ _ (hb c hc)]
    exact ⟨World.cell?_of_block h, World.frozen?_of_block h⟩
  have hIU : I 0 U := by rw [hU]; exact hI.alloc _ (hI.alloc _ h0)
  have hbsD : ∀ c ∈ bs, c < D := fun c hc => by rw [hD]; exact hb c hc
  have hbD : b < D := hbsD b hbb
  have hst : ∀ st pe, (r st pe).state = st := fun _ _ => by rw [hr]
  have hpe : ∀ st pe, (r st pe).pending = pe := fun _ _ => by rw [hr]
  have hta : ∀ st pe, (r st pe).tmps = a.tmps := fun _ _ => by rw [hr]
  have has' : ∀ st pe, (r st pe).assign = assign := fun _ _ => by rw [hr]
  have hbo : ∀ st pe, (r st pe).body = body := fun _ _ => by rw [hr]
  have hpa : ∀ st pe, (r st pe).params = ps := fun _ _ => by rw [hr]
  have hwi : ∀ st pe st' pe', { r st pe with state := st', pending := pe' } = r st' pe' := fun _ _ _ _ => by rw [hr]
  have hws : ∀ st pe st', { r st pe with state := st' } = r st' pe := fun _ _ _ => by rw [hr]
  refine ⟨D + 1, [{ target := .collected D, args := #[] }], U, { target := .fn (.func gf) lb, args := #[.func (.yield (D + 1)) #[] #[]] }, U, gf, #[.func (.yield (D + 1)) #[] #[]] ++ lb, U, hen, ?_, ?_, ?_, fun _ => h1, ?_⟩
  · simp only [resolve, hg]; simp [go_sem]
  · intro f' h'; simp [Target.leads] at h'; subst h'; exact hFg
  · simp [invoke, go_sem, eg]
  refine (hit (D + 1) (fun k V => I k V ∧ Books D (r .ready none) V) (fun V => Ix V ∧ Books D (r .done (some .ret)) V) U (hZs _ _ hbU hZ)
    (fun k V v h => ⟨hIb k V v h.1, h.2.set hbD v⟩) (fun k V h => ⟨hId k V h.1, h.2⟩) (fun k V o h => ⟨hI.alloc o h.1, h.2.alloc o⟩) ?_ ⟨hIU, hbk⟩).mono ?_
  · rintro k x V hx ⟨hi, hk⟩
    have hy := run_yield (P := P) (args := #[x]) hk.1 (by rw [hpa, hps]; rfl)
    refine ⟨_, _, _, _, hy, roundIn_of_wpIn (by rw [hr]; exact hfn) ?_⟩
    have hbr := run_beginRound (P := P) hk.1 (hst _ _)
    rw [hws] at hbr
    have hk2 := hk.put (r .busy none)
    have hc2 := same_putObj (V := V) hbsD (.loop (r .busy none))
    have hi2 : I k (V.putObj (D + 1) (.loop (r .busy none))) := hI.putObj _ hi (by omega) hk.1 rfl
    generalize hV2 : V.putObj (D + 1) (.loop (r .busy none)) = V2 at hbr hk2 hc2 hi2
    have hwalk := hbody (D + 1) k x V2 hx hi2
    have hassg := hassign (D + 1) x V
    rw [hta, has', hbo, hpa]
    refine hassg _ ⟨V2, hbr, wpIn_mono hwalk ?_⟩
    intro e a3 V3 hp
    match e, hp with
    | .normal, ⟨ho, hcl, hi3⟩ =>
      have hk3 := hk2.others ho
      have he := run_endRound (P := P) none hk3.1
      rw [hwi] at he
      exact ⟨_, _, he, .inl ⟨rfl, ⟨hI.putObj _ hi3 (by omega) hk3.1 rfl, hk3.put _⟩, (hc2.trans hcl).trans (same_putObj hbsD _)⟩⟩
    | .ret, ⟨ho, hi3⟩ =>
      have hk3 := hk2.others ho
      have he := run_endRound (P := P) (some .ret) hk3.1
      rw [hwi] at he
      exact ⟨_, _, he, .inr ⟨rfl, hIx.putObj (s := ()) _ hi3 (by omega) hk3.1 rfl, hk3.put _⟩⟩
  · rintro e V ⟨⟨v, rfl⟩, ⟨hi, hk⟩ | ⟨hi, hk⟩⟩
    · have he := run_endLoop (P := P) hk.1 (by rw [hst]; simp)
      rw [hpe] at he
      have hk2 : ∀ r', (V.putObj (D + 1) (.loop r')).heap[D]? = some (.deferred (some [])) := fun r' => (hk.put r').2
      exact ⟨none, _, he, hdone D _ (by omega) (hI.putObj _ hi (by omega) hk.1 rfl) (hk2 _)⟩
    · have he := run_endLoop (P := P) hk.1 (by rw [hst]; simp)
      rw [hpe] at he
      have hk2 : ∀ r', (V.putObj (D + 1) (.loop r')).heap[D]? = some (.deferred (some [])) := fun r' => (hk.put r').2
      exact ⟨some .ret, _, he, hstop D _ (by omega) (hIx.putObj (s := ()) _ hi (by omega) hk.1 rfl) (hk2 _)⟩
end
end Cf
end Go.Proofs.YtcpehdeddgfpmaaDoor

namespace Go.Proofs.YtcpehdeddgfpmaaDoor
namespace Cf
theorem split_no {c : UInt8} : ∀ {s : By}, Lib.indexByte s c = -1 → splitB c s = [s]
  | [], _ => rfl
  | b :: r, h => by
    unfold Lib.indexByte at h
    by_cases hb : b = c
    · subst hb; simp at h
    · have hb' : (b == c) = false := by simpa using hb
      rw [hb'] at h
      by_cases hr : Lib.indexByte r c = -1
      · unfold splitB
        rw [if_neg hb, split_no hr]
      · have := Lib.indexByte_ge r c
        have hr' : (Lib.indexByte r c == -1) = false := by simpa using hr
        rw [hr'] at h
        simp only [Bool.false_eq_true, if_false] at h
        omega
theorem split_ix {c : UInt8} : ∀ {s : By} {i : Nat}, Lib.indexByte s c = (i : Int) → splitB c s = s.take i :: splitB c (s.drop (i + 1))
  | [], i, h => by unfold Lib.indexByte at h; omega
  | b :: r, i, h => by
    unfold Lib.indexByte at h
    by_cases hb : b = c
    · subst hb
      rw [if_pos (by simp)] at h
      obtain rfl : i = 0 := by omega
      simp [splitB]
    · have hb' : (b == c) = false := by simpa using hb
      rw [hb'] at h
      by_cases hr : Lib.indexByte r c = -1
      · rw [hr] at h; simp only [Bool.false_eq_true, if_false, beq_self_eq_true, if_true] at h; omega
      · have hge := Lib.indexByte_ge r c
        have hr' : (Lib.indexByte r c == -1) = false := by simpa using hr
        rw [hr'] at h
        simp only [Bool.false_eq_true, if_false] at h
        obtain ⟨j, rfl⟩ : ∃ j, i = j + 1 := ⟨i - 1, by omega⟩
        have ih := split_ix (c := c) (s := r) (i := j) (by omega)
        have e : splitB c (b :: r) = match splitB c r with
            | h :: t => (b :: h) :: t
            | [] => [[b]] := by rw [splitB, if_neg hb]; rfl
        rw [e, ih]
        simp
/-- Lines, each with its end. -/
def joinL : List By → List By
  | [] => []
  | [x] => if x = [] then [] else [x]
  | x :: y :: t => (x ++ [10]) :: joinL (y :: t)
def linesL (s : By) : List By := joinL (splitB 10 s)
theorem lines_nil : linesL [] = [] := rfl
theorem lines_no {s : By} (h : Lib.indexByte s 10 = -1) (h0 : s ≠ []) : linesL s = [s] := by
  unfold linesL
  rw [split_no h]
  simp [joinL, h0]
theorem lines_at {s : By} {i : Nat} (h : Lib.indexByte s 10 = (i : Int)) : linesL s = s.take (i + 1) :: linesL (s.drop (i + 1)) := by
  have hi := (Lib.indexByte_some h).1
  unfold linesL
  rw [split_ix h]
  cases hs : splitB 10 (s.drop (i + 1)) with
  | nil => exact absurd hs (split_ne _ _)
  | cons y t =>
    simp only [joinL]
    rw [List.take_add_one, hi]
    rfl
end Cf
end Go.Proofs.YtcpehdeddgfpmaaDoor

namespace Go.Proofs.YtcpehdeddgfpmaaDoor
open Go.RowKit Go.Shelf
namespace Cf
set_option maxHeartbeats 3200000
set_option maxRecDepth 100000
theorem slines_any (W : World) (s : ByteArray) : Calls Tryd.prog 18 #[.string s] W fun e w => e = .returned (.func (.func 39) #[] #[.pointer (some ⟨W.heap.size, 0, none⟩)]) ∧ w = W.alloc (.cells #[.string s] 9) := by
  go_enter Tryd.func18, Tryd.ntmps18
  go_wp2_with fail
  go_ret
  exact ⟨rfl, rfl⟩
/-- A text's bytes as a value. -/
def strW (l : By) : Value := .string ⟨l.toArray⟩
theorem strW_of (s : ByteArray) : strW s.data.toList = .string s := by
  obtain ⟨⟨l⟩⟩ := s
  rfl
theorem extract_is (s : ByteArray) (a b : Nat) : s.extract a b = ⟨((s.data.toList.drop a).take (b - a)).toArray⟩ := by
  have h := Lib.extract_data s a b
  cases hs : s.extract a b with
  | mk d =>
    rw [hs] at h
    cases d with
    | mk l => simp at h; rw [h]
/-- What is left, in the cell. -/
def LeftC (b : Nat) (r : By) (V : World) : Prop := V.cell? ⟨b, 0, none⟩ = some (strW r) ∧ V.frozen? ⟨b, 0, none⟩ = false
theorem LeftC.same {b : Nat} {r : By} {V V' : World} (h : LeftC b r V) (k : Same [b] V V') : LeftC b r V' := ⟨(k b (by simp)).1.trans h.1, (k b (by simp)).2.trans h.2⟩
open Classical in
noncomputable def leftLen (b : Nat) (V : World) : Nat := if h : ∃ r : By, V.cell? ⟨b, 0, none⟩ = some (strW r) then (Classical.choose h).length else 0
theorem leftLen_eq {b : Nat} {r : By} {V : World} (h : LeftC b r V) : leftLen b V = r.length := by
  have hex : ∃ r : By, V.cell? ⟨b, 0, none⟩ = some (strW r) := ⟨r, h.1⟩
  unfold leftLen
  rw [dif_pos hex]
  have e := Classical.choose_spec hex
  revert e
  generalize Classical.choose hex = q
  intro e
  rw [h.1] at e
  unfold strW at e
  simp only [Option.some.injEq, Value.string.injEq, ByteArray.mk.injEq] at e
  have := congrArg Array.toList e
  simp at this
  rw [← this]
theorem lines_gives (n b : Nat) (hn : 1 ≤ n) (s : By) (hs : s.length ≤ 1000000000) :
    Gives Fence.wide n Tryd.prog 39 b [b] #[.pointer (some ⟨b, 0, none⟩)] (LeftC b s) ((linesL s).map strW) := by
  intro l J Jx W hZ hJs hJd _ hY h0
  refine callsIn_of_wp Tryd.func39 rfl trivial ?_ rfl
  simp only [Tryd.ntmps39, List.size_toArray, List.length_cons, List.length_nil, Nat.reduceAdd, Nat.reduceSub, Array.replicate_succ, Array.replicate_zero, List.push_toArray, List.append_toArray, List.nil_append, List.cons_append]
  gi_wp2
  gi_loopw [3] (fun _ wr => ∃ k r, LeftC b r wr ∧ r.length ≤ s.length ∧ k ≤ ((linesL s).map strW).length ∧ ((linesL s).map strW).drop k = (linesL r).map strW ∧ J k wr) (fun _ wr => leftLen b wr)
  case atStart => exact ⟨0, s, hZ, Nat.le_refl _, Nat.zero_le _, rfl, h0⟩
  case round =>
    obtain ⟨k, r, hL, hrl, hkl, hdr, hJ⟩ := hrel
    by_cases h0r : r = []
    · subst h0r
      have c0 : wr.cell? ⟨b, 0, none⟩ = some (.string ⟨#[]⟩) := hL.1
      gi_wp2
      go_end0
      refine ⟨⟨_, rfl⟩, .inl ?_⟩
      rw [lines_nil, List.map_nil, List.drop_eq_nil_iff] at hdr
      obtain rfl : k = ((linesL s).map strW).length := by omega
      exact hJ
    · obtain ⟨c0, f0⟩ := hL
      have hsz : (⟨r.toArray⟩ : ByteArray).size = r.length := rfl
      have hne : (0 : Int) < ((r.length : Nat) : Int) := by
        have : 0 < r.length := List.length_pos_iff.2 h0r
        omega
      unfold strW at c0
      rcases Classical.em (Lib.indexByte r 10 = -1) with hi | hi
      · have HI : Hid (∀ V : World, Calls Tryd.prog 40 #[.string ⟨r.toArray⟩, .int .u8 10] V fun e w' => e = .returned (.int .i64 (-1)) ∧ w' = V) := Lib.hid (fun V => by
          have := Tryd.strings_IndexByte ⟨r.toArray⟩ 10 V
          rw [show Lib.indexByte (⟨r.toArray⟩ : ByteArray).data.toList (10 : Int).toNat.toUInt8 = -1 from hi] at this
          exact this)
        rw [lines_no hi h0r] at hdr
        have hx : ((linesL s).map strW)[k]? = some (strW r) := by
          have := congrArg (fun q => q[0]?) hdr
          simpa using this
        obtain ⟨fn, tmps, assign, body, hy, hR⟩ := hY k (strW r) (wr.setCell ⟨b, 0, none⟩ (.string ⟨#[]⟩)) hx (hJs _ _ _ hJ)
        unfold strW at hy
        have hL2 : LeftC b [] (wr.setCell ⟨b, 0, none⟩ (.string ⟨#[]⟩)) := ⟨World.cell?_setCell_same' _ _ _ (by rw [c0]; rfl), by rw [World.frozen?_setCell]; exact f0⟩
        have HL2 := Lib.hid hL2
        have HR := Lib.hid hR
        have HK : Hid (k < ((linesL s).map strW).length) := Lib.hid ((List.getElem?_eq_some_iff.1 hx).1)
        have HD := Lib.hid hdr
        have HLL := Lib.hid (leftLen_eq (V := wr) (b := b) (r := r) ⟨c0, f0⟩)
        have HRL := Lib.hid h0r
        clear hL2 hR hx hdr hJ hkl h0r
        gi_wp2_with (refine ⟨trivial, ?_⟩; gi_at_call 40; refine (callsIn_wide.2 (HI.out _)).mono ?_; rintro e w' ⟨rfl, rfl⟩)
        refine HR.out.mono ?_
        rintro e W3 (⟨rfl, hJ3, hk3⟩ | ⟨rfl, hJx3⟩)
        · have hL3 := HL2.out.same hk3
          gi_wp2
          go_roundw
          case rel => exact ⟨k + 1, [], hL3, by simp, HK.out, by rw [← List.drop_drop, HD.out]; simp [lines_nil], hJ3⟩
          case measure => rw [leftLen_eq hL3, HLL.out]; exact List.length_pos_iff.2 HRL.out
        · gi_wp2
          refine bodyPost_ret (results_none rfl _ _ _) rfl ?_
          exact ⟨⟨_, rfl⟩, .inr hJx3⟩
      · obtain ⟨i, hi2⟩ : ∃ i : Nat, Lib.indexByte r 10 = (i : Int) := ⟨(Lib.indexByte r 10).toNat, by have := Lib.indexByte_ge r 10; omega⟩
        have HI : Hid (∀ V : World, Calls Tryd.prog 40 #[.string ⟨r.toArray⟩, .int .u8 10] V fun e w' => e = .returned (.int .i64 ((i : Nat) : Int)) ∧ w' = V) := Lib.hid (fun V => by
          have := Tryd.strings_IndexByte ⟨r.toArray⟩ 10 V
          rw [show Lib.indexByte (⟨r.toArray⟩ : ByteArray).data.toList (10 : Int).toNat.toUInt8 = (i : Int) from hi2] at this
          exact this)
        have hil : i < r.length := by
          have := (Lib.indexByte_some hi2).1
          exact (List.getElem?_eq_some_iff.1 this).1
        obtain ⟨rs, hrs⟩ : ∃ rs : ByteArray, rs = ⟨r.toArray⟩ := ⟨_, rfl⟩
        have hsz2 : rs.size = r.length := by rw [hrs]; rfl
        rw [← hrs] at c0 HI hsz
        have q0 : (0 : Int) ≤ ((i : Nat) : Int) := by omega
        have q1 : wrap64 (((i : Nat) : Int) + 1) = ((i : Nat) : Int) + 1 := by rw [(step_i (j := i) (by omega)).1]; omega
        have q2 : ((i : Nat) : Int) ≤ ((rs.size : Nat) : Int) := by omega
        have q3 : (0 : Int) ≤ ((i : Nat) : Int) + 1 := by omega
        have q4 : ((i : Nat) : Int) + 1 ≤ ((rs.size : Nat) : Int) := by omega
        have q5 : (0 : Int) < ((rs.size : Nat) : Int) := by omega
        have HSZ := Lib.hid hsz2
        have HRS := Lib.hid hrs
        clear hsz hsz2 hrs hne
        have HDR := Lib.hid hdr
        clear hdr
        have e1 : rs.extract 0 (i + 1) = ⟨(r.take (i + 1)).toArray⟩ := by rw [extract_is, HRS.out]; simp
        have e2 : rs.extract (i + 1) rs.size = ⟨(r.drop (i + 1)).toArray⟩ := by
          rw [extract_is, HSZ.out, HRS.out]
          congr 2
          rw [List.take_of_length_le (by simp)]
        have hx : ((linesL s).map strW)[k]? = some (.string (rs.extract 0 (i + 1))) := by
          have h := congrArg (fun q => q[0]?) HDR.out
          rw [lines_at hi2] at h
          rw [e1]
          simpa [strW] using h
        have hd2 : ((linesL s).map strW).drop (k + 1) = (linesL (r.drop (i + 1))).map strW := by
          rw [← List.drop_drop, HDR.out, lines_at hi2]
          simp
        have hL2 : LeftC b (r.drop (i + 1)) ((wr.setCell ⟨b, 0, none⟩ (.string (rs.extract (i + 1) rs.size))).drew) := by
          rw [e2]
          exact ⟨World.cell?_setCell_same' _ _ _ (by rw [c0]; rfl), by
            show World.frozen? (wr.setCell ⟨b, 0, none⟩ _) _ = false
            rw [World.frozen?_setCell]; exact f0⟩
        obtain ⟨fn, tmps, assign, body, hy, hR⟩ := hY k (.string (rs.extract 0 (i + 1))) ((wr.setCell ⟨b, 0, none⟩ (.string (rs.extract (i + 1) rs.size))).drew) hx (hJd _ _ (hJs _ _ _ hJ))
        have HL2 := Lib.hid hL2
        have HR := Lib.hid hR
        have HK : Hid (k + 1 ≤ ((linesL s).map strW).length) := Lib.hid ((List.getElem?_eq_some_iff.1 hx).1)
        have HD2 := Lib.hid hd2
        have HLL := Lib.hid (leftLen_eq (V := wr) (b := b) (r := r) ⟨by rw [c0, HRS.out]; rfl, f0⟩)
        have HIL := Lib.hid (And.intro hil hrl)
        clear hL2 hR hx hd2 hJ hkl h0r e1 e2 hil hrl
        gi_wp2_with (refine ⟨trivial, ?_⟩; gi_at_call 40; refine (callsIn_wide.2 (HI.out _)).mono ?_; rintro e w' ⟨rfl, rfl⟩)
        gi_region
        gi_wp2
        refine HR.out.mono ?_
        rintro e W3 (⟨rfl, hJ3, hk3⟩ | ⟨rfl, hJx3⟩)
        · have hL3 := HL2.out.same hk3
          gi_wp2
          go_roundw
          case rel => exact ⟨k + 1, r.drop (i + 1), hL3, by have := HIL.out; simp; omega, HK.out, HD2.out, hJ3⟩
          case measure => rw [leftLen_eq hL3, HLL.out]; have := HIL.out; simp; omega
        · gi_wp2
          refine bodyPost_ret (results_none rfl _ _ _) rfl ?_
          exact ⟨⟨_, rfl⟩, .inr hJx3⟩
end Cf
end Go.Proofs.YtcpehdeddgfpmaaDoor

namespace Go.Proofs.YtcpehdeddgfpmaaDoor
open Go.RowKit Go.Shelf
namespace Cf
set_option maxHeartbeats 3200000
set_option maxRecDepth 100000
theorem sseq_any (W : World) (s p : ByteArray) : Calls Tryd.prog 41 #[.string s, .string p] W fun e w => e = .returned (.func (.func 65) #[] #[.pointer (some ⟨W.heap.size + 1, 0, none⟩), .pointer (some ⟨W.heap.size, 0, none⟩), .pointer (some ⟨W.heap.size + 1 + 1, 0, none⟩)]) ∧ w = ((W.alloc (.cells #[.string s] 9)).alloc (.cells #[.string p] 9)).alloc (.cells #[.int .i64 0] 3) := by
  have hmf : ∀ (fn : Fn) (first cap : Array Value) (w : World), (Instr.makeFunc fn first cap).run Tryd.prog w = .ok (.func fn first cap) w := fun _ _ _ _ => rfl
  go_enter Tryd.func41, Tryd.ntmps41
  go_wp2_with go_in
  go_ret
  exact ⟨rfl, rfl⟩
/-- What is left, the byte between, and nothing of it kept. -/
def SepC (b1 b b3 : Nat) (c : UInt8) (r : By) (V : World) : Prop := LeftC b r V ∧ V.cell? ⟨b1, 0, none⟩ = some (.string ⟨#[c]⟩) ∧ V.cell? ⟨b3, 0, none⟩ = some (.int .i64 0)
theorem SepC.same {b1 b b3 : Nat} {c : UInt8} {r : By} {V V' : World} (h : SepC b1 b b3 c r V) (k : Same [b1, b, b3] V V') : SepC b1 b b3 c r V' :=
  ⟨⟨(k b (by simp)).1.trans h.1.1, (k b (by simp)).2.trans h.1.2⟩, (k b1 (by simp)).1.trans h.2.1, (k b3 (by simp)).1.trans h.2.2⟩
theorem SepC.set {b1 b b3 : Nat} {c : UInt8} {r r' : By} {V : World} (h : SepC b1 b b3 c r V) (h1 : b1 ≠ b) (h3 : b3 ≠ b) {v : Value} (hv : v = strW r') : SepC b1 b b3 c r' (V.setCell ⟨b, 0, none⟩ v) := by
  subst hv
  refine ⟨⟨World.cell?_setCell_same' _ _ _ (by rw [h.1.1]; rfl), by rw [World.frozen?_setCell]; exact h.1.2⟩, ?_, ?_⟩
  · rw [World.cell?_setCell_other _ _ _ _ (by simp)]; exact h.2.1
  · rw [World.cell?_setCell_other _ _ _ _ (by simp)]; exact h.2.2
theorem seq_gives (n b1 b b3 : Nat) (c : UInt8) (hn : 1 ≤ n) (h1 : b1 ≠ b) (h3 : b3 ≠ b) (s : By) (hs : s.length ≤ 1000000000) :
    Gives Fence.wide n Tryd.prog 65 b [b1, b, b3] #[.pointer (some ⟨b1, 0, none⟩), .pointer (some ⟨b, 0, none⟩), .pointer (some ⟨b3, 0, none⟩)] (SepC b1 b b3 c s) ((splitB c s).map strW) := by
  intro l J Jx W hZ hJs hJd _ hY h0
  refine callsIn_of_wp Tryd.func65 rfl trivial ?_ rfl
  simp only [Tryd.ntmps65, List.size_toArray, List.length_cons, List.length_nil, Nat.reduceAdd, Nat.reduceSub, Array.replicate_succ, Array.replicate_zero, List.push_toArray, List.append_toArray, List.nil_append, List.cons_append]
  have z1 := hZ.2.1
  have HZ := Lib.hid hZ
  clear hZ
  gi_wp2
  gi_loopw [7] (fun _ wr => ∃ k r, SepC b1 b b3 c r wr ∧ r.length ≤ s.length ∧ k ≤ ((splitB c s).map strW).length ∧ ((splitB c s).map strW).drop k = (splitB c r).map strW ∧ J k wr) (fun _ wr => leftLen b wr)
  case atStart => exact ⟨0, s, HZ.out, Nat.le_refl _, Nat.zero_le _, rfl, h0⟩
  case round =>
    obtain ⟨k, r, hC, hrl, hkl, hdr, hJ⟩ := hrel
    clear z1
    have c1 := hC.2.1
    have c3 := hC.2.2
    have c0 : wr.cell? ⟨b, 0, none⟩ = some (.string ⟨r.toArray⟩) := hC.1.1
    have f0 := hC.1.2
    have HC := Lib.hid hC
    clear hC
    rcases Classical.em (Lib.indexByte r c = -1) with hi | hi
    · have HI : Hid (∀ V : World, Calls Tryd.prog 67 #[.string ⟨r.toArray⟩, .string ⟨#[c]⟩] V fun e w' => e = .returned (.int .i64 (-1)) ∧ w' = V) := Lib.hid (fun V => by
        have := Tryd.strings_Index_one ⟨r.toArray⟩ c V
        rw [show Lib.indexByte (⟨r.toArray⟩ : ByteArray).data.toList c = -1 from hi] at this
        exact this)
      rw [split_no hi] at hdr
      have hx : ((splitB c s).map strW)[k]? = some (strW r) := by
        have := congrArg (fun q => q[0]?) hdr
        simpa using this
      obtain ⟨fn, tmps, assign, body, hy, hR⟩ := hY k (strW r) wr hx hJ
      unfold strW at hy
      have HR := Lib.hid hR
      have HK : Hid (k + 1 = ((splitB c s).map strW).length) := Lib.hid (by
        have := (List.getElem?_eq_some_iff.1 hx).1
        have h := congrArg List.length hdr
        rw [List.length_drop] at h
        simp at h this ⊢
        omega)
      clear hR hx hdr hJ hkl
      gi_wp2_with (refine ⟨trivial, ?_⟩; gi_at_call 67; refine (callsIn_wide.2 (HI.out _)).mono ?_; rintro e w' ⟨rfl, rfl⟩)
      refine HR.out.mono ?_
      rintro e W3 (⟨rfl, hJ3, hk3⟩ | ⟨rfl, hJx3⟩)
      · gi_wp2
        go_end0
        exact ⟨⟨_, rfl⟩, .inl (by rw [HK.out] at hJ3; exact hJ3)⟩
      · gi_wp2
        go_end0
        exact ⟨⟨_, rfl⟩, .inr hJx3⟩
    · obtain ⟨i, hi2⟩ : ∃ i : Nat, Lib.indexByte r c = (i : Int) := ⟨(Lib.indexByte r c).toNat, by have := Lib.indexByte_ge r c; omega⟩
      have HI : Hid (∀ V : World, Calls Tryd.prog 67 #[.string ⟨r.toArray⟩, .string ⟨#[c]⟩] V fun e w' => e = .returned (.int .i64 ((i : Nat) : Int)) ∧ w' = V) := Lib.hid (fun V => by
        have := Tryd.strings_Index_one ⟨r.toArray⟩ c V
        rw [show Lib.indexByte (⟨r.toArray⟩ : ByteArray).data.toList c = (i : Int) from hi2] at this
        exact this)
      have hil : i < r.length := by
        have := (Lib.indexByte_some hi2).1
        exact (List.getElem?_eq_some_iff.1 this).1
      obtain ⟨rs, hrs⟩ : ∃ rs : ByteArray, rs = ⟨r.toArray⟩ := ⟨_, rfl⟩
      have hsz2 : rs.size = r.length := by rw [hrs]; rfl
      rw [← hrs] at c0 HI
      have q0 : (0 : Int) ≤ ((i : Nat) : Int) := by omega
      have q1 : wrap64 (((i : Nat) : Int) + 1) = ((i : Nat) : Int) + 1 := by rw [(step_i (j := i) (by omega)).1]; omega
      have q6 : wrap64 ((i : Nat) : Int) = ((i : Nat) : Int) := by unfold wrap64; omega
      have q2 : ((i : Nat) : Int) ≤ ((rs.size : Nat) : Int) := by omega
      have q3 : (0 : Int) ≤ ((i : Nat) : Int) + 1 := by omega
      have q4 : ((i : Nat) : Int) + 1 ≤ ((rs.size : Nat) : Int) := by omega
      have e1 : rs.extract 0 i = ⟨(r.take i).toArray⟩ := by rw [extract_is, hrs]; simp
      have e2 : Value.string (rs.extract (i + 1) rs.size) = strW (r.drop (i + 1)) := by
        unfold strW
        rw [extract_is, hsz2, hrs]
        congr 3
        rw [List.take_of_length_le (by simp)]
      have hx : ((splitB c s).map strW)[k]? = some (.string (rs.extract 0 i)) := by
        have h := congrArg (fun q => q[0]?) hdr
        rw [split_ix hi2] at h
        rw [e1]
        simpa [strW] using h
      have hd2 : ((splitB c s).map strW).drop (k + 1) = (splitB c (r.drop (i + 1))).map strW := by
        rw [← List.drop_drop, hdr, split_ix hi2]
        simp
      obtain ⟨fn, tmps, assign, body, hy, hR⟩ := hY k (.string (rs.extract 0 i)) wr hx hJ
      have HR := Lib.hid hR
      have HK : Hid (k + 1 ≤ ((splitB c s).map strW).length) := Lib.hid ((List.getElem?_eq_some_iff.1 hx).1)
      have HD2 := Lib.hid hd2
      have HLL := Lib.hid (leftLen_eq (V := wr) (b := b) (r := r) HC.out.1)
      have HIL := Lib.hid (And.intro hil hrl)
      have HRS := Lib.hid hrs
      have HE2 := Lib.hid e2
      clear hR hx hd2 hJ hkl e1 e2 hil hrl hrs hsz2 hdr
      gi_wp2_with (refine ⟨trivial, ?_⟩; gi_at_call 67; refine (callsIn_wide.2 (HI.out _)).mono ?_; rintro e w' ⟨rfl, rfl⟩)
      refine HR.out.mono ?_
      rintro e W3 (⟨rfl, hJ3, hk3⟩ | ⟨rfl, hJx3⟩)
      · have hC3 := HC.out.same hk3
        have d1 := hC3.2.1
        have d0 : W3.cell? ⟨b, 0, none⟩ = some (.string rs) := by rw [HRS.out]; exact hC3.1.1
        have g0 := hC3.1.2
        have HC4 := Lib.hid (hC3.set h1 h3 HE2.out)
        have HJ4 := Lib.hid (hJs _ _ (.string (rs.extract (i + 1) rs.size)) hJ3)
        clear hk3 hC3 hJ3
        gi_wp2
        go_roundw
        case rel => exact ⟨k + 1, r.drop (i + 1), HC4.out, by have := HIL.out; simp; omega, HK.out, HD2.out, HJ4.out⟩
        case measure => rw [leftLen_eq HC4.out.1, HLL.out]; have := HIL.out; simp; omega
      · gi_wp2
        refine bodyPost_ret (results_none rfl _ _ _) rfl ?_
        exact ⟨⟨_, rfl⟩, .inr hJx3⟩
end Cf
end Go.Proofs.YtcpehdeddgfpmaaDoor
