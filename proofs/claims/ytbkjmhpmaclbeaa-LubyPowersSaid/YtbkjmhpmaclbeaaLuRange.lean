/-
  A range over a function that gives without an end, whose body leaves by a break: the rule for the statement, and the contract that it asks of the function.
-/
import Derived.RangeFuncNested
import Derived.RangeFuncBound
import Derived.RangeFuncCalls
import Derived.RangeFuncLeaves
import Derived.RangeFuncFrom
namespace Go.Proofs.Ytbkjmhpmaclbeaa
open Go.RowKit
namespace Lu
set_option maxHeartbeats 1600000

/-- What the function's call owes: round by round, up to the one in which the caller leaves, the N-th at the latest. -/
def Till (F : Fence) (n : Nat) (P : Program) (g : Nat) (lb : Array Value) (N : Nat) (enc : Nat → Array Value) : Prop :=
  ∀ (l : Nat) (J : Nat → World → Prop) (Jx : World → Prop) (W : World), (∀ k V, J k V → J k V.drew) →
    (∀ k V, k ≤ N → J k V → YieldAt F (n - 1) P l (enc k) V fun e V' => (e = .returned (.bool true) ∧ k < N ∧ J (k + 1) V') ∨ (e = .returned (.bool false) ∧ Jx V')) →
    J 0 W → CallsIn F n P g (#[.func (.yield l) #[] #[]] ++ lb) W fun e V' => (∃ v, e = .returned v) ∧ Jx V'

/-- How a round may end: on, or by the break. -/
def tillEnd (N : Nat) (I : Nat → World → Prop) (Ix : World → Prop) (id0 : Nat) (k : Nat) (V : World) : Exit → Act → World → Prop
  | .normal, _, V' => k < N ∧ KeepsOthers V V' ∧ I (k + 1) V'
  | .exit id, _, V' => id = id0 ∧ KeepsOthers V V' ∧ Ix V'
  | _, _, _ => False

/-- The statement's own two blocks. -/
def Books (D : Nat) (r : Loop) (V : World) : Prop := V.heap[D + 1]? = some (.loop r) ∧ V.heap[D]? = some (.deferred (some []))
theorem Books.others {D : Nat} {r : Loop} {V V' : World} (h : Books D r V) (k : KeepsOthers V V') : Books D r V' := ⟨k.same _ _ h.1 rfl, k.same _ _ h.2 rfl⟩
theorem Books.put {D : Nat} {r : Loop} {V : World} (h : Books D r V) (r' : Loop) : Books D r' (V.putObj (D + 1) (.loop r')) :=
  ⟨World.putObj_heap_same (Array.getElem?_eq_some_iff.1 h.1).1, (World.putObj_heap_other (by omega)).trans h.2⟩

section
variable {F : Fence} {n : Nat} {P : Program}
theorem range_till {g : Operand} {ps : Array Tmp} {assign body : Code} {Q : Exit → Act → World → Prop} {a : Act} {w : World} {gf : Nat} {N id0 : Nat} {enc : Nat → Array Value}
    (hro : F.round = none) (h1 : 1 ≤ n) {lb : Array Value} (hg : a.eval g = .func (.func gf) #[] lb) (hFg : F.fn gf) (eg : ∀ args V, (callFunc gf args).run P V = .ok (.enter gf args) V)
    (hit : Till F (n - 1) P gf lb N enc) (hps : ∀ k, (enc k).size = ps.size)
    (I : Nat → World → Prop) (Ix : World → Prop) (hI : OwnFrom w.heap.size I) (hId : ∀ k V, I k V → I k V.drew) (hIx : OwnFrom w.heap.size (fun (_ : Unit) => Ix)) (h0 : I 0 w)
    (a₁ : Nat → Act)
    (hassign : ∀ (l : Nat) (k : Nat) (V : World) (K : Act → World → Prop), K (a₁ k) V → assign.wpIn (F.inRound l) (n - 1 - 1) P (Exit.then K (fun _ _ _ => False)) { tmps := (ps.zip (enc k)).foldl (fun t (p, v) => t.setIfInBounds p v) a.tmps, defers := [] } V)
    (hbody : ∀ (l k : Nat) (V : World), k ≤ N → I k V → body.wpIn (F.inRound l) (n - 1 - 1) P (tillEnd N I Ix id0 k V) (a₁ k) V)
    (hstop : ∀ (D : Nat) (V : World), w.heap.size ≤ D → Ix V → V.heap[D]? = some (.deferred (some [])) → (Code.exit id0).wpIn F n P Q { a with defers := { target := .collected D, args := #[] } :: a.defers } V) :
    (Code.rangeFunc g ps assign body).wpIn F n P Q a w := by
  refine wpIn_rangeFunc fun fn hfn => ?_
  rw [hro]
  obtain ⟨D, hD⟩ : ∃ D, D = w.heap.size := ⟨_, rfl⟩
  obtain ⟨r, hr⟩ : ∃ r : LoopState → Option Code → Loop, r = fun st pe => { state := st, pending := pe, fn, tmps := a.tmps, params := ps, assign, body, defers := D } := ⟨_, rfl⟩
  obtain ⟨U, hU⟩ : ∃ U, U = (w.alloc (.deferred (some []))).alloc (.loop (r .ready none)) := ⟨_, rfl⟩
  have hen : (Instr.enterLoop fn a.tmps ps assign body none).run P w = .ok (D + 1, [{ target := .collected D, args := #[] }]) U := by
    rw [hU, hr, hD]; exact run_enterLoop_outer fn a.tmps ps assign body
  have hbk : Books D (r .ready none) U := by
    constructor
    · rw [hU, show D + 1 = (w.alloc (.deferred (some []))).heap.size by rw [World.size_alloc, hD]]; exact World.alloc_heap_new _ _
    · rw [hU, Below.heap_alloc _ _ _ (by rw [World.size_alloc]; omega), hD]; exact World.alloc_heap_new _ _
  have hIU : I 0 U := by rw [hU]; exact hI.alloc _ (hI.alloc _ h0)
  have hst : ∀ st pe, (r st pe).state = st := fun _ _ => by rw [hr]
  have hpe : ∀ st pe, (r st pe).pending = pe := fun _ _ => by rw [hr]
  have hta : ∀ st pe, (r st pe).tmps = a.tmps := fun _ _ => by rw [hr]
  have has' : ∀ st pe, (r st pe).assign = assign := fun _ _ => by rw [hr]
  have hbo : ∀ st pe, (r st pe).body = body := fun _ _ => by rw [hr]
  have hpa : ∀ st pe, (r st pe).params = ps := fun _ _ => by rw [hr]
  have hwi : ∀ st pe st' pe', { r st pe with state := st', pending := pe' } = r st' pe' := fun _ _ _ _ => by rw [hr]
  have hws : ∀ st pe st', { r st pe with state := st' } = r st' pe := fun _ _ _ => by rw [hr]
  refine ⟨D + 1, [{ target := .collected D, args := #[] }], U, { target := .fn (.func gf) lb, args := #[.func (.yield (D + 1)) #[] #[]] }, U, gf, #[.func (.yield (D + 1)) #[] #[]] ++ lb, U, hen, ?_, ?_, ?_, fun _ => h1, ?_⟩
  · simp only [resolve, hg]; simp [go_sem]
  · intro f' h'; simp [Target.leads] at h'; subst h'; exact hFg
  · simp [invoke, go_sem, eg]
  have hdr : ∀ (o : Loop) (V : World), Books D o V → Books D o V.drew := fun o V h => h
  refine (hit (D + 1) (fun k V => I k V ∧ Books D (r .ready none) V) (fun V => Ix V ∧ Books D (r .done (some (.exit id0))) V) U
    (fun k V h => ⟨hId k V h.1, hdr _ _ h.2⟩) ?_ ⟨hIU, hbk⟩).mono ?_
  · rintro k V hx ⟨hi, hk⟩
    have hy := run_yield (P := P) (args := enc k) hk.1 (by rw [hpa, hps])
    refine ⟨_, _, _, _, hy, roundIn_of_wpIn (by rw [hr]; exact hfn) ?_⟩
    have hbr := run_beginRound (P := P) hk.1 (hst _ _)
    rw [hws] at hbr
    have hk2 := hk.put (r .busy none)
    have hi2 : I k (V.putObj (D + 1) (.loop (r .busy none))) := hI.putObj _ hi (by omega) hk.1 rfl
    generalize hV2 : V.putObj (D + 1) (.loop (r .busy none)) = V2 at hbr hk2 hi2
    have hwalk := hbody (D + 1) k V2 hx hi2
    have hassg := hassign (D + 1) k V
    rw [hta, has', hbo, hpa]
    refine hassg _ ⟨V2, hbr, wpIn_mono hwalk ?_⟩
    intro e a3 V3 hp
    match e, hp with
    | .normal, ⟨hlt, ho, hi3⟩ =>
      have hk3 := hk2.others ho
      have he := run_endRound (P := P) none hk3.1
      rw [hwi] at he
      exact ⟨_, _, he, .inl ⟨rfl, hlt, hI.putObj _ hi3 (by omega) hk3.1 rfl, hk3.put _⟩⟩
    | .exit id, ⟨hid, ho, hi3⟩ =>
      subst hid
      have hk3 := hk2.others ho
      have he := run_endRound (P := P) (some (.exit id)) hk3.1
      rw [hwi] at he
      exact ⟨_, _, he, .inr ⟨rfl, hIx.putObj (s := ()) _ hi3 (by omega) hk3.1 rfl, hk3.put _⟩⟩
  · rintro e V ⟨⟨v, rfl⟩, hi, hk⟩
    have he := run_endLoop (P := P) hk.1 (by rw [hst]; simp)
    rw [hpe] at he
    have hk2 : ∀ r', (V.putObj (D + 1) (.loop r')).heap[D]? = some (.deferred (some [])) := fun r' => (hk.put r').2
    exact ⟨some (.exit id0), _, he, hstop D _ (by omega) (hIx.putObj (s := ()) _ hi (by omega) hk.1 rfl) (hk2 _)⟩
end
end Lu
end Go.Proofs.Ytbkjmhpmaclbeaa
