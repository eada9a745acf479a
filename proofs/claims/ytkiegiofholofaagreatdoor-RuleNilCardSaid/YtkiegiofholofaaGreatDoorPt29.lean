/-
caught of layer text: what it answers of a function that comes to its end, and of one that leaves by an error.
Put of layer text, of a store that was made, as a fact on one call: the text, or the error.
Get of layer text, of a store that was made, and of none: a fact on one call.
Vars of a number that no node has; New with its store; what a call that makes a node leaves; a row of numbers read in its places.
What is got of a text, and where the package's variables lie behind a call.
One step of whatever number of whatever store: a fact on one call; and of a store that is none.
-/
import Derived.Test.YtkiegiofholofaaGreatDoorTxNodeC
import Derived.Tactics
import Derived.Tactics2
import Derived.Defers
import Derived.Recover
import Derived.Laws.Pointers
import Derived.Test.YtkiegiofholofaaGreatDoorPt02
import Derived.Test.YtkiegiofholofaaGreatDoorPt28
import Derived.Test.YtkiegiofholofaaGreatDoorPt11
import Derived.Deep.LoopGhost
import Derived.BigQuiet
import Derived.Test.YtkiegiofholofaaGreatDoorPt23
namespace Go.Proofs.YtkiegiofholofaaGreatDoor
open Go.RowKit Go.Maps Bv Tm
namespace Tx
set_option maxHeartbeats 1600000
set_option maxRecDepth 100000

theorem assert_errno (n : Int) (w : World) : (Instr.typeAssert (.iface 27 (.int .i64 n)) 20 27 false).run Tryz.prog w = .ok (.int .i64 n) w := by
  first | rfl | kernel_rfl | skip

theorem catch_panicking (p : Addr) (x n : Int) (older : List PanicEntry) (w : World) (hc : w.cell? p = some (.int .i64 x)) (hz : w.frozen? p = false) :
    CallsD Tryz.prog 56 #[.pointer (some p)] (.panicking ({ v := .iface 27 (.int .i64 n), recovered := false } :: older)) w fun e u' w' =>
      e = .returned (.tuple #[]) ∧ u' = .panicking ({ v := .iface 27 (.int .i64 n), recovered := true } :: older) ∧ w' = w.setCell p (.int .i64 n) := by
  have hta := assert_errno
  refine callsD_of_wpS Tryz.func56 rfl fun c₀ cs hu => ?_
  apply wpS_seq
  apply wpS_region
  simp [wpOpsS, go_sem, recoverD, hu, Tryz.ntmps56, Exit.thenS]
  apply wpS_seq
  apply wpS_region
  simp [wpOpsS, go_sem, recoverD, Exit.thenS]
  refine wpS_cond (t := true) (by simp [Act.eval, Array.replicate]) ?_
  simp only [if_true]
  apply wpS_region
  simp [wpOpsS, go_sem, hc, hz, bodyPostS, results, Tryz.results56, hta]

theorem catch_idle (p : Addr) (w : World) :
    CallsD Tryz.prog 56 #[.pointer (some p)] .returning w fun e u' w' => e = .returned (.tuple #[]) ∧ u' = .returning ∧ w' = w := by
  refine callsD_of_wpS Tryz.func56 rfl fun c₀ cs hu => ?_
  apply wpS_seq
  apply wpS_region
  simp [wpOpsS, go_sem, recoverD, hu, Tryz.ntmps56, Exit.thenS]
  apply wpS_seq
  apply wpS_region
  simp [wpOpsS, go_sem, recoverD, hu, Exit.thenS]
  refine wpS_cond (t := false) (by simp [Act.eval, Array.replicate]) ?_
  simp only [Bool.false_eq_true, if_false]
  refine wpS_of_wp (wp_skip ?_)
  cases c₀
  simp_all [bodyPostS, results, Tryz.results56]

theorem caught_put_ok (pw pi : Value) {W : World} {R : World → Prop} (HC : Calls Tryz.prog 26 #[pw, pi] (W.alloc (.cells #[.int .i64 0] 27)) fun e w1 => e = .returned (.tuple #[]) ∧ R w1)
    (HR : ∀ w1, R w1 → w1.cell? ⟨W.heap.size, 0, none⟩ = some (.int .i64 0) ∧ w1.frozen? ⟨W.heap.size, 0, none⟩ = false) :
    Calls Tryz.prog 25 #[.func (.func 26) #[] #[pw, pi]] W fun e W' => e = .returned (.int .i64 0) ∧ ∃ w1, R w1 ∧ W' = w1.setCell ⟨W.heap.size, 0, none⟩ (.int .i64 0) := by
  have hmf : ∀ (fn : Fn) (first cap : Array Value) (w : World), (Instr.makeFunc fn first cap).run Tryz.prog w = .ok (.func fn first cap) w := fun _ _ _ _ => rfl
  have HC := Lib.hid HC
  have HR := Lib.hid HR
  go_enter_defers Tryz.func25, Tryz.ntmps25
  go_wp2_with (go_at_call 26; refine HC.out.mono ?_; rintro e w1 ⟨rfl, h1⟩; obtain ⟨q0, q1⟩ := HR.out _ h1; have H1 := Lib.hid h1; clear h1)
  refine leaves_cons (f := 56) (args := #[.pointer (some ⟨W.heap.size, 0, none⟩)]) (by simp) (by simp [go_sem]) ?_
  refine (catch_idle ⟨W.heap.size, 0, none⟩ _).mono ?_
  rintro e u' w'' ⟨rfl, rfl, rfl⟩
  simp [Leaves, settle, results, Tryz.results25, go_sem, q0]
  exact ⟨w1, H1.out, rfl⟩

theorem caught_put_bad (pw pi : Value) (n : Int) {W : World} {R : World → Prop} (HC : Calls Tryz.prog 26 #[pw, pi] (W.alloc (.cells #[.int .i64 0] 27)) fun e w1 => e = boom n ∧ R w1)
    (HR : ∀ w1, R w1 → w1.cell? ⟨W.heap.size, 0, none⟩ = some (.int .i64 0) ∧ w1.frozen? ⟨W.heap.size, 0, none⟩ = false) :
    Calls Tryz.prog 25 #[.func (.func 26) #[] #[pw, pi]] W fun e W' => e = .returned (.int .i64 n) ∧ ∃ w1, R w1 ∧ W' = w1.setCell ⟨W.heap.size, 0, none⟩ (.int .i64 n) := by
  have hmf : ∀ (fn : Fn) (first cap : Array Value) (w : World), (Instr.makeFunc fn first cap).run Tryz.prog w = .ok (.func fn first cap) w := fun _ _ _ _ => rfl
  have HC := Lib.hid HC
  have HR := Lib.hid HR
  go_enter_defers Tryz.func25, Tryz.ntmps25
  go_wp2_with (go_at_call 26; refine HC.out.mono ?_; rintro e w1 ⟨rfl, h1⟩; obtain ⟨q0, q1⟩ := HR.out _ h1; have H1 := Lib.hid h1; clear h1)
  refine leaves_cons (f := 56) (args := #[.pointer (some ⟨W.heap.size, 0, none⟩)]) (by simp) (by simp [go_sem]) ?_
  refine (catch_panicking ⟨W.heap.size, 0, none⟩ 0 n [] _ q0 q1).mono ?_
  rintro e u' w'' ⟨rfl, rfl, rfl⟩
  simp [Leaves, settle, results, Tryz.results25, go_sem, q0]
  exact ⟨w1, H1.out, rfl⟩

theorem caught_get_ok (pr : Value) {W : World} {R : World → Prop} (HC : Calls Tryz.prog 54 #[pr] (W.alloc (.cells #[.int .i64 0] 27)) fun e w1 => e = .returned (.tuple #[]) ∧ R w1)
    (HR : ∀ w1, R w1 → w1.cell? ⟨W.heap.size, 0, none⟩ = some (.int .i64 0) ∧ w1.frozen? ⟨W.heap.size, 0, none⟩ = false) :
    Calls Tryz.prog 25 #[.func (.func 54) #[pr] #[]] W fun e W' => e = .returned (.int .i64 0) ∧ ∃ w1, R w1 ∧ W' = w1.setCell ⟨W.heap.size, 0, none⟩ (.int .i64 0) := by
  have hmf : ∀ (fn : Fn) (first cap : Array Value) (w : World), (Instr.makeFunc fn first cap).run Tryz.prog w = .ok (.func fn first cap) w := fun _ _ _ _ => rfl
  have HC := Lib.hid HC
  have HR := Lib.hid HR
  go_enter_defers Tryz.func25, Tryz.ntmps25
  go_wp2_with (go_at_call 54; refine HC.out.mono ?_; rintro e w1 ⟨rfl, h1⟩; obtain ⟨q0, q1⟩ := HR.out _ h1; have H1 := Lib.hid h1; clear h1)
  refine leaves_cons (f := 56) (args := #[.pointer (some ⟨W.heap.size, 0, none⟩)]) (by simp) (by simp [go_sem]) ?_
  refine (catch_idle ⟨W.heap.size, 0, none⟩ _).mono ?_
  rintro e u' w'' ⟨rfl, rfl, rfl⟩
  simp [Leaves, settle, results, Tryz.results25, go_sem, q0]
  exact ⟨w1, H1.out, rfl⟩

theorem caught_get_bad (pr : Value) (n : Int) {W : World} {R : World → Prop} (HC : Calls Tryz.prog 54 #[pr] (W.alloc (.cells #[.int .i64 0] 27)) fun e w1 => e = boom n ∧ R w1)
    (HR : ∀ w1, R w1 → w1.cell? ⟨W.heap.size, 0, none⟩ = some (.int .i64 0) ∧ w1.frozen? ⟨W.heap.size, 0, none⟩ = false) :
    Calls Tryz.prog 25 #[.func (.func 54) #[pr] #[]] W fun e W' => e = .returned (.int .i64 n) ∧ ∃ w1, R w1 ∧ W' = w1.setCell ⟨W.heap.size, 0, none⟩ (.int .i64 n) := by
  have hmf : ∀ (fn : Fn) (first cap : Array Value) (w : World), (Instr.makeFunc fn first cap).run Tryz.prog w = .ok (.func fn first cap) w := fun _ _ _ _ => rfl
  have HC := Lib.hid HC
  have HR := Lib.hid HR
  go_enter_defers Tryz.func25, Tryz.ntmps25
  go_wp2_with (go_at_call 54; refine HC.out.mono ?_; rintro e w1 ⟨rfl, h1⟩; obtain ⟨q0, q1⟩ := HR.out _ h1; have H1 := Lib.hid h1; clear h1)
  refine leaves_cons (f := 56) (args := #[.pointer (some ⟨W.heap.size, 0, none⟩)]) (by simp) (by simp [go_sem]) ?_
  refine (catch_panicking ⟨W.heap.size, 0, none⟩ 0 n [] _ q0 q1).mono ?_
  rintro e u' w'' ⟨rfl, rfl, rfl⟩
  simp [Leaves, settle, results, Tryz.results25, go_sem, q0]
  exact ⟨w1, H1.out, rfl⟩
end Tx
end Go.Proofs.YtkiegiofholofaaGreatDoor

namespace Go.Proofs.YtkiegiofholofaaGreatDoor
open Go.RowKit Go.Maps Bv Tm
namespace Tx
set_option maxHeartbeats 1600000
set_option maxRecDepth 100000

theorem kidsDo {L : List Nd} (hm : MayL L) {B b p mm : Nat} {sv : Value} : ∀ k, k ≤ L.length → KidsDo L k B b p mm sv
  | 0, _ => fun j hj => by omega
  | k + 1, hk => by
    have ih := kidsDo hm (B := B) (b := b) (p := p) (mm := mm) (sv := sv) k (by omega)
    intro j hj F cur u hW hE S hF hl
    by_cases hjk : j < k
    · exact ih j hjk F cur u hW hE S hF hl
    obtain rfl : j = k := by omega
    obtain ⟨x, hx⟩ : ∃ x, L[j]? = some x := ⟨_, List.getElem?_eq_getElem (by omega)⟩
    have hop := mayN_op (hm j x hx)
    have htx := txt_is S.good hx
    obtain ⟨o, w, k0, k1, k2, n, l⟩ := x
    simp only at hop
    by_cases h1 : o = 1
    · subst h1
      rw [htx]
      exact wnode_const hW hE S hx hl
    by_cases h2 : o = 2
    · subst h2
      rw [htx]
      exact wnode_var hW hE S hx hl
    by_cases h22 : o = 22
    · subst h22
      exact wnode_extract ih hW hE S hF hx hl
    by_cases h23 : o = 23
    · subst h23
      exact wnode_zext ih hW hE S hF hx hl
    by_cases h24 : o = 24
    · subst h24
      exact wnode_sext ih hW hE S hF hx hl
    exact wnode_plain ⟨by omega, by omega, h22, h23, h24⟩ ih hW hE S hF hx hl

theorem wnode_err {b : Nat} {st : Value} {k er : Int} {W : World} (hc : W.cell? ⟨b, 0, none⟩ = some st) (her : ¬ er = 0) (HN : Calls Tryz.prog 11 #[st, .int .i64 k] W fun e W' => e = .returned (.tuple #[.agg #[.int .u8 0, .int .u8 0, .int .i64 0, .int .i64 0, .int .i64 0, .int .u64 0, .int .u8 0], .int .i64 er]) ∧ Below W.heap.size W W') :
    Calls Tryz.prog 27 #[.pointer (some ⟨b, 0, none⟩), .int .i64 k] W fun e W' => e = boom er ∧ Below W.heap.size W W' := by
  have HN := Lib.hid HN
  go_enter Tryz.func27, Tryz.ntmps27
  go_wp2_with (go_at_call 11; refine HN.out.mono ?_; rintro e W1 ⟨rfl, hb1⟩; have HB1 := Lib.hid hb1; clear hb1)
  exact ⟨rfl, rfl, bel_alloc HB1.out _⟩

theorem put1_any {b ib : Nat} {k : Int} {w : World} {R : Ending → World → Prop} (hc : w.cell? ⟨ib, 0, none⟩ = some (.int .i64 k)) (H : Calls Tryz.prog 27 #[.pointer (some ⟨b, 0, none⟩), .int .i64 k] w fun e w' => R e w' ∧ (e = .returned (.tuple #[]) ∨ ∃ n, e = boom n)) :
    Calls Tryz.prog 26 #[.pointer (some ⟨b, 0, none⟩), .pointer (some ⟨ib, 0, none⟩)] w R := by
  have H := Lib.hid H
  go_enter Tryz.func26, Tryz.ntmps26
  go_wp2_with (go_at_call 27; refine H.out.mono ?_; rintro e w1 ⟨h, rfl | ⟨n, rfl⟩⟩)
  · exact bodyPost_ret (v := .tuple #[]) (by simp [results, Tryz.results26, go_sem]) rfl h
  · exact ⟨rfl, h⟩

theorem conv_text {w : World} {v : Value} {bs : By} (row : w.ownsRow 0 5 1 v bs.length (bc bs)) (hne : bs ≠ []) : (convert 75 9 v).run Tryz.prog w = .ok (.string ⟨bs.toArray⟩) w := by
  have hr := row
  rcases row with ⟨_, ⟨h1, h2⟩ | ⟨g, cap, cur, rfl, _⟩⟩
  · exact absurd (List.eq_nil_of_length_eq_zero h2) hne
  · refine run_convert_bytes_back (P := Tryz.prog) w 75 9 5 ⟨g, 0, none⟩ cap bs Tryz.underlying75 Tryz.underlying5 Tryz.underlying9 (fun j hj => ?_)
    exact hr.cells (g := g) rfl j _ (by simp [bc, hj])

theorem txt_ne {L : List Nd} (g : Gd L) {k : Nat} (h : k < L.length) : txt L k ≠ [] := by
  rw [txt_is g (List.getElem?_eq_getElem h)]
  unfold bodyT hd
  split
  · simp
  · split <;> simp

/-- What Put answers of a node that is there. -/
def putR (L : List Nd) (k : Nat) : Value := if (txt L k).length ≤ 10000 then .tuple #[.string ⟨(txt L k).toArray⟩, .int .i64 0] else .tuple #[.string ⟨#[]⟩, .int .i64 3]
/-- Blocks that may change in Put: the writer's, and new ones. -/
def PF (W : World) (i : Nat) : Prop := i = W.heap.size + 1 ∨ W.heap.size + 1 + 1 + 1 ≤ i

theorem put_yes {B p m k : Nat} {sv : Value} {L : List Nd} {W : World} (S : StoreAt B W p m sv L) (hm : MayL L) (hE : EnvAt (fun i => W.heap.size ≤ i) W) (hk : k < L.length) :
    Calls Tryz.prog 12 #[.pointer (some ⟨p, 0, none⟩), .int .i64 ((k : Nat) : Int)] W fun e W' => e = .returned (putR L k) ∧ Below W.heap.size W W' := by
  have hmf : ∀ (fn : Fn) (first cap : Array Value) (w : World), (Instr.makeFunc fn first cap).run Tryz.prog w = .ok (.func fn first cap) w := fun _ _ _ _ => rfl
  obtain ⟨W3, hW3⟩ : ∃ W3, W3 = ((W.alloc (.cells #[.int .i64 ((k : Nat) : Int)] 3)).alloc (.cells #[.pointer (some ⟨p, 0, none⟩), .slice none 0 0] 77)).alloc (.cells #[.int .i64 0] 27) := ⟨_, rfl⟩
  have b3 : Below W.heap.size W W3 := by rw [hW3]; exact bel_alloc (bel_alloc (bel_alloc (Below.refl _ _) _) _) _
  have s3 : W3.heap.size = W.heap.size + 1 + 1 + 1 := by rw [hW3]; simp
  have hfoot : ∀ i, foot p m sv i → ¬ PF W i := by
    intro i c d
    have : i < W.heap.size := by
      rcases c with c | c | c
      · subst c; exact S.lt
      · subst c; exact S.lm
      · exact (S.row.lt i c).2
    unfold PF at d
    omega
  have E3 : EnvAt (PF W) W3 := (hE.call b3).mono (fun i c => by unfold PF at c; omega)
  have S3 := S.call b3
  have c1 : W3.cell? ⟨W.heap.size, 0, none⟩ = some (.int .i64 ((k : Nat) : Int)) := by rw [hW3]; simp [go_sem]
  have c2 : W3.cell? ⟨W.heap.size + 1, 0, none⟩ = some (.pointer (some ⟨p, 0, none⟩)) := by rw [hW3]; simp [go_sem]
  have c3 : W3.cell? ⟨W.heap.size + 1, 1, none⟩ = some (.slice none 0 0) := by rw [hW3]; simp [go_sem]
  have c4 : ∀ o, W3.frozen? ⟨W.heap.size + 1, o, none⟩ = false := fun o => by rw [hW3]; simp [go_sem]
  have c5 : W3.cell? ⟨W.heap.size + 1 + 1, 0, none⟩ = some (.int .i64 0) := by rw [hW3]; simp [go_sem]
  have c6 : W3.frozen? ⟨W.heap.size + 1 + 1, 0, none⟩ = false := by rw [hW3]; simp [go_sem]
  have hWr : WrE (PF W) (W.heap.size + 1) (.pointer (some ⟨p, 0, none⟩)) [] W3 :=
    ⟨.slice none 0 0, c2, c3, c4, World.ownsRow_nil _ _ _ _, by simp [Value.ownBlock], .inl rfl, fun g e => by simp [Value.ownBlock] at e, fun i hi => .inr (by omega)⟩
  have hnode := kidsDo hm (B := B) (b := W.heap.size + 1) (p := p) (mm := m) (sv := sv) L.length (Nat.le_refl _) k hk (PF W) [] W3 hWr E3 S3 hfoot (by simp)
  have hput1 : Calls Tryz.prog 26 #[.pointer (some ⟨W.heap.size + 1, 0, none⟩), .pointer (some ⟨W.heap.size, 0, none⟩)] W3 (Wrote (PF W) (W.heap.size + 1) (.pointer (some ⟨p, 0, none⟩)) ([] ++ txt L k) W3) := by
    refine put1_any c1 (hnode.mono ?_)
    intro e w' h
    refine ⟨h, ?_⟩
    rcases h with ⟨_, h, _⟩ | ⟨_, h, _⟩
    · exact .inl h
    · exact .inr ⟨3, h⟩
  have hne := txt_ne S.good hk
  unfold putR
  rw [List.nil_append] at hput1
  generalize txt L k = t at hput1 hne ⊢
  have hnPF : ¬ PF W (W.heap.size + 1 + 1) := by unfold PF; omega
  have HB3 := Lib.hid b3
  have HS3 := Lib.hid s3
  by_cases ht : t.length ≤ 10000
  · rw [if_pos ht]
    have hc := caught_put_ok (.pointer (some ⟨W.heap.size + 1, 0, none⟩)) (.pointer (some ⟨W.heap.size, 0, none⟩)) (W := (W.alloc (.cells #[.int .i64 ((k : Nat) : Int)] 3)).alloc (.cells #[.pointer (some ⟨p, 0, none⟩), .slice none 0 0] 77))
      (R := fun w1 => WrE (PF W) (W.heap.size + 1) (.pointer (some ⟨p, 0, none⟩)) t w1 ∧ Kept (PF W) W3 w1) (by
        rw [← hW3]
        refine hput1.mono ?_
        rintro e w1 (⟨_, rfl, h, kk⟩ | ⟨h, _⟩)
        · exact ⟨rfl, And.intro h kk⟩
        · omega) (by
        rintro w1 ⟨_, kk⟩
        have hsz : ((W.alloc (.cells #[.int .i64 ((k : Nat) : Int)] 3)).alloc (.cells #[.pointer (some ⟨p, 0, none⟩), .slice none 0 0] 77)).heap.size = W.heap.size + 1 + 1 := by simp
        rw [hsz]
        exact ⟨(kk.cell (x := ⟨W.heap.size + 1 + 1, 0, none⟩) (show _ < _ by rw [s3]; exact Nat.lt_succ_self _) hnPF).trans c5, (kk.frozen (x := ⟨W.heap.size + 1 + 1, 0, none⟩) (show _ < _ by rw [s3]; exact Nat.lt_succ_self _) hnPF).trans c6⟩)
    have HC := Lib.hid hc
    have HNE := Lib.hid hne
    clear hc hput1 hnode hWr S3 E3 S hE c1 c2 c3 c4 c5 c6 hW3 b3 s3 hfoot hne
    go_enter Tryz.func12, Tryz.ntmps12
    go_wp2_with (go_at_call 25; refine HC.out.mono ?_; rintro e W4 ⟨rfl, w1, ⟨⟨v, hv⟩, k1⟩, hW4⟩; have HW4 := Lib.hid hW4; clear hW4; refine Hid.out ?_)
    refine Lib.hid ?_
    have hsz : ((W.alloc (.cells #[.int .i64 ((k : Nat) : Int)] 3)).alloc (.cells #[.pointer (some ⟨p, 0, none⟩), .slice none 0 0] 77)).heap.size = W.heap.size + 1 + 1 := by simp
    have hW4 := HW4.out
    rw [hsz] at hW4
    have hov : v.ownBlock ≠ some (W.heap.size + 1 + 1) := fun e => hnPF (hv.fo _ e)
    have d1 : W4.cell? ⟨W.heap.size + 1, 1, none⟩ = some v := by rw [hW4, World.cell?_setCell_far _ _ _ _ (by simp)]; exact hv.c1
    have hcv : (convert 75 9 v).run Tryz.prog W4 = .ok (.string ⟨t.toArray⟩) W4 := by
      rw [hW4]
      exact conv_text (row_setCell hv.row (a := ⟨W.heap.size + 1 + 1, 0, none⟩) _ hov) HNE.out
    have hb4 : Below W.heap.size W W4 := by
      rw [hW4]
      exact (HB3.out.trans (k1.below (fun i hi c => by unfold PF at c; omega) HB3.out.size)).setCell (by simp; omega) _
    obtain ⟨sa, sn, sc, rfl⟩ := row_shape3 hv.row
    have HB4 := Lib.hid hb4
    clear hb4 hv k1 hW4 hov hsz hnPF HW4
    go_wp2_with fail
    exact bodyPost_ret (v := .tuple #[.string ⟨t.toArray⟩, .int .i64 0]) (by simp [results, Tryz.results12, go_sem]) rfl ⟨rfl, HB4.out⟩
  · rw [if_neg ht]
    have hc := caught_put_bad (.pointer (some ⟨W.heap.size + 1, 0, none⟩)) (.pointer (some ⟨W.heap.size, 0, none⟩)) 3 (W := (W.alloc (.cells #[.int .i64 ((k : Nat) : Int)] 3)).alloc (.cells #[.pointer (some ⟨p, 0, none⟩), .slice none 0 0] 77))
      (R := fun w1 => Kept (PF W) W3 w1) (by
        rw [← hW3]
        refine hput1.mono ?_
        rintro e w1 (⟨h, _⟩ | ⟨_, rfl, kk⟩)
        · omega
        · exact ⟨rfl, kk⟩) (by
        rintro w1 kk
        have hsz : ((W.alloc (.cells #[.int .i64 ((k : Nat) : Int)] 3)).alloc (.cells #[.pointer (some ⟨p, 0, none⟩), .slice none 0 0] 77)).heap.size = W.heap.size + 1 + 1 := by simp
        rw [hsz]
        exact ⟨(kk.cell (x := ⟨W.heap.size + 1 + 1, 0, none⟩) (show _ < _ by rw [s3]; exact Nat.lt_succ_self _) hnPF).trans c5, (kk.frozen (x := ⟨W.heap.size + 1 + 1, 0, none⟩) (show _ < _ by rw [s3]; exact Nat.lt_succ_self _) hnPF).trans c6⟩)
    have HC := Lib.hid hc
    clear hc hput1 hnode hWr S3 E3 S hE c1 c2 c3 c4 c5 c6 hW3 b3 s3 hfoot hne
    go_enter Tryz.func12, Tryz.ntmps12
    go_wp2_with (go_at_call 25; refine HC.out.mono ?_; rintro e W4 ⟨rfl, w1, k1, hW4⟩; have HW4 := Lib.hid hW4; clear hW4; refine Hid.out ?_)
    refine Lib.hid ?_
    have hsz : ((W.alloc (.cells #[.int .i64 ((k : Nat) : Int)] 3)).alloc (.cells #[.pointer (some ⟨p, 0, none⟩), .slice none 0 0] 77)).heap.size = W.heap.size + 1 + 1 := by simp
    have hW4 := HW4.out
    rw [hsz] at hW4
    have hb4 : Below W.heap.size W W4 := by
      rw [hW4]
      exact (HB3.out.trans (k1.below (fun i hi c => by unfold PF at c; omega) HB3.out.size)).setCell (by simp; omega) _
    have HB4 := Lib.hid hb4
    clear hb4 k1 hW4 hsz hnPF HW4
    go_wp2_with fail
    exact bodyPost_ret (v := .tuple #[.string ⟨#[]⟩, .int .i64 3]) (by simp [results, Tryz.results12, go_sem]) rfl ⟨rfl, HB4.out⟩

/-- Of a number that is none, and of no store. -/
theorem put_err {st : Value} {k er : Int} {W : World} (her : ¬ er = 0) (hst : st = .pointer none ∨ ∃ p, st = .pointer (some ⟨p, 0, none⟩)) (HN : ∀ w, Below W.heap.size W w → Calls Tryz.prog 11 #[st, .int .i64 k] w fun e W' => e = .returned (.tuple #[.agg #[.int .u8 0, .int .u8 0, .int .i64 0, .int .i64 0, .int .i64 0, .int .u64 0, .int .u8 0], .int .i64 er]) ∧ Below w.heap.size w W') :
    Calls Tryz.prog 12 #[st, .int .i64 k] W fun e W' => e = .returned (.tuple #[.string ⟨#[]⟩, .int .i64 er]) ∧ Below W.heap.size W W' := by
  have hmf : ∀ (fn : Fn) (first cap : Array Value) (w : World), (Instr.makeFunc fn first cap).run Tryz.prog w = .ok (.func fn first cap) w := fun _ _ _ _ => rfl
  have d : (er == 0) = false := by simpa using her
  obtain ⟨W3, hW3⟩ : ∃ W3, W3 = ((W.alloc (.cells #[.int .i64 k] 3)).alloc (.cells #[st, .slice none 0 0] 77)).alloc (.cells #[.int .i64 0] 27) := ⟨_, rfl⟩
  have b3 : Below W.heap.size W W3 := by rw [hW3]; exact bel_alloc (bel_alloc (bel_alloc (Below.refl _ _) _) _) _
  have s3 : W3.heap.size = W.heap.size + 1 + 1 + 1 := by rw [hW3]; simp
  have c1 : W3.cell? ⟨W.heap.size, 0, none⟩ = some (.int .i64 k) := by rw [hW3]; simp [go_sem]
  have c2 : W3.cell? ⟨W.heap.size + 1, 0, none⟩ = some st := by rw [hW3]; simp [go_sem]
  have c5 : W3.cell? ⟨W.heap.size + 1 + 1, 0, none⟩ = some (.int .i64 0) := by rw [hW3]; simp [go_sem]
  have c6 : W3.frozen? ⟨W.heap.size + 1 + 1, 0, none⟩ = false := by rw [hW3]; simp [go_sem]
  have hput1 : Calls Tryz.prog 26 #[.pointer (some ⟨W.heap.size + 1, 0, none⟩), .pointer (some ⟨W.heap.size, 0, none⟩)] W3 (fun e w1 => e = boom er ∧ Below W3.heap.size W3 w1) :=
    put1_any c1 ((wnode_err c2 her (HN W3 b3)).mono (fun e w' h => ⟨h, .inr ⟨er, h.1⟩⟩))
  have HB3 := Lib.hid b3
  have hc := caught_put_bad (.pointer (some ⟨W.heap.size + 1, 0, none⟩)) (.pointer (some ⟨W.heap.size, 0, none⟩)) er (W := (W.alloc (.cells #[.int .i64 k] 3)).alloc (.cells #[st, .slice none 0 0] 77))
      (R := fun w1 => Below W3.heap.size W3 w1) (by rw [← hW3]; exact hput1) (by
        rintro w1 kk
        have hsz : ((W.alloc (.cells #[.int .i64 k] 3)).alloc (.cells #[st, .slice none 0 0] 77)).heap.size = W.heap.size + 1 + 1 := by simp
        rw [hsz]
        exact ⟨(kk.cell (p := ⟨W.heap.size + 1 + 1, 0, none⟩) (show _ < _ by rw [s3]; exact Nat.lt_succ_self _)).trans c5, (kk.frozen (p := ⟨W.heap.size + 1 + 1, 0, none⟩) (show _ < _ by rw [s3]; exact Nat.lt_succ_self _)).trans c6⟩)
  have HC := Lib.hid hc
  clear hc hput1 c1 c2 c5 c6 hW3 b3 s3 HN her
  rcases hst with rfl | ⟨p, rfl⟩
  all_goals
    go_enter Tryz.func12, Tryz.ntmps12
    go_wp2_with (go_at_call 25; refine HC.out.mono ?_; rintro e W4 ⟨rfl, w1, k1, hW4⟩; have HW4 := Lib.hid hW4; clear hW4; refine Hid.out ?_)
    refine Lib.hid ?_
    have hW4 := HW4.out
    have hb4 : Below W.heap.size W W4 := by
      rw [hW4]
      exact (bel_call HB3.out k1).setCell (by simp; omega) _
    have HB4 := Lib.hid hb4
    clear hb4 k1 hW4 HW4
    go_wp2_with fail
    exact bodyPost_ret (v := .tuple #[.string ⟨#[]⟩, .int .i64 er]) (by simp [results, Tryz.results12, go_sem]) rfl ⟨rfl, HB4.out⟩
end Tx
end Go.Proofs.YtkiegiofholofaaGreatDoor

namespace Go.Proofs.YtkiegiofholofaaGreatDoor
open Go.RowKit Go.Maps Bv Tm
namespace Tx
set_option maxHeartbeats 3200000
set_option maxRecDepth 100000

/-- What a call of Get has done. -/
def Got (B p m : Nat) (sv : Value) (W : World) (RES : List Nd × Nat × Nat) (e : Ending) (W' : World) : Prop :=
  e = .returned (.tuple #[.int .i64 ((RES.2.1 : Nat) : Int), .int .i64 ((RES.2.2 : Nat) : Int)]) ∧
      ∃ v, StoreAt B W' p m v RES.1 ∧ Kept (foot p m sv) W W' ∧ (v.ownBlock = sv.ownBlock ∨ ∃ g, W.heap.size ≤ g ∧ v.ownBlock = some g)

theorem whole_ne {s : By} {ns : List Nd} (h : wholeP s = some ns) : 0 < ns.length := by
  unfold wholeP at h
  by_cases hl : 10000 < s.length
  · rw [if_pos hl] at h; cases h
  rw [if_neg hl] at h
  cases hq : nodeP (s.length + 1) s [] with
  | none => rw [hq] at h; simp at h
  | some p =>
    rw [hq, Option.bind_some] at h
    have hs := nodeP_shr _ _ _ _ hq
    unfold Shr at hs
    by_cases hp : p.1 = []
    · rw [if_pos hp] at h
      simp only [Option.some.injEq] at h
      rw [← h]
      simp at hs
      omega
    · rw [if_neg hp] at h; cases h

/-- Blocks that may change while a text is read. -/
def GF (r : Nat) (i : Nat) : Prop := i = r ∨ r + 1 + 1 ≤ i

/-- Get behind its look at the store. -/
theorem get_rest {B p m : Nat} {sv : Value} {L : List Nd} {W : World} {t : By} {x : Nd} {er : Nat} (S : StoreAt B W p m sv L) (hB : B ≤ W.heap.size) (hE : EnvAt (fun i => W.heap.size ≤ i) W) (ht : t.length ≤ 9223372036854775807)
    (HNODE : Hid (Calls Tryz.prog 11 #[.pointer (some ⟨p, 0, none⟩), .int .i64 0] W fun e W' => e = .returned (.tuple #[x.val, .int .i64 ((er : Nat) : Int)]) ∧ Below W.heap.size W W')) (her : ¬ er = 1) :
    Calls Tryz.prog 22 #[.pointer (some ⟨p, 0, none⟩), .string ⟨t.toArray⟩] W (Got B p m sv W (getP L t)) := by
  have hmf : ∀ (fn : Fn) (first cap : Array Value) (w : World), (Instr.makeFunc fn first cap).run Tryz.prog w = .ok (.func fn first cap) w := fun _ _ _ _ => rfl
  have d1 : (((er : Nat) : Int) == 1) = false := by simp; omega
  obtain ⟨tx, htx⟩ : ∃ tx : ByteArray, tx = ⟨t.toArray⟩ := ⟨_, rfl⟩
  have htl : tx.data.toList = t := by rw [htx]
  rw [← htx]
  have HS := Lib.hid S
  have HE := Lib.hid hE
  have HTL := Lib.hid htl
  have HT := Lib.hid ht
  have HB := Lib.hid hB
  obtain ⟨o, w, k0, k1, k2, n, l⟩ := x
  unfold Nd.val at HNODE
  clear S hE htl htx ht hB her
  go_enter Tryz.func22, Tryz.ntmps22
  go_wp2_with (go_at_call 11; refine HNODE.out.mono ?_; rintro e W1 ⟨rfl, hb1⟩; have HB1 := Lib.hid hb1; clear hb1)
  have HX1 := Lib.hid (bel_alloc HB1.out (.cells #[.int .u8 ((o : Nat) : Int), .int .u8 ((w : Nat) : Int), .int .i64 k0, .int .i64 k1, .int .i64 k2, .int .u64 ((n : Nat) : Int), .int .u8 ((l : Nat) : Int)] 36))
  have HSZ : Hid ((W1.alloc (.cells #[.int .u8 ((o : Nat) : Int), .int .u8 ((w : Nat) : Int), .int .i64 k0, .int .i64 k1, .int .i64 k2, .int .u64 ((n : Nat) : Int), .int .u8 ((l : Nat) : Int)] 36)).heap.size = W1.heap.size + 1) := Lib.hid (by simp)
  have h21 : W1.heap.size + 1 = W1.heap.size + 1 := rfl
  generalize (W1.alloc (.cells #[.int .u8 ((o : Nat) : Int), .int .u8 ((w : Nat) : Int), .int .i64 k0, .int .i64 k1, .int .i64 k2, .int .u64 ((n : Nat) : Int), .int .u8 ((l : Nat) : Int)] 36)) = X at HX1 HSZ ⊢
  obtain ⟨r, hr⟩ : ∃ r, W1.heap.size + 1 = r := ⟨_, rfl⟩
  rw [hr] at HSZ
  try simp only [hr]
  have hrW : W.heap.size ≤ r := by have := HB1.out.size; omega
  have hXr : X.heap.size = r := HSZ.out
  clear h21 hr HB1
  have HRW := Lib.hid hrW
  obtain ⟨X3, hX3⟩ : ∃ X3, X3 = (X.alloc (.cells #[.string tx, .slice none 0 0] 99)).alloc (.cells #[.int .i64 0] 27) := ⟨_, rfl⟩
  have hb3 : Below W.heap.size W X3 := by rw [hX3]; exact bel_alloc (bel_alloc HX1.out _) _
  have s3 : X3.heap.size = r + 1 + 1 := by rw [hX3]; simp [hXr]
  have c0 : X3.cell? ⟨r, 0, none⟩ = some (.string tx) := by rw [hX3, ← hXr]; simp [go_sem]
  have c1 : X3.cell? ⟨r, 1, none⟩ = some (.slice none 0 0) := by rw [hX3, ← hXr]; simp [go_sem]
  have cf : ∀ o, X3.frozen? ⟨r, o, none⟩ = false := fun o => by rw [hX3, ← hXr]; simp [go_sem]
  have c5 : X3.cell? ⟨r + 1, 0, none⟩ = some (.int .i64 0) := by rw [hX3, ← hXr]; simp [go_sem]
  have c6 : X3.frozen? ⟨r + 1, 0, none⟩ = false := by rw [hX3, ← hXr]; simp [go_sem]
  have hfoot : ∀ i, foot p m sv i → ¬ GF r i := by
    intro i c d
    have : i < W.heap.size := by
      rcases c with c | c | c
      · subst c; exact HS.out.lt
      · subst c; exact HS.out.lm
      · exact (HS.out.row.lt i c).2
    unfold GF at d
    omega
  have hR3 : RdE (GF r) r t [] X3 := ⟨tx, .slice none 0 0, c0, HTL.out, c1, cf, World.ownsRow_nil _ _ _ _, by simp [Value.ownBlock], .inl rfl, fun g e => by simp [Value.ownBlock] at e, fun i hi => .inr (by omega)⟩
  have hE3 : EnvAt (GF r) X3 := (HE.out.call hb3).mono (fun i c => by unfold GF at c; omega)
  have hwhole := rwhole_any hR3 hE3 HT.out
  have hnG : ¬ GF r (r + 1) := by unfold GF; omega
  have hcell : ∀ w1, Kept (GF r) X3 w1 → w1.cell? ⟨r + 1, 0, none⟩ = some (.int .i64 0) ∧ w1.frozen? ⟨r + 1, 0, none⟩ = false := fun w1 k =>
    ⟨(k.cell (x := ⟨r + 1, 0, none⟩) (show _ < _ by rw [s3]; exact Nat.lt_succ_self _) hnG).trans c5, (k.frozen (x := ⟨r + 1, 0, none⟩) (show _ < _ by rw [s3]; exact Nat.lt_succ_self _) hnG).trans c6⟩
  have s2 : (X.alloc (.cells #[.string tx, .slice none 0 0] 99)).heap.size = r + 1 := by simp [hXr]
  have HFOOT := Lib.hid hfoot
  have HB3 := Lib.hid hb3
  have HS3 := Lib.hid s3
  cases hq : wholeP t with
  | none =>
    have HGP : Hid (getP L t = (L, 0, 5)) := Lib.hid (by unfold getP; rw [hq])
    rw [hq] at hwhole
    have hc := caught_get_bad (.pointer (some ⟨r, 0, none⟩)) 5 (W := X.alloc (.cells #[.string tx, .slice none 0 0] 99)) (R := fun w1 => Kept (GF r) X3 w1) (by rw [← hX3]; exact hwhole.mono (fun e w1 h => h)) (by rw [s2]; exact hcell)
    rw [s2] at hc
    have HC := Lib.hid hc
    clear hc hwhole hE3 hR3 c0 c1 cf c5 c6 hcell hX3 hb3 s3 s2 hfoot hnG hq hrW HX1
    try simp only [hXr]
    go_wp2_with (go_at_call 25; refine HC.out.mono ?_; rintro e W4 ⟨rfl, w1, k1, hW4⟩; have HW4 := Lib.hid hW4; have K1 := Lib.hid k1; clear hW4 k1)
    refine bodyPost_ret (v := .tuple #[.int .i64 0, .int .i64 5]) (by simp [results, Tryz.results22, go_sem]) rfl ?_
    have hK : Kept (foot p m sv) W W4 := by
      rw [HW4.out]
      exact Kept.ofBelow ((HB3.out.trans (K1.out.below (fun i hi c => by unfold GF at c; have := HRW.out; omega) HB3.out.size)).setCell (by have := HRW.out; simp; omega) _) _
    have hb4 : Below W.heap.size W W4 := by
      rw [HW4.out]
      exact (HB3.out.trans (K1.out.below (fun i hi c => by unfold GF at c; have := HRW.out; omega) HB3.out.size)).setCell (by have := HRW.out; simp; omega) _
    rw [HGP.out]
    exact ⟨rfl, sv, HS.out.call hb4, hK, .inl rfl⟩
  | some ns =>
    have HGP : Hid (getP L t = bd ns [] L 0) := Lib.hid (by unfold getP; rw [hq])
    rw [hq] at hwhole
    have hok := wholeP_ok hq
    have hne := whole_ne hq
    have hc := caught_get_ok (.pointer (some ⟨r, 0, none⟩)) (W := X.alloc (.cells #[.string tx, .slice none 0 0] 99)) (R := fun w1 => RdE (GF r) r [] ns w1 ∧ Kept (GF r) X3 w1) (by rw [← hX3]; exact hwhole.mono (fun e w1 h => h)) (by rw [s2]; exact fun w1 h => hcell w1 h.2)
    rw [s2] at hc
    have HC := Lib.hid hc
    have HOK := Lib.hid hok
    have HNE := Lib.hid hne
    clear hc hwhole hE3 hR3 c0 c1 cf c5 c6 hcell hX3 hb3 s3 s2 hfoot hnG hq hrW HX1 hok hne
    try simp only [hXr]
    go_wp2_with (
       go_at_call 25
       refine HC.out.mono ?_
       rintro e W4 ⟨rfl, w1, ⟨⟨tx2, v, hrd⟩, k1⟩, hW4⟩
       have HW4 := Lib.hid hW4
       have K1 := Lib.hid k1
       have HRD := Lib.hid hrd
       clear hW4 k1 hrd
       refine Hid.out ?_)
    refine Lib.hid ?_
    have hov : v.ownBlock ≠ some (r + 1) := fun e => by have h := HRD.out.fo _ e; unfold GF at h; omega
    have d2 : W4.cell? ⟨r, 1, none⟩ = some v := by rw [HW4.out, World.cell?_setCell_far _ _ _ _ (by simp)]; exact HRD.out.c1
    have hrow4 : W4.ownsRow 0 36 7 v ns.length (rowOf ns) := by rw [HW4.out]; exact row_setCell HRD.out.row (a := ⟨r + 1, 0, none⟩) _ hov
    have hb4 : Below W.heap.size W W4 := by
      rw [HW4.out]
      exact (HB3.out.trans (K1.out.below (fun i hi c => by unfold GF at c; have := HRW.out; omega) HB3.out.size)).setCell (by have := HRW.out; simp; omega) _
    obtain ⟨x0, hx0⟩ : ∃ x0, ns[0]? = some x0 := ⟨_, List.getElem?_eq_getElem HNE.out⟩
    obtain ⟨gn, cc, hv, hcells⟩ := row_nd_at hrow4 hx0
    have hgF := HRD.out.fo gn (by rw [hv]; rfl)
    have hgn : gn < W4.heap.size := own_lt hrow4 (by rw [hv]; rfl)
    subst hv
    have hbuild := build_any (c := cc) (HS.out.call hb4) (Nat.le_trans HB.out hb4.size) HOK.out.1 HOK.out.2.1 hgn (fun c => HFOOT.out gn c hgF) hcells ns.length rfl
    have HBU := Lib.hid hbuild
    have HB4 := Lib.hid hb4
    clear hov hrow4 hb4 hx0 hcells hgF hgn hbuild
    go_wp2_with (
       go_at_call 55
       refine HBU.out.mono ?_
       rintro e W5 ⟨rfl, hm⟩
       have HM := Lib.hid hm
       clear hm)
    refine bodyPost_ret (v := .tuple #[.int .i64 (((bd ns [] L 0).2.1 : Nat) : Int), .int .i64 (((bd ns [] L 0).2.2 : Nat) : Int)]) (by simp [results, Tryz.results22, go_sem]) rfl ?_
    obtain ⟨v5, S5, K5, h5⟩ := HM.out
    rw [HGP.out]
    refine ⟨rfl, v5, S5, (Kept.ofBelow HB4.out (foot p m sv)).trans (K5.mono (fun i hi c => ?_)), ?_⟩
    · rcases c with c | c
      · exact c
      · omega
    · rcases h5 with e | ⟨g, hg, e⟩
      · exact .inl e
      · exact .inr ⟨g, Nat.le_trans HB4.out.size hg, e⟩

theorem get_yes {B p m : Nat} {sv : Value} {L : List Nd} {W : World} {t : By} (S : StoreAt B W p m sv L) (hB : B ≤ W.heap.size) (hE : EnvAt (fun i => W.heap.size ≤ i) W) (ht : t.length ≤ 9223372036854775807) :
    Calls Tryz.prog 22 #[.pointer (some ⟨p, 0, none⟩), .string ⟨t.toArray⟩] W (Got B p m sv W (getP L t)) := by
  cases L with
  | nil => exact get_rest (x := zNd) (er := 2) S hB hE ht (Lib.hid (node_no S (k := 0) (by simp [inB]))) (by omega)
  | cons x r => exact get_rest (x := x) (er := 0) S hB hE ht (Lib.hid (node_yes S (k := 0) rfl)) (by omega)

theorem get_none (ptr : Value) (t : ByteArray) (W : World) (h : NoneAt W ptr) :
    Calls Tryz.prog 22 #[ptr, .string t] W fun e W' => e = .returned (.tuple #[.int .i64 0, .int .i64 1]) ∧ Below W.heap.size W W' := by
  have HN := Lib.hid (node_none ptr 0 W h)
  clear h
  go_enter Tryz.func22, Tryz.ntmps22
  go_wp2_with (go_at_call 11; refine HN.out.mono ?_; rintro e W1 ⟨rfl, hb1⟩; have HB1 := Lib.hid hb1; clear hb1)
  exact bodyPost_ret (v := .tuple #[.int .i64 0, .int .i64 1]) (by simp [results, Tryz.results22, go_sem]) rfl ⟨rfl, bel_alloc HB1.out _⟩
end Tx
end Go.Proofs.YtkiegiofholofaaGreatDoor

namespace Go.Proofs.YtkiegiofholofaaGreatDoor
open Go.RowKit Go.Maps Bv
namespace Tm
set_option maxHeartbeats 1000000
set_option maxRecDepth 100000

theorem row_at {w : World} {base : Nat} {v : Value} {T : List Nat} (h : w.ownsRow base 3 1 v T.length (todoRow T)) (hT : 0 < T.length) :
    ∃ g c, v = .slice (some ⟨g, 0, none⟩) T.length c ∧ ∀ j i, T[j]? = some i → w.cell? ⟨g, j, none⟩ = some (.int .i64 ((i : Nat) : Int)) := by
  have hr := h
  rcases h with ⟨hl, ⟨_, h2⟩ | ⟨g, cap, cur, hv, hb, hh, hn, _⟩⟩
  · omega
  · refine ⟨g, cap, hv, fun j i hj => ?_⟩
    have hc := hr.cells (g := g) (by rw [hv]; rfl) j (.int .i64 ((i : Nat) : Int)) (by simp [todoRow, hj])
    have e : (⟨g, 0, none⟩ : Addr).add j = ⟨g, j, none⟩ := by
      unfold Addr.add
      split <;> simp_all
    rw [e] at hc
    exact hc

theorem row_zero {w : World} {base : Nat} {v : Value} {xs : List Value} (h : w.ownsRow base 3 1 v 0 xs) : ∃ a c, v = .slice a 0 c := by
  rcases h with ⟨hl, ⟨h1, _⟩ | ⟨g, cap, cur, hv, _⟩⟩
  · exact ⟨none, 0, h1⟩
  · exact ⟨_, _, hv⟩

theorem made_to {B p m : Nat} {sv : Value} {L L' : List Nd} {x : Nd} {W : World} {f : FuncId} {args : Array Value} {a b : Int} (S : StoreAt B W p m sv L) (hB : B ≤ W.heap.size) (h : Calls Tryz.prog f args W (Made B p m sv L x W)) (h1 : (mk L x).1 = L') (h2 : (((mk L x).2.1 : Nat) : Int) = a) (h3 : (((mk L x).2.2 : Nat) : Int) = b) :
    Calls Tryz.prog f args W (fun e W' => e = .returned (.tuple #[.int .i64 a, .int .i64 b]) ∧ ∃ v, StoreAt B W' p m v L' ∧ Below B W W') := by
  refine h.mono ?_
  rintro e w' ⟨he, v, S', K, _⟩
  subst h1; subst h2; subst h3
  refine ⟨he, v, S', K.below (fun i hi hc => ?_) hB⟩
  rcases hc with c | c | c
  · have := S.bp; omega
  · have := S.bm; omega
  · have := (S.row.lt i c).1; omega

theorem new_at (W : World) :
    Calls Tryz.prog 16 #[] W fun e W' => e = .returned (.pointer (some ⟨W.heap.size + 1, 0, none⟩)) ∧
      StoreAt W.heap.size W' (W.heap.size + 1) W.heap.size (.slice none 0 0) [] ∧ Below W.heap.size W W' := by
  refine (new_any W).mono ?_
  rintro e w' ⟨rfl, rfl⟩
  exact ⟨rfl, new_store W, new_kept W _ _⟩

end Tm
end Go.Proofs.YtkiegiofholofaaGreatDoor

namespace Go.Proofs.YtkiegiofholofaaGreatDoor
open Go.RowKit Go.Maps Bv Tm
namespace Tx
set_option maxHeartbeats 3200000
set_option maxRecDepth 100000

theorem bd_may : ∀ (ns : List Nd) (ids : List Nat) (L : List Nd) (last : Nat), MayL L → MayL (bd ns ids L last).1
  | [], _, _, _, h => h
  | x :: r, ids, L, last, h => by
    simp only [bd]
    split
    · exact bd_may r _ _ _ (mayL_step h _)
    · exact mayL_step h _
theorem getP_may {L : List Nd} (h : MayL L) (t : By) : MayL (getP L t).1 := by
  unfold getP
  split
  · exact h
  · exact bd_may _ _ _ _ h

theorem env_at {W w : World} (hE : EnvAt (fun i => W.heap.size ≤ i) W) (hb : Below W.heap.size W w) : EnvAt (fun i => w.heap.size ≤ i) w :=
  (hE.call hb).mono (fun _ c => Nat.le_trans hb.size c)

theorem get_to {p m : Nat} {sv : Value} {L L' : List Nd} {W w : World} {t : By} {a b : Nat} (S : StoreAt W.heap.size w p m sv L) (hE : EnvAt (fun i => W.heap.size ≤ i) W) (hb : Below W.heap.size W w) (ht : t.length ≤ 9223372036854775807) (hg : getP L t = (L', a, b)) :
    Calls Tryz.prog 22 #[.pointer (some ⟨p, 0, none⟩), .string ⟨t.toArray⟩] w fun e W' => e = .returned (.tuple #[.int .i64 ((a : Nat) : Int), .int .i64 ((b : Nat) : Int)]) ∧ ∃ v, StoreAt W.heap.size W' p m v L' ∧ Below W.heap.size W W' := by
  refine (get_yes S hb.size (env_at hE hb) ht).mono ?_
  rintro e W' ⟨he, v, S', K, _⟩
  rw [hg] at he S'
  refine ⟨he, v, S', hb.trans (K.below (fun i hi c => ?_) hb.size)⟩
  rcases c with c | c | c
  · have := S.bp; omega
  · have := S.bm; omega
  · have := (S.row.lt i c).1; omega

end Tx
end Go.Proofs.YtkiegiofholofaaGreatDoor

namespace Go.Proofs.YtkiegiofholofaaGreatDoor
open Go.RowKit Go.Maps Bv Tm Kn
namespace Ru
set_option maxHeartbeats 2000000
set_option maxRecDepth 100000

theorem step_leaf {B p m k : Nat} {sv : Value} {L : List Nd} {x : Nd} {W : World} (S : StoreAt B W p m sv L) (hM : MayL L) (hx : L[k]? = some x) (hkc : kc x.o = 0) :
    Calls Tryz.prog 8 #[.pointer (some ⟨p, 0, none⟩), .int .i64 ((k : Nat) : Int)] W (StepD B p m sv L k W) := by
  have hop := mayN_op (hM k x hx)
  have HS := Lib.hid S
  have HX := Lib.hid hx
  have HOP := Lib.hid hop
  have HKC := Lib.hid hkc
  clear S hx hop hkc hM
  go_enter Tryz.func8, Tryz.ntmps8
  go_wp2_with fail
  refine (node_yes HS.out HX.out).mono ?_
  rintro e w1 ⟨rfl, hb1⟩
  have HB1 := Lib.hid hb1
  clear hb1
  have HSITE : Hid (∀ w, Below W.heap.size W w → Calls Tryz.prog 20 #[.pointer (some ⟨p, 0, none⟩), .int .i64 ((k : Nat) : Int), x.val] w fun e W' => ∃ q, e = .returned (.pointer (some ⟨q, 0, none⟩)) ∧ w.heap.size ≤ q ∧ SiteAt W' q p k x (kd L x 0) (kd L x 1) (kd L x 2) ∧ Below w.heap.size w W') := Lib.hid (fun w hb => site_of (HS.out.call hb) HX.out HOP.out.1 HOP.out.2)
  unfold Nd.val at HSITE
  unfold Nd.val
  go_wp2_with (go_at_call 20; with_reducible refine (HSITE.out _ (by repeat (first | exact HB1.out | (refine bel_alloc ?_ _) | (refine Below.drew ?_)))).mono ?_; rintro e w2 ⟨q, rfl, hq, hs, hb2⟩; have HB2 := Lib.hid (bel_call (show Below W.heap.size W _ from (by repeat (first | exact HB1.out | (refine bel_alloc ?_ _) | (refine Below.drew ?_)))) hb2); have HSI := Lib.hid hs; clear hq hs hb2)
  refine (rules_none HSI.out HOP.out.1 HOP.out.2 HKC.out).mono ?_
  rintro e w3 ⟨rfl, rfl⟩
  go_wp2_with fail
  go_loopg [25] 0 (fun gk u25 wr => u25 = .int .i64 0 ∧ gk = 0 ∧ Below W.heap.size W wr)
  case atStart => exact ⟨rfl, rfl, by repeat (first | exact HB2.out | (refine bel_alloc ?_ _) | (refine Below.drew ?_))⟩
  case round =>
    obtain ⟨rfl, hgk, hbr⟩ := hrel
    have HBW := Lib.hid hbr
    clear hbr
    go_wp2_with fail
    have hs : stp L k = (L, k, 0, 0) := by
      unfold stp
      rw [HX.out]
      simp only
      rw [if_pos HKC.out]
    exact bodyPost_ret (v := .tuple #[.int .i64 ((k : Nat) : Int), .int .i64 0, .int .i64 0]) (by simp [results, Tryz.results8, go_sem]) rfl (by unfold StepD; rw [hs]; exact ⟨rfl, sv, HS.out.call HBW.out, Kept.ofBelow HBW.out _, .inl rfl⟩)

theorem step_yes {B p m k : Nat} {sv : Value} {L : List Nd} {W : World} (S : StoreAt B W p m sv L) (hB : B ≤ W.heap.size) (hM : MayL L) (hk : k < L.length) :
    Calls Tryz.prog 8 #[.pointer (some ⟨p, 0, none⟩), .int .i64 ((k : Nat) : Int)] W (StepD B p m sv L k W) := by
  obtain ⟨x, hx⟩ : ∃ x, L[k]? = some x := ⟨_, List.getElem?_eq_getElem hk⟩
  by_cases h : kc x.o = 0
  · exact step_leaf S hM hx h
  · exact step_fits S hB hM hx h

theorem step_err {ptr : Value} {id : Int} {er : Nat} {nd : Value} {W : World} (her : er ≠ 0) (hnd : ∃ a b c d e f g : Int, nd = .agg #[.int .u8 a, .int .u8 b, .int .i64 c, .int .i64 d, .int .i64 e, .int .u64 f, .int .u8 g])
    (hn : ∀ v, Below W.heap.size W v → Calls Tryz.prog 11 #[ptr, .int .i64 id] v fun e v' => e = .returned (.tuple #[nd, .int .i64 ((er : Nat) : Int)]) ∧ Below v.heap.size v v') :
    Calls Tryz.prog 8 #[ptr, .int .i64 id] W fun e W' => e = .returned (.tuple #[.int .i64 0, .int .i64 0, .int .i64 ((er : Nat) : Int)]) ∧ Below W.heap.size W W' := by
  obtain ⟨a, b, c, d, e, f, g, rfl⟩ := hnd
  have HN := Lib.hid (hn W (Below.refl _ _))
  have d0 : (((er : Nat) : Int) != 0) = true := by simp; omega
  have d1 : ¬ ((er : Nat) : Int) = 0 := by omega
  clear hn her
  go_enter Tryz.func8, Tryz.ntmps8
  go_wp2_with fail
  refine HN.out.mono ?_
  rintro e w1 ⟨rfl, hb1⟩
  have HB1 := Lib.hid hb1
  clear hb1
  go_wp2_with fail
  exact bodyPost_ret (v := .tuple #[.int .i64 0, .int .i64 0, .int .i64 ((er : Nat) : Int)]) (by simp [results, Tryz.results8, go_sem]) rfl ⟨rfl, by repeat (first | exact HB1.out | (refine bel_alloc ?_ _) | (refine Below.drew ?_))⟩
theorem step_no {B p m : Nat} {id : Int} {sv : Value} {L : List Nd} {W : World} (S : StoreAt B W p m sv L) (hi : inB L id = false) :
    Calls Tryz.prog 8 #[.pointer (some ⟨p, 0, none⟩), .int .i64 id] W fun e W' => e = .returned (.tuple #[.int .i64 0, .int .i64 0, .int .i64 2]) ∧ Below W.heap.size W W' :=
  step_err (er := 2) (by decide) ⟨_, _, _, _, _, _, _, rfl⟩ (fun _ hv => node_no (S.call hv) hi)
theorem step_none (ptr : Value) (id : Int) (W : World) (h : NoneAt W ptr) :
    Calls Tryz.prog 8 #[ptr, .int .i64 id] W fun e W' => e = .returned (.tuple #[.int .i64 0, .int .i64 0, .int .i64 1]) ∧ Below W.heap.size W W' :=
  step_err (er := 1) (by decide) ⟨_, _, _, _, _, _, _, rfl⟩ (fun v hv => node_none ptr id v (h.keep hv))
end Ru
end Go.Proofs.YtkiegiofholofaaGreatDoor
