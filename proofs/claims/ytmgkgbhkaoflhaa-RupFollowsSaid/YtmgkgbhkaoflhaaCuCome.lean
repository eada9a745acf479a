/-
  The program's come: a literal comes, and the clauses in which its not stands have one less.
-/
import Derived.Test.YtmgkgbhkaoflhaaB8
import Derived.Deep.LoopGhost
namespace Go.Proofs.Ytmgkgbhkaoflhaa
open Go.RowKit Go.Maps
namespace Cf
set_option maxHeartbeats 4000000
set_option maxRecDepth 100000

/-- The clauses of a literal, from its newest place on. -/
def Chain (P : List (Int × Int)) : Nat → List Nat → Prop
  | a, [] => a = 0
  | a, k :: r => ∃ b o : Nat, a = b + 1 ∧ P[b]? = some (((k : Nat) : Int), ((o : Nat) : Int)) ∧ Chain P o r
/-- What becomes of what is left, of the queue and of 'broken', where these clauses have one less. -/
def DropR : List Nat → List Int × List Int × Bool → List Int × List Int × Bool → Prop
  | [], s, s' => s' = s
  | k :: r, s, s' => ∃ (x : Nat) (q1 : List Int), s.1[k]? = some ((x : Int) + 1) ∧ LookR s.2.1 (x : Int) k q1 ∧ DropR r (s.1.set k ((x : Nat) : Int), q1, s.2.2 || (((x : Nat) : Int) == 0)) s'
/-- Each clause has one left at least. -/
def Fine (ch : List Nat) (lf : List Int) : Prop := ch.Nodup ∧ ∀ k ∈ ch, ∃ x : Nat, lf[k]? = some ((x : Int) + 1) ∧ x < 1000000000
theorem Fine.next {k : Nat} {r : List Nat} {lf : List Int} {y : Int} (h : Fine (k :: r) lf) : Fine r (lf.set k y) := by
  obtain ⟨h1, h2⟩ := h
  rw [List.nodup_cons] at h1
  refine ⟨h1.2, fun j hj => ?_⟩
  obtain ⟨x, hx, hb⟩ := h2 j (by simp [hj])
  have : k ≠ j := fun e => h1.1 (e ▸ hj)
  exact ⟨x, by rw [List.getElem?_set_ne this]; exact hx, hb⟩
theorem LookR.heap {q q' : List Int} {x k : Int} (h : LookR q x k q') (hq : HeapL q) : HeapL q' ∧ q'.length ≤ q.length + 1 := by
  by_cases e : x = 1
  · have := h.1 e
    exact ⟨this.2.1, Nat.le_of_eq this.1⟩
  · rw [h.2 e]
    exact ⟨hq, by omega⟩

theorem MidAt.alloc {B : Nat} {w : World} {u : Nat} {al : Option Addr} {n c vn : Nat} {L : Lay} {S : St} {l : Int} (h : MidAt B w u al n c vn L S l) (o : Obj) : MidAt B (w.alloc o) u al n c vn L S l :=
  h.same (by simp) fun i a e => ((Below.refl w.heap.size w).alloc (Nat.le_refl _) o).block a (h.low i a e).2
theorem MidAt.u_far {B : Nat} {w w2 : World} {u : Nat} {al : Option Addr} {n c vn : Nat} {L : Lay} {S : St} {l : Int} (h : MidAt B w u al n c vn L S l) {i : Nat} {b : Option Nat} (hi : (ownB u L)[i]? = some b) (h0 : i ≠ 0) (hg : w.grownBy w2 b) :
    (∀ j, w2.cell? ⟨u, j, none⟩ = (cellsU al n c vn L S.br)[j]?) ∧ ∀ j, w2.frozen? ⟨u, j, none⟩ = false := by
  have e := hg.block u (h.low 0 u rfl).2 (own_ne h.sep hi (j := 0) (a := u) rfl h0).symm
  exact ⟨fun j => (World.cell?_of_block (a := ⟨u, j, none⟩) e).trans (h.cells.1 j), fun j => (World.frozen?_of_block (a := ⟨u, j, none⟩) e).trans (h.cells.2 j)⟩
theorem come_any {B : Nat} {w : World} {u : Nat} {al : Option Addr} {n c vn : Nat} {L : Lay} {S : St} (h : UAt B w u al n c vn L S) (hB : B ≤ w.heap.size) (hv : vn ≤ 1000000) {l : Int} {i a : Nat} {ch : List Nat} (hi : ((vn : Nat) : Int) - l = ((i : Nat) : Int)) (hi2 : i < 2 * vn + 1) (_hl0 : l ≠ 0) (h1 : S.T.elem l = false) (h2 : S.T.elem (-l) = false) (hT : S.T.length < 1000000000)
    (hn : S.nw[i]? = some ((a : Nat) : Int)) (hc : Chain S.P a ch) (hf : Fine ch S.lf) (hh : HeapL S.q) (hq : S.q.length + ch.length < 100000000) (hz : S.P.length < 1000000000) (hnn : n < 1000000000) :
    Calls Try.prog 51 #[.pointer (some ⟨u, 0, none⟩), .int .i64 l] w fun e w' => e = .returned (.tuple #[]) ∧ ∃ lf' q' br', (∃ L', UAt B w' u al n c vn L' ⟨S.T ++ [l], lf', S.P, S.nw, q', br'⟩) ∧ DropR ch (S.lf, S.q, S.br) (lf', q', br') ∧ HeapL q' ∧ Below B w w' := by
  have hl1 : -1000000 ≤ l ∧ l ≤ 1000000 := by omega
  have c3 : w.cell? ⟨u, 3, none⟩ = some (.map (some L.m)) := h.cells.1 3
  have HU := Lib.hid h
  have HB := Lib.hid hB
  have HCH := Lib.hid hc
  have HF := Lib.hid hf
  have HH := Lib.hid hh
  have HN := Lib.hid hn
  have hul := (h.low 0 u rfl).2
  have HVR := Lib.hid (fun W => var_any (l := l) (W := W) hl1.1 hl1.2)
  clear hc hf hh hn
  go_enter Try.func51, Try.ntmps51
  have hvi : I64 (vr l) := by unfold I64 vr; split <;> omega
  obtain ⟨w2, hrun, hmid, hgm⟩ := (HU.out.drew).decide (l := l) (by unfold I64; omega) hvi h1 h2 hT
  have HM := Lib.hid hmid
  have HGM : Hid (Below B w w2) := Below.trans (b := w.drew) (Below.refl _ _).drew (low_bel hB hgm (fun g e => by injection e with e; subst e; exact (HU.out.low 1 L.m rfl).1))
  have hB2 : B ≤ w2.heap.size := Nat.le_trans hB HGM.out.size
  have HB2 := Lib.hid hB2
  obtain ⟨ca, cc, hcv⟩ := row_shape hmid.came
  have c2 : w2.cell? ⟨u, 2, none⟩ = some (.slice ca S.T.length cc) := by rw [hmid.cells.1 2, ← hcv]; rfl
  have f2 := hmid.cells.2 2
  have HCV := Lib.hid hcv
  have hrow := hmid.came
  rw [hcv] at hrow
  have HROW := Lib.hid hrow
  clear hmid hgm hrow hcv hB2 h
  go_wp2_with fail
  go_region_with (go_at_call 50; refine (HVR.out _).mono ?_; rintro e w' ⟨rfl, rfl⟩)
  all_goals
    clear hrun
    go_wp2_with (at_builtin; refine wpList_grew info_int Try.underlying25 rfl (by decide) (by decide) (v := .slice ca S.T.length cc) (n := S.T.length) (xs := rowI S.T) (news := #[.int .i64 l]) rfl (.tmp 17) (.tmp 19) rfl rfl HROW.out HB2.out rfl rfl (by simp [Value.oneCell']) rfl (by omega) ?_; intro g cp w3 hg3; obtain ⟨C2, F2⟩ := ((HM.out.alloc _).u_far (i := 4) (by show some L.cv.ownBlock = _; rw [HCV.out]) (by decide) hg3.gr).imp (fun f => f 2) (fun f => f 2); rw [show (cellsU al n c vn L S.br)[2]? = some L.cv from rfl, HCV.out] at C2; have HG := Lib.hid hg3; clear hg3)
    have HU2 := Lib.hid ((HM.out.alloc (.cells #[.int .i64 l] 3)).pushT HG.out.row (by rw [HCV.out]; exact HG.out.gr) (by rw [HCV.out]; exact HG.out.loc))
    have HB3 : Hid (Below B w (w3.setCell ⟨u, 2, none⟩ (.slice (some ⟨g, 0, none⟩) (S.T.length + 1) cp))) := bel_setU (HGM.out.trans (bel_grew (q := 0) HB2.out HG.out (fun g e => (HROW.out.lt g e).1))) (HU.out.low 0 u rfl).1 2 _
    generalize w3.setCell ⟨u, 2, none⟩ (.slice (some ⟨g, 0, none⟩) (S.T.length + 1) cp) = w4 at HU2 HB3 ⊢
    clear HG C2 F2 c2 f2 HM HROW HCV HVR HB2 HGM
    have c1 : w4.cell? ⟨u, 1, none⟩ = some (.int .i64 vn) := HU2.out.cells.1 1
    have c6 : w4.cell? ⟨u, 6, none⟩ = some (.slice (some ⟨L.nb, 0, none⟩) (2 * vn + 1) (2 * vn + 1)) := HU2.out.cells.1 6
    obtain ⟨cn, fn⟩ := HU2.out.new HN.out
    go_quiet (fail)
    go_wp2_with fail
    go_loopg [4] ch.length (fun gk v4 wr => ∃ (a : Nat) (rest : List Nat) (lfc qc : List Int) (brc : Bool), v4 = .int .i64 ((a : Nat) : Int) ∧ rest.length = gk ∧ Chain S.P a rest ∧ (∃ L', UAt B wr u al n c vn L' ⟨S.T ++ [l], lfc, S.P, S.nw, qc, brc⟩) ∧ Below B w wr ∧ Fine rest lfc ∧ HeapL qc ∧ qc.length + rest.length < 100000000 ∧ Hid (∀ fin, DropR rest (lfc, qc, brc) fin → DropR ch (S.lf, S.q, S.br) fin))
    case atStart => exact ⟨a, ch, S.lf, S.q, S.br, rfl, rfl, HCH.out, ⟨_, HU2.out.drewN _⟩, HB3.out.trans ⟨rfl, rfl, rfl, Nat.le_refl _, fun _ _ => rfl⟩, HF.out, HH.out, hq, fun _ h => h⟩
    case round =>
      obtain ⟨a, rest, lfc, qc, brc, rfl, hlen, hch, ⟨Lc, hu⟩, hbw, hfn, hhp, hql, HD⟩ := hrel
      clear HU2 HB3 c1 c6 cn fn
      cases rest with
      | nil =>
        obtain rfl : a = 0 := hch
        have HUU := Lib.hid hu
        have HBW := Lib.hid hbw
        clear hu hbw hfn
        simp only [show (((0 : Nat) : Nat) : Int) = 0 from rfl]
        go_wp2_with fail
        go_end0
        exact ⟨rfl, lfc, qc, brc, ⟨_, HUU.out⟩, HD.out _ rfl, hhp, HBW.out⟩
      | cons k rest =>
        obtain ⟨b, o, rfl, hpl, hch⟩ := hch
        obtain ⟨x, hx, hxb⟩ := hfn.2 k (by simp)
        have hkn : k < n := by have := (List.getElem?_eq_some_iff.1 hx).1; rw [hu.ln] at this; exact this
        have c4 : wr.cell? ⟨u, 4, none⟩ = some (.slice (some ⟨Lc.lb, 0, none⟩) n n) := hu.cells.1 4
        obtain ⟨ck, fk⟩ := hu.left hx
        obtain ⟨g, cap, hpv, p0, p1⟩ := hu.place hpl
        have hbl : b < S.P.length := (List.getElem?_eq_some_iff.1 hpl).1
        have c5 : wr.cell? ⟨u, 5, none⟩ = some (.slice (some ⟨g, 0, none⟩) S.P.length cap) := by rw [hu.cells.1 5]; show some Lc.pv = _; rw [hpv]
        have i1 : (((b + 1 : Nat) : Nat) : Int) - 1 = ((b : Nat) : Int) := by omega
        have HUU := Lib.hid hu
        have HBW := Lib.hid hbw
        have HFN := Lib.hid hfn
        have HPL := Lib.hid hpl
        have HC2 := Lib.hid hch
        have HX := Lib.hid hx
        have hBr : B ≤ wr.heap.size := Nat.le_trans HB.out HBW.out.size
        have HLN := Lib.hid (show S.P.length < 1000000000 from hz)
        have hqq : qc.length < 100000000 := by omega
        have HHP := Lib.hid hhp
        clear hu hbw hfn hpl hch hpv hx hhp
        go_wp2_with fail
        have HU4 := Lib.hid (HUU.out.setLeft k ((x : Nat) : Int))
        have HB4 : Hid (Below B w (wr.setCell ⟨Lc.lb, k, none⟩ (.int .i64 ((x : Nat) : Int)))) := bel_setU HBW.out (HUU.out.low 2 Lc.lb rfl).1 k _
        have hx4 : (lfc.set k ((x : Nat) : Int))[k]? = some ((x : Nat) : Int) := by
          rw [List.getElem?_set_self]
          exact (List.getElem?_eq_some_iff.1 HX.out).1
        refine (look_unit HU4.out (Nat.le_trans HB.out HB4.out.size) hqq HHP.out hx4 hnn).mono ?_
        rintro e w5 ⟨rfl, L5, q5, h5, hl5, hb5⟩
        obtain ⟨g5, cap5, hpv5, p05, p15⟩ := h5.place HPL.out
        have c55 : w5.cell? ⟨u, 5, none⟩ = some (.slice (some ⟨g5, 0, none⟩) S.P.length cap5) := by rw [h5.cells.1 5]; show some L5.pv = _; rw [hpv5]
        have HU5 := Lib.hid h5
        have HB5 := Lib.hid (HB4.out.trans hb5)
        have HL5 := Lib.hid hl5
        clear h5 hb5 hl5 hpv5 HU4 HB4 hx4 c4 c5 ck fk p0 p1 p05
        go_wp2_with fail
        go_roundg rest.length
        case measure => simp at hlen; omega
        case rel =>
          obtain ⟨hh5, hl5⟩ := HL5.out.heap HHP.out
          exact ⟨o, rest, _, q5, _, rfl, rfl, HC2.out, ⟨L5, HU5.out⟩, HB5.out, HFN.out.next, hh5, by simp at hql; omega, fun fin hf => HD.out fin ⟨x, q5, HX.out, HL5.out, hf⟩⟩
end Cf
end Go.Proofs.Ytmgkgbhkaoflhaa
