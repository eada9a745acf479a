/-
The program's isLiteral, variable, look.
The program's stand.
-/
import Derived.Test.YtmgkgbhkaoflhaaCuQueue
import Derived.Test.YtmgkgbhkaoflhaaA3
import Derived.Deep.DeepMust
namespace Go.Proofs.Ytmgkgbhkaoflhaa
open Go.RowKit Go.Maps
namespace Cf
set_option maxHeartbeats 2000000
set_option maxRecDepth 100000

theorem lit_any {l v : Int} {W : World} (hv : 0 ≤ v) (hv2 : v ≤ 1000000) :
    Calls Try.prog 26 #[.int .i64 l, .int .i64 v] W fun e w => e = .returned (.bool (isL l v)) ∧ W = w := by
  obtain ⟨n1, n2⟩ := neg_i (x := v) (by omega) (by omega)
  by_cases h0 : l = 0
  · subst h0
    go_enter Try.func26, Try.ntmps26
    go_wp2_with fail
    go_ret
    exact ⟨rfl, rfl⟩
  · have d0 : (l == 0) = false := by simpa using h0
    have d1 : (l != 0) = true := by simpa using h0
    by_cases h1 : -v ≤ l
    · by_cases h2 : l ≤ v
      · have e : isL l v = true := by unfold isL; simp [h0, h1, h2]
        have HE := Lib.hid e
        clear e
        go_enter Try.func26, Try.ntmps26
        go_wp2_with fail
        go_ret
        exact ⟨ret_bool HE.out.symm, rfl⟩
      · have e : isL l v = false := by unfold isL; simp [h2]
        have HE := Lib.hid e
        have h2 : v < l := by omega
        clear e
        go_enter Try.func26, Try.ntmps26
        go_wp2_with fail
        go_ret
        exact ⟨ret_bool HE.out.symm, rfl⟩
    · have e : isL l v = false := by unfold isL; simp [h1]
      have HE := Lib.hid e
      have h1 : l < -v := by omega
      clear e
      go_enter Try.func26, Try.ntmps26
      go_wp2_with fail
      go_ret
      exact ⟨ret_bool HE.out.symm, rfl⟩
theorem var_any {l : Int} {W : World} (h1 : -1000000 ≤ l) (h2 : l ≤ 1000000) :
    Calls Try.prog 50 #[.int .i64 l] W fun e w => e = .returned (.int .i64 (vr l)) ∧ W = w := by
  obtain ⟨n1, n2⟩ := neg_i (x := l) (by omega) (by omega)
  have HV := Lib.hid (vr_eq (l := l))
  go_enter Try.func50, Try.ntmps50
  go_wp2_with fail
  go_ret
  exact ⟨by rw [HV.out]; rfl, rfl⟩
def LookR (q : List Int) (x k : Int) (q' : List Int) : Prop := (x = 1 → PushR q k q') ∧ (x ≠ 1 → q' = q)
theorem look_unit {B : Nat} {w : World} {u : Nat} {al : Option Addr} {n c vn : Nat} {L : Lay} {S : St} (h : UAt B w u al n c vn L S) (hB : B ≤ w.heap.size) (hl : S.q.length < 100000000) (hh : HeapL S.q) {k : Nat} {x : Int} (hk : S.lf[k]? = some x) (_hn : n < 1000000000) :
    Calls Try.prog 53 #[.pointer (some ⟨u, 0, none⟩), .int .i64 k] w fun e w' => e = .returned (.tuple #[]) ∧ ∃ L' q', UAt B w' u al n c vn L' { S with q := q', br := S.br || (x == 0) } ∧ LookR S.q x k q' ∧ Below B w w' := by
  have hkn : k < n := by have := (List.getElem?_eq_some_iff.1 hk).1; rw [h.ln] at this; exact this
  have c4 : w.cell? ⟨u, 4, none⟩ = some (.slice (some ⟨L.lb, 0, none⟩) n n) := h.cells.1 4
  have c8 : w.cell? ⟨u, 8, none⟩ = some (.bool S.br) := h.cells.1 8
  have f8 := h.cells.2 8
  obtain ⟨cl, fl⟩ := h.left hk
  have HU := Lib.hid h
  have hul := (h.low 0 u rfl).1
  have HP := Lib.hid (hpush_any h hB hl hh k)
  clear h
  by_cases h0 : x = 0
  · subst h0
    go_enter Try.func53, Try.ntmps53
    go_wp2_with fail
    go_end0
    exact ⟨rfl, _, S.q, by have := HU.out.setBr true; simpa using this, ⟨fun c => by omega, fun _ => rfl⟩, bel_setU (Below.refl B w) hul 8 _⟩
  · by_cases h1 : x = 1
    · subst h1
      go_enter Try.func53, Try.ntmps53
      go_wp2_with fail
      refine HP.out.mono ?_
      rintro e w1 ⟨rfl, L', q', h1, h2, h3⟩
      have H1 := Lib.hid h1
      have H2 := Lib.hid h2
      have H3 := Lib.hid h3
      clear h1 h2 h3
      go_wp2_with fail
      go_end0
      exact ⟨rfl, L', q', by have := H1.out; simpa using this, ⟨fun _ => H2.out, fun c => absurd rfl c⟩, H3.out⟩
    · have d0 : (x == 0) = false := by simpa using h0
      have d1 : (x == 1) = false := by simpa using h1
      go_enter Try.func53, Try.ntmps53
      go_wp2_with fail
      go_end0
      exact ⟨rfl, L, S.q, by rw [d0, Bool.or_false]; exact HU.out, ⟨fun c => absurd c h1, fun _ => rfl⟩, Below.refl B w⟩
end Cf
end Go.Proofs.Ytmgkgbhkaoflhaa

namespace Go.Proofs.Ytmgkgbhkaoflhaa
open Go.RowKit Go.Maps
namespace Cf
set_option maxHeartbeats 4000000
set_option maxRecDepth 100000

theorem row_drewN {w : World} {base size : Nat} {e : TypeId} {v : Value} {k : Nat} {xs : List Value} (h : w.ownsRow base e size v k xs) (q : Nat) : (w.drewN q).ownsRow base e size v k xs := same_row h fun _ _ => rfl
theorem bel_grew {B q : Nat} {w w2 : World} {o : Obj} {e : TypeId} {size : Nat} {v : Value} {n : Nat} {xs : List Value} {g c : Nat} (hB : B ≤ w.heap.size) (hg : Grew B ((w.drewN q).alloc o) w2 e size v n xs g c) (hv : ∀ g, v.ownBlock = some g → B ≤ g) : Below B w w2 := by
  have h1 : Below B w (w.drewN q) := ⟨rfl, rfl, rfl, Nat.le_refl _, fun _ _ => rfl⟩
  have h2 : Below B w ((w.drewN q).alloc o) := h1.alloc hB o
  exact h2.trans (low_bel (Nat.le_trans hB h2.size) hg.gr hv)
theorem stand_no {B : Nat} {w : World} {u : Nat} {al : Option Addr} {n c vn : Nat} {L : Lay} {S : St} (h : UAt B w u al n c vn L S) (hv : vn ≤ 1000000) {l : Int} {i k a : Nat} {x : Int × Int} (hi : ((vn : Nat) : Int) + l = ((i : Nat) : Int)) (hn : S.nw[i]? = some (((a + 1 : Nat) : Nat) : Int)) (hp : S.P[a]? = some x) (hx : x.1 = k) (hz : S.P.length < 1000000000) :
    Calls Try.prog 52 #[.pointer (some ⟨u, 0, none⟩), .int .i64 l, .int .i64 k] w fun e w' => e = .returned (.tuple #[]) ∧ ∃ q, w' = w.drewN q := by
  have hil : i < 2 * vn + 1 := by have := (List.getElem?_eq_some_iff.1 hn).1; rw [h.nn] at this; exact this
  have hal : a < S.P.length := (List.getElem?_eq_some_iff.1 hp).1
  have c1 : w.cell? ⟨u, 1, none⟩ = some (.int .i64 vn) := h.cells.1 1
  have c6 : w.cell? ⟨u, 6, none⟩ = some (.slice (some ⟨L.nb, 0, none⟩) (2 * vn + 1) (2 * vn + 1)) := h.cells.1 6
  obtain ⟨g, cap, hpv, p0, p1⟩ := h.place hp
  have c5 : w.cell? ⟨u, 5, none⟩ = some (.slice (some ⟨g, 0, none⟩) S.P.length cap) := by rw [h.cells.1 5, ← hpv]; rfl
  obtain ⟨cn, fn⟩ := h.new hn
  obtain ⟨pn, hpn⟩ : ∃ pn, pn = S.P.length := ⟨_, rfl⟩
  rw [hx] at p0
  rw [← hpn] at hal c5 hz
  have i1 : (((a + 1 : Nat) : Nat) : Int) - 1 = ((a : Nat) : Int) := by omega
  clear h hpn hpv p1 hn hp hx
  go_enter Try.func52, Try.ntmps52
  go_wp2_with fail
  go_quiet (fail)
  go_wp2_with fail
  (try simp only [Exit.inBlock, Exit.then]); refine bodyPost_ret (results_none rfl _ _ _) rfl ?_
  exact ⟨rfl, _, rfl⟩

/-- What stands there already is another clause's place, or none. -/
def Other (P : List (Int × Int)) (a : Nat) (k : Nat) : Prop := a = 0 ∨ ∃ b x, a = b + 1 ∧ P[b]? = some x ∧ x.1 ≠ ((k : Nat) : Int)
theorem stand_yes {B : Nat} {w : World} {u : Nat} {al : Option Addr} {n c vn : Nat} {L : Lay} {S : St} (h : UAt B w u al n c vn L S) (hB : B ≤ w.heap.size) (hv : vn ≤ 1000000) {l : Int} {i k a : Nat} {y : Nat} (hi : ((vn : Nat) : Int) + l = ((i : Nat) : Int)) (hn : S.nw[i]? = some ((a : Nat) : Int)) (hp : Other S.P a k) (hz : S.P.length < 1000000000)
    (hk : S.lf[k]? = some ((y : Nat) : Int)) (hy : y < 1000000000) (_hnn : n < 1000000000) (ha : a ≤ 1000000000) :
    Calls Try.prog 52 #[.pointer (some ⟨u, 0, none⟩), .int .i64 l, .int .i64 k] w fun e w' => e = .returned (.tuple #[]) ∧ (∃ L', UAt B w' u al n c vn L' { S with P := S.P ++ [(((k : Nat) : Int), ((a : Nat) : Int))], nw := S.nw.set i (((S.P.length : Nat) : Int) + 1), lf := S.lf.set k (((y : Nat) : Int) + 1) }) ∧ Below B w w' := by
  have hil : i < 2 * vn + 1 := by have := (List.getElem?_eq_some_iff.1 hn).1; rw [h.nn] at this; exact this
  have hkn : k < n := by have := (List.getElem?_eq_some_iff.1 hk).1; rw [h.ln] at this; exact this
  have c1 : w.cell? ⟨u, 1, none⟩ = some (.int .i64 vn) := h.cells.1 1
  have c6 : w.cell? ⟨u, 6, none⟩ = some (.slice (some ⟨L.nb, 0, none⟩) (2 * vn + 1) (2 * vn + 1)) := h.cells.1 6
  obtain ⟨pa, pc, hpv⟩ := row_shape h.pl
  have c5 : w.cell? ⟨u, 5, none⟩ = some (.slice pa S.P.length pc) := by rw [h.cells.1 5, ← hpv]; rfl
  obtain ⟨cn, fn⟩ := h.new hn
  obtain ⟨ck, fk⟩ := h.left hk
  obtain ⟨pn, hpn⟩ : ∃ pn, pn = S.P.length := ⟨_, rfl⟩
  have HPN := Lib.hid hpn
  rw [← hpn] at c5 hz ⊢
  have hrow := h.pl
  rw [← hpn] at hpv
  rw [hpv, ← hpn] at hrow
  have HROW := Lib.hid hrow
  have HNI := Lib.hid hn
  have HLK := Lib.hid hk
  have HU := Lib.hid h
  have HPV := Lib.hid hpv
  clear hrow
  have HB := Lib.hid hB
  rcases hp with rfl | ⟨b, x, rfl, hp, hx⟩
  · clear h hB hpn hpv hn hk ck fk
    simp only [show (((0 : Nat) : Nat) : Int) = 0 from rfl] at cn ⊢
    go_enter Try.func52, Try.ntmps52
    go_wp2_with fail
    go_quiet (fail)
    go_wp2_with (at_builtin; refine wpList_grew info_pl Try.underlying60 rfl (by decide) (by decide) (v := .slice pa pn pc) (n := pn) (xs := rowP S.P) (news := #[.int .i64 k, .int .i64 0]) rfl (.tmp 38) (.tmp 42) rfl rfl (row_drewN HROW.out _) HB.out rfl rfl (by simp [Value.oneCell']) rfl (by omega) ?_; intro g c2 w2 hg2; obtain ⟨C5, F5⟩ := (((HU.out.drewN nq).alloc _).u_far (i := 5) (by show some L.pv.ownBlock = _; rw [HPV.out]) (by decide) hg2.gr).imp (fun f => f 5) (fun f => f 5); rw [show (cellsU al n c vn L S.br)[5]? = some L.pv from rfl, HPV.out] at C5; have HG := Lib.hid hg2; clear hg2)
    obtain rfl := HPN.out
    have HU2 := Lib.hid (((HU.out.drewN nq).alloc (.cells #[.int .i64 k, .int .i64 0] 90)).pushP (p := (((k : Nat) : Int), 0)) HG.out.row (by rw [HPV.out]; exact HG.out.gr) (by rw [HPV.out]; exact HG.out.loc))
    have HB2 : Hid (Below B w (w2.setCell ⟨u, 5, none⟩ (.slice (some ⟨g, 0, none⟩) (S.P.length + 1) c2))) := bel_setU (bel_grew HB.out HG.out (fun g e => (HROW.out.lt g e).1)) (HU.out.low 0 u rfl).1 5 _
    generalize w2.setCell ⟨u, 5, none⟩ (.slice (some ⟨g, 0, none⟩) (S.P.length + 1) c2) = w3 at HU2 HB2 ⊢
    clear HG C5 F5 c1 c6 c5 cn fn
    have c1 := HU2.out.cells.1 1
    have c6 := HU2.out.cells.1 6
    have c5 := HU2.out.cells.1 5
    obtain ⟨cn, fn⟩ := HU2.out.new HNI.out
    simp only [cellsU, List.getElem?_toArray, List.getElem?_cons_succ, List.getElem?_cons_zero] at c1 c5 c6
    go_region
    all_goals
      have HU3 := Lib.hid ((HU2.out.setNew i (((S.P.length : Nat) : Int) + 1)).drew)
      have HB3 : Hid (Below B w (w3.setCell ⟨L.nb, i, none⟩ (.int .i64 (((S.P.length : Nat) : Int) + 1))).drew) := (bel_setU HB2.out (HU.out.low 3 L.nb rfl).1 i _).drew
      generalize (w3.setCell ⟨L.nb, i, none⟩ (.int .i64 (((S.P.length : Nat) : Int) + 1))).drew = w4 at HU3 HB3 ⊢
      clear HU2 HB2 c1 c5 c6 cn fn
      have c4 := HU3.out.cells.1 4
      obtain ⟨ck, fk⟩ := HU3.out.left HLK.out
      simp only [cellsU, List.getElem?_toArray, List.getElem?_cons_succ, List.getElem?_cons_zero] at c4
      go_wp2_with fail
    all_goals go_end0
    all_goals exact ⟨rfl, ⟨_, HU3.out.setLeft k _⟩, bel_setU HB3.out (HU.out.low 2 L.lb rfl).1 k _⟩
  · obtain ⟨g0, cap0, hpv0, p0, p1⟩ := h.place hp
    have hbl : b < pn := by rw [hpn]; exact (List.getElem?_eq_some_iff.1 hp).1
    rw [hpv] at hpv0
    injection hpv0 with e1 e2 e3
    subst e1
    have hx' : (x.1 == ((k : Nat) : Int)) = false := by simpa using hx
    have i1 : (((b + 1 : Nat) : Nat) : Int) - 1 = ((b : Nat) : Int) := by omega
    have HNI := Lib.hid hn
    clear h hB hpn hpv hn hk ck fk p1 hp hx e2 e3
    obtain ⟨pa, hpa⟩ : ∃ pa, pa = some (⟨g0, 0, none⟩ : Addr) := ⟨_, rfl⟩
    obtain ⟨x1, hx1⟩ : ∃ x1, x1 = x.1 := ⟨_, rfl⟩
    rw [← hx1] at p0 hx'
    go_enter Try.func52, Try.ntmps52
    go_wp2_with fail
    go_quiet (fail)
    go_wp2_with (at_builtin; refine wpList_grew info_pl Try.underlying60 rfl (by decide) (by decide) (v := .slice (some ⟨g0, 0, none⟩) pn pc) (n := pn) (xs := rowP S.P) (news := #[.int .i64 k, .int .i64 (((b + 1 : Nat) : Nat) : Int)]) rfl (.tmp 38) (.tmp 42) rfl rfl (row_drewN HROW.out _) HB.out rfl rfl (by simp [Value.oneCell']) rfl (by omega) ?_; intro g c2 w2 hg2; obtain ⟨C5, F5⟩ := (((HU.out.drewN nq).alloc _).u_far (i := 5) (by show some L.pv.ownBlock = _; rw [HPV.out]) (by decide) hg2.gr).imp (fun f => f 5) (fun f => f 5); rw [show (cellsU al n c vn L S.br)[5]? = some L.pv from rfl, HPV.out] at C5; have HG := Lib.hid hg2; clear hg2)
    obtain rfl := HPN.out
    have HU2 := Lib.hid (((HU.out.drewN nq).alloc (.cells #[.int .i64 k, .int .i64 (((b + 1 : Nat) : Nat) : Int)] 90)).pushP (p := (((k : Nat) : Int), (((b + 1 : Nat) : Nat) : Int))) HG.out.row (by rw [HPV.out]; exact HG.out.gr) (by rw [HPV.out]; exact HG.out.loc))
    have HB2 : Hid (Below B w (w2.setCell ⟨u, 5, none⟩ (.slice (some ⟨g, 0, none⟩) (S.P.length + 1) c2))) := bel_setU (bel_grew HB.out HG.out (fun g e => (HROW.out.lt g e).1)) (HU.out.low 0 u rfl).1 5 _
    generalize w2.setCell ⟨u, 5, none⟩ (.slice (some ⟨g, 0, none⟩) (S.P.length + 1) c2) = w3 at HU2 HB2 ⊢
    clear HG C5 F5 c1 c6 c5 cn fn
    have c1 := HU2.out.cells.1 1
    have c6 := HU2.out.cells.1 6
    have c5 := HU2.out.cells.1 5
    obtain ⟨cn, fn⟩ := HU2.out.new HNI.out
    simp only [cellsU, List.getElem?_toArray, List.getElem?_cons_succ, List.getElem?_cons_zero] at c1 c5 c6
    go_region
    all_goals
      have HU3 := Lib.hid ((HU2.out.setNew i (((S.P.length : Nat) : Int) + 1)).drew)
      have HB3 : Hid (Below B w (w3.setCell ⟨L.nb, i, none⟩ (.int .i64 (((S.P.length : Nat) : Int) + 1))).drew) := (bel_setU HB2.out (HU.out.low 3 L.nb rfl).1 i _).drew
      generalize (w3.setCell ⟨L.nb, i, none⟩ (.int .i64 (((S.P.length : Nat) : Int) + 1))).drew = w4 at HU3 HB3 ⊢
      clear HU2 HB2 c1 c5 c6 cn fn
      have c4 := HU3.out.cells.1 4
      obtain ⟨ck, fk⟩ := HU3.out.left HLK.out
      simp only [cellsU, List.getElem?_toArray, List.getElem?_cons_succ, List.getElem?_cons_zero] at c4
      go_wp2_with fail
    all_goals go_end0
    all_goals exact ⟨rfl, ⟨_, HU3.out.setLeft k _⟩, bel_setU HB3.out (HU.out.low 2 L.lb rfl).1 k _⟩
end Cf
end Go.Proofs.Ytmgkgbhkaoflhaa
