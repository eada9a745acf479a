/-
  The program's isLiteral, variable, look.
-/
import Derived.Test.YtcpehdeddgfpmaaDoorCuQueue
import Derived.Test.YtcpehdeddgfpmaaDoorCfHas
namespace Go.Proofs.YtcpehdeddgfpmaaDoor
open Go.RowKit Go.Maps
namespace Cf
set_option maxHeartbeats 2000000
set_option maxRecDepth 100000

theorem lit_any {l v : Int} {W : World} (hv : 0 ≤ v) (hv2 : v ≤ 1000000) :
    Calls Tryd.prog 27 #[.int .i64 l, .int .i64 v] W fun e w => e = .returned (.bool (isL l v)) ∧ W = w := by
  obtain ⟨n1, n2⟩ := neg_i (x := v) (by omega) (by omega)
  by_cases h0 : l = 0
  · subst h0
    go_enter Tryd.func27, Tryd.ntmps27
    go_wp2_with fail
    go_ret
    exact ⟨rfl, rfl⟩
  · have d0 : (l == 0) = false := by simpa using h0
    have d1 : (l != 0) = true := by simpa using h0
    by_cases h1 : -v ≤ l
    · by_cases h2 : l ≤ v
      · have e : isL l v = true := by unfold isL; simp [h0, h1, h2]
        have HE := Lib.hid e
        clear e
        go_enter Tryd.func27, Tryd.ntmps27
        go_wp2_with fail
        go_ret
        exact ⟨ret_bool HE.out.symm, rfl⟩
      · have e : isL l v = false := by unfold isL; simp [h2]
        have HE := Lib.hid e
        have h2 : v < l := by omega
        clear e
        go_enter Tryd.func27, Tryd.ntmps27
        go_wp2_with fail
        go_ret
        exact ⟨ret_bool HE.out.symm, rfl⟩
    · have e : isL l v = false := by unfold isL; simp [h1]
      have HE := Lib.hid e
      have h1 : l < -v := by omega
      clear e
      go_enter Tryd.func27, Tryd.ntmps27
      go_wp2_with fail
      go_ret
      exact ⟨ret_bool HE.out.symm, rfl⟩
theorem var_any {l : Int} {W : World} (h1 : -1000000 ≤ l) (h2 : l ≤ 1000000) :
    Calls Tryd.prog 44 #[.int .i64 l] W fun e w => e = .returned (.int .i64 (vr l)) ∧ W = w := by
  obtain ⟨n1, n2⟩ := neg_i (x := l) (by omega) (by omega)
  have HV := Lib.hid (vr_eq (l := l))
  go_enter Tryd.func44, Tryd.ntmps44
  go_wp2_with fail
  go_ret
  exact ⟨by rw [HV.out]; rfl, rfl⟩
def LookR (q : List Int) (x k : Int) (q' : List Int) : Prop := (x = 1 → PushR q k q') ∧ (x ≠ 1 → q' = q)
theorem look_unit {B : Nat} {w : World} {u : Nat} {al : Option Addr} {n c vn : Nat} {L : Lay} {S : St} (h : UAt B w u al n c vn L S) (hB : B ≤ w.heap.size) (hl : S.q.length < 100000000) (hh : HeapL S.q) {k : Nat} {x : Int} (hk : S.lf[k]? = some x) (_hn : n < 1000000000) :
    Calls Tryd.prog 47 #[.pointer (some ⟨u, 0, none⟩), .int .i64 k] w fun e w' => e = .returned (.tuple #[]) ∧ ∃ L' q', UAt B w' u al n c vn L' { S with q := q', br := S.br || (x == 0) } ∧ LookR S.q x k q' ∧ Below B w w' := by
  have hkn : k < n := by have := (List.getElem?_eq_some_iff.1 hk).1; rw [h.ln] at this; exact this
  have c4 : w.cell? ⟨u, 4, none⟩ = some (.slice (some ⟨L.lb, 0, none⟩) n n) := h.cells.1 4
  have c8 : w.cell? ⟨u, 8, none⟩ = some (.bool S.br) := h.cells.1 8
  have f8 := h.cells.2 8
  obtain ⟨cl, fl⟩ := h.left hk
  have HU := Lib.hid h
  have hul := (h.low 0 u rfl).1
  have HP := Lib.hid (hpush_any h hB hl hh k)
  clear h
  by_cases h0 : x = 0
  · subst h0
    go_enter Tryd.func47, Tryd.ntmps47
    go_wp2_with fail
    go_end0
    exact ⟨rfl, _, S.q, by have := HU.out.setBr true; simpa using this, ⟨fun c => by omega, fun _ => rfl⟩, bel_setU (Below.refl B w) hul 8 _⟩
  · by_cases h1 : x = 1
    · subst h1
      go_enter Tryd.func47, Tryd.ntmps47
      go_wp2_with fail
      refine HP.out.mono ?_
      rintro e w1 ⟨rfl, L', q', h1, h2, h3⟩
      have H1 := Lib.hid h1
      have H2 := Lib.hid h2
      have H3 := Lib.hid h3
      clear h1 h2 h3
      go_wp2_with fail
      go_end0
      exact ⟨rfl, L', q', by have := H1.out; simpa using this, ⟨fun _ => H2.out, fun c => absurd rfl c⟩, H3.out⟩
    · have d0 : (x == 0) = false := by simpa using h0
      have d1 : (x == 1) = false := by simpa using h1
      go_enter Tryd.func47, Tryd.ntmps47
      go_wp2_with fail
      go_end0
      exact ⟨rfl, L, S.q, by rw [d0, Bool.or_false]; exact HU.out, ⟨fun c => absurd c h1, fun _ => rfl⟩, Below.refl B w⟩
end Cf
end Go.Proofs.YtcpehdeddgfpmaaDoor
