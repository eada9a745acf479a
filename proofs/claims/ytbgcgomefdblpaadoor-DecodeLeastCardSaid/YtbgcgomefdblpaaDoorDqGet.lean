/-
  The program's Get, walked.
-/
import Derived.Test.YtbgcgomefdblpaaDoorDqHasW
import Derived.Test.YtbgcgomefdblpaaDoorDqInsB
import Derived.Laws.Rows
namespace Go.Proofs.YtbgcgomefdblpaaDoor
open Go.RowKit
namespace De
set_option maxHeartbeats 3200000
set_option maxRecDepth 100000

theorem rowsQ_len : rowsQ.length = 39 := by decide
theorem load_rows {w : World} {cs : Array Value} {t : TypeId} {fr : Nat × Nat} (hg : w.heap[0]? = some (.cells cs t fr)) (hs : cs.size = 156) :
    (loadVar 38 ⟨0, 0, none⟩).run Tryd.prog w = .ok (.agg cs) w :=
  run_loadVar_row w _ t _ cs fr _ hg Tryd.underlying38 rfl (by rw [hs]; kernel_rfl)
theorem index_rows {cs : Array Value} (_hs : cs.size = 156) (hc : ∀ i q, rowsQ[i]? = some q → cs.extract (i * 4) (i * 4 + 4) = qrV q) {i : Nat} {q : Qr} (hi : rowsQ[i]? = some q) (w : World) :
    (Instr.index 38 (.agg cs) (.int .i64 ((i : Nat) : Int))).run Tryd.prog w = .ok (.agg (qrV q)) w := by
  have hl : i < 39 := by rw [← rowsQ_len]; exact (List.getElem?_eq_some_iff.1 hi).1
  have h := hc i q hi
  simp only [Instr.index, asIntOf, Sem.run_bind, Sem.run_pure, Result.andThen_ok, run_underlying Tryd.underlying38]
  rw [if_pos ⟨by omega, by omega⟩]
  simp [part, go_sem, h]
/-- What the program's Get holds on to: its result's cells, the tables. -/
structure GqAt (W w : World) : Prop where
  y0 : w.cell? ⟨W.heap.size, 0, none⟩ = some (.int .u8 0)
  y1 : w.cell? ⟨W.heap.size, 1, none⟩ = some (.int .u8 0)
  y2 : w.cell? ⟨W.heap.size, 2, none⟩ = some (.int .u8 0)
  y3 : w.cell? ⟨W.heap.size, 3, none⟩ = some (.int .u8 0)
  y4 : w.cell? ⟨W.heap.size, 4, none⟩ = some (.int .i32 0)
  y5 : w.cell? ⟨W.heap.size, 5, none⟩ = some (.int .u16 0)
  fy : ∀ j, w.frozen? ⟨W.heap.size, j, none⟩ = false
  lt : W.heap.size < w.heap.size
  e : EnvAt w
  bw : Below W.heap.size W w
theorem GqAt.below {W w w' : World} (h : GqAt W w) (hb : Below w.heap.size w w') : GqAt W w' := by
  have k := fun (j : Nat) => hb.cell (p := ⟨W.heap.size, j, none⟩) h.lt
  exact ⟨(k _).trans h.y0, (k _).trans h.y1, (k _).trans h.y2, (k _).trans h.y3, (k _).trans h.y4, (k _).trans h.y5, fun j => (hb.frozen (p := ⟨W.heap.size, j, none⟩) h.lt).trans (h.fy j), Nat.lt_of_lt_of_le h.lt hb.size, h.e.below hb, h.bw.trans (hb.mono h.bw.size)⟩
theorem GqAt.new {W : World} (hE : EnvAt W) (t : TypeId) : GqAt W (W.alloc (.cells #[.int .u8 0, .int .u8 0, .int .u8 0, .int .u8 0, .int .i32 0, .int .u16 0] t)) := by
  have hb := alloc_below W (.cells #[.int .u8 0, .int .u8 0, .int .u8 0, .int .u8 0, .int .i32 0, .int .u16 0] t)
  refine ⟨?_, ?_, ?_, ?_, ?_, ?_, fun j => frozen_alloc _ _ _ j, by simp, hE.below hb, hb⟩ <;> (rw [new_cell]; rfl)
theorem pget_out {tmps : Array Value} {w : World} {b : Nat} {er : Int} {v0 v1 v2 v3 v4 v5 : Value} (h : tmps.getD 2 undef = .pointer (some ⟨b, 0, none⟩)) (h3 : tmps.getD 3 undef = .int .i64 er) (c0 : w.cell? ⟨b, 0, none⟩ = some v0) (c1 : w.cell? ⟨b, 1, none⟩ = some v1) (c2 : w.cell? ⟨b, 2, none⟩ = some v2) (c3 : w.cell? ⟨b, 3, none⟩ = some v3) (c4 : w.cell? ⟨b, 4, none⟩ = some v4) (c5 : w.cell? ⟨b, 5, none⟩ = some v5) :
    (results Tryd.f7 tmps).run Tryd.prog w = .ok (.tuple #[.agg #[v0, v1, v2, v3, v4, v5], .int .i64 er]) w := by
  have h : tmps[2]?.getD undef = .pointer (some ⟨b, 0, none⟩) := by simpa using h
  have h3 : tmps[3]?.getD undef = .int .i64 er := by simpa using h3
  simp [results, Tryd.results7, go_sem, h, h3, c0, c1, c2, c3, c4, c5]
theorem pget_any {w : Nat} (hw : w < 4294967296) (W : World) (hE : EnvAt W) : Calls Tryd.prog 7 #[.int .u32 ((w : Nat) : Int)] W fun e W' => e = .returned (.tuple #[.agg (insO (getP w)), .int .i64 (erO (getP w) 5)]) ∧ Below W.heap.size W W' := by
  have HW := Lib.hid hw
  have HN := Lib.hid build_none
  have HG0 := Lib.hid (GqAt.new hE 26)
  obtain ⟨cs, tt, fr, hg, hs, hc⟩ := (hE.below (alloc_below W (.cells #[.int .u8 0, .int .u8 0, .int .u8 0, .int .u8 0, .int .i32 0, .int .u16 0] 26))).rows
  have HIX := Lib.hid (fun (i : Nat) (q : Qr) (hi : rowsQ[i]? = some q) (w : World) => index_rows hs hc hi w)
  have HG := Lib.hid (And.intro hg hs)
  clear hw hE hg hs hc
  go_enter Tryd.func7, Tryd.ntmps7
  go_upto_region 1 with fail
  generalize W.alloc _ = w1 at HG0 HG ⊢
  go_wp2_with fail
  rename_i hk
  refine wp_load_row _ _ rfl 0 rfl tt cs fr _ HG.out.1 Tryd.underlying38 rfl (by rw [HG.out.2]; kernel_rfl) (hk _ _ ?_)
  clear hk HG
  simp only [Act.put, List.setIfInBounds_toArray, List.set_cons_zero, List.set_cons_succ]
  go_wp2_with fail
  go_loopg [7] 39 (fun gk v7 wr => ∃ i : Nat, v7 = .int .i64 ((i : Nat) : Int) ∧ i + gk = 39 ∧ GqAt W wr ∧ ∀ j q, j < i → rowsQ[j]? = some q → hasP q w = false)
  case atStart => exact ⟨0, rfl, rfl, HG0.out, fun j r h => by omega⟩
  case round =>
    obtain ⟨i, rfl, hgk, hG, hno⟩ := hrel
    have HGK := Lib.hid hgk
    have HG := Lib.hid hG
    have HNO := Lib.hid hno
    clear HG0 hno
    by_cases hlt : i < 39
    · have g1 : ((i : Nat) : Int) < 39 := by omega
      have i0 : (0 : Int) ≤ ((i : Nat) : Int) := by omega
      obtain ⟨q, hq⟩ : ∃ q, rowsQ[i]? = some q := ⟨_, List.getElem?_eq_getElem (by rw [rowsQ_len]; exact hlt)⟩
      have hix := HIX.out i q hq
      have HQ := Lib.hid hq
      have HH := Lib.hid (fun W hE => has_any (List.mem_of_getElem? hq) HW.out W hE)
      have HIN := Lib.hid (fun W hE => instr_any (List.mem_of_getElem? hq) HW.out W hE)
      have HG1 := Lib.hid (hG.below (alloc_below wr (.cells (qrV q) 37)))
      have HR1 := Lib.hid (QrAt.new wr q 37)
      clear hq hG hgk
      unfold qrV at hix HH HIN HG1 HR1
      cases hfit : hasP q w with
      | true =>
        have HGET := Lib.hid (has_get (List.mem_of_getElem? HQ.out) HW.out hfit)
        rw [hfit] at HH
        clear hfit
        go_upto_region 4 with fail
        generalize wr.alloc _ = w2 at HG1 HR1 ⊢
        generalize wr.heap.size = bq at HR1 ⊢
        have q0 := HR1.out.q0
        have q1 := HR1.out.q1
        have q2 := HR1.out.q2
        have q3 := HR1.out.q3
        go_wp2_with fail
        refine (HH.out _ (by exact HG1.out.e)).mono ?_
        rintro e w3 ⟨rfl, hb⟩
        have HG2 := Lib.hid (HG1.out.below hb)
        have HR2 := Lib.hid (HR1.out.below hb)
        clear q0 q1 q2 q3 hb HH HG1 HR1
        have q0 := HR2.out.q0
        have q1 := HR2.out.q1
        have q2 := HR2.out.q2
        have q3 := HR2.out.q3
        go_wp2_with fail
        refine (HIN.out _ (by exact HG2.out.e)).mono ?_
        rintro e w4 ⟨rfl, hb⟩
        have HG3 := Lib.hid (HG2.out.below hb)
        clear q0 q1 q2 q3 hb HIN HG2 HR2
        have y0 := HG3.out.y0
        have y1 := HG3.out.y1
        have y2 := HG3.out.y2
        have y3 := HG3.out.y3
        have y4 := HG3.out.y4
        have y5 := HG3.out.y5
        have fy := HG3.out.fy
        generalize instrP q w = ii at HGET ⊢
        obtain ⟨io, ird, ira, irb, imm, icsr⟩ := ii
        unfold insV
        simp only []
        go_wp2_with fail
        refine bodyPost_ret (v := .tuple #[.agg #[.int .u8 ((io : Nat) : Int), .int .u8 ((ird : Nat) : Int), .int .u8 ((ira : Nat) : Int), .int .u8 ((irb : Nat) : Int), .int .i32 imm, .int .u16 ((icsr : Nat) : Int)], .int .i64 0]) ?_ rfl ⟨by rw [HGET.out]; rfl, ?_⟩
        · refine pget_out (b := W.heap.size) rfl rfl ?_ ?_ ?_ ?_ ?_ ?_
          all_goals (repeat (first | with_reducible exact y0 | with_reducible exact y1 | with_reducible exact y2 | with_reducible exact y3 | with_reducible exact y4 | with_reducible exact y5 | with_reducible refine set_off ?_ (by decide) | with_reducible refine set_at ?_ | with_reducible refine set_some ?_ | with_reducible exact is_some y0 | with_reducible exact is_some y1 | with_reducible exact is_some y2 | with_reducible exact is_some y3 | with_reducible exact is_some y4 | with_reducible exact is_some y5))
        · repeat (first | with_reducible exact HG3.out.bw | (with_reducible refine Below.setCell ?_ (by simp) _))
      | false =>
        rw [hfit] at HH
        have HFIT := Lib.hid hfit
        clear hfit HIN
        go_upto_region 4 with fail
        generalize wr.alloc _ = w2 at HG1 HR1 ⊢
        generalize wr.heap.size = bq at HR1 ⊢
        have q0 := HR1.out.q0
        have q1 := HR1.out.q1
        have q2 := HR1.out.q2
        have q3 := HR1.out.q3
        go_wp2_with fail
        refine (HH.out _ (by exact HG1.out.e)).mono ?_
        rintro e w3 ⟨rfl, hb⟩
        have HG2 := Lib.hid (HG1.out.below hb)
        clear q0 q1 q2 q3 hb HH HG1 HR1
        go_wp2_with fail
        go_roundg (gk - 1)
        case measure => have := HGK.out; omega
        case rel =>
          refine ⟨i + 1, by go_num, by have := HGK.out; omega, HG2.out, fun j r' h h2 => ?_⟩
          by_cases e : j = i
          · subst e
            rw [HQ.out] at h2
            injection h2 with h2
            rw [← h2]; exact HFIT.out
          · exact HNO.out j r' (by omega) h2
    · have g1 : decide (((i : Nat) : Int) < 39) = false := decide_eq_false (by omega)
      obtain rfl : i = 39 := by omega
      have HGET : Hid (getP w = none) := Lib.hid (get_no HW.out (by
        intro q hq
        obtain ⟨j, hj⟩ := List.mem_iff_getElem?.1 hq
        have lj := (List.getElem?_eq_some_iff.1 hj).1
        rw [rowsQ_len] at lj
        exact HNO.out j q lj hj))
      have y0 := hG.y0
      have y1 := hG.y1
      have y2 := hG.y2
      have y3 := hG.y3
      have y4 := hG.y4
      have y5 := hG.y5
      have fy := hG.fy
      have hbn := HN.out
      clear hG hgk HNO
      go_wp2_with fail
      refine bodyPost_ret (v := .tuple #[.agg #[.int .u8 0, .int .u8 0, .int .u8 0, .int .u8 0, .int .i32 0, .int .u16 0], .int .i64 5]) ?_ rfl ⟨by rw [HGET.out]; rfl, ?_⟩
      · refine pget_out (b := W.heap.size) rfl rfl ?_ ?_ ?_ ?_ ?_ ?_
        all_goals (repeat (first | with_reducible exact y0 | with_reducible exact y1 | with_reducible exact y2 | with_reducible exact y3 | with_reducible exact y4 | with_reducible exact y5 | with_reducible refine set_off ?_ (by decide) | with_reducible refine set_at ?_ | with_reducible refine set_some ?_ | with_reducible exact is_some y0 | with_reducible exact is_some y1 | with_reducible exact is_some y2 | with_reducible exact is_some y3 | with_reducible exact is_some y4 | with_reducible exact is_some y5))
      · repeat (first | with_reducible exact HG.out.bw | (with_reducible refine Below.setCell ?_ (by simp) _))
end De
end Go.Proofs.YtbgcgomefdblpaaDoor
