/-
  The document's Get of a word, walked.
-/
import Derived.Test.YtbgcgomefdblpaaDoorDeGet
namespace Go.Proofs.YtbgcgomefdblpaaDoor
open Go.RowKit
namespace De
set_option maxHeartbeats 6400000
set_option maxRecDepth 100000

def zeroI : Ins := ⟨0, 0, 0, 0, 0, 0⟩
def insO (o : Option Ins) : Array Value := insV (o.getD zeroI)
def erO (o : Option Ins) (e : Nat) : Int := match o with | none => ((e : Nat) : Int) | some _ => 0
/-- What Get holds on to: its result's cells, the rows. -/
structure GtAt (W w : World) (g : Nat) : Prop where
  y0 : w.cell? ⟨W.heap.size, 0, none⟩ = some (.int .u8 0)
  y1 : w.cell? ⟨W.heap.size, 1, none⟩ = some (.int .u8 0)
  y2 : w.cell? ⟨W.heap.size, 2, none⟩ = some (.int .u8 0)
  y3 : w.cell? ⟨W.heap.size, 3, none⟩ = some (.int .u8 0)
  y4 : w.cell? ⟨W.heap.size, 4, none⟩ = some (.int .i32 0)
  y5 : w.cell? ⟨W.heap.size, 5, none⟩ = some (.int .u16 0)
  fy : ∀ j, w.frozen? ⟨W.heap.size, j, none⟩ = false
  lt : W.heap.size < w.heap.size
  laid : Laid w g
  b : Below W.heap.size W w
theorem GtAt.below {W w w' : World} {g : Nat} (h : GtAt W w g) (hb : Below w.heap.size w w') : GtAt W w' g := by
  have k := fun (j : Nat) => hb.cell (p := ⟨W.heap.size, j, none⟩) h.lt
  exact ⟨(k _).trans h.y0, (k _).trans h.y1, (k _).trans h.y2, (k _).trans h.y3, (k _).trans h.y4, (k _).trans h.y5, fun j => (hb.frozen (p := ⟨W.heap.size, j, none⟩) h.lt).trans (h.fy j), Nat.lt_of_lt_of_le h.lt hb.size, h.laid.below hb, h.b.trans (hb.mono h.b.size)⟩
theorem get_out {tmps : Array Value} {w : World} {b : Nat} {er : Int} {v0 v1 v2 v3 v4 v5 : Value} (h : tmps.getD 2 undef = .pointer (some ⟨b, 0, none⟩)) (h3 : tmps.getD 3 undef = .int .i64 er) (c0 : w.cell? ⟨b, 0, none⟩ = some v0) (c1 : w.cell? ⟨b, 1, none⟩ = some v1) (c2 : w.cell? ⟨b, 2, none⟩ = some v2) (c3 : w.cell? ⟨b, 3, none⟩ = some v3) (c4 : w.cell? ⟨b, 4, none⟩ = some v4) (c5 : w.cell? ⟨b, 5, none⟩ = some v5) :
    (results Tryd.f8 tmps).run Tryd.prog w = .ok (.tuple #[.agg #[v0, v1, v2, v3, v4, v5], .int .i64 er]) w := by
  have h : tmps[2]?.getD undef = .pointer (some ⟨b, 0, none⟩) := by simpa using h
  have h3 : tmps[3]?.getD undef = .int .i64 er := by simpa using h3
  simp [results, Tryd.results8, go_sem, h, h3, c0, c1, c2, c3, c4, c5]
theorem build_none (w : World) : (Instr.build 26 #[]).run Tryd.prog w = .ok (.agg #[.int .u8 0, .int .u8 0, .int .u8 0, .int .u8 0, .int .i32 0, .int .u16 0]) w := run_build w _ _ _ (by kernel_rfl)
theorem find_at {w : Nat} {i : Nat} {r : Row} (hi : rowsP[i]? = some r) (hf : fitsP r w = true) : getP w = some (readP r w) := get_fits (List.mem_of_getElem? hi) hf
theorem get_any {w : Nat} (hw : w < 4294967296) (W : World) : Calls Tryd.prog 8 #[.int .u32 ((w : Nat) : Int)] W fun e W' => e = .returned (.tuple #[.agg (insO (getP w)), .int .i64 (erO (getP w) 5)]) ∧ Below W.heap.size W W' := by
  have HW := Lib.hid hw
  have HR := Lib.hid (rows_laid (W.alloc (.cells #[.int .u8 0, .int .u8 0, .int .u8 0, .int .u8 0, .int .i32 0, .int .u16 0] 26)))
  have HN := Lib.hid build_none
  clear hw
  go_enter Tryd.func8, Tryd.ntmps8
  go_wp2_with fail
  refine HR.out.mono ?_
  rintro e w1 ⟨g, c, rfl, hl, hb⟩
  have HG1 : Hid (GtAt W w1 g) := Lib.hid (by
    have k : ∀ j u, (#[Value.int .u8 0, .int .u8 0, .int .u8 0, .int .u8 0, .int .i32 0, .int .u16 0])[j]? = some u → w1.cell? ⟨W.heap.size, j, none⟩ = some u := fun j u hu => (hb.cell (p := ⟨W.heap.size, j, none⟩) (by simp)).trans ((new_cell W _ _ j).trans hu)
    exact ⟨k 0 _ rfl, k 1 _ rfl, k 2 _ rfl, k 3 _ rfl, k 4 _ rfl, k 5 _ rfl, fun j => (hb.frozen (p := ⟨W.heap.size, j, none⟩) (by simp)).trans (by
      rw [frozen?_alloc_cells]; unfold World.frozen?; rw [show W.heap[(⟨W.heap.size, j, none⟩ : Addr).block]? = none from by simp]), by have := hb.size; simp at this; omega, hl, ((Below.refl _ _).alloc (Nat.le_refl _) _).trans (hb.mono (by simp))⟩)
  clear hl hb HR
  go_wp2_with fail
  go_loopg [5] 68 (fun gk v5 wr => ∃ i : Nat, v5 = .int .i64 ((i : Nat) : Int) ∧ i + gk = 68 ∧ GtAt W wr g ∧ ∀ j r, j < i → rowsP[j]? = some r → fitsP r w = false)
  case atStart => exact ⟨0, rfl, rfl, HG1.out, fun j r h => by omega⟩
  case round =>
    obtain ⟨i, rfl, hgk, hG, hno⟩ := hrel
    have HGK := Lib.hid hgk
    have HG := Lib.hid hG
    have HNO := Lib.hid hno
    clear HG1 hno
    by_cases hlt : i < 68
    · have g1 : ((i : Nat) : Int) < 68 := by omega
      have i0 : (0 : Int) ≤ ((i : Nat) : Int) := by omega
      obtain ⟨r, hr⟩ : ∃ r, rowsP[i]? = some r := ⟨_, List.getElem?_eq_getElem (by rw [rows_len]; exact hlt)⟩
      obtain ⟨s, _, hra⟩ := hG.laid.2 i r hr
      obtain ⟨c0, c1, c2, c3, c4, c5⟩ := hra
      have HX := Lib.hid hr
      have HF := Lib.hid (fun W => fits_any (r := r) (s := s) HW.out W)
      have HRD := Lib.hid (fun W => read_any (s := s) (rows_good r (List.mem_of_getElem? hr)) HW.out W)
      clear hr hG hgk
      cases hfit : fitsP r w with
      | true =>
        have HGET := Lib.hid (find_at HX.out hfit)
        rw [hfit] at HF
        go_wp2_with fail
        refine (HF.out _).mono ?_
        rintro e w2 ⟨rfl, hb⟩
        have HG2 := Lib.hid (HG.out.below hb)
        clear c0 c1 c2 c3 c4 c5 hb HF hfit
        obtain ⟨s2, _, hra⟩ := HG2.out.laid.2 i r HX.out
        obtain ⟨c0, c1, c2, c3, c4, c5⟩ := hra
        have HRD := Lib.hid (fun W => read_any (s := s2) (rows_good r (List.mem_of_getElem? HX.out)) HW.out W)
        go_wp2_with fail
        refine (HRD.out _).mono ?_
        rintro e w3 ⟨rfl, hb⟩
        have HG3 := Lib.hid (HG2.out.below hb)
        clear c0 c1 c2 c3 c4 c5 hb HRD
        have y0 := HG3.out.y0
        have y1 := HG3.out.y1
        have y2 := HG3.out.y2
        have y3 := HG3.out.y3
        have y4 := HG3.out.y4
        have y5 := HG3.out.y5
        have fy := HG3.out.fy
        generalize readP r w = ii at HGET ⊢
        obtain ⟨io, ird, ira, irb, imm, icsr⟩ := ii
        unfold insV
        simp only []
        go_wp2_with fail
        refine bodyPost_ret (v := .tuple #[.agg #[.int .u8 ((io : Nat) : Int), .int .u8 ((ird : Nat) : Int), .int .u8 ((ira : Nat) : Int), .int .u8 ((irb : Nat) : Int), .int .i32 imm, .int .u16 ((icsr : Nat) : Int)], .int .i64 0]) ?_ rfl ⟨by rw [HGET.out]; rfl, ?_⟩
        · refine get_out (b := W.heap.size) rfl rfl ?_ ?_ ?_ ?_ ?_ ?_
          all_goals (repeat (first | with_reducible exact y0 | with_reducible exact y1 | with_reducible exact y2 | with_reducible exact y3 | with_reducible exact y4 | with_reducible exact y5 | with_reducible refine set_off ?_ (by decide) | with_reducible refine set_at ?_ | with_reducible refine set_some ?_ | with_reducible exact is_some y0 | with_reducible exact is_some y1 | with_reducible exact is_some y2 | with_reducible exact is_some y3 | with_reducible exact is_some y4 | with_reducible exact is_some y5))
        · repeat (first | with_reducible exact HG3.out.b | (with_reducible refine Below.setCell ?_ (by simp) _))
      | false =>
        rw [hfit] at HF
        have HFIT := Lib.hid hfit
        clear hfit
        go_wp2_with fail
        refine (HF.out _).mono ?_
        rintro e w2 ⟨rfl, hb⟩
        have HG2 := Lib.hid (HG.out.below hb)
        clear c0 c1 c2 c3 c4 c5 hb HF HRD
        go_wp2_with fail
        go_roundg (gk - 1)
        case measure => have := HGK.out; omega
        case rel =>
          refine ⟨i + 1, by go_num, by have := HGK.out; omega, HG2.out, fun j r' h h2 => ?_⟩
          by_cases e : j = i
          · subst e
            rw [HX.out] at h2
            injection h2 with h2
            rw [← h2]; exact HFIT.out
          · exact HNO.out j r' (by omega) h2
    · have g1 : decide (((i : Nat) : Int) < 68) = false := decide_eq_false (by omega)
      obtain rfl : i = 68 := by omega
      have HGET : Hid (getP w = none) := Lib.hid (by
        unfold getP
        rw [List.find?_eq_none.2 ?_]; · rfl
        intro r hr
        obtain ⟨j, hj⟩ := List.mem_iff_getElem?.1 hr
        have lj := (List.getElem?_eq_some_iff.1 hj).1
        rw [rows_len] at lj
        simp [HNO.out j r lj hj])
      have y0 := hG.y0
      have y1 := hG.y1
      have y2 := hG.y2
      have y3 := hG.y3
      have y4 := hG.y4
      have y5 := hG.y5
      have fy := hG.fy
      have hbn := HN.out
      clear hG hgk HNO
      go_wp2_with fail
      refine bodyPost_ret (v := .tuple #[.agg #[.int .u8 0, .int .u8 0, .int .u8 0, .int .u8 0, .int .i32 0, .int .u16 0], .int .i64 5]) ?_ rfl ⟨by rw [HGET.out]; rfl, ?_⟩
      · refine get_out (b := W.heap.size) rfl rfl ?_ ?_ ?_ ?_ ?_ ?_
        all_goals (repeat (first | with_reducible exact y0 | with_reducible exact y1 | with_reducible exact y2 | with_reducible exact y3 | with_reducible exact y4 | with_reducible exact y5 | with_reducible refine set_off ?_ (by decide) | with_reducible refine set_at ?_ | with_reducible refine set_some ?_ | with_reducible exact is_some y0 | with_reducible exact is_some y1 | with_reducible exact is_some y2 | with_reducible exact is_some y3 | with_reducible exact is_some y4 | with_reducible exact is_some y5))
      · repeat (first | with_reducible exact HG.out.b | (with_reducible refine Below.setCell ?_ (by simp) _))
end De
end Go.Proofs.YtbgcgomefdblpaaDoor
