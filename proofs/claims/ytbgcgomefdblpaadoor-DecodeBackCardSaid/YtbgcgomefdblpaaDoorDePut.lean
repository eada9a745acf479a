/-
  The document's Put of an instruction, walked.
-/
import Derived.Test.YtbgcgomefdblpaaDoorDeGetB
import Derived.Test.YtbgcgomefdblpaaDoorDeLeast
import Derived.Test.YtbgcgomefdblpaaDoorDeEql
import Derived.StillTailTactics
namespace Go.Proofs.YtbgcgomefdblpaaDoor
open Go.RowKit
namespace De
set_option maxHeartbeats 6400000
set_option maxRecDepth 100000

def erN (o : Option Nat) (e : Nat) : Int := match o with | none => ((e : Nat) : Int) | some _ => 0
/-- What Put holds on to: its argument's cells, the rows. -/
structure PtAt (W w : World) (g : Nat) (x : Ins) : Prop where
  i0 : w.cell? ⟨W.heap.size, 0, none⟩ = some (.int .u8 ((x.op : Nat) : Int))
  i1 : w.cell? ⟨W.heap.size, 1, none⟩ = some (.int .u8 ((x.rd : Nat) : Int))
  i2 : w.cell? ⟨W.heap.size, 2, none⟩ = some (.int .u8 ((x.a : Nat) : Int))
  i3 : w.cell? ⟨W.heap.size, 3, none⟩ = some (.int .u8 ((x.b : Nat) : Int))
  i4 : w.cell? ⟨W.heap.size, 4, none⟩ = some (.int .i32 x.imm)
  i5 : w.cell? ⟨W.heap.size, 5, none⟩ = some (.int .u16 ((x.csr : Nat) : Int))
  lt : W.heap.size < w.heap.size
  laid : Laid w g
  b : Below W.heap.size W w
theorem PtAt.below {W w w' : World} {g : Nat} {x : Ins} (h : PtAt W w g x) (hb : Below w.heap.size w w') : PtAt W w' g x := by
  have k := fun (j : Nat) => hb.cell (p := ⟨W.heap.size, j, none⟩) h.lt
  exact ⟨(k _).trans h.i0, (k _).trans h.i1, (k _).trans h.i2, (k _).trans h.i3, (k _).trans h.i4, (k _).trans h.i5, Nat.lt_of_lt_of_le h.lt hb.size, h.laid.below hb, h.b.trans (hb.mono h.b.size)⟩
theorem PtAt.drewN {W w : World} {g : Nat} {x : Ins} (h : PtAt W w g x) (n : Nat) : PtAt W (w.drewN n) g x := h.below (below_drewN (Below.refl _ _) n)
theorem put_any {x : Ins} (hx : x.Ok) (W : World) : Calls Tryd.prog 11 #[.agg (insV x)] W fun e W' => e = .returned (.tuple #[.int .u32 (((putP x).getD 0 : Nat) : Int), .int .i64 (erN (putP x) 2)]) ∧ Below W.heap.size W W' := by
  have HOK := Lib.hid hx
  have HR := Lib.hid (rows_laid (W.alloc (.cells (insV x) 26)))
  have HX0 : Hid (∀ w1 g, Laid w1 g → Below (W.alloc (.cells (insV x) 26)).heap.size (W.alloc (.cells (insV x) 26)) w1 → PtAt W w1 g x) := Lib.hid (fun w1 g hl hb => by
    have k : ∀ j u, (insV x)[j]? = some u → w1.cell? ⟨W.heap.size, j, none⟩ = some u := fun j u hu => (hb.cell (p := ⟨W.heap.size, j, none⟩) (by simp)).trans ((new_cell W _ _ j).trans hu)
    exact ⟨k 0 _ rfl, k 1 _ rfl, k 2 _ rfl, k 3 _ rfl, k 4 _ rfl, k 5 _ rfl, by have := hb.size; simp at this; omega, hl, ((Below.refl _ _).alloc (Nat.le_refl _) _).trans (hb.mono (by simp))⟩)
  clear hx
  unfold insV at HR HX0 ⊢
  go_enter Tryd.func11, Tryd.ntmps11
  go_wp2_with fail
  refine HR.out.mono ?_
  rintro e w1 ⟨g, c, rfl, hl, hb⟩
  have HP1 := Lib.hid (HX0.out w1 g hl hb)
  clear hl hb HR HX0
  go_wp2_with fail
  go_loopg [5] 68 (fun gk v5 wr => ∃ i : Nat, v5 = .int .i64 ((i : Nat) : Int) ∧ i + gk = 68 ∧ PtAt W wr g x ∧ ∀ j r, j < i → rowsP[j]? = some r → putOne r x = none)
  case atStart => exact ⟨0, rfl, rfl, HP1.out, fun j r h => by omega⟩
  case round =>
    obtain ⟨i, rfl, hgk, hP, hno⟩ := hrel
    have HGK := Lib.hid hgk
    have HP := Lib.hid hP
    have HNO := Lib.hid hno
    clear HP1 hno
    by_cases hlt : i < 68
    · have g1 : ((i : Nat) : Int) < 68 := by omega
      have i0 : (0 : Int) ≤ ((i : Nat) : Int) := by omega
      obtain ⟨r, hr⟩ : ∃ r, rowsP[i]? = some r := ⟨_, List.getElem?_eq_getElem (by rw [rows_len]; exact hlt)⟩
      obtain ⟨s, _, hra⟩ := hP.laid.2 i r hr
      have HX := Lib.hid hr
      have c0 := hra.c0
      have k0 := hP.i0
      have k1 := hP.i1
      have k2 := hP.i2
      have k3 := hP.i3
      have k5 := hP.i5
      -- what stays where the row is passed over
      have HSTEP : Hid (∀ w2, PtAt W w2 g x → putOne r x = none → ∃ i_1 : Nat, Value.int .i64 (((i : Nat) : Int) + 1) = .int .i64 ((i_1 : Nat) : Int) ∧ i_1 + (gk - 1) = 68 ∧ PtAt W w2 g x ∧ ∀ j r, j < i_1 → rowsP[j]? = some r → putOne r x = none) := Lib.hid (fun w2 h2 hn => ⟨i + 1, by go_num, by have := HGK.out; omega, h2, fun j r' h h3 => by
        by_cases e : j = i
        · subst e
          rw [HX.out] at h3
          injection h3 with h3
          rw [← h3]; exact hn
        · exact HNO.out j r' (by omega) h3⟩)
      have bop : ((((r.op : Nat) : Int) != ((x.op : Nat) : Int)) : Bool) = !decide (r.op = x.op) := by rw [bne, bool_eq]
      by_cases ho : r.op = x.op
      · rw [decide_eq_true ho] at bop
        by_cases hd : 31 < x.rd
        · have t1 : (((x.rd : Nat) : Int) > 31) := by omega
          have t2 : decide ((31 : Int) < ((x.rd : Nat) : Int)) = true := decide_eq_true (by omega)
          have HNONE : Hid (putOne r x = none) := Lib.hid (by unfold putOne; rw [if_neg (fun c => ?_)]; have := of_decide_eq_true c.2.1; omega)
          clear hP hgk hra
          go_wp2_with fail
          go_quiet (fail)
          go_wp2_with fail
          go_roundg (gk - 1)
          case measure => have := HGK.out; omega
          case rel => exact HSTEP.out _ (HP.out.drewN _) HNONE.out
        · have t2 : decide ((31 : Int) < ((x.rd : Nat) : Int)) = false := decide_eq_false (by omega)
          by_cases ha : 31 < x.a
          · have t3 : decide ((31 : Int) < ((x.a : Nat) : Int)) = true := decide_eq_true (by omega)
            have HNONE : Hid (putOne r x = none) := Lib.hid (by unfold putOne; rw [if_neg (fun c => ?_)]; have := of_decide_eq_true c.2.1; omega)
            clear hP hgk hra
            go_wp2_with fail
            go_quiet (fail)
            go_wp2_with fail
            go_roundg (gk - 1)
            case measure => have := HGK.out; omega
            case rel => exact HSTEP.out _ (HP.out.drewN _) HNONE.out
          · have t3 : decide ((31 : Int) < ((x.a : Nat) : Int)) = false := decide_eq_false (by omega)
            by_cases hb : 31 < x.b
            · have t4 : decide ((31 : Int) < ((x.b : Nat) : Int)) = true := decide_eq_true (by omega)
              have HNONE : Hid (putOne r x = none) := Lib.hid (by unfold putOne; rw [if_neg (fun c => ?_)]; have := of_decide_eq_true c.2.1; omega)
              clear hP hgk hra
              go_wp2_with fail
              go_quiet (fail)
              go_wp2_with fail
              go_roundg (gk - 1)
              case measure => have := HGK.out; omega
              case rel => exact HSTEP.out _ (HP.out.drewN _) HNONE.out
            · have t4 : decide ((31 : Int) < ((x.b : Nat) : Int)) = false := decide_eq_false (by omega)
              by_cases hc : 4095 < x.csr
              · have t5 : decide ((4095 : Int) < ((x.csr : Nat) : Int)) = true := decide_eq_true (by omega)
                have HNONE : Hid (putOne r x = none) := Lib.hid (by unfold putOne; rw [if_neg (fun c => ?_)]; have := of_decide_eq_true c.2.1; omega)
                clear hP hgk hra
                go_wp2_with fail
                go_quiet (fail)
                go_wp2_with fail
                go_roundg (gk - 1)
                case measure => have := HGK.out; omega
                case rel => exact HSTEP.out _ (HP.out.drewN _) HNONE.out
              · have t5 : decide ((4095 : Int) < ((x.csr : Nat) : Int)) = false := decide_eq_false (by omega)
                have HBD : Hid (boundsP x = true) := Lib.hid (decide_eq_true ⟨by omega, by omega, by omega, by omega⟩)
                have HO := Lib.hid ho
                clear ho
                clear hP hgk hra
                go_wp2_with fail
                go_quiet (fail)
                go_wp2_with fail
                have HP2 := Lib.hid (HP.out.drewN nq)
                generalize wr.drewN nq = w2 at HP2 ⊢
                obtain ⟨s2, _, hra⟩ := HP2.out.laid.2 i r HX.out
                obtain ⟨c0, c1, c2, c3, c4, c5⟩ := hra
                have k0 := HP2.out.i0
                have k1 := HP2.out.i1
                have k2 := HP2.out.i2
                have k3 := HP2.out.i3
                have k4 := HP2.out.i4
                have k5 := HP2.out.i5
                have HL := Lib.hid (fun W => least_any (s := s2) (rows_good r (List.mem_of_getElem? HX.out)) HBD.out HOK.out.imm W)
                go_still_tail 5, (by kernel_rfl)
                change wpList _ _ _ _ _ w2.drew
                have HP3 := Lib.hid (HP2.out.drewN 1)
                change Hid (PtAt W w2.drew g x) at HP3
                generalize w2.drew = w3 at HP3 ⊢
                clear c0 c1 c2 c3 c4 c5 k0 k1 k2 k3 k4 k5 HP2
                go_wp2_with fail
                refine (HL.out _).mono ?_
                rintro e w4 ⟨rfl, hb⟩
                have HP4 := Lib.hid (HP3.out.below hb)
                clear hb HL HP3
                have hlt2 := least_lt (rows_good r (List.mem_of_getElem? HX.out)) HBD.out
                have HONE : Hid (putOne r x = if getP (leastP r x) = some x then some (leastP r x) else none) := Lib.hid (by
                  unfold putOne
                  by_cases h : getP (leastP r x) = some x
                  · rw [if_pos ⟨HO.out, HBD.out, h⟩, if_pos h]
                  · rw [if_neg (fun c => h c.2.2), if_neg h])
                have HROW : Hid (putP x = putOne r x) := Lib.hid (put_row (List.mem_of_getElem? HX.out) HO.out)
                generalize leastP r x = v at hlt2 HONE ⊢
                have HGT := Lib.hid (fun W => get_any hlt2 W)
                clear hlt2
                cases hget : getP v with
                | none =>
                  rw [hget] at HGT HONE
                  simp only [insO, erO, Option.getD, insV, zeroI] at HGT
                  have HNONE : Hid (putOne r x = none) := Lib.hid (by rw [HONE.out]; simp)
                  go_wp2_with fail
                  refine (HGT.out _).mono ?_
                  rintro e w5 ⟨rfl, hb⟩
                  have HP5 := Lib.hid (HP4.out.below hb)
                  clear hb HGT
                  go_wp2_with fail
                  go_roundg (gk - 1)
                  case measure => have := HGK.out; omega
                  case rel => exact HSTEP.out _ (HP5.out.below ((Below.refl _ _).alloc (Nat.le_refl _) _)) HNONE.out
                | some y =>
                  rw [hget] at HGT HONE
                  simp only [insO, erO, Option.getD, insV] at HGT
                  have hyok := get_ok hget
                  have HE := Lib.hid (fun W => eql_ins y x hyok HOK.out W)
                  have HYX := Lib.hid (fun (h : y = x) => h)
                  clear hget hyok
                  go_wp2_with fail
                  refine (HGT.out _).mono ?_
                  rintro e w5 ⟨rfl, hb⟩
                  have HP5 := Lib.hid (HP4.out.below hb)
                  clear hb HGT HP4
                  go_upto_region 8 with fail
                  have HP6 := Lib.hid (HP5.out.below ((Below.refl _ _).alloc (Nat.le_refl _) (.cells (insV y) 26)))
                  have HQ := Lib.hid (fun j => new_cell w5 (insV y) 26 j)
                  unfold insV at HP6 HQ HE
                  generalize w5.alloc (.cells #[.int .u8 ((y.op : Nat) : Int), .int .u8 ((y.rd : Nat) : Int), .int .u8 ((y.a : Nat) : Int), .int .u8 ((y.b : Nat) : Int), .int .i32 y.imm, .int .u16 ((y.csr : Nat) : Int)] 26) = w6 at HP6 HQ ⊢
                  generalize w5.heap.size = h5 at HQ ⊢
                  have q0 := HQ.out 0
                  have q1 := HQ.out 1
                  have q2 := HQ.out 2
                  have q3 := HQ.out 3
                  have q4 := HQ.out 4
                  have q5 := HQ.out 5
                  simp only [List.getElem?_toArray, List.getElem?_cons_zero, List.getElem?_cons_succ] at q0 q1 q2 q3 q4 q5
                  have k0 := HP6.out.i0
                  have k1 := HP6.out.i1
                  have k2 := HP6.out.i2
                  have k3 := HP6.out.i3
                  have k4 := HP6.out.i4
                  have k5 := HP6.out.i5
                  by_cases hyx : y = x
                  · have HEQ := HE.out
                    rw [decide_eq_true hyx] at HEQ
                    have HSOME : Hid (putP x = some v) := Lib.hid (by rw [HROW.out, HONE.out, hyx, if_pos rfl])
                    clear hyx
                    go_wp2_with fail
                    go_ret2
                    exact ⟨by rw [HSOME.out]; rfl, HP6.out.b⟩
                  · have HEQ := HE.out
                    rw [decide_eq_false hyx] at HEQ
                    have HNONE : Hid (putOne r x = none) := Lib.hid (by rw [HONE.out, if_neg (fun h => hyx (by injection h))])
                    clear hyx
                    go_wp2_with fail
                    go_roundg (gk - 1)
                    case measure => have := HGK.out; omega
                    case rel => exact HSTEP.out _ HP6.out HNONE.out
      · rw [decide_eq_false ho] at bop
        have HNONE : Hid (putOne r x = none) := Lib.hid (by unfold putOne; rw [if_neg (fun c => ?_)]; exact ho c.1)
        clear hP hgk hra
        go_wp2_with fail
        go_quiet (fail)
        go_wp2_with fail
        go_roundg (gk - 1)
        case measure => have := HGK.out; omega
        case rel => exact HSTEP.out _ (HP.out.drewN _) HNONE.out
    · have g1 : decide (((i : Nat) : Int) < 68) = false := decide_eq_false (by omega)
      obtain rfl : i = 68 := by omega
      have HN : Hid (putP x = none) := Lib.hid (by
        unfold putP
        rw [List.findSome?_eq_none_iff]
        intro r hr
        obtain ⟨j, hj⟩ := List.mem_iff_getElem?.1 hr
        have lj := (List.getElem?_eq_some_iff.1 hj).1
        rw [rows_len] at lj
        exact HNO.out j r lj hj)
      clear hgk HNO hP
      go_wp2_with fail
      go_ret2
      exact ⟨by rw [HN.out]; rfl, HP.out.b⟩
end De
end Go.Proofs.YtbgcgomefdblpaaDoor
