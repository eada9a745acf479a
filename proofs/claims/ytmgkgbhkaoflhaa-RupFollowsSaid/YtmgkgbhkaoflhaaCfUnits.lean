/-
  The document's Units, as a fact on one call.
-/
import Derived.Test.YtmgkgbhkaoflhaaCfGrow
import Derived.Deep.DeepMust
import Derived.OwnWalk
namespace Go.Proofs.Ytmgkgbhkaoflhaa
open Go.RowKit
namespace Cf
set_option maxHeartbeats 2000000
set_option maxRecDepth 100000

/-- A list of numbers and a yes or no. -/
def ListE (W : World) (T : List Int) (b : Bool) (e : Ending) (w : World) : Prop := ∃ v, e = .returned (.tuple #[v, .bool b]) ∧ GrowI W v T w
theorem listE_int {W w : World} {T : List Int} {b : Bool} {e : Ending} (h : ListE W T b e w) : ∃ a c, e = .returned (.tuple #[.slice a T.length c, .bool b]) ∧ IntsAt w a T ∧ Below W.heap.size W w := by
  obtain ⟨v, he, hg⟩ := h
  obtain ⟨a, c, rfl⟩ := hg.shape
  exact ⟨a, c, he, hg.ints, hg.bel⟩

theorem runits_no {W : World} {al gl : Option Addr} {C : Cl} {v : Int} {c gc gn : Nat} (h : ClsAt W al C) (hok : OkC C) (hm : mayC v C = false) :
    Calls Try.prog 22 #[.agg #[.int .i64 v, .slice al C.length c], .slice gl gn gc] W fun e w => e = .returned (.tuple #[.slice none 0 0, .bool false]) ∧ Below W.heap.size W w := by
  have HM := Lib.hid (fun (w : World) (hb : Below W.heap.size W w) => rmay_any (W := w) (v := v) (c := c) (h.keep hb) hok)
  rw [hm] at HM
  clear h hok hm
  go_enter Try.func22, Try.ntmps22
  go_wp2_with fail
  refine (HM.out _ (bel_alloc (Below.refl _ _) _)).mono ?_
  rintro e w1 ⟨rfl, hb1⟩
  go_wp2_with fail
  go_ret2
  exact ⟨rfl, bel_call (bel_alloc (Below.refl _ _) _) hb1⟩

/-- What follows, of what came and the given that are left. -/
def leftU (v : Int) (C : Cl) (T g : List Int) : List Int × Bool := match givenG v T g with
  | (came, true) => restU C came
  | (came, false) => (came, false)
theorem leftU_nil (v : Int) (C : Cl) (T : List Int) : leftU v C T [] = restU C T := rfl
theorem leftU_pass {v : Int} {C : Cl} {T g : List Int} {l : Int} (h : isL l v = false ∨ T.elem l = true) : leftU v C T (l :: g) = leftU v C T g := by
  unfold leftU
  rw [givenG, if_pos (by rcases h with h | h <;> rw [h] <;> simp)]
theorem leftU_stop {v : Int} {C : Cl} {T g : List Int} {l : Int} (h1 : isL l v = true) (h2 : T.elem l = false) (h3 : T.elem (-l) = true) : leftU v C T (l :: g) = (T, false) := by
  unfold leftU
  rw [givenG, if_neg (by rw [h1, h2]; simp), if_pos h3]
theorem leftU_add {v : Int} {C : Cl} {T g : List Int} {l : Int} (h1 : isL l v = true) (h2 : T.elem l = false) (h3 : T.elem (-l) = false) : leftU v C T (l :: g) = leftU v C (T ++ [l]) g := by
  unfold leftU
  rw [givenG, if_neg (by rw [h1, h2]; simp), if_neg (by rw [h3]; simp)]
theorem units_left {v : Int} {C : Cl} {g : List Int} (hm : mayC v C = true) : unitsC v C g = leftU v C [] g := by
  unfold unitsC leftU restU
  rw [if_pos hm]
  cases givenG v [] g with
  | mk a b => cases b <;> rfl
theorem GrowI.base {W W1 w : World} {v : Value} {T : List Int} (h : GrowI W1 v T w) (hb : Below W.heap.size W W1) : GrowI W v T w := by
  refine ⟨?_, hb.trans (h.bel.mono hb.size)⟩
  rcases h.row with ⟨hl, h1 | ⟨g, cap, cur, hv, hb', hh, r⟩⟩
  · exact ⟨hl, .inl h1⟩
  · exact ⟨hl, .inr ⟨g, cap, cur, hv, Nat.le_trans hb.size hb', hh, r⟩⟩
theorem ret_lb {v : Value} {a b : Bool} (h : a = b) : Ending.returned (.tuple #[v, .bool a]) = .returned (.tuple #[v, .bool b]) := by rw [h]

theorem nextG_cons {T : List Int} {nx : Int} {k : List Int} {r : Cl} : nextG T nx (k :: r) = if (lookC T k).2 then nextG T (if nx = 0 then (lookC T k).1 else nx) r else none := rfl
theorem drop_cl {T : Cl} {j : Nat} {x : List Int} (h : T[j]? = some x) : T.drop j = x :: T.drop (j + 1) := by
  obtain ⟨hl, he⟩ := List.getElem?_eq_some_iff.1 h
  rw [List.drop_eq_getElem_cons hl, he]
theorem runits_yes {W : World} {al gl : Option Addr} {C : Cl} {g : List Int} {v : Int} {c gc : Nat} (h : ClsAt W al C) (hok : OkC C) (hg : IntsAt W gl g) (hm : mayC v C = true) (hsz : g.length + C.flatten.length ≤ 1000000) :
    Calls Try.prog 22 #[.agg #[.int .i64 v, .slice al C.length c], .slice gl g.length gc] W (ListE W (unitsC v C g).1 (unitsC v C g).2) := by
  have HM := Lib.hid (fun (w : World) (hb : Below W.heap.size W w) => rmay_any (W := w) (v := v) (c := c) (h.keep hb) hok)
  rw [hm] at HM
  obtain ⟨hmv, hlit⟩ := mayC_parts hm
  have hv : 0 ≤ v ∧ v ≤ 1000000 := by unfold mayV at hmv; simpa using hmv
  obtain ⟨hv0, hv1⟩ := hv
  have HLIT := Lib.hid hlit
  have HNE := Lib.hid (mayC_ne hm)
  have HCL := Lib.hid h
  have HG := Lib.hid hg
  have HOK := Lib.hid hok
  have hcn := hok.n
  rw [units_left hm]
  obtain ⟨R, hR⟩ : ∃ R, R = leftU v C [] g := ⟨_, rfl⟩
  rw [← hR]
  have HR := Lib.hid hR
  obtain ⟨n, hn⟩ : ∃ n, n = C.length := ⟨_, rfl⟩
  have HN := Lib.hid hn
  obtain ⟨gn, hgn⟩ : ∃ gn, gn = g.length := ⟨_, rfl⟩
  have HGN := Lib.hid hgn
  have HSZ := Lib.hid hsz
  rw [← hn] at hcn ⊢
  rw [← hn] at HM
  rw [← hgn]
  have hgl : gn ≤ 1000000 := by omega
  clear h hok hg hm hmv hlit hR hn hgn hsz
  go_enter Try.func22, Try.ntmps22
  go_wp2_with fail
  refine (HM.out _ (bel_alloc (Below.refl _ _) _)).mono ?_
  rintro e w1 ⟨rfl, hb1⟩
  have hc0 : w1.cell? ⟨W.heap.size, 0, none⟩ = some (.int .i64 v) := (hb1.cell (p := ⟨W.heap.size, 0, none⟩) (by simp)).trans (new_cell _ _ _ _)
  have hc1 : w1.cell? ⟨W.heap.size, 1, none⟩ = some (.slice al n c) := (hb1.cell (p := ⟨W.heap.size, 1, none⟩) (by simp)).trans (new_cell _ _ _ _)
  have hBW : Below W.heap.size W w1 := bel_call (bel_alloc (Below.refl _ _) _) hb1
  have hlt : W.heap.size < w1.heap.size := by have := hb1.size; simp at this; omega
  have HBW := Lib.hid hBW
  have HC0 := Lib.hid hc0
  have HC1 := Lib.hid hc1
  have HLT := Lib.hid hlt
  clear hb1 hBW HM hc0 hc1
  go_wp2_with fail
  go_loopg [6, 7] gn (fun gk v6 v7 wr => ∃ (j : Nat) (T : List Int), v7 = .int .i64 ((j : Nat) : Int) ∧ j + gk = gn ∧ GrowI w1 v6 T wr ∧ T.length ≤ j ∧ R = leftU v C T (g.drop j))
  case atStart => exact ⟨0, [], rfl, by omega, GrowI.zero (Below.refl _ _), by simp, by rw [HR.out]; rfl⟩
  case round =>
    obtain ⟨j, T, rfl, hj, hgr, hTj, hRT⟩ := hrel
    obtain ⟨ta, tc, rfl⟩ := hgr.shape
    have HJ := Lib.hid hj
    have HGR := Lib.hid hgr
    have HRT := Lib.hid hRT
    have q0 : (0 : Int) ≤ ((j : Nat) : Int) := by omega
    by_cases hlt2 : j < gn
    · obtain ⟨l, hl⟩ : ∃ l, g[j]? = some l := ⟨_, List.getElem?_eq_getElem (by rw [← HGN.out]; exact hlt2)⟩
      obtain ⟨bl, ol, rfl, hbl, hcell⟩ := ints_at ((HG.out.keep HBW.out).keep hgr.bel) hl
      have hc0 : wr.cell? ⟨W.heap.size, 0, none⟩ = some (.int .i64 v) := (hgr.bel.cell (p := ⟨W.heap.size, 0, none⟩) hlt).trans HC0.out
      have hbox : W.heap.size < wr.heap.size := Nat.lt_of_lt_of_le hlt hgr.bel.size
      have q1 : ((j : Nat) : Int) < ((gn : Nat) : Int) := by omega
      have HS := Lib.hid (step_i (j := j) (by omega))
      have HD := Lib.hid (drop_at hl)
      have HIS := Lib.hid (fun (w : World) => ris_any (l := l) (W := w) hv0 hv1)
      have HH := Lib.hid (fun (q : Nat) (x : Int) => has_any (W := wr.drewN q) (c := tc) (x := x) (hgr.drewN q).ints (by omega : T.length < _))
      have HTJ := Lib.hid hTj
      clear hj hgr hRT hTj hl
      cases hil : isL l v with
      | false =>
        rw [hil] at HIS
        have HE : Hid (R = leftU v C T (g.drop (j + 1))) := by
          show _ = _
          rw [HRT.out, HD.out, leftU_pass (.inl hil)]
        clear hil
        go_wp2_with fail
        go_quiet (first | (go_at_call 15; exact quiet_left (HIS.out _)) | (go_at_call 32; exact quiet_left (HH.out _ _)))
        go_wp2_with fail
        go_roundg (gk - 1)
        case measure => have := HJ.out; omega
        case rel => exact ⟨j + 1, T, by first | rfl | (rw [HS.out.1]) | (congr 1; exact HS.out.1), by have := HJ.out; omega, HGR.out.drewN _, by have := HTJ.out; omega, HE.out⟩
      | true =>
        rw [hil] at HIS
        obtain ⟨hln, hl1, hl2⟩ := isL_ne hil
        obtain ⟨n1, n2⟩ := neg_i (x := l) (by omega) (by omega)
        clear hln hl1 hl2
        cases hte : T.elem l with
        | true =>
          have HH1 := Lib.hid (fun q => hte ▸ HH.out q l)
          have HE : Hid (R = leftU v C T (g.drop (j + 1))) := by
            show _ = _
            rw [HRT.out, HD.out, leftU_pass (.inr hte)]
          clear hil hte
          go_wp2_with fail
          go_quiet (first | (go_at_call 15; exact quiet_left (HIS.out _)) | (go_at_call 32; exact quiet_left (HH1.out _)))
          go_wp2_with fail
          go_roundg (gk - 1)
          case measure => have := HJ.out; omega
          case rel => exact ⟨j + 1, T, by first | rfl | (rw [HS.out.1]) | (congr 1; exact HS.out.1), by have := HJ.out; omega, HGR.out.drewN _, by have := HTJ.out; omega, HE.out⟩
        | false =>
          have HH1 := Lib.hid (fun q => hte ▸ HH.out q l)
          cases htn : T.elem (-l) with
          | true =>
            have HH2 := Lib.hid (fun q => htn ▸ HH.out q (-l))
            have HE : Hid (R = (T, false)) := by
              show _ = _
              rw [HRT.out, HD.out, leftU_stop hil hte htn]
            clear hil hte htn HH
            go_wp2_with fail
            go_quiet (first | (go_at_call 15; exact quiet_left (HIS.out _)) | (go_at_call 32; exact quiet_left (HH1.out _)))
            go_wp2_with fail
            refine (HH2.out _).mono ?_; rintro e w' ⟨rfl, rfl⟩
            go_wp2_with fail
            go_ret2
            exact ⟨_, ret_lb (by rw [HE.out]), by rw [HE.out]; exact (HGR.out.drewN _).base HBW.out⟩
          | false =>
            have HH2 := Lib.hid (fun q => htn ▸ HH.out q (-l))
            have HE : Hid (R = leftU v C (T ++ [l]) (g.drop (j + 1))) := by
              show _ = _
              rw [HRT.out, HD.out, leftU_add hil hte htn]
            clear hil hte htn HH
            go_wp2_with fail
            go_quiet (first | (go_at_call 15; exact quiet_left (HIS.out _)) | (go_at_call 32; exact quiet_left (HH1.out _)))
            go_wp2_with fail
            refine (HH2.out _).mono ?_; rintro e w' ⟨rfl, rfl⟩
            go_wp2_with (at_builtin; refine wpList_grow rfl (.tmp 45) (.tmp 50) rfl rfl (HGR.out.drewN _) rfl rfl (by have := HTJ.out; omega) ?_; intro va vc w2 hg2; have HG2 := Lib.hid hg2; clear hg2)
            go_roundg (gk - 1)
            case measure => have := HJ.out; omega
            case rel => exact ⟨j + 1, T ++ [l], by first | rfl | (rw [HS.out.1]) | (congr 1; exact HS.out.1), by have := HJ.out; omega, HG2.out, by have := HTJ.out; simp; omega, HE.out⟩
    · have q1 : decide (((j : Nat) : Int) < ((gn : Nat) : Int)) = false := decide_eq_false (by omega)
      obtain rfl : j = gn := by omega
      have HE : Hid (R = restU C T) := by
        show _ = _
        rw [HRT.out, List.drop_eq_nil_of_le (by rw [← HGN.out]; exact Nat.le_refl _), leftU_nil]
      have HTB : Hid (T.length + openN C T ≤ 1000000) := by
        show _ ≤ _
        have := openN_le C T
        have := HSZ.out
        have := HGN.out
        omega
      clear hRT hj hTj HRT HJ hgr
      go_wp2_with fail
      go_loopg [6] (openN C T) (fun gk v6 wr => ∃ T : List Int, GrowI w1 v6 T wr ∧ R = restU C T ∧ T.length + openN C T ≤ 1000000 ∧ gk = openN C T)
      case atStart => exact ⟨T, HGR.out, HE.out, HTB.out, rfl⟩
      clear HGR HE HTB
      case round =>
        obtain ⟨T, hgr, hRT, hTb, hgk⟩ := hrel
        obtain ⟨ta, tc, rfl⟩ := hgr.shape
        have HGR := Lib.hid hgr
        have HRT := Lib.hid hRT
        have HTB := Lib.hid hTb
        have HGK := Lib.hid hgk
        have hc1 : wr.cell? ⟨W.heap.size, 1, none⟩ = some (.slice al n c) := (hgr.bel.cell (p := ⟨W.heap.size, 1, none⟩) hlt).trans HC1.out
        have hbox : W.heap.size < wr.heap.size := Nat.lt_of_lt_of_le hlt hgr.bel.size
        obtain ⟨gO, hgO⟩ : ∃ gO, gO = gk := ⟨_, rfl⟩
        subst hgO
        clear hgr hRT hTb hgk
        go_wp2_with fail
        go_loopg [8, 9] n (fun gk v8 v9 w3 => ∃ (i : Nat) (nx : Int), v8 = .int .i64 nx ∧ v9 = .int .i64 ((i : Nat) : Int) ∧ i + gk = n ∧ wr = w3 ∧ nextC T C = nextG T nx (C.drop i))
        case atStart => exact ⟨0, 0, rfl, rfl, by omega, rfl, rfl⟩
        case round =>
          obtain ⟨i, nx, rfl, rfl, hi, rfl, hnx⟩ := hrel
          have HI := Lib.hid hi
          have HNX := Lib.hid hnx
          have q0 : (0 : Int) ≤ ((i : Nat) : Int) := by omega
          by_cases hin : i < n
          · obtain ⟨k, hk⟩ : ∃ k, C[i]? = some k := ⟨_, List.getElem?_eq_getElem (by rw [← HN.out]; exact hin)⟩
            have hbel : Below W.heap.size W wr := HBW.out.trans (HGR.out.bel.mono HBW.out.size)
            obtain ⟨bl, ol, kal, kc, rfl, hbl, hcell, hI⟩ := cls_at (HCL.out.keep hbel) hk
            have q1 : ((i : Nat) : Int) < ((n : Nat) : Int) := by omega
            have HS := Lib.hid (step_i (j := i) (by omega))
            have HD := Lib.hid (drop_cl hk)
            have hkm := List.mem_of_getElem? hk
            have hlk := look_any (W := wr) (c := kc) (cc := tc) hI (HOK.out.k k hkm) (fun l hl => by have := isL_ne (HLIT.out k hkm l hl); omega) HGR.out.ints (by have := HTB.out; omega)
            obtain ⟨z, b, hzb⟩ : ∃ z b, lookC T k = (z, b) := ⟨_, _, rfl⟩
            rw [hzb] at hlk
            have HLK := Lib.hid hlk
            have HZB := Lib.hid hzb
            clear hnx hi hk hI hkm hlk hzb hbel
            cases b with
            | false =>
              have HE : Hid (R = (T, false)) := by
                show _ = _
                rw [HRT.out, restU_none]
                rw [HNX.out, HD.out, nextG_cons, HZB.out]; rfl
              go_wp2_with fail
              refine HLK.out.mono ?_; rintro e w' ⟨rfl, rfl⟩
              go_wp2_with fail
              go_ret2
              exact ⟨_, ret_lb (by rw [HE.out]), by rw [HE.out]; exact HGR.out.base HBW.out⟩
            | true =>
              by_cases hz : nx = 0
              · subst hz
                have HE : Hid (nextC T C = nextG T z (C.drop (i + 1))) := by
                  show _ = _
                  rw [HNX.out, HD.out, nextG_cons, HZB.out]; rfl
                go_wp2_with fail
                refine HLK.out.mono ?_; rintro e w' ⟨rfl, rfl⟩
                go_wp2_with fail
                go_roundg (gk - 1)
                case measure => have := HI.out; omega
                case rel => exact ⟨i + 1, z, rfl, by first | rfl | (rw [HS.out.1]) | (congr 1; exact HS.out.1), by have := HI.out; omega, rfl, HE.out⟩
              · have d0 : (nx == 0) = false := by simpa using hz
                have HE : Hid (nextC T C = nextG T nx (C.drop (i + 1))) := by
                  show _ = _
                  rw [HNX.out, HD.out, nextG_cons, HZB.out, if_pos rfl, if_neg hz]
                clear hz
                go_wp2_with fail
                refine HLK.out.mono ?_; rintro e w' ⟨rfl, rfl⟩
                go_wp2_with fail
                go_roundg (gk - 1)
                case measure => have := HI.out; omega
                case rel => exact ⟨i + 1, nx, rfl, by first | rfl | (rw [HS.out.1]) | (congr 1; exact HS.out.1), by have := HI.out; omega, rfl, HE.out⟩
          · have q1 : decide (((i : Nat) : Int) < ((n : Nat) : Int)) = false := decide_eq_false (by omega)
            obtain rfl : i = n := by omega
            have HEND : Hid (nextC T C = some nx) := by
              show _ = _
              rw [HNX.out, List.drop_eq_nil_of_le (by rw [← HN.out]; exact Nat.le_refl _)]; rfl
            clear hnx hi
            by_cases hz : nx = 0
            · subst hz
              have HE : Hid (R = (T, true)) := by
                show _ = _
                rw [HRT.out, restU_zero HEND.out]
              go_wp2_with fail
              go_ret2
              exact ⟨_, ret_lb (by rw [HE.out]), by rw [HE.out]; exact HGR.out.base HBW.out⟩
            · have d0 : (nx == 0) = false := by simpa using hz
              have HE : Hid (R = restU C (T ++ [nx])) := by
                show _ = _
                rw [HRT.out]; exact restU_some HNE.out HEND.out hz
              have HLS : Hid (openN C (T ++ [nx]) < openN C T) := by
                show _ < _
                obtain ⟨a, b, _⟩ := nextC_open HNE.out HEND.out hz
                exact openN_less a b
              clear hz
              go_wp2_with (at_builtin; refine wpList_grow rfl (.tmp 78) (.tmp 80) rfl rfl HGR.out rfl rfl (by have := HTB.out; have := HLS.out; omega) ?_; intro va vc w2 hg2; have HG2 := Lib.hid hg2; clear hg2)
              go_roundg (openN C (T ++ [nx]))
              case measure => have := HGK.out; have := HLS.out; omega
              case rel => exact ⟨T ++ [nx], HG2.out, HE.out, by have := HTB.out; have := HLS.out; simp; omega, rfl⟩
end Cf
end Go.Proofs.Ytmgkgbhkaoflhaa
