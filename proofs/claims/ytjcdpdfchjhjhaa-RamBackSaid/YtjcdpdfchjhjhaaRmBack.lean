/-
  RamBack, walked.
-/
import Derived.Test.YtjcdpdfchjhjhaaRmApi
import Derived.Laws.Bits64b
namespace Go.Proofs.Ytjcdpdfchjhjhaa
open Go.RowKit
namespace Rm
set_option maxHeartbeats 1600000
set_option maxRecDepth 100000

theorem BAt.set {w : World} {b z i x : Nat} {f : Nat → Nat} (h : BAt w b 0 z f) (hi : i < z) : BAt (w.setCell ⟨b, i, none⟩ (.int .u8 ((x : Nat) : Int))) b 0 z (fun j => if j = i then x else f j) := by
  refine ⟨fun j hj => ?_, by simpa [World.setCell] using h.lt⟩
  rw [Nat.zero_add]
  have hc : ∀ j, j < z → w.cell? ⟨b, j, none⟩ = some (.int .u8 ((f j : Nat) : Int)) := fun j hj => by simpa using h.c j hj
  by_cases e : j = i
  · subst e
    rw [if_pos rfl]
    exact World.cell?_setCell_same' _ _ _ (by rw [hc j hj]; rfl)
  · rw [if_neg e]
    exact (World.cell?_setCell_other _ _ _ _ (by simp; exact fun q => e q.symm)).trans (hc j hj)
theorem BAt.eq {w : World} {b o z : Nat} {f g : Nat → Nat} (h : BAt w b o z f) (e : ∀ j, j < z → f j = g j) : BAt w b o z g := ⟨fun j hj => by rw [← e j hj]; exact h.c j hj, h.lt⟩
theorem mask_is {v : Nat} (hv : v < 4294967296) (k : Nat) (hk : 2 ^ k ≤ 4294967296) : bits BinOp.and IntKind.u64 ((v : Nat) : Int) ((2 ^ k - 1 : Nat) : Int) = ((v % 2 ^ k : Nat) : Int) := by
  rw [bits_and_u64_nat v _ (by omega) (by omega), Nat.and_two_pow_sub_one_eq_mod]
theorem mask_1 {v : Nat} (hv : v < 4294967296) : bits BinOp.and IntKind.u64 ((v : Nat) : Int) 255 = ((v : Nat) : Int) % 256 := by
  have := mask_is hv 8 (by decide)
  simpa using this
theorem mask_2 {v : Nat} (hv : v < 4294967296) : bits BinOp.and IntKind.u64 ((v : Nat) : Int) 65535 = ((v : Nat) : Int) % 65536 := by
  have := mask_is hv 16 (by decide)
  simpa using this
theorem mask_4 {v : Nat} (hv : v < 4294967296) : bits BinOp.and IntKind.u64 ((v : Nat) : Int) 4294967295 = ((v : Nat) : Int) % 4294967296 := by
  have := mask_is hv 32 (by decide)
  simpa using this
section
variable {At : World → Nat → List Nat → Nat → (Nat → Nat) → Prop}
theorem back_no (A : Api At) {n : Int} (h : ¬ sizeP n) {al : Option Addr} {len cap : Nat} {a k v : Int} (W : World) : Calls Try.prog 4 #[.int .i64 n, .slice al len cap, .int .u32 a, .int .i64 k, .int .u32 v] W fun e w => e = .returned (.bool true) ∧ Below W.heap.size W w := by
  have HA := Lib.hid A
  have HN := Lib.hid (A.newNo n W h)
  clear A h
  go_enter Try.func4, Try.ntmps4
  go_wp2_with fail
  refine HN.out.mono ?_
  rintro e w1 ⟨rfl, ho⟩
  have HB1 : Hid (Below W.heap.size W w1) := Lib.hid (ho.below (by simp) (Nat.le_refl _))
  clear ho HN
  go_wp2_with fail
  refine (lives_any HA.out _).mono ?_
  rintro e w2 ⟨rfl, hb⟩
  have HB2 : Hid (Below W.heap.size W w2) := Lib.hid (HB1.out.trans (hb.mono HB1.out.size))
  clear hb
  go_wp2_with fail
  go_ret
  exact ⟨rfl, HB2.out⟩
theorem back_yes (A : Api At) {n : Nat} (h : sizeP ((n : Nat) : Int)) {al : Option Addr} {X : List Nat} {len cap a v : Nat} {k : Int} {W : World} (hX : BytesAt W al X) (hlen : len = X.length) (ha : a < 4294967296) (hv : v < 4294967296) : Calls Try.prog 4 #[.int .i64 ((n : Nat) : Int), .slice al len cap, .int .u32 ((a : Nat) : Int), .int .i64 k, .int .u32 ((v : Nat) : Int)] W fun e w => e = .returned (.bool true) ∧ Below W.heap.size W w := by
  have HA := Lib.hid A
  have HN := Lib.hid (A.newYes n W h)
  have HX := Lib.hid hX
  have HL := Lib.hid hlen
  have hn : 256 ≤ n ∧ n ≤ 4096 := by unfold sizeP at h; omega
  clear A h hX hlen
  go_enter Try.func4, Try.ntmps4
  go_wp2_with fail
  refine HN.out.mono ?_
  rintro e w1 ⟨p, bs, rfl, hat, ho, hlo⟩
  have HLO := Lib.hid hlo
  have H1 : Hid (Below W.heap.size W w1 ∧ At w1 p bs n zeroF) := Lib.hid ⟨ho.below (by simp) (Nat.le_refl _), hat⟩
  clear ho hat hlo HN
  go_wp2_with fail
  go_loopg [13] (min len 4096) (fun gk v13 wr => ∃ i : Nat, v13 = .int .i64 ((i : Nat) : Int) ∧ i + gk = min len 4096 ∧ Hid (Below W.heap.size W wr ∧ ∃ f, At wr p bs n f))
  case atStart => exact ⟨0, rfl, by omega, Lib.hid ⟨H1.out.1, _, H1.out.2⟩⟩
  case round =>
    obtain ⟨i, rfl, hgk, HR⟩ := hrel
    clear H1
    have HG := Lib.hid hgk
    have i0 : (0 : Int) ≤ ((i : Nat) : Int) := by omega
    by_cases hlt : i < len ∧ i < 4096
    · have g1 : decide (((i : Nat) : Int) < ((len : Nat) : Int)) = true := decide_eq_true (by omega)
      have g2 : ((i : Nat) : Int) < ((len : Nat) : Int) := by omega
      have g3 : decide (((i : Nat) : Int) < 4096) = true := decide_eq_true (by omega)
      have g4 : ((i : Nat) : Int) < 4096 := by omega
      obtain ⟨x, hx⟩ : ∃ x, X[i]? = some x := ⟨_, List.getElem?_eq_getElem (by rw [← HL.out]; exact hlt.1)⟩
      obtain ⟨bl, ol, rfl, hx2, hx3⟩ : ∃ bl ol, al = some ⟨bl, ol, none⟩ ∧ x < 256 ∧ wr.cell? ⟨bl, ol + i, none⟩ = some (.int .u8 ((x : Nat) : Int)) := by
        rcases HX.out.call HR.out.1 with c | ⟨bl, ol, e, _, c⟩
        · rw [c] at hx; cases hx
        · exact ⟨bl, ol, e, c i x hx⟩
      have HS := Lib.hid (fun f (k : At wr p bs n f) => HA.out.store (4096 + i) 1 x k (by omega) (by omega))
      clear hgk hx
      go_wp2_with fail
      obtain ⟨f, hf⟩ := HR.out.2
      refine (HS.out f hf).mono ?_
      rintro e w2 ⟨rfl, hat, ho⟩
      have HR2 : Hid (Below W.heap.size W w2 ∧ ∃ f, At w2 p bs n f) := Lib.hid ⟨HR.out.1.trans (ho.below HLO.out HR.out.1.size), _, hat⟩
      clear hat ho hf
      go_wp2_with fail
      go_roundg (gk - 1)
      case measure => have := HG.out; omega
      case rel => exact ⟨i + 1, by go_num, by have := HG.out; omega, HR2⟩
    · obtain ⟨f, hf⟩ := HR.out.2
      have hi : (¬ i < len) ∨ (i < len ∧ ¬ i < 4096) := by omega
      have HBY := Lib.hid (HA.out.bytes hf)
      have HBW : Hid (Below W.heap.size W wr) := Lib.hid HR.out.1
      have HLT := Lib.hid (HA.out.own hf)
      have HFB := Lib.hid (HA.out.byt hf).1
      have HAT := Lib.hid hf
      clear HR hf hgk HX HL hlt HG
      rcases hi with hA | ⟨hA, hA2⟩
      case' inl =>
        have g1 : decide (((i : Nat) : Int) < ((len : Nat) : Int)) = false := decide_eq_false (by omega)
        have g2 : ¬ ((i : Nat) : Int) < ((len : Nat) : Int) := by omega
        clear hA
        go_wp2_with fail
      case' inr =>
        have g1 : decide (((i : Nat) : Int) < ((len : Nat) : Int)) = true := decide_eq_true (by omega)
        have g2 : ((i : Nat) : Int) < ((len : Nat) : Int) := by omega
        have g3 : decide (((i : Nat) : Int) < 4096) = false := decide_eq_false (by omega)
        have g4 : ¬ ((i : Nat) : Int) < 4096 := by omega
        clear hA hA2
        go_wp2_with fail
      all_goals
        refine HBY.out.mono ?_
        rintro e w2 ⟨wb, wc, rfl, hbw, hwb, hfz, ho⟩
        have HST := Lib.hid (HA.out.store a k v (HA.out.keep HAT.out ho (by simp)) ha hv)
        have HW2 : Hid (Below W.heap.size W w2 ∧ BAt w2 wb 0 n f ∧ wr.heap.size ≤ wb ∧ W.heap.size ≤ wr.heap.size ∧ wr.heap.size ≤ w2.heap.size) := Lib.hid ⟨HBW.out.trans (ho.below (by simp) HBW.out.size), hbw, hwb, HBW.out.size, ho.size⟩
        have HNB : Hid (wb ∉ bs) := Lib.hid (fun c => by have := HLT.out wb c; omega)
        clear hbw hwb hfz ho HBY HAT HBW
        go_wp2_with fail
        refine HST.out.mono ?_
        rintro e w3 ⟨rfl, hat, ho⟩
        have HW3 : Hid (Below W.heap.size W w3 ∧ BAt w3 wb 0 n f ∧ w2.heap.size ≤ w3.heap.size) := Lib.hid ⟨HW2.out.1.trans (ho.below HLO.out HW2.out.1.size), HW2.out.2.1.only ho HNB.out, ho.size⟩
        have HAT := Lib.hid hat
        clear hat ho HST
        by_cases he : erP n a k = 0
        · obtain ⟨m, rfl, hm, ha1, ha2⟩ := erP_yes he
          obtain ⟨o, rfl⟩ : ∃ o, a = 4096 + o := ⟨a - 4096, by omega⟩
          have HF : Hid (stP n f (4096 + o) ((m : Nat) : Int) v = st f o m v) := Lib.hid (by unfold stP; rw [if_pos he, Int.toNat_natCast, show 4096 + o - 4096 = o by omega])
          rw [HF.out] at HAT
          have HV : Hid (ldP n (st f o m v) (4096 + o) ((m : Nat) : Int) = v % 256 ^ m) := Lib.hid (by unfold ldP; rw [if_pos he, Int.toNat_natCast, show 4096 + o - 4096 = o by omega, ld_st])
          have HLD := Lib.hid (HA.out.load (4096 + o) ((m : Nat) : Int) HAT.out ha)
          rw [HV.out, he] at HLD
          rw [he]
          have o0 : (0 : Int) ≤ ((o : Nat) : Int) := by omega
          have m0 : (0 : Int) ≤ ((m : Nat) : Int) := by omega
          clear he HV HF
          go_wp2_with fail
          refine HLD.out.mono ?_
          rintro e w4 ⟨rfl, ho⟩
          have HW4 : Hid (Below W.heap.size W w4 ∧ BAt w4 wb 0 n f ∧ w3.heap.size ≤ w4.heap.size ∧ At w4 p bs n (st f o m v)) := Lib.hid ⟨HW3.out.1.trans (ho.below (by simp) HW3.out.1.size), HW3.out.2.1.only ho (by simp), ho.size, HA.out.keep HAT.out ho (by simp)⟩
          clear ho HLD
          go_wp2_with fail
          refine (HA.out.bytes HW4.out.2.2.2).mono ?_
          rintro e w5 ⟨nb, nc, rfl, hbn, hnb, hfn, ho⟩
          have HW5 : Hid (Below W.heap.size W w5 ∧ BAt w5 wb 0 n f ∧ BAt w5 nb 0 n (fun j => if o ≤ j ∧ j < o + 0 then f j else st f o m v j) ∧ ∀ j, w5.frozen? ⟨nb, j, none⟩ = false) := Lib.hid ⟨HW4.out.1.trans (ho.below (by simp) HW4.out.1.size), HW4.out.2.1.only ho (by simp), hbn.eq (fun j _ => by rw [if_neg (by omega)]), hfn⟩
          have HNW : Hid (W.heap.size ≤ nb ∧ nb ≠ wb) := Lib.hid ⟨Nat.le_trans HW4.out.1.size hnb, fun c => by have := HW4.out.2.1.lt; omega⟩
          have n1 : wrap64 (4096 + ((n : Nat) : Int)) = 4096 + ((n : Nat) : Int) := IntWalk.wrap64_in _ (by omega)
          have n2 : decide (4096 + ((n : Nat) : Int) < 4096 + ((o : Nat) : Int) + ((m : Nat) : Int)) = false := decide_eq_false (by omega)
          have n3 : decide (4096 + ((o : Nat) : Int) < 4096) = false := decide_eq_false (by omega)
          clear hbn hnb hfn ho
          go_wp2_with fail
          go_loopg [18] m (fun gk v18 wr => ∃ t : Nat, v18 = .int .i64 ((t : Nat) : Int) ∧ o ≤ t ∧ t + gk = o + m ∧ Hid (Below W.heap.size W wr ∧ BAt wr wb 0 n f ∧ BAt wr nb 0 n (fun j => if o ≤ j ∧ j < t then f j else st f o m v j) ∧ ∀ j, wr.frozen? ⟨nb, j, none⟩ = false))
          case atStart => exact ⟨o, by congr 1; omega, Nat.le_refl _, rfl, HW5⟩
          case round =>
            obtain ⟨t, rfl, ht, hgk, HR⟩ := hrel
            have HG := Lib.hid hgk
            have t0 : (0 : Int) ≤ ((t : Nat) : Int) := by omega
            clear HW5 HW4 HW3 HW2
            by_cases hlt : t < o + m
            · have g1 : decide (((t : Nat) : Int) < 4096 + ((o : Nat) : Int) - 4096 + ((m : Nat) : Int)) = true := decide_eq_true (by omega)
              have g2 : ((t : Nat) : Int) < 4096 + ((o : Nat) : Int) - 4096 + ((m : Nat) : Int) := by omega
              have g3 : decide (((t : Nat) : Int) < ((n : Nat) : Int)) = true := decide_eq_true (by omega)
              have g4 : ((t : Nat) : Int) < ((n : Nat) : Int) := by omega
              have c1 := HR.out.2.1.c t (by omega)
              have c2 := HR.out.2.2.1.c t (by omega)
              rw [Nat.zero_add] at c1 c2
              have fz := HR.out.2.2.2 t
              have HR2 : Hid (Below W.heap.size W (wr.setCell ⟨nb, t, none⟩ (.int .u8 ((f t : Nat) : Int))) ∧ BAt (wr.setCell ⟨nb, t, none⟩ (.int .u8 ((f t : Nat) : Int))) wb 0 n f ∧ BAt (wr.setCell ⟨nb, t, none⟩ (.int .u8 ((f t : Nat) : Int))) nb 0 n (fun j => if o ≤ j ∧ j < t + 1 then f j else st f o m v j) ∧ ∀ j, (wr.setCell ⟨nb, t, none⟩ (.int .u8 ((f t : Nat) : Int))).frozen? ⟨nb, j, none⟩ = false) := Lib.hid (by
                refine ⟨HR.out.1.setCell HNW.out.1 _, HR.out.2.1.only ((Only.refl [nb] wr).set (by simp) _) (by simp; exact fun c => HNW.out.2 c.symm), (HR.out.2.2.1.set (by omega)).eq (fun j _ => ?_), fun j => by rw [World.frozen?_setCell]; exact HR.out.2.2.2 j⟩
                by_cases e : j = t
                · subst e; rw [if_pos rfl, if_pos (by omega)]
                · rw [if_neg e]
                  by_cases e2 : o ≤ j ∧ j < t
                  · rw [if_pos e2, if_pos (by omega)]
                  · rw [if_neg e2, if_neg (by omega)])
              clear hlt hgk
              go_wp2_with fail
              go_roundg (gk - 1)
              case measure => have := HG.out; omega
              case rel => exact ⟨t + 1, by go_num, by omega, by have := HG.out; omega, HR2⟩
            · obtain rfl : t = o + m := by omega
              have g1 : decide (((o + m : Nat) : Int) < 4096 + ((o : Nat) : Int) - 4096 + ((m : Nat) : Int)) = false := decide_eq_false (by omega)
              have g2 : ¬ ((o + m : Nat) : Int) < 4096 + ((o : Nat) : Int) - 4096 + ((m : Nat) : Int) := by omega
              have HSM := Lib.hid (same_any (d := nc) (e := wc) hn.2 (HR.out.2.2.1.eq (g := f) (fun j _ => by
                by_cases e2 : o ≤ j ∧ j < o + m
                · rw [if_pos e2]
                · rw [if_neg e2]; exact st_off _ _ _ _ _ (by omega))) HR.out.2.1 (fun _ _ => rfl))
              have HBR : Hid (Below W.heap.size W wr) := Lib.hid HR.out.1
              clear HR hlt hgk
              have HK1 := mask_1 hv
              have HK2 := mask_2 hv
              have HK4 := mask_4 hv
              rcases hm with rfl | rfl | rfl
              all_goals
                go_wp2_with fail
                refine HSM.out.mono ?_
                rintro e w6 ⟨rfl, q, rfl⟩
                go_wp2_with fail
                refine (lives_any HA.out _).mono ?_
                rintro e w7 ⟨rfl, hb⟩
                have HB7 : Hid (Below W.heap.size W w7) := Lib.hid ((HBR.out.trans (Only.below ((Only.refl [] wr).drewN q) (by simp) HBR.out.size)).trans (hb.mono (by simpa using HBR.out.size)))
                clear hb
                go_wp2_with fail
                go_ret
                exact ⟨rfl, HB7.out⟩
        · have e1 : ((((erP n a k : Nat) : Int)) != 0) = true := by rw [bne_iff_ne]; omega
          obtain ⟨x, hx⟩ : ∃ x, x = erP n a k := ⟨_, rfl⟩
          have HF : Hid (stP n f a k v = f) := Lib.hid (by unfold stP; rw [if_neg he])
          rw [HF.out] at HAT
          rw [← hx] at e1 ⊢
          clear he hx
          go_wp2_with fail
          refine (HA.out.bytes HAT.out).mono ?_
          rintro e w4 ⟨nb, nc, rfl, hbn, hnb, hfn, ho⟩
          have HB4 : Hid (Below W.heap.size W w4) := Lib.hid (HW3.out.1.trans (ho.below (by simp) HW3.out.1.size))
          have HSM := Lib.hid (same_any (d := nc) (e := wc) hn.2 hbn (HW3.out.2.1.only ho (by simp)) (fun _ _ => rfl))
          clear hbn hnb hfn ho
          go_wp2_with fail
          refine HSM.out.mono ?_
          rintro e w5 ⟨rfl, q, rfl⟩
          go_wp2_with fail
          refine (lives_any HA.out _).mono ?_
          rintro e w6 ⟨rfl, hb⟩
          have HB6 : Hid (Below W.heap.size W w6) := Lib.hid ((HB4.out.trans (Only.below ((Only.refl [] w4).drewN q) (by simp) HB4.out.size)).trans (hb.mono (by simpa using HB4.out.size)))
          clear hb
          go_wp2_with fail
          go_ret
          exact ⟨rfl, HB6.out⟩
end
end Rm
end Go.Proofs.Ytjcdpdfchjhjhaa
