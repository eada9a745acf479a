/-
  The document's own put of layer text, of operators, where it is known what it does of the kids.
-/
import Derived.Test.YtjinjddcnjcffaaGreatDoorPt18
import Derived.Test.YtjinjddcnjcffaaGreatDoorPt10
import Derived.Test.YtjinjddcnjcffaaGreatDoorPt23
namespace Go.Proofs.YtjinjddcnjcffaaGreatDoor
open Go.RowKit Go.Maps Bv Tm
namespace Tx
set_option maxHeartbeats 3200000
set_option maxRecDepth 100000


theorem rput_low {B p k w n l N o : Nat} {rv : Value} {L : List Nd} {k0 k1 k2 : Int} {acc : By} {W : World} (ho : o = 22) (hI : RKids L k B p N rv) (S : RefAt B W p rv L) (hE : EnvAt (fun i => W.heap.size ≤ i) W) (hx : L[k]? = some ⟨o, w, k0, k1, k2, n, l⟩) (hl : acc.length + 64 * k ≤ N) (hN : 10064 + 64 * k ≤ N) (hN9 : N ≤ 9000000) :
    Calls Tryz.prog 19 #[.pointer (some ⟨p, 0, none⟩), .int .i64 ((k : Nat) : Int), .string ⟨acc.toArray⟩] W (RPut (acc ++ txt L k) W) := by
  obtain ⟨x, hxe⟩ : ∃ x : Nd, x = ⟨o, w, k0, k1, k2, n, l⟩ := ⟨_, rfl⟩
  have hw := S.good.w _ (List.mem_of_getElem? hx)
  have hok := S.good.ok _ (List.mem_of_getElem? hx)
  have hwle : w ≤ 64 := hw.2
  have hlle : l ≤ 255 := hok.l
  have hkid : ∀ j, j < kc o → 0 ≤ x.kid j ∧ x.kid j < ((k : Nat) : Int) := by rw [hxe]; exact S.good.kid k _ hx
  have htx : acc ++ txt L k = acc ++ [40] ++ nm o ++ [32] ++ dec l ++ [32] ++ dec w ++ (kidsT (txt L) x (kc o) ++ [41]) := by
    rw [txt_is S.good hx, ← hxe]
    unfold bodyT hd
    rw [hxe]
    simp only []
    rw [if_neg (by omega), if_neg (by omega), if_pos ho, if_pos (.inl ho)]
    simp
  have hkl : k < L.length := (List.getElem?_eq_some_iff.1 hx).1
  obtain ⟨g, gc, rfl, hcg⟩ := row_nd_at S.row hx
  obtain ⟨m0, m1, m2, m3, m4, m5, m6⟩ := cells_near (fun j u hj => hcg k _ hx j u hj)
  have lg : g < W.heap.size := World.block_lt_of_cell? W _ m0
  have s0 := S.c0
  have lpr := S.lt
  have q0 : (0 : Int) ≤ ((k : Nat) : Int) := by omega
  have q1 : ((k : Nat) : Int) < ((L.length : Nat) : Int) := by omega
  have d1 : (((o : Nat) : Int) == 1) = false := by simp; omega
  have d2 : (((o : Nat) : Int) == 2) = false := by simp; omega
  have e22 : (((o : Nat) : Int) == 22) = true := by rw [ho]; rfl
  have e3 : ((((o : Nat) : Int) == 22) || (((o : Nat) : Int) == 23)) = true := by rw [ho]; rfl
  have cw : IntKind.i64.wrap ((w : Nat) : Int) = ((w : Nat) : Int) := by rw [IntKind.wrap_i64]; omega
  have cl : IntKind.i64.wrap ((l : Nat) : Int) = ((l : Nat) : Int) := by rw [IntKind.wrap_i64]; omega
  have ho' : 3 ≤ o ∧ o ≤ 25 := by omega
  have HNM : Hid (∀ u : World, Calls Tryz.prog 9 #[.int .u8 ((o : Nat) : Int)] u fun e w' => e = .returned (.string ⟨(nm o).toArray⟩) ∧ Below u.heap.size u w') := Lib.hid (fun u => rname_any (o := o) (by omega) u)
  have HKN : Hid (∀ W : World, Calls Tryz.prog 27 #[.int .u8 ((o : Nat) : Int)] W fun e W' => e = .returned (.int .i64 ((kc o : Nat) : Int)) ∧ W = W') := Lib.hid (fun W => by have h := rkids_any o W; rwa [rk_kc (by omega)] at h)
  have HLEN : Hid (∀ i, i < kc o → (kidsT (txt L) x (i + 1)).length ≤ (kidsT (txt L) x (kc o)).length) := Lib.hid (fun i hi => kidsT_le hi)
  have hnl := nm_len o
  have hdw : (dec w).length ≤ 20 := dec_len (by omega)
  have hdl : (dec l).length ≤ 20 := dec_len (by omega)
  have cb : acc.length ≤ 9000000 := by omega
  have HWL := Lib.hid (show w ≤ 1000000 by omega)
  have HLL := Lib.hid (show l ≤ 1000000 by omega)
  have HTX := Lib.hid htx
  have HKID := Lib.hid hkid
  have HXE := Lib.hid hxe
  have HE := Lib.hid hE
  have HS := Lib.hid S
  have HI := Lib.hid hI
  have HNB := Lib.hid (And.intro hl (And.intro hN hN9))
  have hkc3 : kc o ≤ 3 := kc_le o
  have HK3 := Lib.hid hkc3
  obtain ⟨kcn, hkcn⟩ : ∃ kcn, kc o = kcn := ⟨_, rfl⟩
  rw [hkcn] at HTX HKID HLEN HKN HK3
  obtain ⟨nmv, hnmv⟩ : ∃ nmv, nm o = nmv := ⟨_, rfl⟩
  rw [hnmv] at HTX HNM hnl
  obtain ⟨tot, htot⟩ : ∃ tot, acc ++ txt L k = tot := ⟨_, rfl⟩
  rw [htot] at HTX ⊢
  obtain ⟨s3, hs3⟩ : ∃ s3 : By, s3 = acc ++ [40] ++ nmv ++ [32] ++ dec l ++ [32] ++ dec w := ⟨_, rfl⟩
  rw [← hs3] at HTX
  have HS3 := Lib.hid hs3
  have HSL := Lib.hid (show s3.length ≤ acc.length + 50 by rw [hs3]; simp; omega)
  have HB0 := Lib.hid (bel_alloc (Below.refl W.heap.size W) (.cells #[.int .u8 ((o : Nat) : Int), .int .u8 ((w : Nat) : Int), .int .i64 k0, .int .i64 k1, .int .i64 k2, .int .u64 ((n : Nat) : Int), .int .u8 ((l : Nat) : Int)] 48))
  have HA0 := Lib.hid (At7.new W (.int .u8 ((o : Nat) : Int)) (.int .u8 ((w : Nat) : Int)) (.int .i64 k0) (.int .i64 k1) (.int .i64 k2) (.int .u64 ((n : Nat) : Int)) (.int .u8 ((l : Nat) : Int)) 48)
  clear S hE hw hok hx hcg hl hN hN9 hI htx hkid hxe hkcn hnmv htot hs3 hkc3 ho ho'
  · skip
    go_enter Tryz.func19, Tryz.ntmps19
    go_wp2_with (first
    | (go_at_call 9; refine (HNM.out _).mono ?_; rintro e w1 ⟨rfl, hb1⟩; have HB1 := Lib.hid (bel_call HB0.out hb1); have HA1 := Lib.hid (At7.keep HA0.out hb1); have hA := HA1.out; unfold At7 at hA; obtain ⟨a0, a1, a2, a3, a4, a5, a6⟩ := hA; clear hb1)
    | (go_at_call 32; with_reducible refine (itoa_nat l HLL.out _ (env_at (B := 0) HE.out HB1.out).pw).mono ?_; rintro e w2 ⟨rfl, hb2⟩; have HB2 := Lib.hid (bel_call HB1.out hb2); have HA2 := Lib.hid (At7.keep HA1.out hb2); have hA := HA2.out; unfold At7 at hA; obtain ⟨a0, a1, a2, a3, a4, a5, a6⟩ := hA; clear hb2)
    | (go_at_call 32; with_reducible refine (itoa_nat w HWL.out _ (env_at (B := 0) HE.out HB2.out).pw).mono ?_; rintro e w3 ⟨rfl, hb3⟩; have HB3 := Lib.hid (bel_call HB2.out hb3); have HA3 := Lib.hid (At7.keep HA2.out hb3); have hA := HA3.out; unfold At7 at hA; obtain ⟨a0, a1, a2, a3, a4, a5, a6⟩ := hA; clear hb3)
    | fail)
    clear a0 a1 a2 a3 a4 a5 a6
    go_loopg [2, 9] kcn (fun gk u2 u9 wr => ∃ i : Nat, u2 = .string ⟨(s3 ++ kidsT (txt L) x i).toArray⟩ ∧ u9 = .int .i64 ((i : Nat) : Int) ∧ i + gk = kcn ∧ ((s3 ++ kidsT (txt L) x i).length ≤ s3.length ∨ (s3 ++ kidsT (txt L) x i).length ≤ 10000) ∧ Below W.heap.size W wr ∧ At7 wr W.heap.size (.int .u8 ((o : Nat) : Int)) (.int .u8 ((w : Nat) : Int)) (.int .i64 k0) (.int .i64 k1) (.int .i64 k2) (.int .u64 ((n : Nat) : Int)) (.int .u8 ((l : Nat) : Int)))
    case atStart => exact ⟨0, by rw [HS3.out]; simp [str_app, kidsT], rfl, by omega, .inl (by simp [kidsT]), HB3.out, HA3.out⟩
    case round =>
      obtain ⟨i, rfl, rfl, hgk, hlen, hbr, hA⟩ := hrel
      have HBR := Lib.hid hbr
      have HLE := Lib.hid hlen
      have HAR := Lib.hid hA
      have HCUR : Hid (∀ j, s3 ++ kidsT (txt L) x (j + 1) = s3 ++ kidsT (txt L) x j ++ [32] ++ txt L (x.kid j).toNat) := Lib.hid (fun j => by simp [kidsT])
      obtain ⟨cur, hcur⟩ : ∃ cur, s3 ++ kidsT (txt L) x i = cur := ⟨_, rfl⟩
      rw [hcur] at HLE
      have HCI := Lib.hid hcur
      simp only [hcur]
      have hcl : cur.length ≤ 9000064 := by have := HLE.out; have := HSL.out; omega
      by_cases hin : i < kcn
      · obtain ⟨kd, hkd⟩ : ∃ kd : Nat, x.kid i = ((kd : Nat) : Int) := ⟨(x.kid i).toNat, by have := (HKID.out i hin).1; omega⟩
        have hkdl : kd < k := by have := (HKID.out i hin).2; omega
        have hck : wr.cell? ⟨W.heap.size, 2 + i, none⟩ = some (.int .i64 ((kd : Nat) : Int)) := by
          have h3 := HK3.out
          unfold At7 at hA
          rw [← hkd, HXE.out]
          match i, hin with
          | 0, _ => exact hA.2.2.1
          | 1, _ => exact hA.2.2.2.1
          | 2, _ => exact hA.2.2.2.2.1
          | (j + 3), h => omega
        have hnext : s3 ++ kidsT (txt L) x (i + 1) = cur ++ [32] ++ txt L kd := by rw [HCUR.out, hcur, hkd]; simp
        have htl : (cur ++ [32] ++ txt L kd).length ≤ tot.length := by rw [← hnext, HTX.out]; have := HLEN.out i hin; simp; omega
        have hcall := HI.out kd hkdl (cur ++ [32]) wr (HS.out.call hbr) (env_at (B := 0) HE.out hbr) (by have := HLE.out; have := HSL.out; have := HNB.out; simp; omega)
        rw [← str_app] at hcall
        have t1 : ((i : Nat) : Int) < ((kcn : Nat) : Int) := by omega
        have t0 : (0 : Int) ≤ ((i : Nat) : Int) := by omega
        have t3 : ((i : Nat) : Int) < 3 := by have := HK3.out; omega
        have r1 : IntKind.i64.wrap (((i : Nat) : Int) + 1) = (((i + 1 : Nat) : Nat) : Int) := by have := HK3.out; rw [IntKind.wrap_i64]; omega
        have r2 : wrap64 (((i : Nat) : Int) + 1) = (((i + 1 : Nat) : Nat) : Int) := by unfold wrap64; rw [← IntKind.wrap_i64]; exact r1
        have HR2 := Lib.hid r2
        have HGK := Lib.hid (And.intro hgk hin)
        have HNX := Lib.hid hnext
        have HTL := Lib.hid htl
        unfold At7 at hA
        obtain ⟨a0, a1, a2, a3, a4, a5, a6⟩ := hA
        by_cases hf : (cur ++ [32] ++ txt L kd).length ≤ 10000
        · have HC : Hid (Calls Tryz.prog 19 #[.pointer (some ⟨p, 0, none⟩), .int .i64 ((kd : Nat) : Int), .string (⟨cur.toArray⟩ ++ ⟨[32].toArray⟩)] wr fun e v => e = .returned (.tuple #[.string ⟨(cur ++ [32] ++ txt L kd).toArray⟩, .bool true]) ∧ Below wr.heap.size wr v) := by
            refine Lib.hid (hcall.mono ?_)
            rintro e v ⟨hb, ⟨_, rfl⟩ | ⟨h, _⟩⟩
            · exact ⟨rfl, hb⟩
            · omega
          have HF := Lib.hid hf
          generalize cur ++ [32] ++ txt L kd = cur2 at HNX HTL HC HF
          clear hin hgk hkdl hkd r1 r2 hbr hlen hnext htl hcall hf hcur
          go_wp2_with (first
            | (go_at_call 27; refine (HKN.out _).mono ?_; rintro e w2 ⟨rfl, rfl⟩)
            | (go_at_call 19; refine HC.out.mono ?_; rintro e w4 ⟨rfl, hb4⟩; have HB4 := Lib.hid (bel_call HBR.out hb4); have HA4 := Lib.hid (At7.keep HAR.out hb4); clear hb4))
          go_roundg (gk - 1)
          case measure => have := HGK.out; omega
          case rel => exact ⟨i + 1, by rw [HNX.out], by first | rfl | (rw [HR2.out]) | (congr 1; exact HR2.out), by have := HGK.out; omega, .inr (by rw [HNX.out]; exact HF.out), HB4.out, HA4.out⟩
        · have HC : Hid (Calls Tryz.prog 19 #[.pointer (some ⟨p, 0, none⟩), .int .i64 ((kd : Nat) : Int), .string (⟨cur.toArray⟩ ++ ⟨[32].toArray⟩)] wr fun e v => ∃ s, e = .returned (.tuple #[.string s, .bool false]) ∧ Below wr.heap.size wr v) := by
            refine Lib.hid (hcall.mono ?_)
            rintro e v ⟨hb, ⟨h, _⟩ | ⟨_, s, rfl⟩⟩
            · omega
            · exact ⟨s, rfl, hb⟩
          have HF := Lib.hid (show 10000 < tot.length by omega)
          clear hin hgk hkdl hkd r1 r2 hbr hlen hnext htl hcall hf hcur
          go_wp2_with (first
            | (go_at_call 27; refine (HKN.out _).mono ?_; rintro e w2 ⟨rfl, rfl⟩)
            | (go_at_call 19; refine HC.out.mono ?_; rintro e w4 ⟨s4, rfl, hb4⟩; have HB4 := Lib.hid (bel_call HBR.out hb4); clear hb4))
          exact bodyPost_ret (v := .tuple #[.string ⟨#[]⟩, .bool false]) (by simp [results, Tryz.results19, go_sem]) rfl ⟨HB4.out, .inr ⟨HF.out, _, rfl⟩⟩
      · have hie : i = kcn := by omega
        subst hie
        have hfin : tot = cur ++ [41] := by rw [HTX.out, ← hcur]; simp
        have t1 : ¬ ((i : Nat) : Int) < ((i : Nat) : Int) := by omega
        have HFI := Lib.hid hfin
        have hts : tot.length = cur.length + 1 := by rw [hfin]; simp
        unfold At7 at hA
        obtain ⟨a0, a1, a2, a3, a4, a5, a6⟩ := hA
        clear hin hgk hbr hlen hcur hfin
        by_cases hf : tot.length ≤ 10000
        · have HF := Lib.hid hf
          have q5 : ((cur.length : Nat) : Int) + 1 ≤ 10000 := by omega
          clear hf hts
          go_wp2_with (go_at_call 27; refine (HKN.out _).mono ?_; rintro e w2 ⟨rfl, rfl⟩)
          exact bodyPost_ret (v := .tuple #[.string ⟨tot.toArray⟩, .bool true]) (by rw [HFI.out]; simp [results, Tryz.results19, go_sem, str_app]) rfl ⟨HBR.out, .inl ⟨HF.out, rfl⟩⟩
        · have HF := Lib.hid (show 10000 < tot.length by omega)
          have q5 : ¬ ((cur.length : Nat) : Int) + 1 ≤ 10000 := by omega
          clear hf hts
          go_wp2_with (go_at_call 27; refine (HKN.out _).mono ?_; rintro e w2 ⟨rfl, rfl⟩)
          exact bodyPost_ret (v := .tuple #[.string ⟨tot.toArray⟩, .bool false]) (by rw [HFI.out]; simp [results, Tryz.results19, go_sem, str_app]; omega) rfl ⟨HBR.out, .inr ⟨HF.out, _, rfl⟩⟩

theorem rput_ext23 {B p k w n l N o : Nat} {rv : Value} {L : List Nd} {k0 k1 k2 : Int} {acc : By} {W : World} (ho : o = 23) (hI : RKids L k B p N rv) (S : RefAt B W p rv L) (hE : EnvAt (fun i => W.heap.size ≤ i) W) (hx : L[k]? = some ⟨o, w, k0, k1, k2, n, l⟩) (hl : acc.length + 64 * k ≤ N) (hN : 10064 + 64 * k ≤ N) (hN9 : N ≤ 9000000) :
    Calls Tryz.prog 19 #[.pointer (some ⟨p, 0, none⟩), .int .i64 ((k : Nat) : Int), .string ⟨acc.toArray⟩] W (RPut (acc ++ txt L k) W) := by
  obtain ⟨x, hxe⟩ : ∃ x : Nd, x = ⟨o, w, k0, k1, k2, n, l⟩ := ⟨_, rfl⟩
  have hw := S.good.w _ (List.mem_of_getElem? hx)
  have hok := S.good.ok _ (List.mem_of_getElem? hx)
  have hwle : w ≤ 64 := hw.2
  have hlle : l ≤ 255 := hok.l
  have hkid : ∀ j, j < kc o → 0 ≤ x.kid j ∧ x.kid j < ((k : Nat) : Int) := by rw [hxe]; exact S.good.kid k _ hx
  have htx : acc ++ txt L k = acc ++ [40] ++ nm o ++ [32] ++ dec w ++ (kidsT (txt L) x (kc o) ++ [41]) := by
    rw [txt_is S.good hx, ← hxe]
    unfold bodyT hd
    rw [hxe]
    simp only []
    rw [if_neg (by omega), if_neg (by omega), if_neg (by omega), if_pos (.inr (.inl ho))]
    simp
  have hkl : k < L.length := (List.getElem?_eq_some_iff.1 hx).1
  obtain ⟨g, gc, rfl, hcg⟩ := row_nd_at S.row hx
  obtain ⟨m0, m1, m2, m3, m4, m5, m6⟩ := cells_near (fun j u hj => hcg k _ hx j u hj)
  have lg : g < W.heap.size := World.block_lt_of_cell? W _ m0
  have s0 := S.c0
  have lpr := S.lt
  have q0 : (0 : Int) ≤ ((k : Nat) : Int) := by omega
  have q1 : ((k : Nat) : Int) < ((L.length : Nat) : Int) := by omega
  have d1 : (((o : Nat) : Int) == 1) = false := by simp; omega
  have d2 : (((o : Nat) : Int) == 2) = false := by simp; omega
  have d22 : (((o : Nat) : Int) == 22) = false := by simp; omega
  have e23 : (((o : Nat) : Int) == 23) = true := by rw [ho]; rfl
  have cw : IntKind.i64.wrap ((w : Nat) : Int) = ((w : Nat) : Int) := by rw [IntKind.wrap_i64]; omega
  have ho' : 3 ≤ o ∧ o ≤ 25 := by omega
  have HNM : Hid (∀ u : World, Calls Tryz.prog 9 #[.int .u8 ((o : Nat) : Int)] u fun e w' => e = .returned (.string ⟨(nm o).toArray⟩) ∧ Below u.heap.size u w') := Lib.hid (fun u => rname_any (o := o) (by omega) u)
  have HKN : Hid (∀ W : World, Calls Tryz.prog 27 #[.int .u8 ((o : Nat) : Int)] W fun e W' => e = .returned (.int .i64 ((kc o : Nat) : Int)) ∧ W = W') := Lib.hid (fun W => by have h := rkids_any o W; rwa [rk_kc (by omega)] at h)
  have HLEN : Hid (∀ i, i < kc o → (kidsT (txt L) x (i + 1)).length ≤ (kidsT (txt L) x (kc o)).length) := Lib.hid (fun i hi => kidsT_le hi)
  have hnl := nm_len o
  have hdw : (dec w).length ≤ 20 := dec_len (by omega)
  have hdl : (dec l).length ≤ 20 := dec_len (by omega)
  have cb : acc.length ≤ 9000000 := by omega
  have HWL := Lib.hid (show w ≤ 1000000 by omega)
  have HLL := Lib.hid (show l ≤ 1000000 by omega)
  have HTX := Lib.hid htx
  have HKID := Lib.hid hkid
  have HXE := Lib.hid hxe
  have HE := Lib.hid hE
  have HS := Lib.hid S
  have HI := Lib.hid hI
  have HNB := Lib.hid (And.intro hl (And.intro hN hN9))
  have hkc3 : kc o ≤ 3 := kc_le o
  have HK3 := Lib.hid hkc3
  obtain ⟨kcn, hkcn⟩ : ∃ kcn, kc o = kcn := ⟨_, rfl⟩
  rw [hkcn] at HTX HKID HLEN HKN HK3
  obtain ⟨nmv, hnmv⟩ : ∃ nmv, nm o = nmv := ⟨_, rfl⟩
  rw [hnmv] at HTX HNM hnl
  obtain ⟨tot, htot⟩ : ∃ tot, acc ++ txt L k = tot := ⟨_, rfl⟩
  rw [htot] at HTX ⊢
  obtain ⟨s3, hs3⟩ : ∃ s3 : By, s3 = acc ++ [40] ++ nmv ++ [32] ++ dec w := ⟨_, rfl⟩
  rw [← hs3] at HTX
  have HS3 := Lib.hid hs3
  have HSL := Lib.hid (show s3.length ≤ acc.length + 50 by rw [hs3]; simp; omega)
  have HB0 := Lib.hid (bel_alloc (Below.refl W.heap.size W) (.cells #[.int .u8 ((o : Nat) : Int), .int .u8 ((w : Nat) : Int), .int .i64 k0, .int .i64 k1, .int .i64 k2, .int .u64 ((n : Nat) : Int), .int .u8 ((l : Nat) : Int)] 48))
  have HA0 := Lib.hid (At7.new W (.int .u8 ((o : Nat) : Int)) (.int .u8 ((w : Nat) : Int)) (.int .i64 k0) (.int .i64 k1) (.int .i64 k2) (.int .u64 ((n : Nat) : Int)) (.int .u8 ((l : Nat) : Int)) 48)
  clear S hE hw hok hx hcg hl hN hN9 hI htx hkid hxe hkcn hnmv htot hs3 hkc3 ho ho'
  · skip
    go_enter Tryz.func19, Tryz.ntmps19
    go_wp2_with (first
    | (go_at_call 9; refine (HNM.out _).mono ?_; rintro e w1 ⟨rfl, hb1⟩; have HB1 := Lib.hid (bel_call HB0.out hb1); have HA1 := Lib.hid (At7.keep HA0.out hb1); have hA := HA1.out; unfold At7 at hA; obtain ⟨a0, a1, a2, a3, a4, a5, a6⟩ := hA; clear hb1)
    | (go_at_call 32; with_reducible refine (itoa_nat w HWL.out _ (env_at (B := 0) HE.out HB1.out).pw).mono ?_; rintro e w3 ⟨rfl, hb3⟩; have HB3 := Lib.hid (bel_call HB1.out hb3); have HA3 := Lib.hid (At7.keep HA1.out hb3); have hA := HA3.out; unfold At7 at hA; obtain ⟨a0, a1, a2, a3, a4, a5, a6⟩ := hA; clear hb3)
    | fail)
    clear a0 a1 a2 a3 a4 a5 a6
    go_loopg [2, 9] kcn (fun gk u2 u9 wr => ∃ i : Nat, u2 = .string ⟨(s3 ++ kidsT (txt L) x i).toArray⟩ ∧ u9 = .int .i64 ((i : Nat) : Int) ∧ i + gk = kcn ∧ ((s3 ++ kidsT (txt L) x i).length ≤ s3.length ∨ (s3 ++ kidsT (txt L) x i).length ≤ 10000) ∧ Below W.heap.size W wr ∧ At7 wr W.heap.size (.int .u8 ((o : Nat) : Int)) (.int .u8 ((w : Nat) : Int)) (.int .i64 k0) (.int .i64 k1) (.int .i64 k2) (.int .u64 ((n : Nat) : Int)) (.int .u8 ((l : Nat) : Int)))
    case atStart => exact ⟨0, by rw [HS3.out]; simp [str_app, kidsT], rfl, by omega, .inl (by simp [kidsT]), HB3.out, HA3.out⟩
    case round =>
      obtain ⟨i, rfl, rfl, hgk, hlen, hbr, hA⟩ := hrel
      have HBR := Lib.hid hbr
      have HLE := Lib.hid hlen
      have HAR := Lib.hid hA
      have HCUR : Hid (∀ j, s3 ++ kidsT (txt L) x (j + 1) = s3 ++ kidsT (txt L) x j ++ [32] ++ txt L (x.kid j).toNat) := Lib.hid (fun j => by simp [kidsT])
      obtain ⟨cur, hcur⟩ : ∃ cur, s3 ++ kidsT (txt L) x i = cur := ⟨_, rfl⟩
      rw [hcur] at HLE
      have HCI := Lib.hid hcur
      simp only [hcur]
      have hcl : cur.length ≤ 9000064 := by have := HLE.out; have := HSL.out; omega
      by_cases hin : i < kcn
      · obtain ⟨kd, hkd⟩ : ∃ kd : Nat, x.kid i = ((kd : Nat) : Int) := ⟨(x.kid i).toNat, by have := (HKID.out i hin).1; omega⟩
        have hkdl : kd < k := by have := (HKID.out i hin).2; omega
        have hck : wr.cell? ⟨W.heap.size, 2 + i, none⟩ = some (.int .i64 ((kd : Nat) : Int)) := by
          have h3 := HK3.out
          unfold At7 at hA
          rw [← hkd, HXE.out]
          match i, hin with
          | 0, _ => exact hA.2.2.1
          | 1, _ => exact hA.2.2.2.1
          | 2, _ => exact hA.2.2.2.2.1
          | (j + 3), h => omega
        have hnext : s3 ++ kidsT (txt L) x (i + 1) = cur ++ [32] ++ txt L kd := by rw [HCUR.out, hcur, hkd]; simp
        have htl : (cur ++ [32] ++ txt L kd).length ≤ tot.length := by rw [← hnext, HTX.out]; have := HLEN.out i hin; simp; omega
        have hcall := HI.out kd hkdl (cur ++ [32]) wr (HS.out.call hbr) (env_at (B := 0) HE.out hbr) (by have := HLE.out; have := HSL.out; have := HNB.out; simp; omega)
        rw [← str_app] at hcall
        have t1 : ((i : Nat) : Int) < ((kcn : Nat) : Int) := by omega
        have t0 : (0 : Int) ≤ ((i : Nat) : Int) := by omega
        have t3 : ((i : Nat) : Int) < 3 := by have := HK3.out; omega
        have r1 : IntKind.i64.wrap (((i : Nat) : Int) + 1) = (((i + 1 : Nat) : Nat) : Int) := by have := HK3.out; rw [IntKind.wrap_i64]; omega
        have r2 : wrap64 (((i : Nat) : Int) + 1) = (((i + 1 : Nat) : Nat) : Int) := by unfold wrap64; rw [← IntKind.wrap_i64]; exact r1
        have HR2 := Lib.hid r2
        have HGK := Lib.hid (And.intro hgk hin)
        have HNX := Lib.hid hnext
        have HTL := Lib.hid htl
        unfold At7 at hA
        obtain ⟨a0, a1, a2, a3, a4, a5, a6⟩ := hA
        by_cases hf : (cur ++ [32] ++ txt L kd).length ≤ 10000
        · have HC : Hid (Calls Tryz.prog 19 #[.pointer (some ⟨p, 0, none⟩), .int .i64 ((kd : Nat) : Int), .string (⟨cur.toArray⟩ ++ ⟨[32].toArray⟩)] wr fun e v => e = .returned (.tuple #[.string ⟨(cur ++ [32] ++ txt L kd).toArray⟩, .bool true]) ∧ Below wr.heap.size wr v) := by
            refine Lib.hid (hcall.mono ?_)
            rintro e v ⟨hb, ⟨_, rfl⟩ | ⟨h, _⟩⟩
            · exact ⟨rfl, hb⟩
            · omega
          have HF := Lib.hid hf
          generalize cur ++ [32] ++ txt L kd = cur2 at HNX HTL HC HF
          clear hin hgk hkdl hkd r1 r2 hbr hlen hnext htl hcall hf hcur
          go_wp2_with (first
            | (go_at_call 27; refine (HKN.out _).mono ?_; rintro e w2 ⟨rfl, rfl⟩)
            | (go_at_call 19; refine HC.out.mono ?_; rintro e w4 ⟨rfl, hb4⟩; have HB4 := Lib.hid (bel_call HBR.out hb4); have HA4 := Lib.hid (At7.keep HAR.out hb4); clear hb4))
          go_roundg (gk - 1)
          case measure => have := HGK.out; omega
          case rel => exact ⟨i + 1, by rw [HNX.out], by first | rfl | (rw [HR2.out]) | (congr 1; exact HR2.out), by have := HGK.out; omega, .inr (by rw [HNX.out]; exact HF.out), HB4.out, HA4.out⟩
        · have HC : Hid (Calls Tryz.prog 19 #[.pointer (some ⟨p, 0, none⟩), .int .i64 ((kd : Nat) : Int), .string (⟨cur.toArray⟩ ++ ⟨[32].toArray⟩)] wr fun e v => ∃ s, e = .returned (.tuple #[.string s, .bool false]) ∧ Below wr.heap.size wr v) := by
            refine Lib.hid (hcall.mono ?_)
            rintro e v ⟨hb, ⟨h, _⟩ | ⟨_, s, rfl⟩⟩
            · omega
            · exact ⟨s, rfl, hb⟩
          have HF := Lib.hid (show 10000 < tot.length by omega)
          clear hin hgk hkdl hkd r1 r2 hbr hlen hnext htl hcall hf hcur
          go_wp2_with (first
            | (go_at_call 27; refine (HKN.out _).mono ?_; rintro e w2 ⟨rfl, rfl⟩)
            | (go_at_call 19; refine HC.out.mono ?_; rintro e w4 ⟨s4, rfl, hb4⟩; have HB4 := Lib.hid (bel_call HBR.out hb4); clear hb4))
          exact bodyPost_ret (v := .tuple #[.string ⟨#[]⟩, .bool false]) (by simp [results, Tryz.results19, go_sem]) rfl ⟨HB4.out, .inr ⟨HF.out, _, rfl⟩⟩
      · have hie : i = kcn := by omega
        subst hie
        have hfin : tot = cur ++ [41] := by rw [HTX.out, ← hcur]; simp
        have t1 : ¬ ((i : Nat) : Int) < ((i : Nat) : Int) := by omega
        have HFI := Lib.hid hfin
        have hts : tot.length = cur.length + 1 := by rw [hfin]; simp
        unfold At7 at hA
        obtain ⟨a0, a1, a2, a3, a4, a5, a6⟩ := hA
        clear hin hgk hbr hlen hcur hfin
        by_cases hf : tot.length ≤ 10000
        · have HF := Lib.hid hf
          have q5 : ((cur.length : Nat) : Int) + 1 ≤ 10000 := by omega
          clear hf hts
          go_wp2_with (go_at_call 27; refine (HKN.out _).mono ?_; rintro e w2 ⟨rfl, rfl⟩)
          exact bodyPost_ret (v := .tuple #[.string ⟨tot.toArray⟩, .bool true]) (by rw [HFI.out]; simp [results, Tryz.results19, go_sem, str_app]) rfl ⟨HBR.out, .inl ⟨HF.out, rfl⟩⟩
        · have HF := Lib.hid (show 10000 < tot.length by omega)
          have q5 : ¬ ((cur.length : Nat) : Int) + 1 ≤ 10000 := by omega
          clear hf hts
          go_wp2_with (go_at_call 27; refine (HKN.out _).mono ?_; rintro e w2 ⟨rfl, rfl⟩)
          exact bodyPost_ret (v := .tuple #[.string ⟨tot.toArray⟩, .bool false]) (by rw [HFI.out]; simp [results, Tryz.results19, go_sem, str_app]; omega) rfl ⟨HBR.out, .inr ⟨HF.out, _, rfl⟩⟩

theorem rput_ext24 {B p k w n l N o : Nat} {rv : Value} {L : List Nd} {k0 k1 k2 : Int} {acc : By} {W : World} (ho : o = 24) (hI : RKids L k B p N rv) (S : RefAt B W p rv L) (hE : EnvAt (fun i => W.heap.size ≤ i) W) (hx : L[k]? = some ⟨o, w, k0, k1, k2, n, l⟩) (hl : acc.length + 64 * k ≤ N) (hN : 10064 + 64 * k ≤ N) (hN9 : N ≤ 9000000) :
    Calls Tryz.prog 19 #[.pointer (some ⟨p, 0, none⟩), .int .i64 ((k : Nat) : Int), .string ⟨acc.toArray⟩] W (RPut (acc ++ txt L k) W) := by
  obtain ⟨x, hxe⟩ : ∃ x : Nd, x = ⟨o, w, k0, k1, k2, n, l⟩ := ⟨_, rfl⟩
  have hw := S.good.w _ (List.mem_of_getElem? hx)
  have hok := S.good.ok _ (List.mem_of_getElem? hx)
  have hwle : w ≤ 64 := hw.2
  have hlle : l ≤ 255 := hok.l
  have hkid : ∀ j, j < kc o → 0 ≤ x.kid j ∧ x.kid j < ((k : Nat) : Int) := by rw [hxe]; exact S.good.kid k _ hx
  have htx : acc ++ txt L k = acc ++ [40] ++ nm o ++ [32] ++ dec w ++ (kidsT (txt L) x (kc o) ++ [41]) := by
    rw [txt_is S.good hx, ← hxe]
    unfold bodyT hd
    rw [hxe]
    simp only []
    rw [if_neg (by omega), if_neg (by omega), if_neg (by omega), if_pos (.inr (.inr ho))]
    simp
  have hkl : k < L.length := (List.getElem?_eq_some_iff.1 hx).1
  obtain ⟨g, gc, rfl, hcg⟩ := row_nd_at S.row hx
  obtain ⟨m0, m1, m2, m3, m4, m5, m6⟩ := cells_near (fun j u hj => hcg k _ hx j u hj)
  have lg : g < W.heap.size := World.block_lt_of_cell? W _ m0
  have s0 := S.c0
  have lpr := S.lt
  have q0 : (0 : Int) ≤ ((k : Nat) : Int) := by omega
  have q1 : ((k : Nat) : Int) < ((L.length : Nat) : Int) := by omega
  have d1 : (((o : Nat) : Int) == 1) = false := by simp; omega
  have d2 : (((o : Nat) : Int) == 2) = false := by simp; omega
  have d22 : (((o : Nat) : Int) == 22) = false := by simp; omega
  have d23 : (((o : Nat) : Int) == 23) = false := by simp; omega
  have e24 : (((o : Nat) : Int) == 24) = true := by rw [ho]; rfl
  have cw : IntKind.i64.wrap ((w : Nat) : Int) = ((w : Nat) : Int) := by rw [IntKind.wrap_i64]; omega
  have ho' : 3 ≤ o ∧ o ≤ 25 := by omega
  have HNM : Hid (∀ u : World, Calls Tryz.prog 9 #[.int .u8 ((o : Nat) : Int)] u fun e w' => e = .returned (.string ⟨(nm o).toArray⟩) ∧ Below u.heap.size u w') := Lib.hid (fun u => rname_any (o := o) (by omega) u)
  have HKN : Hid (∀ W : World, Calls Tryz.prog 27 #[.int .u8 ((o : Nat) : Int)] W fun e W' => e = .returned (.int .i64 ((kc o : Nat) : Int)) ∧ W = W') := Lib.hid (fun W => by have h := rkids_any o W; rwa [rk_kc (by omega)] at h)
  have HLEN : Hid (∀ i, i < kc o → (kidsT (txt L) x (i + 1)).length ≤ (kidsT (txt L) x (kc o)).length) := Lib.hid (fun i hi => kidsT_le hi)
  have hnl := nm_len o
  have hdw : (dec w).length ≤ 20 := dec_len (by omega)
  have hdl : (dec l).length ≤ 20 := dec_len (by omega)
  have cb : acc.length ≤ 9000000 := by omega
  have HWL := Lib.hid (show w ≤ 1000000 by omega)
  have HLL := Lib.hid (show l ≤ 1000000 by omega)
  have HTX := Lib.hid htx
  have HKID := Lib.hid hkid
  have HXE := Lib.hid hxe
  have HE := Lib.hid hE
  have HS := Lib.hid S
  have HI := Lib.hid hI
  have HNB := Lib.hid (And.intro hl (And.intro hN hN9))
  have hkc3 : kc o ≤ 3 := kc_le o
  have HK3 := Lib.hid hkc3
  obtain ⟨kcn, hkcn⟩ : ∃ kcn, kc o = kcn := ⟨_, rfl⟩
  rw [hkcn] at HTX HKID HLEN HKN HK3
  obtain ⟨nmv, hnmv⟩ : ∃ nmv, nm o = nmv := ⟨_, rfl⟩
  rw [hnmv] at HTX HNM hnl
  obtain ⟨tot, htot⟩ : ∃ tot, acc ++ txt L k = tot := ⟨_, rfl⟩
  rw [htot] at HTX ⊢
  obtain ⟨s3, hs3⟩ : ∃ s3 : By, s3 = acc ++ [40] ++ nmv ++ [32] ++ dec w := ⟨_, rfl⟩
  rw [← hs3] at HTX
  have HS3 := Lib.hid hs3
  have HSL := Lib.hid (show s3.length ≤ acc.length + 50 by rw [hs3]; simp; omega)
  have HB0 := Lib.hid (bel_alloc (Below.refl W.heap.size W) (.cells #[.int .u8 ((o : Nat) : Int), .int .u8 ((w : Nat) : Int), .int .i64 k0, .int .i64 k1, .int .i64 k2, .int .u64 ((n : Nat) : Int), .int .u8 ((l : Nat) : Int)] 48))
  have HA0 := Lib.hid (At7.new W (.int .u8 ((o : Nat) : Int)) (.int .u8 ((w : Nat) : Int)) (.int .i64 k0) (.int .i64 k1) (.int .i64 k2) (.int .u64 ((n : Nat) : Int)) (.int .u8 ((l : Nat) : Int)) 48)
  clear S hE hw hok hx hcg hl hN hN9 hI htx hkid hxe hkcn hnmv htot hs3 hkc3 ho ho'
  · skip
    go_enter Tryz.func19, Tryz.ntmps19
    go_wp2_with (first
    | (go_at_call 9; refine (HNM.out _).mono ?_; rintro e w1 ⟨rfl, hb1⟩; have HB1 := Lib.hid (bel_call HB0.out hb1); have HA1 := Lib.hid (At7.keep HA0.out hb1); have hA := HA1.out; unfold At7 at hA; obtain ⟨a0, a1, a2, a3, a4, a5, a6⟩ := hA; clear hb1)
    | (go_at_call 32; with_reducible refine (itoa_nat w HWL.out _ (env_at (B := 0) HE.out HB1.out).pw).mono ?_; rintro e w3 ⟨rfl, hb3⟩; have HB3 := Lib.hid (bel_call HB1.out hb3); have HA3 := Lib.hid (At7.keep HA1.out hb3); have hA := HA3.out; unfold At7 at hA; obtain ⟨a0, a1, a2, a3, a4, a5, a6⟩ := hA; clear hb3)
    | fail)
    clear a0 a1 a2 a3 a4 a5 a6
    go_loopg [2, 9] kcn (fun gk u2 u9 wr => ∃ i : Nat, u2 = .string ⟨(s3 ++ kidsT (txt L) x i).toArray⟩ ∧ u9 = .int .i64 ((i : Nat) : Int) ∧ i + gk = kcn ∧ ((s3 ++ kidsT (txt L) x i).length ≤ s3.length ∨ (s3 ++ kidsT (txt L) x i).length ≤ 10000) ∧ Below W.heap.size W wr ∧ At7 wr W.heap.size (.int .u8 ((o : Nat) : Int)) (.int .u8 ((w : Nat) : Int)) (.int .i64 k0) (.int .i64 k1) (.int .i64 k2) (.int .u64 ((n : Nat) : Int)) (.int .u8 ((l : Nat) : Int)))
    case atStart => exact ⟨0, by rw [HS3.out]; simp [str_app, kidsT], rfl, by omega, .inl (by simp [kidsT]), HB3.out, HA3.out⟩
    case round =>
      obtain ⟨i, rfl, rfl, hgk, hlen, hbr, hA⟩ := hrel
      have HBR := Lib.hid hbr
      have HLE := Lib.hid hlen
      have HAR := Lib.hid hA
      have HCUR : Hid (∀ j, s3 ++ kidsT (txt L) x (j + 1) = s3 ++ kidsT (txt L) x j ++ [32] ++ txt L (x.kid j).toNat) := Lib.hid (fun j => by simp [kidsT])
      obtain ⟨cur, hcur⟩ : ∃ cur, s3 ++ kidsT (txt L) x i = cur := ⟨_, rfl⟩
      rw [hcur] at HLE
      have HCI := Lib.hid hcur
      simp only [hcur]
      have hcl : cur.length ≤ 9000064 := by have := HLE.out; have := HSL.out; omega
      by_cases hin : i < kcn
      · obtain ⟨kd, hkd⟩ : ∃ kd : Nat, x.kid i = ((kd : Nat) : Int) := ⟨(x.kid i).toNat, by have := (HKID.out i hin).1; omega⟩
        have hkdl : kd < k := by have := (HKID.out i hin).2; omega
        have hck : wr.cell? ⟨W.heap.size, 2 + i, none⟩ = some (.int .i64 ((kd : Nat) : Int)) := by
          have h3 := HK3.out
          unfold At7 at hA
          rw [← hkd, HXE.out]
          match i, hin with
          | 0, _ => exact hA.2.2.1
          | 1, _ => exact hA.2.2.2.1
          | 2, _ => exact hA.2.2.2.2.1
          | (j + 3), h => omega
        have hnext : s3 ++ kidsT (txt L) x (i + 1) = cur ++ [32] ++ txt L kd := by rw [HCUR.out, hcur, hkd]; simp
        have htl : (cur ++ [32] ++ txt L kd).length ≤ tot.length := by rw [← hnext, HTX.out]; have := HLEN.out i hin; simp; omega
        have hcall := HI.out kd hkdl (cur ++ [32]) wr (HS.out.call hbr) (env_at (B := 0) HE.out hbr) (by have := HLE.out; have := HSL.out; have := HNB.out; simp; omega)
        rw [← str_app] at hcall
        have t1 : ((i : Nat) : Int) < ((kcn : Nat) : Int) := by omega
        have t0 : (0 : Int) ≤ ((i : Nat) : Int) := by omega
        have t3 : ((i : Nat) : Int) < 3 := by have := HK3.out; omega
        have r1 : IntKind.i64.wrap (((i : Nat) : Int) + 1) = (((i + 1 : Nat) : Nat) : Int) := by have := HK3.out; rw [IntKind.wrap_i64]; omega
        have r2 : wrap64 (((i : Nat) : Int) + 1) = (((i + 1 : Nat) : Nat) : Int) := by unfold wrap64; rw [← IntKind.wrap_i64]; exact r1
        have HR2 := Lib.hid r2
        have HGK := Lib.hid (And.intro hgk hin)
        have HNX := Lib.hid hnext
        have HTL := Lib.hid htl
        unfold At7 at hA
        obtain ⟨a0, a1, a2, a3, a4, a5, a6⟩ := hA
        by_cases hf : (cur ++ [32] ++ txt L kd).length ≤ 10000
        · have HC : Hid (Calls Tryz.prog 19 #[.pointer (some ⟨p, 0, none⟩), .int .i64 ((kd : Nat) : Int), .string (⟨cur.toArray⟩ ++ ⟨[32].toArray⟩)] wr fun e v => e = .returned (.tuple #[.string ⟨(cur ++ [32] ++ txt L kd).toArray⟩, .bool true]) ∧ Below wr.heap.size wr v) := by
            refine Lib.hid (hcall.mono ?_)
            rintro e v ⟨hb, ⟨_, rfl⟩ | ⟨h, _⟩⟩
            · exact ⟨rfl, hb⟩
            · omega
          have HF := Lib.hid hf
          generalize cur ++ [32] ++ txt L kd = cur2 at HNX HTL HC HF
          clear hin hgk hkdl hkd r1 r2 hbr hlen hnext htl hcall hf hcur
          go_wp2_with (first
            | (go_at_call 27; refine (HKN.out _).mono ?_; rintro e w2 ⟨rfl, rfl⟩)
            | (go_at_call 19; refine HC.out.mono ?_; rintro e w4 ⟨rfl, hb4⟩; have HB4 := Lib.hid (bel_call HBR.out hb4); have HA4 := Lib.hid (At7.keep HAR.out hb4); clear hb4))
          go_roundg (gk - 1)
          case measure => have := HGK.out; omega
          case rel => exact ⟨i + 1, by rw [HNX.out], by first | rfl | (rw [HR2.out]) | (congr 1; exact HR2.out), by have := HGK.out; omega, .inr (by rw [HNX.out]; exact HF.out), HB4.out, HA4.out⟩
        · have HC : Hid (Calls Tryz.prog 19 #[.pointer (some ⟨p, 0, none⟩), .int .i64 ((kd : Nat) : Int), .string (⟨cur.toArray⟩ ++ ⟨[32].toArray⟩)] wr fun e v => ∃ s, e = .returned (.tuple #[.string s, .bool false]) ∧ Below wr.heap.size wr v) := by
            refine Lib.hid (hcall.mono ?_)
            rintro e v ⟨hb, ⟨h, _⟩ | ⟨_, s, rfl⟩⟩
            · omega
            · exact ⟨s, rfl, hb⟩
          have HF := Lib.hid (show 10000 < tot.length by omega)
          clear hin hgk hkdl hkd r1 r2 hbr hlen hnext htl hcall hf hcur
          go_wp2_with (first
            | (go_at_call 27; refine (HKN.out _).mono ?_; rintro e w2 ⟨rfl, rfl⟩)
            | (go_at_call 19; refine HC.out.mono ?_; rintro e w4 ⟨s4, rfl, hb4⟩; have HB4 := Lib.hid (bel_call HBR.out hb4); clear hb4))
          exact bodyPost_ret (v := .tuple #[.string ⟨#[]⟩, .bool false]) (by simp [results, Tryz.results19, go_sem]) rfl ⟨HB4.out, .inr ⟨HF.out, _, rfl⟩⟩
      · have hie : i = kcn := by omega
        subst hie
        have hfin : tot = cur ++ [41] := by rw [HTX.out, ← hcur]; simp
        have t1 : ¬ ((i : Nat) : Int) < ((i : Nat) : Int) := by omega
        have HFI := Lib.hid hfin
        have hts : tot.length = cur.length + 1 := by rw [hfin]; simp
        unfold At7 at hA
        obtain ⟨a0, a1, a2, a3, a4, a5, a6⟩ := hA
        clear hin hgk hbr hlen hcur hfin
        by_cases hf : tot.length ≤ 10000
        · have HF := Lib.hid hf
          have q5 : ((cur.length : Nat) : Int) + 1 ≤ 10000 := by omega
          clear hf hts
          go_wp2_with (go_at_call 27; refine (HKN.out _).mono ?_; rintro e w2 ⟨rfl, rfl⟩)
          exact bodyPost_ret (v := .tuple #[.string ⟨tot.toArray⟩, .bool true]) (by rw [HFI.out]; simp [results, Tryz.results19, go_sem, str_app]) rfl ⟨HBR.out, .inl ⟨HF.out, rfl⟩⟩
        · have HF := Lib.hid (show 10000 < tot.length by omega)
          have q5 : ¬ ((cur.length : Nat) : Int) + 1 ≤ 10000 := by omega
          clear hf hts
          go_wp2_with (go_at_call 27; refine (HKN.out _).mono ?_; rintro e w2 ⟨rfl, rfl⟩)
          exact bodyPost_ret (v := .tuple #[.string ⟨tot.toArray⟩, .bool false]) (by rw [HFI.out]; simp [results, Tryz.results19, go_sem, str_app]; omega) rfl ⟨HBR.out, .inr ⟨HF.out, _, rfl⟩⟩

end Tx
end Go.Proofs.YtjinjddcnjcffaaGreatDoor
