/-
  The document's Read, as a fact on one call.
-/
import Derived.Test.YtcpehdeddgfpmaaDoorCfParts
import Derived.Deep.Cut
namespace Go.Proofs.YtcpehdeddgfpmaaDoor
open Go.RowKit
namespace Cf
set_option maxHeartbeats 2000000
set_option maxRecDepth 100000

def readD (m : Bool) (d : By) : Option Int :=
  if d = [] ∨ 9 < d.length ∨ (d.head? = some 48 ∧ (1 < d.length ∨ m = true)) then none
  else if d.all digB then some (if m then -(valB d : Int) else valB d) else none
theorem read_minus {S d : By} (h : S = 45 :: d) : readB S = readD true d := by subst h; rfl
theorem read_plain {S : By} (h : S.head? ≠ some 45) : readB S = readD false S := by
  unfold readB readD
  have : (S.head? == some 45) = false := by simpa using h
  rw [this]
  rfl
theorem readD_empty {m : Bool} {d : By} (h : d = []) : readD m d = none := by unfold readD; rw [if_pos (.inl h)]
theorem readD_long {m : Bool} {d : By} (h : 9 < d.length) : readD m d = none := by unfold readD; rw [if_pos (.inr (.inl h))]
theorem readD_zero {m : Bool} {d : By} (h : d.head? = some 48) (h2 : 1 < d.length ∨ m = true) : readD m d = none := by unfold readD; rw [if_pos (.inr (.inr ⟨h, h2⟩))]
theorem readD_digit {m : Bool} {d : By} {c : UInt8} (h : c ∈ d) (h2 : digB c = false) : readD m d = none := by
  unfold readD
  have : d.all digB = false := by
    cases hh : d.all digB with
    | false => rfl
    | true => rw [List.all_eq_true.1 hh c h] at h2; cases h2
  rw [this]
  simp
theorem readD_yes {m : Bool} {d : By} (h1 : d ≠ []) (h2 : d.length ≤ 9) (h3 : ¬ (d.head? = some 48 ∧ (1 < d.length ∨ m = true))) (h4 : d.all digB = true) : readD m d = some (if m = true then -((valB d : Nat) : Int) else ((valB d : Nat) : Int)) := by
  unfold readD
  rw [if_neg (by rintro (c | c | c); exact h1 c; omega; exact h3 c), if_pos h4]
theorem bsize (s : ByteArray) : s.size = s.data.toList.length := (Array.length_toList).symm
theorem tlen (s : ByteArray) : s.toList.length = s.size := by rw [ByteArray.toList_eq]; exact Array.length_toList
theorem ne_size {s : ByteArray} (h : 0 < s.size) : s.data.toList ≠ [] := fun c => by
  have e := bsize s
  rw [c] at e
  have e2 : s.size = 0 := e
  omega
theorem byte_at {s : ByteArray} {i : Nat} {c : UInt8} (hi : i < s.size) (hc : s[i]'hi = c) : s.data.toList[i]? = some c := by
  subst hc
  rw [List.getElem?_eq_getElem (by rw [← bsize]; exact hi)]
  rfl
theorem byte_head {s : ByteArray} (h : 0 < s.size) {c : UInt8} (hc : ((s[0]'h).toNat : Int) = ((c.toNat : Nat) : Int)) : s.data.toList.head? = some c := by
  have := byte_at (c := s[0]'h) h rfl
  rw [List.head?_eq_getElem?, this]
  exact congrArg some (UInt8.toNat_inj.1 (by omega))
theorem byte_head_ne {s : ByteArray} (h : 0 < s.size) {c : UInt8} (hc : ¬ ((s[0]'h).toNat : Int) = ((c.toNat : Nat) : Int)) : s.data.toList.head? ≠ some c := by
  have := byte_at (c := s[0]'h) h rfl
  rw [List.head?_eq_getElem?, this]
  intro e
  injection e with e
  exact hc (by rw [e])
theorem str_tail {s : ByteArray} (h : 0 < s.size) (h45 : ((s[0]'h).toNat : Int) = 45) : s.data.toList = 45 :: (s.extract 1 s.size).data.toList := by
  have e := drop_byte (c := s[0]'h) h rfl
  rw [List.drop_zero] at e
  have hc : s[0]'h = 45 := UInt8.toNat_inj.1 (by have : (45 : UInt8).toNat = 45 := rfl; omega)
  rw [hc] at e
  rw [e]
  congr 1
  rw [ByteArray.data_extract]
  simp only [Array.toList_extract, List.extract_eq_take_drop]
  rw [List.take_of_length_le (by rw [List.length_drop, ← bsize]; exact Nat.le_refl _)]
theorem val_lt0 : ∀ {l : By} {acc : Nat}, l.all digB = true → l.foldl (fun n c => 10 * n + (c.toNat - 48)) acc < (acc + 1) * 10 ^ l.length
  | [], acc, _ => by simp
  | c :: r, acc, h => by
    rw [List.all_cons, Bool.and_eq_true] at h
    have hc := h.1
    unfold digB at hc
    simp at hc
    have ih := val_lt0 (l := r) (acc := 10 * acc + (c.toNat - 48)) h.2
    rw [List.foldl_cons, List.length_cons, Nat.pow_succ, Nat.mul_comm (10 ^ r.length) 10, ← Nat.mul_assoc]
    refine Nat.lt_of_lt_of_le ih (Nat.mul_le_mul_right _ (by omega))
theorem val_lt {l : By} (h : l.all digB = true) : valB l < 10 ^ l.length := by
  have := val_lt0 (acc := 0) h
  simpa [valB] using this
theorem take_byte {l : By} {i : Nat} {c : UInt8} (h : l[i]? = some c) : l.take (i + 1) = l.take i ++ [c] := by rw [List.take_add_one, h]; rfl
theorem wrap_u8 (n : Int) : IntKind.u8.wrap n = n % 256 := by simp [IntKind.wrap, IntKind.bits, IntKind.signed]
theorem ret_io {r : Option Int} {z : Int} {b : Bool} (h1 : z = r.getD 0) (h2 : b = r.isSome) : Ending.returned (.tuple #[.int .i64 z, .bool b]) = .returned (.tuple #[.int .i64 (r.getD 0), .bool r.isSome]) := by rw [h1, h2]

theorem rread_any {s : ByteArray} {W : World} :
    Calls Tryd.prog 21 #[.string s] W fun e w => e = .returned (.tuple #[.int .i64 ((readB s.data.toList).getD 0), .bool (readB s.data.toList).isSome]) ∧ W = w := by
  obtain ⟨R, hR⟩ : ∃ R, R = readB s.data.toList := ⟨_, rfl⟩
  rw [← hR]
  by_cases hm : ∃ h : 0 < s.size, ((s[0]'h).toNat : Int) = 45
  · obtain ⟨h0, h45⟩ := hm
    obtain ⟨D, hD⟩ : ∃ D, D = s.extract 1 s.size := ⟨_, rfl⟩
    obtain ⟨DL, hDL⟩ : ∃ DL, D.data.toList = DL := ⟨_, rfl⟩
    have HDL := Lib.hid hDL
    have HR : Hid (R = readD true DL) := by
      show _ = _
      rw [hR, read_minus (d := DL)]
      rw [← hDL, hD]
      exact str_tail h0 h45
    have e1 : s.toList.isEmpty = false := by
      cases h : s.toList with
      | nil => have := tlen s; rw [h] at this; simp at this; omega
      | cons _ _ => rfl
    have e2 : (!s.toList.isEmpty) = true := by rw [e1]; rfl
    have d45 : (((s[0]'h0).toNat : Int) == 45) = true := by simpa using h45
    have HD := Lib.hid hD
    have s1 : (1 : Int) ≤ ((s.size : Nat) : Int) := by omega
    clear hR hDL hD h45
    go_enter Tryd.func21, Tryd.ntmps21
    go_upto_region 5 with fail
    rw [← HD.out]
    clear e1 e2 d45 s1 HD
    by_cases hz : D.size = 0
    · have HE : Hid (R = none) := by
        show _ = _
        rw [HR.out, readD_empty (by rw [← HDL.out]; exact List.length_eq_zero_iff.1 (by rw [← bsize]; exact hz))]
      have e1 : D.toList = [] := List.length_eq_zero_iff.1 (by rw [tlen]; exact hz)
      have e2 : D.toList.isEmpty = true := by rw [e1]; rfl
      clear hz
      go_wp2_with fail
      go_ret2
      exact ⟨ret_io (r := R) (by rw [HE.out]; rfl) (by rw [HE.out]; rfl), rfl⟩
    have e3 : D.toList.isEmpty = false := by
      cases h : D.toList with
      | nil => have := tlen D; rw [h] at this; simp at this; omega
      | cons _ _ => rfl
    have z0 : 0 < D.size := by omega
    have z0' : decide (0 < D.size) = true := decide_eq_true z0
    have HZ := Lib.hid hz
    clear hz
    by_cases h9 : 9 < D.size
    · have HE : Hid (R = none) := by
        show _ = _
        rw [HR.out, readD_long (by rw [← HDL.out, ← bsize]; exact h9)]
      have p9 : (9 : Int) < ((D.size : Nat) : Int) := by omega
      clear h9
      go_wp2_with fail
      go_ret2
      exact ⟨ret_io (r := R) (by rw [HE.out]; rfl) (by rw [HE.out]; rfl), rfl⟩
    have p9 : decide ((9 : Int) < ((D.size : Nat) : Int)) = false := decide_eq_false (by omega)
    have H9 := Lib.hid h9
    have hD9 : D.size ≤ 9 := by omega
    clear h9
    by_cases h48 : ((D[0]'z0).toNat : Int) = 48
    · have d48 : (((D[0]'z0).toNat : Int) == 48) = true := by simpa using h48
      have HE : Hid (R = none) := by
        show _ = _
        rw [HR.out, readD_zero (by rw [← HDL.out]; exact byte_head z0 (by have : (48 : UInt8).toNat = 48 := rfl; omega)) (.inr rfl)]
      clear h48
      by_cases h1 : 1 < D.size
      · have p1 : (1 : Int) < ((D.size : Nat) : Int) := by omega
        go_wp2_with fail
        go_ret2
        exact ⟨ret_io (r := R) (by rw [HE.out]; rfl) (by rw [HE.out]; rfl), rfl⟩
      · have p1 : decide ((1 : Int) < ((D.size : Nat) : Int)) = false := decide_eq_false (by omega)
        go_wp2_with fail
        go_ret2
        exact ⟨ret_io (r := R) (by rw [HE.out]; rfl) (by rw [HE.out]; rfl), rfl⟩
    · have d48 : (((D[0]'z0).toNat : Int) == 48) = false := by simpa using h48
      have HNE : Hid (¬ (DL.head? = some 48 ∧ (1 < DL.length ∨ true = true))) := by
        show ¬ _
        rw [← HDL.out]
        exact fun c => byte_head_ne z0 (by have : (48 : UInt8).toNat = 48 := rfl; omega) c.1
      clear h48
      go_wp2_with fail
      go_loopg [5, 6] D.size (fun gk v5 v6 wr => ∃ (i n : Nat), v5 = .int .i64 ((n : Nat) : Int) ∧ v6 = .int .i64 ((i : Nat) : Int) ∧ i + gk = D.size ∧ W = wr ∧ n = valB (DL.take i) ∧ (DL.take i).all digB = true)
      case atStart => exact ⟨0, 0, rfl, rfl, by omega, rfl, rfl, rfl⟩
      case round =>
        obtain ⟨i, n, rfl, rfl, hi, rfl, hn, hall⟩ := hrel
        have HI := Lib.hid hi
        have HN := Lib.hid hn
        have HALL := Lib.hid hall
        have hn9 : n ≤ 1000000000 := by
          have := val_lt hall
          have h2 : (DL.take i).length ≤ 9 := by rw [List.length_take, ← HDL.out, ← bsize]; omega
          have h3 : 10 ^ (DL.take i).length ≤ 10 ^ 9 := Nat.pow_le_pow_right (by decide) h2
          omega
        have q0 : (0 : Int) ≤ ((i : Nat) : Int) := by omega
        by_cases hlt : i < D.size
        · have q1 : ((i : Nat) : Int) < ((D.size : Nat) : Int) := by omega
          have q5 : decide (i < D.size) = true := decide_eq_true hlt
          have HS := Lib.hid (step_i (j := i) (by omega))
          obtain ⟨c, hc⟩ : ∃ c, c = D[i]'hlt := ⟨_, rfl⟩
          have HD := Lib.hid (HDL.out ▸ byte_at hlt hc.symm)
          have HC := Lib.hid hc
          clear hi hn hall
          by_cases hdg : digB c = true
          · have hb : 48 ≤ ((D[i]'hlt).toNat : Int) ∧ ((D[i]'hlt).toNat : Int) ≤ 57 := by
              rw [← hc]; unfold digB at hdg; simp at hdg; omega
            obtain ⟨b1, b2⟩ := hb
            have d1 : decide (((D[i]'hlt).toNat : Int) < 48) = false := decide_eq_false (by omega)
            have d2 : decide ((57 : Int) < ((D[i]'hlt).toNat : Int)) = false := decide_eq_false (by omega)
            have w8 : IntKind.u8.wrap (((D[i]'hlt).toNat : Int) - 48) = ((D[i]'hlt).toNat : Int) - 48 := by rw [wrap_u8]; omega
            have HB := Lib.hid (And.intro b1 b2)
            have HDG := Lib.hid hdg
            clear hdg hc
            go_wp2_with fail
            go_roundg (gk - 1)
            case measure => have := HI.out; omega
            case rel => exact ⟨i + 1, 10 * n + (c.toNat - 48), by congr 1; have := HB.out; rw [HC.out]; omega, by first | rfl | (rw [HS.out.1]) | (congr 1; exact HS.out.1), by have := HI.out; omega, rfl, by rw [take_byte HD.out, val_snoc, HN.out], by rw [take_byte HD.out, List.all_append, HALL.out]; simp [HDG.out]⟩
          · have HE : Hid (R = none) := by
              show _ = _
              rw [HR.out, readD_digit (List.mem_of_getElem? HD.out) (by simpa using hdg)]
            by_cases hlo : ((D[i]'hlt).toNat : Int) < 48
            · clear hdg hc
              go_wp2_with fail
              go_ret2
              exact ⟨ret_io (r := R) (by rw [HE.out]; rfl) (by rw [HE.out]; rfl), rfl⟩
            · have d1 : decide (((D[i]'hlt).toNat : Int) < 48) = false := decide_eq_false hlo
              have d2 : (57 : Int) < ((D[i]'hlt).toNat : Int) := by
                rw [← hc] at hlo ⊢
                unfold digB at hdg; simp at hdg; omega
              clear hdg hc hlo
              go_wp2_with fail
              go_ret2
              exact ⟨ret_io (r := R) (by rw [HE.out]; rfl) (by rw [HE.out]; rfl), rfl⟩
        · have q1 : decide (((i : Nat) : Int) < ((D.size : Nat) : Int)) = false := decide_eq_false (by omega)
          have q5 : decide (i < D.size) = false := decide_eq_false hlt
          have HTK : Hid (DL.take i = DL) := by
            show _ = _
            exact List.take_of_length_le (by rw [← HDL.out, ← bsize]; omega)
          have HE : Hid (R = some (if true = true then -((n : Nat) : Int) else ((n : Nat) : Int))) := by
            show _ = _
            rw [HR.out, readD_yes (by rw [← HDL.out]; exact ne_size z0) (by rw [← HDL.out, ← bsize]; exact hD9) (by simpa using HNE.out), HN.out, HTK.out]
            · rw [← HTK.out]; exact HALL.out
          clear hi hn hall hlt
          go_wp2_with fail
          go_ret2
          exact ⟨ret_io (r := R) (by rw [HE.out]; simp) (by rw [HE.out]; rfl), rfl⟩
  · obtain ⟨D, hD⟩ : ∃ D, D = s := ⟨_, rfl⟩
    subst hD
    obtain ⟨DL, hDL⟩ : ∃ DL, D.data.toList = DL := ⟨_, rfl⟩
    have HDL := Lib.hid hDL
    have HR : Hid (R = readD false DL) := by
      show _ = _
      rw [hR, read_plain, hDL]
      intro c
      apply hm
      by_cases h0 : 0 < D.size
      · refine ⟨h0, ?_⟩
        have := byte_at (c := D[0]'h0) h0 rfl
        rw [List.head?_eq_getElem?, this] at c
        injection c with c
        rw [c]; rfl
      · rw [List.length_eq_zero_iff.1 (show D.data.toList.length = 0 by rw [← bsize]; omega)] at c
        cases c
    have HM := Lib.hid hm
    clear hR hDL hm
    by_cases h0 : 0 < D.size
    · have e1 : D.toList.isEmpty = false := by
        cases h : D.toList with
        | nil => have := tlen D; rw [h] at this; simp at this; omega
        | cons _ _ => rfl
      have e2 : (!D.toList.isEmpty) = true := by rw [e1]; rfl
      have d45 : (((D[0]'h0).toNat : Int) == 45) = false := by
        have : ¬ ((D[0]'h0).toNat : Int) = 45 := fun c => HM.out ⟨h0, c⟩
        simpa using this
      clear HM
      go_enter Tryd.func21, Tryd.ntmps21
      go_upto_region 5 with fail
      clear e1 e2 d45
      by_cases hz : D.size = 0
      · have HE : Hid (R = none) := by
          show _ = _
          rw [HR.out, readD_empty (by rw [← HDL.out]; exact List.length_eq_zero_iff.1 (by rw [← bsize]; exact hz))]
        have e1 : D.toList = [] := List.length_eq_zero_iff.1 (by rw [tlen]; exact hz)
        have e2 : D.toList.isEmpty = true := by rw [e1]; rfl
        clear hz
        go_wp2_with fail
        go_ret2
        exact ⟨ret_io (r := R) (by rw [HE.out]; rfl) (by rw [HE.out]; rfl), rfl⟩
      have e3 : D.toList.isEmpty = false := by
        cases h : D.toList with
        | nil => have := tlen D; rw [h] at this; simp at this; omega
        | cons _ _ => rfl
      have z0 : 0 < D.size := by omega
      have z0' : decide (0 < D.size) = true := decide_eq_true z0
      have HZ := Lib.hid hz
      clear hz
      by_cases h9 : 9 < D.size
      · have HE : Hid (R = none) := by
          show _ = _
          rw [HR.out, readD_long (by rw [← HDL.out, ← bsize]; exact h9)]
        have p9 : (9 : Int) < ((D.size : Nat) : Int) := by omega
        clear h9
        go_wp2_with fail
        go_ret2
        exact ⟨ret_io (r := R) (by rw [HE.out]; rfl) (by rw [HE.out]; rfl), rfl⟩
      have p9 : decide ((9 : Int) < ((D.size : Nat) : Int)) = false := decide_eq_false (by omega)
      have H9 := Lib.hid h9
      have hD9 : D.size ≤ 9 := by omega
      clear h9
      by_cases h48 : ((D[0]'z0).toNat : Int) = 48
      · have d48 : (((D[0]'z0).toNat : Int) == 48) = true := by simpa using h48
        by_cases h1 : 1 < D.size
        · have p1 : (1 : Int) < ((D.size : Nat) : Int) := by omega
          have HE : Hid (R = none) := by
            show _ = _
            rw [HR.out, readD_zero (by rw [← HDL.out]; exact byte_head z0 (by have : (48 : UInt8).toNat = 48 := rfl; omega)) (.inl (by rw [← HDL.out, ← bsize]; exact h1))]
          clear h48
          go_wp2_with fail
          go_ret2
          exact ⟨ret_io (r := R) (by rw [HE.out]; rfl) (by rw [HE.out]; rfl), rfl⟩
        · have p1 : decide ((1 : Int) < ((D.size : Nat) : Int)) = false := decide_eq_false (by omega)
          have HNE : Hid (¬ (DL.head? = some 48 ∧ (1 < DL.length ∨ false = true))) := by
            show ¬ _
            rw [← HDL.out, ← bsize]
            rintro ⟨_, c | c⟩
            · exact h1 c
            · cases c
          clear h48 h1
          go_wp2_with fail
          go_loopg [5, 6] D.size (fun gk v5 v6 wr => ∃ (i n : Nat), v5 = .int .i64 ((n : Nat) : Int) ∧ v6 = .int .i64 ((i : Nat) : Int) ∧ i + gk = D.size ∧ W = wr ∧ n = valB (DL.take i) ∧ (DL.take i).all digB = true)
          case atStart => exact ⟨0, 0, rfl, rfl, by omega, rfl, rfl, rfl⟩
          case round =>
            obtain ⟨i, n, rfl, rfl, hi, rfl, hn, hall⟩ := hrel
            have HI := Lib.hid hi
            have HN := Lib.hid hn
            have HALL := Lib.hid hall
            have hn9 : n ≤ 1000000000 := by
              have := val_lt hall
              have h2 : (DL.take i).length ≤ 9 := by rw [List.length_take, ← HDL.out, ← bsize]; omega
              have h3 : 10 ^ (DL.take i).length ≤ 10 ^ 9 := Nat.pow_le_pow_right (by decide) h2
              omega
            have q0 : (0 : Int) ≤ ((i : Nat) : Int) := by omega
            by_cases hlt : i < D.size
            · have q1 : ((i : Nat) : Int) < ((D.size : Nat) : Int) := by omega
              have q5 : decide (i < D.size) = true := decide_eq_true hlt
              have HS := Lib.hid (step_i (j := i) (by omega))
              obtain ⟨c, hc⟩ : ∃ c, c = D[i]'hlt := ⟨_, rfl⟩
              have HD := Lib.hid (HDL.out ▸ byte_at hlt hc.symm)
              have HC := Lib.hid hc
              clear hi hn hall
              by_cases hdg : digB c = true
              · have hb : 48 ≤ ((D[i]'hlt).toNat : Int) ∧ ((D[i]'hlt).toNat : Int) ≤ 57 := by
                  rw [← hc]; unfold digB at hdg; simp at hdg; omega
                obtain ⟨b1, b2⟩ := hb
                have d1 : decide (((D[i]'hlt).toNat : Int) < 48) = false := decide_eq_false (by omega)
                have d2 : decide ((57 : Int) < ((D[i]'hlt).toNat : Int)) = false := decide_eq_false (by omega)
                have w8 : IntKind.u8.wrap (((D[i]'hlt).toNat : Int) - 48) = ((D[i]'hlt).toNat : Int) - 48 := by rw [wrap_u8]; omega
                have HB := Lib.hid (And.intro b1 b2)
                have HDG := Lib.hid hdg
                clear hdg hc
                go_wp2_with fail
                go_roundg (gk - 1)
                case measure => have := HI.out; omega
                case rel => exact ⟨i + 1, 10 * n + (c.toNat - 48), by congr 1; have := HB.out; rw [HC.out]; omega, by first | rfl | (rw [HS.out.1]) | (congr 1; exact HS.out.1), by have := HI.out; omega, rfl, by rw [take_byte HD.out, val_snoc, HN.out], by rw [take_byte HD.out, List.all_append, HALL.out]; simp [HDG.out]⟩
              · have HE : Hid (R = none) := by
                  show _ = _
                  rw [HR.out, readD_digit (List.mem_of_getElem? HD.out) (by simpa using hdg)]
                by_cases hlo : ((D[i]'hlt).toNat : Int) < 48
                · clear hdg hc
                  go_wp2_with fail
                  go_ret2
                  exact ⟨ret_io (r := R) (by rw [HE.out]; rfl) (by rw [HE.out]; rfl), rfl⟩
                · have d1 : decide (((D[i]'hlt).toNat : Int) < 48) = false := decide_eq_false hlo
                  have d2 : (57 : Int) < ((D[i]'hlt).toNat : Int) := by
                    rw [← hc] at hlo ⊢
                    unfold digB at hdg; simp at hdg; omega
                  clear hdg hc hlo
                  go_wp2_with fail
                  go_ret2
                  exact ⟨ret_io (r := R) (by rw [HE.out]; rfl) (by rw [HE.out]; rfl), rfl⟩
            · have q1 : decide (((i : Nat) : Int) < ((D.size : Nat) : Int)) = false := decide_eq_false (by omega)
              have q5 : decide (i < D.size) = false := decide_eq_false hlt
              have HTK : Hid (DL.take i = DL) := by
                show _ = _
                exact List.take_of_length_le (by rw [← HDL.out, ← bsize]; omega)
              have HE : Hid (R = some (if false = true then -((n : Nat) : Int) else ((n : Nat) : Int))) := by
                show _ = _
                rw [HR.out, readD_yes (by rw [← HDL.out]; exact ne_size z0) (by rw [← HDL.out, ← bsize]; exact hD9) (by simpa using HNE.out), HN.out, HTK.out]
                · rw [← HTK.out]; exact HALL.out
              clear hi hn hall hlt
              go_wp2_with fail
              go_ret2
              exact ⟨ret_io (r := R) (by rw [HE.out]; simp) (by rw [HE.out]; rfl), rfl⟩
      · have d48 : (((D[0]'z0).toNat : Int) == 48) = false := by simpa using h48
        have HNE : Hid (¬ (DL.head? = some 48 ∧ (1 < DL.length ∨ false = true))) := by
          show ¬ _
          rw [← HDL.out]
          exact fun c => byte_head_ne z0 (by have : (48 : UInt8).toNat = 48 := rfl; omega) c.1
        clear h48
        go_wp2_with fail
        go_loopg [5, 6] D.size (fun gk v5 v6 wr => ∃ (i n : Nat), v5 = .int .i64 ((n : Nat) : Int) ∧ v6 = .int .i64 ((i : Nat) : Int) ∧ i + gk = D.size ∧ W = wr ∧ n = valB (DL.take i) ∧ (DL.take i).all digB = true)
        case atStart => exact ⟨0, 0, rfl, rfl, by omega, rfl, rfl, rfl⟩
        case round =>
          obtain ⟨i, n, rfl, rfl, hi, rfl, hn, hall⟩ := hrel
          have HI := Lib.hid hi
          have HN := Lib.hid hn
          have HALL := Lib.hid hall
          have hn9 : n ≤ 1000000000 := by
            have := val_lt hall
            have h2 : (DL.take i).length ≤ 9 := by rw [List.length_take, ← HDL.out, ← bsize]; omega
            have h3 : 10 ^ (DL.take i).length ≤ 10 ^ 9 := Nat.pow_le_pow_right (by decide) h2
            omega
          have q0 : (0 : Int) ≤ ((i : Nat) : Int) := by omega
          by_cases hlt : i < D.size
          · have q1 : ((i : Nat) : Int) < ((D.size : Nat) : Int) := by omega
            have q5 : decide (i < D.size) = true := decide_eq_true hlt
            have HS := Lib.hid (step_i (j := i) (by omega))
            obtain ⟨c, hc⟩ : ∃ c, c = D[i]'hlt := ⟨_, rfl⟩
            have HD := Lib.hid (HDL.out ▸ byte_at hlt hc.symm)
            have HC := Lib.hid hc
            clear hi hn hall
            by_cases hdg : digB c = true
            · have hb : 48 ≤ ((D[i]'hlt).toNat : Int) ∧ ((D[i]'hlt).toNat : Int) ≤ 57 := by
                rw [← hc]; unfold digB at hdg; simp at hdg; omega
              obtain ⟨b1, b2⟩ := hb
              have d1 : decide (((D[i]'hlt).toNat : Int) < 48) = false := decide_eq_false (by omega)
              have d2 : decide ((57 : Int) < ((D[i]'hlt).toNat : Int)) = false := decide_eq_false (by omega)
              have w8 : IntKind.u8.wrap (((D[i]'hlt).toNat : Int) - 48) = ((D[i]'hlt).toNat : Int) - 48 := by rw [wrap_u8]; omega
              have HB := Lib.hid (And.intro b1 b2)
              have HDG := Lib.hid hdg
              clear hdg hc
              go_wp2_with fail
              go_roundg (gk - 1)
              case measure => have := HI.out; omega
              case rel => exact ⟨i + 1, 10 * n + (c.toNat - 48), by congr 1; have := HB.out; rw [HC.out]; omega, by first | rfl | (rw [HS.out.1]) | (congr 1; exact HS.out.1), by have := HI.out; omega, rfl, by rw [take_byte HD.out, val_snoc, HN.out], by rw [take_byte HD.out, List.all_append, HALL.out]; simp [HDG.out]⟩
            · have HE : Hid (R = none) := by
                show _ = _
                rw [HR.out, readD_digit (List.mem_of_getElem? HD.out) (by simpa using hdg)]
              by_cases hlo : ((D[i]'hlt).toNat : Int) < 48
              · clear hdg hc
                go_wp2_with fail
                go_ret2
                exact ⟨ret_io (r := R) (by rw [HE.out]; rfl) (by rw [HE.out]; rfl), rfl⟩
              · have d1 : decide (((D[i]'hlt).toNat : Int) < 48) = false := decide_eq_false hlo
                have d2 : (57 : Int) < ((D[i]'hlt).toNat : Int) := by
                  rw [← hc] at hlo ⊢
                  unfold digB at hdg; simp at hdg; omega
                clear hdg hc hlo
                go_wp2_with fail
                go_ret2
                exact ⟨ret_io (r := R) (by rw [HE.out]; rfl) (by rw [HE.out]; rfl), rfl⟩
          · have q1 : decide (((i : Nat) : Int) < ((D.size : Nat) : Int)) = false := decide_eq_false (by omega)
            have q5 : decide (i < D.size) = false := decide_eq_false hlt
            have HTK : Hid (DL.take i = DL) := by
              show _ = _
              exact List.take_of_length_le (by rw [← HDL.out, ← bsize]; omega)
            have HE : Hid (R = some (if false = true then -((n : Nat) : Int) else ((n : Nat) : Int))) := by
              show _ = _
              rw [HR.out, readD_yes (by rw [← HDL.out]; exact ne_size z0) (by rw [← HDL.out, ← bsize]; exact hD9) (by simpa using HNE.out), HN.out, HTK.out]
              · rw [← HTK.out]; exact HALL.out
            clear hi hn hall hlt
            go_wp2_with fail
            go_ret2
            exact ⟨ret_io (r := R) (by rw [HE.out]; simp) (by rw [HE.out]; rfl), rfl⟩
    · have e1 : D.toList = [] := List.length_eq_zero_iff.1 (by rw [tlen]; omega)
      have e2 : D.toList.isEmpty = true := by rw [e1]; rfl
      have e3 : (!D.toList.isEmpty) = false := by rw [e1]; rfl
      have HE : Hid (R = none) := by
        show _ = _
        rw [HR.out, readD_empty (by rw [← HDL.out]; exact List.length_eq_zero_iff.1 (by rw [← bsize]; omega))]
      clear h0
      go_enter Tryd.func21, Tryd.ntmps21
      go_wp2_with fail
      go_ret2
      exact ⟨ret_io (r := R) (by rw [HE.out]; rfl) (by rw [HE.out]; rfl), rfl⟩
end Cf
end Go.Proofs.YtcpehdeddgfpmaaDoor
