/-
  The document's Number, as a fact on one call.
-/
import Derived.Test.YtmegadjeficfjaaDoorCfGrow
import Derived.Test.YtmegadjeficfjaaDoorCfText
import Derived.OwnWalk
import Derived.Laws.Bits64
import Derived.Laws.IdiomStrings
namespace Go.Proofs.YtmegadjeficfjaaDoor
open Go.RowKit
namespace Cf
set_option maxHeartbeats 1000000
set_option maxRecDepth 100000

theorem str_app (a b : By) : ((⟨a.toArray⟩ : ByteArray) ++ ⟨b.toArray⟩) = ⟨(a ++ b).toArray⟩ := by
  apply ByteArray.ext
  simp [ByteArray.data_append]
theorem str_size (a : By) : (⟨a.toArray⟩ : ByteArray).size = a.length := by simp [ByteArray.size]
theorem u64_of_i {z : Int} (h1 : -9223372036854775808 ≤ z) (h2 : z < 9223372036854775808) : IntKind.u64.wrap z = (((if z < 0 then 18446744073709551616 - (-z).toNat else z.toNat : Nat) : Nat) : Int) := by
  rw [IntKind.wrap_u64]
  split <;> omega
theorem dec_len20 {u : Nat} (h : u < 18446744073709551616) : (dec u).length ≤ 20 := dec_len (k := 19) (by omega)

/-- A text of one byte that was laid as a list of one. -/
theorem conv_one {W : World} {x : Int} (h0 : 0 ≤ x) (h1 : x < 256) :
    (convert 41 9 (.slice (some ⟨W.heap.size, 0, none⟩) 1 1)).run Tryd.prog (W.alloc (.cells #[.int .u8 x] 5)) = .ok (.string ⟨[UInt8.ofNat x.toNat].toArray⟩) (W.alloc (.cells #[.int .u8 x] 5)) := by
  refine run_convert_bytes_back _ _ _ _ _ 1 [UInt8.ofNat x.toNat] Tryd.underlying41 Tryd.underlying5 Tryd.underlying9 (fun j hj => ?_)
  obtain rfl : j = 0 := by simpa using hj
  have e : (⟨W.heap.size, 0, none⟩ : Addr).add 0 = ⟨W.heap.size, 0, none⟩ := by
    unfold Addr.add
    split <;> simp_all
  rw [e, new_cell]
  have : ((UInt8.ofNat x.toNat).toNat : Int) = x := by
    rw [UInt8.toNat_ofNat', Nat.mod_eq_of_lt (by omega)]
    omega
  simp only [List.getElem_cons_zero]
  rw [this]
  rfl
def signB (z : Int) : By := if z < 0 then [45] else []
theorem decI_sign (z : Int) : decI z = signB z ++ dec z.natAbs := by
  unfold decI signB
  split
  · rw [show (-z).toNat = z.natAbs by omega]; rfl
  · rw [show z.toNat = z.natAbs by omega]; rfl

theorem rnumber_any {z : Int} {W : World} (h1 : -9223372036854775808 ≤ z) (h2 : z < 9223372036854775808) :
    Calls Tryd.prog 24 #[.int .i64 z] W fun e w => e = .returned (.string ⟨(decI z).toArray⟩) ∧ Below W.heap.size W w := by
  obtain ⟨u, hu⟩ : ∃ u, u = z.natAbs := ⟨_, rfl⟩
  have HD := Lib.hid (decI_sign z)
  rw [← hu] at HD
  have hul : u < 18446744073709551616 := by omega
  have HLEN := Lib.hid (dec_len20 hul)
  have hw := u64_of_i h1 h2
  obtain ⟨sg, hsg⟩ : ∃ sg, sg = signB z := ⟨_, rfl⟩
  have HSG := Lib.hid hsg
  have HDU : Hid (decI z = sg ++ dec u) := by
    show _ = _
    rw [HD.out, hsg]
  have HUZ : Hid (IntKind.u64.wrap z = (((if z < 0 then 18446744073709551616 - u else u : Nat) : Nat) : Int)) := by
    show _ = _
    rw [hw]
    congr 1
    split <;> omega
  have HU := Lib.hid hu
  clear hw HD hu hsg
  have HNEG : Hid (z < 0 → IntKind.u64.wrap (-IntKind.u64.wrap z) = ((u : Nat) : Int)) := by
    show _ → _
    intro hz
    have := HUZ.out
    rw [if_pos hz] at this
    rw [this, IntKind.wrap_u64]
    omega
  by_cases hz : z < 0
  · have hsv : sg = [45] := by rw [HSG.out]; unfold signB; rw [if_pos hz]
    have HSV := Lib.hid hsv
    clear hsv
    have HZ := Lib.hid hz
    go_enter Tryd.func24, Tryd.ntmps24
    go_wp2_with fail
    simp only [HNEG.out HZ.out]
    clear HUZ HSG
    go_loopg [3, 5] u (fun gk v3 v5 wr => ∃ (m : Nat) (s : By), v3 = .int .u64 ((m : Nat) : Int) ∧ v5 = .string ⟨s.toArray⟩ ∧ m = gk ∧ Below W.heap.size W wr ∧ m ≤ u ∧ dec u = dec m ++ s)
    case atStart => exact ⟨u, [], rfl, rfl, rfl, Below.refl _ _, Nat.le_refl _, by simp⟩
    case round =>
      obtain ⟨m, s, rfl, rfl, hm, hb, hmu, hd⟩ := hrel
      have hwd : IntKind.u64.wrap (((m : Nat) : Int) / 10) = ((m : Nat) : Int) / 10 := by rw [IntKind.wrap_u64]; omega
      have HMU := Lib.hid hmu
      have HB := Lib.hid hb
      have HDM := Lib.hid hd
      have HMM := Lib.hid hm
      have hsl : s.length ≤ 20 := by
        have := HLEN.out
        rw [hd, List.length_append] at this
        omega
      obtain ⟨d, hdv⟩ : ∃ d : By, d = [UInt8.ofNat (48 + ((m : Nat) : Int) % 10).toNat] := ⟨_, rfl⟩
      have hdl : d.length ≤ 1 := by rw [hdv]; simp
      have HDV : Hid (d = [UInt8.ofNat (48 + m % 10)]) := by
        show _ = _
        rw [hdv]
        congr 2
      have hcv := conv_one (W := wr) (x := 48 + ((m : Nat) : Int) % 10) (by omega) (by omega)
      rw [← hdv] at hcv
      clear hb hd hm hdv hmu
      by_cases hm9 : m < 10
      · have hq : (((m : Nat) : Int) / 10 == 0) = true := by
          have : ((m : Nat) : Int) / 10 = 0 := by omega
          rw [this]; rfl
        go_wp2_with fail
        go_ret
        refine ⟨?_, by repeat (first | exact HB.out | (refine bel_alloc ?_ _))⟩
        congr 2
        rw [HDU.out, HDM.out, dec_small hm9, HSV.out, HDV.out]
        simp [str_app, Nat.mod_eq_of_lt hm9]
        done
      · have hq : (((m : Nat) : Int) / 10 == 0) = false := by
          have : ¬ ((m : Nat) : Int) / 10 = 0 := by omega
          simpa using this
        have HM9 := Lib.hid hm9
        clear hm9
        go_wp2_with fail
        go_roundg (m / 10)
        case measure => have := HM9.out; have := HMM.out; omega
        case rel => exact ⟨m / 10, d ++ s, by first | rfl | simp, by first | rfl | (rw [str_app]) , rfl, by repeat (first | exact HB.out | (refine bel_alloc ?_ _)), by have := HMU.out; omega, by rw [HDM.out, dec_big HM9.out, HDV.out, List.append_assoc]⟩
  · have hsv : sg = [] := by rw [HSG.out]; unfold signB; rw [if_neg hz]
    have HSV := Lib.hid hsv
    clear hsv
    obtain rfl : z = ((u : Nat) : Int) := by have := HU.out; omega
    have hwu : IntKind.u64.wrap ((u : Nat) : Int) = ((u : Nat) : Int) := by rw [IntKind.wrap_u64]; omega
    have q0 : decide (((u : Nat) : Int) < 0) = false := decide_eq_false (by omega)
    have HUL := Lib.hid hul
    clear HUZ HSG HNEG hz h1 h2 hul
    go_enter Tryd.func24, Tryd.ntmps24
    go_wp2_with fail
    go_loopg [3, 5] u (fun gk v3 v5 wr => ∃ (m : Nat) (s : By), v3 = .int .u64 ((m : Nat) : Int) ∧ v5 = .string ⟨s.toArray⟩ ∧ m = gk ∧ Below W.heap.size W wr ∧ m ≤ u ∧ dec u = dec m ++ s)
    case atStart => exact ⟨u, [], rfl, rfl, rfl, Below.refl _ _, Nat.le_refl _, by simp⟩
    case round =>
      obtain ⟨m, s, rfl, rfl, hm, hb, hmu, hd⟩ := hrel
      have hwd : IntKind.u64.wrap (((m : Nat) : Int) / 10) = ((m : Nat) : Int) / 10 := by have := HUL.out; rw [IntKind.wrap_u64]; omega
      have HMU := Lib.hid hmu
      have HB := Lib.hid hb
      have HDM := Lib.hid hd
      have HMM := Lib.hid hm
      have hsl : s.length ≤ 20 := by
        have := HLEN.out
        rw [hd, List.length_append] at this
        omega
      obtain ⟨d, hdv⟩ : ∃ d : By, d = [UInt8.ofNat (48 + ((m : Nat) : Int) % 10).toNat] := ⟨_, rfl⟩
      have hdl : d.length ≤ 1 := by rw [hdv]; simp
      have HDV : Hid (d = [UInt8.ofNat (48 + m % 10)]) := by
        show _ = _
        rw [hdv]
        congr 2
      have hcv := conv_one (W := wr) (x := 48 + ((m : Nat) : Int) % 10) (by omega) (by omega)
      rw [← hdv] at hcv
      clear hb hd hm hdv hmu
      by_cases hm9 : m < 10
      · have hq : (((m : Nat) : Int) / 10 == 0) = true := by
          have : ((m : Nat) : Int) / 10 = 0 := by omega
          rw [this]; rfl
        go_wp2_with fail
        go_ret
        refine ⟨?_, by repeat (first | exact HB.out | (refine bel_alloc ?_ _))⟩
        congr 2
        rw [HDU.out, HDM.out, dec_small hm9, HSV.out, HDV.out]
        simp [str_app, Nat.mod_eq_of_lt hm9]
        done
      · have hq : (((m : Nat) : Int) / 10 == 0) = false := by
          have : ¬ ((m : Nat) : Int) / 10 = 0 := by omega
          simpa using this
        have HM9 := Lib.hid hm9
        clear hm9
        go_wp2_with fail
        go_roundg (m / 10)
        case measure => have := HM9.out; have := HMM.out; omega
        case rel => exact ⟨m / 10, d ++ s, by first | rfl | simp, by first | rfl | (rw [str_app]) , rfl, by repeat (first | exact HB.out | (refine bel_alloc ?_ _)), by have := HMU.out; omega, by rw [HDM.out, dec_big HM9.out, HDV.out, List.append_assoc]⟩
end Cf
end Go.Proofs.YtmegadjeficfjaaDoor
