/-
  strings.Cut by one byte, whatever the text; the program's heading, whatever the line.
-/
import Derived.Test.YtcpehdeddgfpmaaDoorCuNumA
import Derived.Test.YtcpehdeddgfpmaaDoorCuRg
namespace Go.Proofs.YtcpehdeddgfpmaaDoor
open Go.RowKit Go.Shelf
namespace Cf
set_option maxHeartbeats 3200000
set_option maxRecDepth 100000

def cutA (c : UInt8) (l : By) : By := if Lib.indexByte l c = -1 then l else l.take (Lib.indexByte l c).toNat
def cutB (c : UInt8) (l : By) : By := if Lib.indexByte l c = -1 then [] else l.drop ((Lib.indexByte l c).toNat + 1)
theorem cutA_len (c : UInt8) (l : By) : (cutA c l).length ≤ l.length := by unfold cutA; split <;> simp [List.length_take] <;> omega
theorem cutB_len (c : UInt8) (l : By) : (cutB c l).length ≤ l.length := by unfold cutB; split <;> simp
theorem split_cut {c : UInt8} {l : By} : splitB c l = if Lib.indexByte l c = -1 then [l] else cutA c l :: splitB c (cutB c l) := by
  by_cases h : Lib.indexByte l c = -1
  · rw [if_pos h, split_no h]
  · rw [if_neg h]
    have hge := Lib.indexByte_ge l c
    have h2 : Lib.indexByte l c = (((Lib.indexByte l c).toNat : Nat) : Int) := by omega
    unfold cutA cutB
    rw [if_neg h, if_neg h, ← split_ix h2]
theorem scut_all (s : ByteArray) (c : UInt8) (W : World) (hs : s.size ≤ 1000000000) :
    Calls Tryd.prog 14 #[.string s, .string ⟨#[c]⟩] W fun e w => ∃ b, e = .returned (.tuple #[.string ⟨(cutA c s.data.toList).toArray⟩, .string ⟨(cutB c s.data.toList).toArray⟩, .bool b]) ∧ Below W.heap.size W w := by
  by_cases h : Lib.indexByte s.data.toList c = -1
  · refine (scut_no s c W h).mono ?_
    rintro e w ⟨rfl, rfl⟩
    refine ⟨false, ?_, Below.refl _ _⟩
    unfold cutA cutB
    rw [if_pos h, if_pos h]
  · have hge := Lib.indexByte_ge s.data.toList c
    obtain ⟨i, hi⟩ : ∃ i : Nat, Lib.indexByte s.data.toList c = (i : Int) := ⟨(Lib.indexByte s.data.toList c).toNat, by omega⟩
    have hil : i < s.size := (List.getElem?_eq_some_iff.1 (Lib.indexByte_some hi).1).1
    refine (scut_yes s c W i hil hs hi).mono ?_
    rintro e w ⟨rfl, hb⟩
    refine ⟨true, ?_, hb⟩
    unfold cutA cutB
    rw [if_neg h, if_neg h, hi, extract_is, extract_is]
    have e2 : (s.data.toList.drop (i + 1)).take (s.size - (i + 1)) = s.data.toList.drop (((i : Nat) : Int).toNat + 1) := by
      rw [Int.toNat_natCast, List.take_of_length_le (by rw [List.length_drop]; exact Nat.le_refl _)]
    rw [e2]
    simp

def headP (l : By) : Option (Int × Int) :=
  if Lib.hasPrefix l [112, 32, 99, 110, 102, 32] = true then
    match rdN (cutA 32 (l.drop 6)), rdN (cutB 32 (l.drop 6)) with
    | some v, some c => if 0 ≤ v ∧ v ≤ 1000000 then some (v, c) else none
    | _, _ => none
  else none
def HeadE (l : By) (W : World) (e : Ending) (w : World) : Prop :=
  Below W.heap.size W w ∧ ∃ v c b, e = .returned (.tuple #[.int .i64 v, .int .i64 c, .bool b]) ∧ (b = true → headP l = some (v, c)) ∧ (b = false → headP l = none)
theorem heading_any {s : ByteArray} {W : World} (hE : Sees W) (hs : s.size ≤ 1000000000) : Calls Tryd.prog 15 #[.string s] W (HeadE s.data.toList W) := by
  obtain ⟨r, hr⟩ : ∃ r, r = Lib.trimPrefix s.data.toList [112, 32, 99, 110, 102, 32] := ⟨_, rfl⟩
  have hrl : r.length ≤ s.size := by
    rw [hr]
    unfold Lib.trimPrefix
    split
    · rw [List.length_drop]; show s.data.toList.length - _ ≤ s.data.toList.length; omega
    · exact Nat.le_refl _
  obtain ⟨p, hp⟩ : ∃ p, p = Lib.hasPrefix s.data.toList [112, 32, 99, 110, 102, 32] := ⟨_, rfl⟩
  have HP : Hid (∀ w, Calls Tryd.prog 34 #[.string s, .string ⟨#[112, 32, 99, 110, 102, 32]⟩] w fun e w' => e = .returned (.tuple #[.string ⟨r.toArray⟩, .bool p]) ∧ w' = w) := Lib.hid (fun w => by
    have := Tryd.strings_CutPrefix s ⟨#[112, 32, 99, 110, 102, 32]⟩ w
    rw [hr, hp]
    exact this)
  have HC := Lib.hid (fun w : World => scut_all ⟨r.toArray⟩ 32 w (show r.length ≤ _ by omega))
  have HN1 := Lib.hid (fun (w : World) (hb : Below W.heap.size W w) => cnumber_any (s := ⟨(cutA 32 r).toArray⟩) (hE.keep hb) (show (cutA 32 r).length ≤ _ by have := cutA_len 32 r; omega))
  have HN2 := Lib.hid (fun (w : World) (hb : Below W.heap.size W w) => cnumber_any (s := ⟨(cutB 32 r).toArray⟩) (hE.keep hb) (show (cutB 32 r).length ≤ _ by have := cutB_len 32 r; omega))
  have HH : Hid (p = true → headP s.data.toList = match rdN (cutA 32 r), rdN (cutB 32 r) with
    | some v, some c => if 0 ≤ v ∧ v ≤ 1000000 then some (v, c) else none
    | _, _ => none) := Lib.hid (fun h => by
      unfold headP
      rw [← hp, if_pos h, hr]
      unfold Lib.trimPrefix
      rw [← hp, if_pos h]
      rfl)
  have HH0 : Hid (p = false → headP s.data.toList = none) := Lib.hid (fun h => by unfold headP; rw [← hp, h]; rfl)
  clear hr hp hE hrl
  go_enter Tryd.func15, Tryd.ntmps15
  go_wp2_with fail
  refine (HP.out _).mono ?_
  rintro e w ⟨rfl, rfl⟩
  go_wp2_with fail
  refine (HC.out _).mono ?_
  rintro e w1 ⟨b0, rfl, hb1⟩
  have HB1 := Lib.hid hb1
  clear hb1
  go_wp2_with fail
  refine (HN1.out _ HB1.out).mono ?_
  rintro e w2 ⟨hb2, v, b1, rfl, t1, f1⟩
  have HB2 := Lib.hid (bel_call HB1.out hb2)
  have HV := Lib.hid (And.intro t1 f1)
  clear hb2 t1 f1
  go_wp2_with fail
  refine (HN2.out _ HB2.out).mono ?_
  rintro e w3 ⟨hb3, c, b2, rfl, t2, f2⟩
  have HB3 := Lib.hid (bel_call HB2.out hb3)
  have HW := Lib.hid (And.intro t2 f2)
  clear hb3 t2 f2
  have hun : ∀ b : Bool, ¬ undef = Value.bool b := fun b h => by cases h
  cases p with
  | false =>
    go_wp2_with fail
    exact bodyPost_ret (v := .tuple #[.int .i64 v, .int .i64 c, .bool false]) (by simp [results, Tryd.results15, go_sem]) rfl ⟨HB3.out, v, c, false, rfl, (fun h => by cases h), fun _ => by have h := HH0.out; exact h (by simp)⟩
  | true =>
    cases b1 with
    | false =>
      have HX : Hid (headP s.data.toList = none) := Lib.hid (by rw [HH.out rfl, HV.out.2 rfl])
      go_wp2_with fail
      exact bodyPost_ret (v := .tuple #[.int .i64 v, .int .i64 c, .bool false]) (by simp [results, Tryd.results15, go_sem]) rfl ⟨HB3.out, v, c, false, rfl, (fun h => by cases h), fun _ => HX.out⟩
    | true =>
      cases b2 with
      | false =>
        have HX : Hid (headP s.data.toList = none) := Lib.hid (by rw [HH.out rfl, HV.out.1 rfl, HW.out.2 rfl])
        go_wp2_with fail
        exact bodyPost_ret (v := .tuple #[.int .i64 v, .int .i64 c, .bool false]) (by simp [results, Tryd.results15, go_sem]) rfl ⟨HB3.out, v, c, false, rfl, (fun h => by cases h), fun _ => HX.out⟩
      | true =>
        have HX : Hid (headP s.data.toList = if 0 ≤ v ∧ v ≤ 1000000 then some (v, c) else none) := Lib.hid (by rw [HH.out rfl, HV.out.1 rfl, HW.out.1 rfl])
        by_cases h0 : 0 ≤ v
        · by_cases h1 : v ≤ 1000000
          · have HY : Hid (headP s.data.toList = some (v, c)) := Lib.hid (by rw [HX.out, if_pos ⟨h0, h1⟩])
            have e0 : decide (0 ≤ v) = true := decide_eq_true h0
            have e1 : decide (v ≤ 1000000) = true := decide_eq_true h1
            go_wp2_with fail
            exact bodyPost_ret (v := .tuple #[.int .i64 v, .int .i64 c, .bool true]) (by simp [results, Tryd.results15, go_sem]) rfl ⟨HB3.out, v, c, true, rfl, (fun _ => HY.out), fun h => by cases h⟩
          · have HY : Hid (headP s.data.toList = none) := Lib.hid (by rw [HX.out, if_neg (fun h => h1 h.2)])
            have e0 : decide (0 ≤ v) = true := decide_eq_true h0
            have e1 : decide (v ≤ 1000000) = false := decide_eq_false h1
            go_wp2_with fail
            exact bodyPost_ret (v := .tuple #[.int .i64 v, .int .i64 c, .bool false]) (by simp [results, Tryd.results15, go_sem]) rfl ⟨HB3.out, v, c, false, rfl, (fun h => by cases h), fun _ => HY.out⟩
        · have HY : Hid (headP s.data.toList = none) := Lib.hid (by rw [HX.out, if_neg (fun h => h0 h.1)])
          have e0 : decide (0 ≤ v) = false := decide_eq_false h0
          go_wp2_with fail
          exact bodyPost_ret (v := .tuple #[.int .i64 v, .int .i64 c, .bool false]) (by simp [results, Tryd.results15, go_sem]) rfl ⟨HB3.out, v, c, false, rfl, (fun h => by cases h), fun _ => HY.out⟩
end Cf
end Go.Proofs.YtcpehdeddgfpmaaDoor
