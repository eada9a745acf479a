/-
  All rows: the document's Rows, walked.
-/
import Derived.Test.YtbgcgomefdblpaaDoorDeRunB
import Derived.Laws.NewFold
namespace Go.Proofs.YtbgcgomefdblpaaDoor
open Go.RowKit
namespace De
set_option maxHeartbeats 12800000
set_option maxRecDepth 100000

def headN : List ByteArray := [⟨#[108, 117, 105]⟩, ⟨#[97, 117, 105, 112, 99]⟩, ⟨#[106, 97, 108]⟩, ⟨#[106, 97, 108, 114]⟩]
def tailN : List ByteArray := [⟨#[101, 99, 97, 108, 108]⟩, ⟨#[101, 98, 114, 101, 97, 107]⟩, ⟨#[109, 114, 101, 116]⟩, ⟨#[119, 102, 105]⟩]
def n5 : List ByteArray := [⟨#[108, 98]⟩, ⟨#[108, 104]⟩, ⟨#[108, 119]⟩, ⟨#[108, 98, 117]⟩, ⟨#[108, 104, 117]⟩]
def n10 : List ByteArray := [⟨#[97, 100, 100, 105]⟩, ⟨#[115, 108, 116, 105]⟩, ⟨#[115, 108, 116, 105, 117]⟩, ⟨#[120, 111, 114, 105]⟩, ⟨#[111, 114, 105]⟩, ⟨#[97, 110, 100, 105]⟩]
def n16 : List ByteArray := [⟨#[115, 108, 108, 105]⟩, ⟨#[115, 114, 108, 105]⟩, ⟨#[115, 114, 97, 105]⟩]
def n19 : List ByteArray := [⟨#[115, 98]⟩, ⟨#[115, 104]⟩, ⟨#[115, 119]⟩]
def n22 : List ByteArray := [⟨#[98, 101, 113]⟩, ⟨#[98, 110, 101]⟩, ⟨#[98, 108, 116]⟩, ⟨#[98, 103, 101]⟩, ⟨#[98, 108, 116, 117]⟩, ⟨#[98, 103, 101, 117]⟩]
def n28 : List ByteArray := [⟨#[97, 100, 100]⟩, ⟨#[115, 117, 98]⟩, ⟨#[115, 108, 108]⟩, ⟨#[115, 108, 116]⟩, ⟨#[115, 108, 116, 117]⟩, ⟨#[120, 111, 114]⟩, ⟨#[115, 114, 108]⟩, ⟨#[115, 114, 97]⟩, ⟨#[111, 114]⟩, ⟨#[97, 110, 100]⟩]
def n38 : List ByteArray := [⟨#[109, 117, 108]⟩, ⟨#[109, 117, 108, 104]⟩, ⟨#[109, 117, 108, 104, 115, 117]⟩, ⟨#[109, 117, 108, 104, 117]⟩, ⟨#[100, 105, 118]⟩, ⟨#[100, 105, 118, 117]⟩, ⟨#[114, 101, 109]⟩, ⟨#[114, 101, 109, 117]⟩]
def n46 : List ByteArray := [⟨#[108, 114, 46, 119]⟩, ⟨#[115, 99, 46, 119]⟩, ⟨#[97, 109, 111, 115, 119, 97, 112, 46, 119]⟩, ⟨#[97, 109, 111, 97, 100, 100, 46, 119]⟩, ⟨#[97, 109, 111, 120, 111, 114, 46, 119]⟩, ⟨#[97, 109, 111, 97, 110, 100, 46, 119]⟩, ⟨#[97, 109, 111, 111, 114, 46, 119]⟩, ⟨#[97, 109, 111, 109, 105, 110, 46, 119]⟩, ⟨#[97, 109, 111, 109, 97, 120, 46, 119]⟩, ⟨#[97, 109, 111, 109, 105, 110, 117, 46, 119]⟩, ⟨#[97, 109, 111, 109, 97, 120, 117, 46, 119]⟩]
def n57 : List ByteArray := [⟨#[99, 115, 114, 114, 119]⟩, ⟨#[99, 115, 114, 114, 115]⟩, ⟨#[99, 115, 114, 114, 99]⟩]
def n60 : List ByteArray := [⟨#[99, 115, 114, 114, 119, 105]⟩, ⟨#[99, 115, 114, 114, 115, 105]⟩, ⟨#[99, 115, 114, 114, 99, 105]⟩]
def n63 : List ByteArray := [⟨#[102, 101, 110, 99, 101]⟩, ⟨#[102, 101, 110, 99, 101, 46, 105]⟩]
def namesP : List ByteArray := headN ++ n5 ++ n10 ++ n16 ++ n19 ++ n22 ++ n28 ++ n38 ++ n46 ++ n57 ++ n60 ++ n63 ++ tailN
theorem rowsV_one : ∀ (R : List Row) (S : List ByteArray), ∀ u ∈ rowsV R S, u.oneCell' = true
  | [], _, u, h => by simp [rowsV] at h
  | _ :: _, [], u, h => by simp [rowsV] at h
  | r :: rs, s :: ss, u, h => by
    simp only [rowsV, List.mem_append] at h
    rcases h with h | h
    · simp [rowV] at h
      rcases h with h | h | h | h | h | h <;> (subst h; rfl)
    · exact rowsV_one rs ss u h
theorem own_below {w w' : World} {B n : Nat} {v : Value} {xs : List Value} {e : TypeId} {size : Nat} (h : w.ownsRow B e size v n xs) (hb : Below w.heap.size w w') : w'.ownsRow B e size v n xs := by
  refine ⟨h.1, ?_⟩
  rcases h.2 with hn | ⟨g, cap, cur, rfl, h1, h2, r⟩
  · exact .inl hn
  · exact .inr ⟨g, cap, cur, rfl, h1, (hb.block g (Array.getElem?_eq_some_iff.1 h2).1).trans h2, r⟩
theorem own_new (w : World) (xs : List Value) (n : Nat) (hn : xs.length = n * 6) (hm : n ≤ 1000) (B : Nat) (hB : B ≤ w.heap.size) : (w.alloc (.cells xs.toArray 44)).ownsRow B 44 6 (.slice (some ⟨w.heap.size, 0, none⟩) n n) n xs :=
  ⟨hn, .inr ⟨w.heap.size, n, xs.toArray, rfl, hB, heap_alloc_new w _, Nat.le_refl _, by unfold maxLen; omega, by simpa using hn, by rw [← hn]; simp⟩⟩
/-- So far. -/
structure Acc (W w : World) (v : Value) (n : Nat) (xs : List Value) : Prop where
  r : w.ownsRow W.heap.size 44 6 v n xs
  b : Below W.heap.size W w
theorem Acc.below {W w w' : World} {v : Value} {n : Nat} {xs : List Value} (h : Acc W w v n xs) (hb : Below w.heap.size w w') : Acc W w' v n xs := ⟨own_below h.r hb, h.b.trans (hb.mono h.b.size)⟩
theorem Acc.grown {W w w' : World} {v v' : Value} {n m : Nat} {xs ys : List Value} (h : Acc W w v n xs) (hr : w'.ownsRow W.heap.size 44 6 v' m ys) (hg : w.grownBy w' v.ownBlock) : Acc W w' v' m ys :=
  ⟨hr, Below.grown h.b hg h.b.size fun k hk => (h.r.lt k hk).1⟩
theorem run_at {op fm code n b3 b7 bn : Nat} {zo zf zc : Int} {f3 f7 : List Nat} {ss : List ByteArray} (ho : zo = ((op : Nat) : Int)) (hf : zf = ((fm : Nat) : Int)) (hc : zc = ((code : Nat) : Int)) (h3 : f3.length = n) (h7 : f7.length = n) (hs : ss.length = n) (hn : n ≤ 16) (h1 : 1 ≤ n) (hop : op ≤ 100) {W : World} (c3 : ColAt W b3 (u32s f3)) (c7 : ColAt W b7 (u32s f7)) (cn : ColAt W bn (strs ss)) :
    Calls Tryd.prog 23 #[.int .u8 zo, .int .u8 zf, .int .u32 zc, .slice (some ⟨b3, 0, none⟩) n n, .slice (some ⟨b7, 0, none⟩) n n, .slice (some ⟨bn, 0, none⟩) n n] W fun e w =>
      ∃ g c, e = .returned (.slice (some ⟨g, 0, none⟩) n c) ∧ (∀ (j : Nat) (u : Value), (rowsV (runP op fm code f3 f7) ss)[j]? = some u → w.cell? ((⟨g, 0, none⟩ : Addr).add j) = some u) ∧ Below W.heap.size W w := by
  subst ho; subst hf; subst hc
  refine (run_any h3 h7 hs hn hop c3 c7 cn).mono ?_
  rintro e w ⟨v, rfl, hr, hb⟩
  have hrc := hr
  rcases hr.2 with ⟨_, h0⟩ | ⟨g, cap, cur, rfl, _⟩
  · omega
  · exact ⟨g, cap, rfl, fun j u hj => hrc.cells rfl j u hj, hb⟩
theorem size_one (w : World) (o : Obj) : (w.alloc o).heap.size = w.heap.size + 1 := by simp
theorem size_two (w : World) (o1 o2 : Obj) : ((w.alloc o1).alloc o2).heap.size = w.heap.size + 1 + 1 := by simp
theorem rows_any (W : World) : Calls Tryd.prog 16 #[] W fun e w => ∃ v, e = .returned v ∧ Acc W w v 68 (rowsV rowsP namesP) := by
  have B0 := fun w => build_row w 1 85 55 0 0 ⟨#[108, 117, 105]⟩
  have B1 := fun w => build_row w 2 85 23 0 0 ⟨#[97, 117, 105, 112, 99]⟩
  have B2 := fun w => build_row w 3 74 111 0 0 ⟨#[106, 97, 108]⟩
  have B3 := fun w => build_row w 4 73 103 0 0 ⟨#[106, 97, 108, 114]⟩
  have B4 := fun w => build_row w 65 88 115 0 0 ⟨#[101, 99, 97, 108, 108]⟩
  have B5 := fun w => build_row w 66 88 1048691 0 0 ⟨#[101, 98, 114, 101, 97, 107]⟩
  have B6 := fun w => build_row w 67 88 807403635 0 0 ⟨#[109, 114, 101, 116]⟩
  have B7 := fun w => build_row w 68 88 273678451 0 0 ⟨#[119, 102, 105]⟩
  have A0 : Hid (Acc W (W.alloc (.cells #[.int .u8 1, .int .u8 85, .int .u32 55, .int .u32 0, .int .u32 0, .string ⟨#[108, 117, 105]⟩, .int .u8 2, .int .u8 85, .int .u32 23, .int .u32 0, .int .u32 0, .string ⟨#[97, 117, 105, 112, 99]⟩, .int .u8 3, .int .u8 74, .int .u32 111, .int .u32 0, .int .u32 0, .string ⟨#[106, 97, 108]⟩, .int .u8 4, .int .u8 73, .int .u32 103, .int .u32 0, .int .u32 0, .string ⟨#[106, 97, 108, 114]⟩] 44)) (.slice (some ⟨W.heap.size, 0, none⟩) 4 4) 4 (rowsV headP headN)) := Lib.hid ⟨own_new W [.int .u8 1, .int .u8 85, .int .u32 55, .int .u32 0, .int .u32 0, .string ⟨#[108, 117, 105]⟩, .int .u8 2, .int .u8 85, .int .u32 23, .int .u32 0, .int .u32 0, .string ⟨#[97, 117, 105, 112, 99]⟩, .int .u8 3, .int .u8 74, .int .u32 111, .int .u32 0, .int .u32 0, .string ⟨#[106, 97, 108]⟩, .int .u8 4, .int .u8 73, .int .u32 103, .int .u32 0, .int .u32 0, .string ⟨#[106, 97, 108, 114]⟩] 4 rfl (by decide) W.heap.size (Nat.le_refl _), (Below.refl _ _).alloc (Nat.le_refl _) _⟩
  go_enter Tryd.func16, Tryd.ntmps16
  go_upto_region 2 with fail
  generalize W.alloc (.cells #[.int .u8 1, .int .u8 85, .int .u32 55, .int .u32 0, .int .u32 0, .string ⟨#[108, 117, 105]⟩, .int .u8 2, .int .u8 85, .int .u32 23, .int .u32 0, .int .u32 0, .string ⟨#[97, 117, 105, 112, 99]⟩, .int .u8 3, .int .u8 74, .int .u32 111, .int .u32 0, .int .u32 0, .string ⟨#[106, 97, 108]⟩, .int .u8 4, .int .u8 73, .int .u32 103, .int .u32 0, .int .u32 0, .string ⟨#[106, 97, 108, 114]⟩] 44) = w0 at A0 ⊢
  generalize hv : Value.slice (some ⟨W.heap.size, 0, none⟩) 4 4 = v0 at A0 ⊢
  clear hv
  -- rows 5..
  have C3 : Hid (ColAt (w0.alloc (.cells #[.int .u32 0, .int .u32 1, .int .u32 2, .int .u32 4, .int .u32 5] 22)) w0.heap.size (u32s [0, 1, 2, 4, 5])) := Lib.hid (ColAt.new w0 (u32s [0, 1, 2, 4, 5]) 22)
  have D : Hid (Below w0.heap.size w0 (w0.alloc (.cells #[.int .u32 0, .int .u32 1, .int .u32 2, .int .u32 4, .int .u32 5] 22))) := Lib.hid ((Below.refl _ _).alloc (Nat.le_refl _) _)
  go_wp2_with fail
  refine (noughts_any (n := 5) rfl (by decide) _).mono ?_
  rintro e y ⟨b7, rfl, hc7, hb⟩
  have C7 := Lib.hid hc7
  have C3 := Lib.hid (C3.out.below hb)
  have D := Lib.hid (D.out.trans (hb.mono D.out.size))
  clear hc7 hb
  have CN : Hid (ColAt (y.alloc (.cells #[.string ⟨#[108, 98]⟩, .string ⟨#[108, 104]⟩, .string ⟨#[108, 119]⟩, .string ⟨#[108, 98, 117]⟩, .string ⟨#[108, 104, 117]⟩] 9)) y.heap.size (strs n5)) := Lib.hid (ColAt.new y (strs n5) 9)
  have C3 := Lib.hid (C3.out.alloc (.cells #[.string ⟨#[108, 98]⟩, .string ⟨#[108, 104]⟩, .string ⟨#[108, 119]⟩, .string ⟨#[108, 98, 117]⟩, .string ⟨#[108, 104, 117]⟩] 9))
  have C7 := Lib.hid (C7.out.alloc (.cells #[.string ⟨#[108, 98]⟩, .string ⟨#[108, 104]⟩, .string ⟨#[108, 119]⟩, .string ⟨#[108, 98, 117]⟩, .string ⟨#[108, 104, 117]⟩] 9))
  have D := Lib.hid (D.out.alloc (D.out.size) (.cells #[.string ⟨#[108, 98]⟩, .string ⟨#[108, 104]⟩, .string ⟨#[108, 119]⟩, .string ⟨#[108, 98, 117]⟩, .string ⟨#[108, 104, 117]⟩] 9))
  have HR := Lib.hid (run_at (op := 5) (fm := 73) (code := 3) (n := 5) (zo := 5) (zf := 73) (zc := 3) rfl rfl rfl rfl rfl rfl (by decide) (by decide) (by decide) C3.out C7.out CN.out)
  go_wp2_with fail
  refine HR.out.mono ?_
  rintro e y0 ⟨g, c, rfl, hcl, hb⟩
  have AK := Lib.hid (A0.out.below (D.out.trans (hb.mono D.out.size)))
  clear HR C3 C7 CN D hb A0
  go_wp2_with (at_builtin; refine wpList_app rfl (.tmp 7) (.tmp 11) rfl rfl AK.out.r AK.out.b.size (m := 5) (by rw [rowsV_len _ _ rfl]; rfl) hcl (rowsV_one _ _) rfl (by decide) (by decide) ?_; intro v1 w1 hrow hgr)
  have A1 := Lib.hid (AK.out.grown hrow hgr)
  clear hrow hgr hcl AK
  -- rows 10..
  have C3 : Hid (ColAt (w1.alloc (.cells #[.int .u32 0, .int .u32 2, .int .u32 3, .int .u32 4, .int .u32 6, .int .u32 7] 22)) w1.heap.size (u32s [0, 2, 3, 4, 6, 7])) := Lib.hid (ColAt.new w1 (u32s [0, 2, 3, 4, 6, 7]) 22)
  have D : Hid (Below w1.heap.size w1 (w1.alloc (.cells #[.int .u32 0, .int .u32 2, .int .u32 3, .int .u32 4, .int .u32 6, .int .u32 7] 22))) := Lib.hid ((Below.refl _ _).alloc (Nat.le_refl _) _)
  go_wp2_with fail
  refine (noughts_any (n := 6) rfl (by decide) _).mono ?_
  rintro e y ⟨b7, rfl, hc7, hb⟩
  have C7 := Lib.hid hc7
  have C3 := Lib.hid (C3.out.below hb)
  have D := Lib.hid (D.out.trans (hb.mono D.out.size))
  clear hc7 hb
  have CN : Hid (ColAt (y.alloc (.cells #[.string ⟨#[97, 100, 100, 105]⟩, .string ⟨#[115, 108, 116, 105]⟩, .string ⟨#[115, 108, 116, 105, 117]⟩, .string ⟨#[120, 111, 114, 105]⟩, .string ⟨#[111, 114, 105]⟩, .string ⟨#[97, 110, 100, 105]⟩] 9)) y.heap.size (strs n10)) := Lib.hid (ColAt.new y (strs n10) 9)
  have C3 := Lib.hid (C3.out.alloc (.cells #[.string ⟨#[97, 100, 100, 105]⟩, .string ⟨#[115, 108, 116, 105]⟩, .string ⟨#[115, 108, 116, 105, 117]⟩, .string ⟨#[120, 111, 114, 105]⟩, .string ⟨#[111, 114, 105]⟩, .string ⟨#[97, 110, 100, 105]⟩] 9))
  have C7 := Lib.hid (C7.out.alloc (.cells #[.string ⟨#[97, 100, 100, 105]⟩, .string ⟨#[115, 108, 116, 105]⟩, .string ⟨#[115, 108, 116, 105, 117]⟩, .string ⟨#[120, 111, 114, 105]⟩, .string ⟨#[111, 114, 105]⟩, .string ⟨#[97, 110, 100, 105]⟩] 9))
  have D := Lib.hid (D.out.alloc (D.out.size) (.cells #[.string ⟨#[97, 100, 100, 105]⟩, .string ⟨#[115, 108, 116, 105]⟩, .string ⟨#[115, 108, 116, 105, 117]⟩, .string ⟨#[120, 111, 114, 105]⟩, .string ⟨#[111, 114, 105]⟩, .string ⟨#[97, 110, 100, 105]⟩] 9))
  have HR := Lib.hid (run_at (op := 10) (fm := 73) (code := 19) (n := 6) (zo := 10) (zf := 73) (zc := 19) rfl rfl rfl rfl rfl rfl (by decide) (by decide) (by decide) C3.out C7.out CN.out)
  go_wp2_with fail
  refine HR.out.mono ?_
  rintro e y1 ⟨g, c, rfl, hcl, hb⟩
  have AK := Lib.hid (A1.out.below (D.out.trans (hb.mono D.out.size)))
  clear HR C3 C7 CN D hb A1
  go_wp2_with (at_builtin; refine wpList_app rfl (.tmp 13) (.tmp 17) rfl rfl AK.out.r AK.out.b.size (m := 6) (by rw [rowsV_len _ _ rfl]; rfl) hcl (rowsV_one _ _) rfl (by decide) (by decide) ?_; intro v2 w2 hrow hgr)
  have A2 := Lib.hid (AK.out.grown hrow hgr)
  clear hrow hgr hcl AK
  -- rows 16..
  have C3 : Hid (ColAt (w2.alloc (.cells #[.int .u32 1, .int .u32 5, .int .u32 5] 22)) w2.heap.size (u32s [1, 5, 5])) := Lib.hid (ColAt.new w2 (u32s [1, 5, 5]) 22)
  have D : Hid (Below w2.heap.size w2 (w2.alloc (.cells #[.int .u32 1, .int .u32 5, .int .u32 5] 22))) := Lib.hid ((Below.refl _ _).alloc (Nat.le_refl _) _)
  have C7 : Hid (ColAt ((w2.alloc (.cells #[.int .u32 1, .int .u32 5, .int .u32 5] 22)).alloc (.cells #[.int .u32 0, .int .u32 0, .int .u32 32] 22)) (w2.heap.size + 1) (u32s [0, 0, 32])) := Lib.hid (by have := ColAt.new (w2.alloc (.cells #[.int .u32 1, .int .u32 5, .int .u32 5] 22)) (u32s [0, 0, 32]) 22; rw [size_one] at this; exact this)
  have C3 := Lib.hid (C3.out.alloc (.cells #[.int .u32 0, .int .u32 0, .int .u32 32] 22))
  have D := Lib.hid (D.out.alloc (D.out.size) (.cells #[.int .u32 0, .int .u32 0, .int .u32 32] 22))
  have CN : Hid (ColAt (((w2.alloc (.cells #[.int .u32 1, .int .u32 5, .int .u32 5] 22)).alloc (.cells #[.int .u32 0, .int .u32 0, .int .u32 32] 22)).alloc (.cells #[.string ⟨#[115, 108, 108, 105]⟩, .string ⟨#[115, 114, 108, 105]⟩, .string ⟨#[115, 114, 97, 105]⟩] 9)) ((w2.alloc (.cells #[.int .u32 1, .int .u32 5, .int .u32 5] 22)).alloc (.cells #[.int .u32 0, .int .u32 0, .int .u32 32] 22)).heap.size (strs n16)) := Lib.hid (ColAt.new ((w2.alloc (.cells #[.int .u32 1, .int .u32 5, .int .u32 5] 22)).alloc (.cells #[.int .u32 0, .int .u32 0, .int .u32 32] 22)) (strs n16) 9)
  have C3 := Lib.hid (C3.out.alloc (.cells #[.string ⟨#[115, 108, 108, 105]⟩, .string ⟨#[115, 114, 108, 105]⟩, .string ⟨#[115, 114, 97, 105]⟩] 9))
  have C7 := Lib.hid (C7.out.alloc (.cells #[.string ⟨#[115, 108, 108, 105]⟩, .string ⟨#[115, 114, 108, 105]⟩, .string ⟨#[115, 114, 97, 105]⟩] 9))
  have D := Lib.hid (D.out.alloc (D.out.size) (.cells #[.string ⟨#[115, 108, 108, 105]⟩, .string ⟨#[115, 114, 108, 105]⟩, .string ⟨#[115, 114, 97, 105]⟩] 9))
  rw [size_two] at CN
  have HR := Lib.hid (run_at (op := 16) (fm := 72) (code := 19) (n := 3) (zo := 16) (zf := 72) (zc := 19) rfl rfl rfl rfl rfl rfl (by decide) (by decide) (by decide) C3.out C7.out CN.out)
  go_wp2_with fail
  refine HR.out.mono ?_
  rintro e y2 ⟨g, c, rfl, hcl, hb⟩
  have AK := Lib.hid (A2.out.below (D.out.trans (hb.mono D.out.size)))
  clear HR C3 C7 CN D hb A2
  go_wp2_with (at_builtin; refine wpList_app rfl (.tmp 19) (.tmp 23) rfl rfl AK.out.r AK.out.b.size (m := 3) (by rw [rowsV_len _ _ rfl]; rfl) hcl (rowsV_one _ _) rfl (by decide) (by decide) ?_; intro v3 w3 hrow hgr)
  have A3 := Lib.hid (AK.out.grown hrow hgr)
  clear hrow hgr hcl AK
  -- rows 19..
  have C3 : Hid (ColAt (w3.alloc (.cells #[.int .u32 0, .int .u32 1, .int .u32 2] 22)) w3.heap.size (u32s [0, 1, 2])) := Lib.hid (ColAt.new w3 (u32s [0, 1, 2]) 22)
  have D : Hid (Below w3.heap.size w3 (w3.alloc (.cells #[.int .u32 0, .int .u32 1, .int .u32 2] 22))) := Lib.hid ((Below.refl _ _).alloc (Nat.le_refl _) _)
  go_wp2_with fail
  refine (noughts_any (n := 3) rfl (by decide) _).mono ?_
  rintro e y ⟨b7, rfl, hc7, hb⟩
  have C7 := Lib.hid hc7
  have C3 := Lib.hid (C3.out.below hb)
  have D := Lib.hid (D.out.trans (hb.mono D.out.size))
  clear hc7 hb
  have CN : Hid (ColAt (y.alloc (.cells #[.string ⟨#[115, 98]⟩, .string ⟨#[115, 104]⟩, .string ⟨#[115, 119]⟩] 9)) y.heap.size (strs n19)) := Lib.hid (ColAt.new y (strs n19) 9)
  have C3 := Lib.hid (C3.out.alloc (.cells #[.string ⟨#[115, 98]⟩, .string ⟨#[115, 104]⟩, .string ⟨#[115, 119]⟩] 9))
  have C7 := Lib.hid (C7.out.alloc (.cells #[.string ⟨#[115, 98]⟩, .string ⟨#[115, 104]⟩, .string ⟨#[115, 119]⟩] 9))
  have D := Lib.hid (D.out.alloc (D.out.size) (.cells #[.string ⟨#[115, 98]⟩, .string ⟨#[115, 104]⟩, .string ⟨#[115, 119]⟩] 9))
  have HR := Lib.hid (run_at (op := 19) (fm := 83) (code := 35) (n := 3) (zo := 19) (zf := 83) (zc := 35) rfl rfl rfl rfl rfl rfl (by decide) (by decide) (by decide) C3.out C7.out CN.out)
  go_wp2_with fail
  refine HR.out.mono ?_
  rintro e y3 ⟨g, c, rfl, hcl, hb⟩
  have AK := Lib.hid (A3.out.below (D.out.trans (hb.mono D.out.size)))
  clear HR C3 C7 CN D hb A3
  go_wp2_with (at_builtin; refine wpList_app rfl (.tmp 25) (.tmp 29) rfl rfl AK.out.r AK.out.b.size (m := 3) (by rw [rowsV_len _ _ rfl]; rfl) hcl (rowsV_one _ _) rfl (by decide) (by decide) ?_; intro v4 w4 hrow hgr)
  have A4 := Lib.hid (AK.out.grown hrow hgr)
  clear hrow hgr hcl AK
  -- rows 22..
  have C3 : Hid (ColAt (w4.alloc (.cells #[.int .u32 0, .int .u32 1, .int .u32 4, .int .u32 5, .int .u32 6, .int .u32 7] 22)) w4.heap.size (u32s [0, 1, 4, 5, 6, 7])) := Lib.hid (ColAt.new w4 (u32s [0, 1, 4, 5, 6, 7]) 22)
  have D : Hid (Below w4.heap.size w4 (w4.alloc (.cells #[.int .u32 0, .int .u32 1, .int .u32 4, .int .u32 5, .int .u32 6, .int .u32 7] 22))) := Lib.hid ((Below.refl _ _).alloc (Nat.le_refl _) _)
  go_wp2_with fail
  refine (noughts_any (n := 6) rfl (by decide) _).mono ?_
  rintro e y ⟨b7, rfl, hc7, hb⟩
  have C7 := Lib.hid hc7
  have C3 := Lib.hid (C3.out.below hb)
  have D := Lib.hid (D.out.trans (hb.mono D.out.size))
  clear hc7 hb
  have CN : Hid (ColAt (y.alloc (.cells #[.string ⟨#[98, 101, 113]⟩, .string ⟨#[98, 110, 101]⟩, .string ⟨#[98, 108, 116]⟩, .string ⟨#[98, 103, 101]⟩, .string ⟨#[98, 108, 116, 117]⟩, .string ⟨#[98, 103, 101, 117]⟩] 9)) y.heap.size (strs n22)) := Lib.hid (ColAt.new y (strs n22) 9)
  have C3 := Lib.hid (C3.out.alloc (.cells #[.string ⟨#[98, 101, 113]⟩, .string ⟨#[98, 110, 101]⟩, .string ⟨#[98, 108, 116]⟩, .string ⟨#[98, 103, 101]⟩, .string ⟨#[98, 108, 116, 117]⟩, .string ⟨#[98, 103, 101, 117]⟩] 9))
  have C7 := Lib.hid (C7.out.alloc (.cells #[.string ⟨#[98, 101, 113]⟩, .string ⟨#[98, 110, 101]⟩, .string ⟨#[98, 108, 116]⟩, .string ⟨#[98, 103, 101]⟩, .string ⟨#[98, 108, 116, 117]⟩, .string ⟨#[98, 103, 101, 117]⟩] 9))
  have D := Lib.hid (D.out.alloc (D.out.size) (.cells #[.string ⟨#[98, 101, 113]⟩, .string ⟨#[98, 110, 101]⟩, .string ⟨#[98, 108, 116]⟩, .string ⟨#[98, 103, 101]⟩, .string ⟨#[98, 108, 116, 117]⟩, .string ⟨#[98, 103, 101, 117]⟩] 9))
  have HR := Lib.hid (run_at (op := 22) (fm := 66) (code := 99) (n := 6) (zo := 22) (zf := 66) (zc := 99) rfl rfl rfl rfl rfl rfl (by decide) (by decide) (by decide) C3.out C7.out CN.out)
  go_wp2_with fail
  refine HR.out.mono ?_
  rintro e y4 ⟨g, c, rfl, hcl, hb⟩
  have AK := Lib.hid (A4.out.below (D.out.trans (hb.mono D.out.size)))
  clear HR C3 C7 CN D hb A4
  go_wp2_with (at_builtin; refine wpList_app rfl (.tmp 31) (.tmp 35) rfl rfl AK.out.r AK.out.b.size (m := 6) (by rw [rowsV_len _ _ rfl]; rfl) hcl (rowsV_one _ _) rfl (by decide) (by decide) ?_; intro v5 w5 hrow hgr)
  have A5 := Lib.hid (AK.out.grown hrow hgr)
  clear hrow hgr hcl AK
  -- rows 28..
  have C3 : Hid (ColAt (w5.alloc (.cells #[.int .u32 0, .int .u32 0, .int .u32 1, .int .u32 2, .int .u32 3, .int .u32 4, .int .u32 5, .int .u32 5, .int .u32 6, .int .u32 7] 22)) w5.heap.size (u32s [0, 0, 1, 2, 3, 4, 5, 5, 6, 7])) := Lib.hid (ColAt.new w5 (u32s [0, 0, 1, 2, 3, 4, 5, 5, 6, 7]) 22)
  have D : Hid (Below w5.heap.size w5 (w5.alloc (.cells #[.int .u32 0, .int .u32 0, .int .u32 1, .int .u32 2, .int .u32 3, .int .u32 4, .int .u32 5, .int .u32 5, .int .u32 6, .int .u32 7] 22))) := Lib.hid ((Below.refl _ _).alloc (Nat.le_refl _) _)
  have C7 : Hid (ColAt ((w5.alloc (.cells #[.int .u32 0, .int .u32 0, .int .u32 1, .int .u32 2, .int .u32 3, .int .u32 4, .int .u32 5, .int .u32 5, .int .u32 6, .int .u32 7] 22)).alloc (.cells #[.int .u32 0, .int .u32 32, .int .u32 0, .int .u32 0, .int .u32 0, .int .u32 0, .int .u32 0, .int .u32 32, .int .u32 0, .int .u32 0] 22)) (w5.heap.size + 1) (u32s [0, 32, 0, 0, 0, 0, 0, 32, 0, 0])) := Lib.hid (by have := ColAt.new (w5.alloc (.cells #[.int .u32 0, .int .u32 0, .int .u32 1, .int .u32 2, .int .u32 3, .int .u32 4, .int .u32 5, .int .u32 5, .int .u32 6, .int .u32 7] 22)) (u32s [0, 32, 0, 0, 0, 0, 0, 32, 0, 0]) 22; rw [size_one] at this; exact this)
  have C3 := Lib.hid (C3.out.alloc (.cells #[.int .u32 0, .int .u32 32, .int .u32 0, .int .u32 0, .int .u32 0, .int .u32 0, .int .u32 0, .int .u32 32, .int .u32 0, .int .u32 0] 22))
  have D := Lib.hid (D.out.alloc (D.out.size) (.cells #[.int .u32 0, .int .u32 32, .int .u32 0, .int .u32 0, .int .u32 0, .int .u32 0, .int .u32 0, .int .u32 32, .int .u32 0, .int .u32 0] 22))
  have CN : Hid (ColAt (((w5.alloc (.cells #[.int .u32 0, .int .u32 0, .int .u32 1, .int .u32 2, .int .u32 3, .int .u32 4, .int .u32 5, .int .u32 5, .int .u32 6, .int .u32 7] 22)).alloc (.cells #[.int .u32 0, .int .u32 32, .int .u32 0, .int .u32 0, .int .u32 0, .int .u32 0, .int .u32 0, .int .u32 32, .int .u32 0, .int .u32 0] 22)).alloc (.cells #[.string ⟨#[97, 100, 100]⟩, .string ⟨#[115, 117, 98]⟩, .string ⟨#[115, 108, 108]⟩, .string ⟨#[115, 108, 116]⟩, .string ⟨#[115, 108, 116, 117]⟩, .string ⟨#[120, 111, 114]⟩, .string ⟨#[115, 114, 108]⟩, .string ⟨#[115, 114, 97]⟩, .string ⟨#[111, 114]⟩, .string ⟨#[97, 110, 100]⟩] 9)) ((w5.alloc (.cells #[.int .u32 0, .int .u32 0, .int .u32 1, .int .u32 2, .int .u32 3, .int .u32 4, .int .u32 5, .int .u32 5, .int .u32 6, .int .u32 7] 22)).alloc (.cells #[.int .u32 0, .int .u32 32, .int .u32 0, .int .u32 0, .int .u32 0, .int .u32 0, .int .u32 0, .int .u32 32, .int .u32 0, .int .u32 0] 22)).heap.size (strs n28)) := Lib.hid (ColAt.new ((w5.alloc (.cells #[.int .u32 0, .int .u32 0, .int .u32 1, .int .u32 2, .int .u32 3, .int .u32 4, .int .u32 5, .int .u32 5, .int .u32 6, .int .u32 7] 22)).alloc (.cells #[.int .u32 0, .int .u32 32, .int .u32 0, .int .u32 0, .int .u32 0, .int .u32 0, .int .u32 0, .int .u32 32, .int .u32 0, .int .u32 0] 22)) (strs n28) 9)
  have C3 := Lib.hid (C3.out.alloc (.cells #[.string ⟨#[97, 100, 100]⟩, .string ⟨#[115, 117, 98]⟩, .string ⟨#[115, 108, 108]⟩, .string ⟨#[115, 108, 116]⟩, .string ⟨#[115, 108, 116, 117]⟩, .string ⟨#[120, 111, 114]⟩, .string ⟨#[115, 114, 108]⟩, .string ⟨#[115, 114, 97]⟩, .string ⟨#[111, 114]⟩, .string ⟨#[97, 110, 100]⟩] 9))
  have C7 := Lib.hid (C7.out.alloc (.cells #[.string ⟨#[97, 100, 100]⟩, .string ⟨#[115, 117, 98]⟩, .string ⟨#[115, 108, 108]⟩, .string ⟨#[115, 108, 116]⟩, .string ⟨#[115, 108, 116, 117]⟩, .string ⟨#[120, 111, 114]⟩, .string ⟨#[115, 114, 108]⟩, .string ⟨#[115, 114, 97]⟩, .string ⟨#[111, 114]⟩, .string ⟨#[97, 110, 100]⟩] 9))
  have D := Lib.hid (D.out.alloc (D.out.size) (.cells #[.string ⟨#[97, 100, 100]⟩, .string ⟨#[115, 117, 98]⟩, .string ⟨#[115, 108, 108]⟩, .string ⟨#[115, 108, 116]⟩, .string ⟨#[115, 108, 116, 117]⟩, .string ⟨#[120, 111, 114]⟩, .string ⟨#[115, 114, 108]⟩, .string ⟨#[115, 114, 97]⟩, .string ⟨#[111, 114]⟩, .string ⟨#[97, 110, 100]⟩] 9))
  rw [size_two] at CN
  have HR := Lib.hid (run_at (op := 28) (fm := 82) (code := 51) (n := 10) (zo := 28) (zf := 82) (zc := 51) rfl rfl rfl rfl rfl rfl (by decide) (by decide) (by decide) C3.out C7.out CN.out)
  go_wp2_with fail
  refine HR.out.mono ?_
  rintro e y5 ⟨g, c, rfl, hcl, hb⟩
  have AK := Lib.hid (A5.out.below (D.out.trans (hb.mono D.out.size)))
  clear HR C3 C7 CN D hb A5
  go_wp2_with (at_builtin; refine wpList_app rfl (.tmp 37) (.tmp 41) rfl rfl AK.out.r AK.out.b.size (m := 10) (by rw [rowsV_len _ _ rfl]; rfl) hcl (rowsV_one _ _) rfl (by decide) (by decide) ?_; intro v6 w6 hrow hgr)
  have A6 := Lib.hid (AK.out.grown hrow hgr)
  clear hrow hgr hcl AK
  -- rows 38..
  have C3 : Hid (ColAt (w6.alloc (.cells #[.int .u32 0, .int .u32 1, .int .u32 2, .int .u32 3, .int .u32 4, .int .u32 5, .int .u32 6, .int .u32 7] 22)) w6.heap.size (u32s [0, 1, 2, 3, 4, 5, 6, 7])) := Lib.hid (ColAt.new w6 (u32s [0, 1, 2, 3, 4, 5, 6, 7]) 22)
  have D : Hid (Below w6.heap.size w6 (w6.alloc (.cells #[.int .u32 0, .int .u32 1, .int .u32 2, .int .u32 3, .int .u32 4, .int .u32 5, .int .u32 6, .int .u32 7] 22))) := Lib.hid ((Below.refl _ _).alloc (Nat.le_refl _) _)
  have C7 : Hid (ColAt ((w6.alloc (.cells #[.int .u32 0, .int .u32 1, .int .u32 2, .int .u32 3, .int .u32 4, .int .u32 5, .int .u32 6, .int .u32 7] 22)).alloc (.cells #[.int .u32 1, .int .u32 1, .int .u32 1, .int .u32 1, .int .u32 1, .int .u32 1, .int .u32 1, .int .u32 1] 22)) (w6.heap.size + 1) (u32s [1, 1, 1, 1, 1, 1, 1, 1])) := Lib.hid (by have := ColAt.new (w6.alloc (.cells #[.int .u32 0, .int .u32 1, .int .u32 2, .int .u32 3, .int .u32 4, .int .u32 5, .int .u32 6, .int .u32 7] 22)) (u32s [1, 1, 1, 1, 1, 1, 1, 1]) 22; rw [size_one] at this; exact this)
  have C3 := Lib.hid (C3.out.alloc (.cells #[.int .u32 1, .int .u32 1, .int .u32 1, .int .u32 1, .int .u32 1, .int .u32 1, .int .u32 1, .int .u32 1] 22))
  have D := Lib.hid (D.out.alloc (D.out.size) (.cells #[.int .u32 1, .int .u32 1, .int .u32 1, .int .u32 1, .int .u32 1, .int .u32 1, .int .u32 1, .int .u32 1] 22))
  have CN : Hid (ColAt (((w6.alloc (.cells #[.int .u32 0, .int .u32 1, .int .u32 2, .int .u32 3, .int .u32 4, .int .u32 5, .int .u32 6, .int .u32 7] 22)).alloc (.cells #[.int .u32 1, .int .u32 1, .int .u32 1, .int .u32 1, .int .u32 1, .int .u32 1, .int .u32 1, .int .u32 1] 22)).alloc (.cells #[.string ⟨#[109, 117, 108]⟩, .string ⟨#[109, 117, 108, 104]⟩, .string ⟨#[109, 117, 108, 104, 115, 117]⟩, .string ⟨#[109, 117, 108, 104, 117]⟩, .string ⟨#[100, 105, 118]⟩, .string ⟨#[100, 105, 118, 117]⟩, .string ⟨#[114, 101, 109]⟩, .string ⟨#[114, 101, 109, 117]⟩] 9)) ((w6.alloc (.cells #[.int .u32 0, .int .u32 1, .int .u32 2, .int .u32 3, .int .u32 4, .int .u32 5, .int .u32 6, .int .u32 7] 22)).alloc (.cells #[.int .u32 1, .int .u32 1, .int .u32 1, .int .u32 1, .int .u32 1, .int .u32 1, .int .u32 1, .int .u32 1] 22)).heap.size (strs n38)) := Lib.hid (ColAt.new ((w6.alloc (.cells #[.int .u32 0, .int .u32 1, .int .u32 2, .int .u32 3, .int .u32 4, .int .u32 5, .int .u32 6, .int .u32 7] 22)).alloc (.cells #[.int .u32 1, .int .u32 1, .int .u32 1, .int .u32 1, .int .u32 1, .int .u32 1, .int .u32 1, .int .u32 1] 22)) (strs n38) 9)
  have C3 := Lib.hid (C3.out.alloc (.cells #[.string ⟨#[109, 117, 108]⟩, .string ⟨#[109, 117, 108, 104]⟩, .string ⟨#[109, 117, 108, 104, 115, 117]⟩, .string ⟨#[109, 117, 108, 104, 117]⟩, .string ⟨#[100, 105, 118]⟩, .string ⟨#[100, 105, 118, 117]⟩, .string ⟨#[114, 101, 109]⟩, .string ⟨#[114, 101, 109, 117]⟩] 9))
  have C7 := Lib.hid (C7.out.alloc (.cells #[.string ⟨#[109, 117, 108]⟩, .string ⟨#[109, 117, 108, 104]⟩, .string ⟨#[109, 117, 108, 104, 115, 117]⟩, .string ⟨#[109, 117, 108, 104, 117]⟩, .string ⟨#[100, 105, 118]⟩, .string ⟨#[100, 105, 118, 117]⟩, .string ⟨#[114, 101, 109]⟩, .string ⟨#[114, 101, 109, 117]⟩] 9))
  have D := Lib.hid (D.out.alloc (D.out.size) (.cells #[.string ⟨#[109, 117, 108]⟩, .string ⟨#[109, 117, 108, 104]⟩, .string ⟨#[109, 117, 108, 104, 115, 117]⟩, .string ⟨#[109, 117, 108, 104, 117]⟩, .string ⟨#[100, 105, 118]⟩, .string ⟨#[100, 105, 118, 117]⟩, .string ⟨#[114, 101, 109]⟩, .string ⟨#[114, 101, 109, 117]⟩] 9))
  rw [size_two] at CN
  have HR := Lib.hid (run_at (op := 38) (fm := 82) (code := 51) (n := 8) (zo := 38) (zf := 82) (zc := 51) rfl rfl rfl rfl rfl rfl (by decide) (by decide) (by decide) C3.out C7.out CN.out)
  go_wp2_with fail
  refine HR.out.mono ?_
  rintro e y6 ⟨g, c, rfl, hcl, hb⟩
  have AK := Lib.hid (A6.out.below (D.out.trans (hb.mono D.out.size)))
  clear HR C3 C7 CN D hb A6
  go_wp2_with (at_builtin; refine wpList_app rfl (.tmp 43) (.tmp 47) rfl rfl AK.out.r AK.out.b.size (m := 8) (by rw [rowsV_len _ _ rfl]; rfl) hcl (rowsV_one _ _) rfl (by decide) (by decide) ?_; intro v7 w7 hrow hgr)
  have A7 := Lib.hid (AK.out.grown hrow hgr)
  clear hrow hgr hcl AK
  -- rows 46..
  have C3 : Hid (ColAt (w7.alloc (.cells #[.int .u32 2, .int .u32 2, .int .u32 2, .int .u32 2, .int .u32 2, .int .u32 2, .int .u32 2, .int .u32 2, .int .u32 2, .int .u32 2, .int .u32 2] 22)) w7.heap.size (u32s [2, 2, 2, 2, 2, 2, 2, 2, 2, 2, 2])) := Lib.hid (ColAt.new w7 (u32s [2, 2, 2, 2, 2, 2, 2, 2, 2, 2, 2]) 22)
  have D : Hid (Below w7.heap.size w7 (w7.alloc (.cells #[.int .u32 2, .int .u32 2, .int .u32 2, .int .u32 2, .int .u32 2, .int .u32 2, .int .u32 2, .int .u32 2, .int .u32 2, .int .u32 2, .int .u32 2] 22))) := Lib.hid ((Below.refl _ _).alloc (Nat.le_refl _) _)
  have C7 : Hid (ColAt ((w7.alloc (.cells #[.int .u32 2, .int .u32 2, .int .u32 2, .int .u32 2, .int .u32 2, .int .u32 2, .int .u32 2, .int .u32 2, .int .u32 2, .int .u32 2, .int .u32 2] 22)).alloc (.cells #[.int .u32 2, .int .u32 3, .int .u32 1, .int .u32 0, .int .u32 4, .int .u32 12, .int .u32 8, .int .u32 16, .int .u32 20, .int .u32 24, .int .u32 28] 22)) (w7.heap.size + 1) (u32s [2, 3, 1, 0, 4, 12, 8, 16, 20, 24, 28])) := Lib.hid (by have := ColAt.new (w7.alloc (.cells #[.int .u32 2, .int .u32 2, .int .u32 2, .int .u32 2, .int .u32 2, .int .u32 2, .int .u32 2, .int .u32 2, .int .u32 2, .int .u32 2, .int .u32 2] 22)) (u32s [2, 3, 1, 0, 4, 12, 8, 16, 20, 24, 28]) 22; rw [size_one] at this; exact this)
  have C3 := Lib.hid (C3.out.alloc (.cells #[.int .u32 2, .int .u32 3, .int .u32 1, .int .u32 0, .int .u32 4, .int .u32 12, .int .u32 8, .int .u32 16, .int .u32 20, .int .u32 24, .int .u32 28] 22))
  have D := Lib.hid (D.out.alloc (D.out.size) (.cells #[.int .u32 2, .int .u32 3, .int .u32 1, .int .u32 0, .int .u32 4, .int .u32 12, .int .u32 8, .int .u32 16, .int .u32 20, .int .u32 24, .int .u32 28] 22))
  have CN : Hid (ColAt (((w7.alloc (.cells #[.int .u32 2, .int .u32 2, .int .u32 2, .int .u32 2, .int .u32 2, .int .u32 2, .int .u32 2, .int .u32 2, .int .u32 2, .int .u32 2, .int .u32 2] 22)).alloc (.cells #[.int .u32 2, .int .u32 3, .int .u32 1, .int .u32 0, .int .u32 4, .int .u32 12, .int .u32 8, .int .u32 16, .int .u32 20, .int .u32 24, .int .u32 28] 22)).alloc (.cells #[.string ⟨#[108, 114, 46, 119]⟩, .string ⟨#[115, 99, 46, 119]⟩, .string ⟨#[97, 109, 111, 115, 119, 97, 112, 46, 119]⟩, .string ⟨#[97, 109, 111, 97, 100, 100, 46, 119]⟩, .string ⟨#[97, 109, 111, 120, 111, 114, 46, 119]⟩, .string ⟨#[97, 109, 111, 97, 110, 100, 46, 119]⟩, .string ⟨#[97, 109, 111, 111, 114, 46, 119]⟩, .string ⟨#[97, 109, 111, 109, 105, 110, 46, 119]⟩, .string ⟨#[97, 109, 111, 109, 97, 120, 46, 119]⟩, .string ⟨#[97, 109, 111, 109, 105, 110, 117, 46, 119]⟩, .string ⟨#[97, 109, 111, 109, 97, 120, 117, 46, 119]⟩] 9)) ((w7.alloc (.cells #[.int .u32 2, .int .u32 2, .int .u32 2, .int .u32 2, .int .u32 2, .int .u32 2, .int .u32 2, .int .u32 2, .int .u32 2, .int .u32 2, .int .u32 2] 22)).alloc (.cells #[.int .u32 2, .int .u32 3, .int .u32 1, .int .u32 0, .int .u32 4, .int .u32 12, .int .u32 8, .int .u32 16, .int .u32 20, .int .u32 24, .int .u32 28] 22)).heap.size (strs n46)) := Lib.hid (ColAt.new ((w7.alloc (.cells #[.int .u32 2, .int .u32 2, .int .u32 2, .int .u32 2, .int .u32 2, .int .u32 2, .int .u32 2, .int .u32 2, .int .u32 2, .int .u32 2, .int .u32 2] 22)).alloc (.cells #[.int .u32 2, .int .u32 3, .int .u32 1, .int .u32 0, .int .u32 4, .int .u32 12, .int .u32 8, .int .u32 16, .int .u32 20, .int .u32 24, .int .u32 28] 22)) (strs n46) 9)
  have C3 := Lib.hid (C3.out.alloc (.cells #[.string ⟨#[108, 114, 46, 119]⟩, .string ⟨#[115, 99, 46, 119]⟩, .string ⟨#[97, 109, 111, 115, 119, 97, 112, 46, 119]⟩, .string ⟨#[97, 109, 111, 97, 100, 100, 46, 119]⟩, .string ⟨#[97, 109, 111, 120, 111, 114, 46, 119]⟩, .string ⟨#[97, 109, 111, 97, 110, 100, 46, 119]⟩, .string ⟨#[97, 109, 111, 111, 114, 46, 119]⟩, .string ⟨#[97, 109, 111, 109, 105, 110, 46, 119]⟩, .string ⟨#[97, 109, 111, 109, 97, 120, 46, 119]⟩, .string ⟨#[97, 109, 111, 109, 105, 110, 117, 46, 119]⟩, .string ⟨#[97, 109, 111, 109, 97, 120, 117, 46, 119]⟩] 9))
  have C7 := Lib.hid (C7.out.alloc (.cells #[.string ⟨#[108, 114, 46, 119]⟩, .string ⟨#[115, 99, 46, 119]⟩, .string ⟨#[97, 109, 111, 115, 119, 97, 112, 46, 119]⟩, .string ⟨#[97, 109, 111, 97, 100, 100, 46, 119]⟩, .string ⟨#[97, 109, 111, 120, 111, 114, 46, 119]⟩, .string ⟨#[97, 109, 111, 97, 110, 100, 46, 119]⟩, .string ⟨#[97, 109, 111, 111, 114, 46, 119]⟩, .string ⟨#[97, 109, 111, 109, 105, 110, 46, 119]⟩, .string ⟨#[97, 109, 111, 109, 97, 120, 46, 119]⟩, .string ⟨#[97, 109, 111, 109, 105, 110, 117, 46, 119]⟩, .string ⟨#[97, 109, 111, 109, 97, 120, 117, 46, 119]⟩] 9))
  have D := Lib.hid (D.out.alloc (D.out.size) (.cells #[.string ⟨#[108, 114, 46, 119]⟩, .string ⟨#[115, 99, 46, 119]⟩, .string ⟨#[97, 109, 111, 115, 119, 97, 112, 46, 119]⟩, .string ⟨#[97, 109, 111, 97, 100, 100, 46, 119]⟩, .string ⟨#[97, 109, 111, 120, 111, 114, 46, 119]⟩, .string ⟨#[97, 109, 111, 97, 110, 100, 46, 119]⟩, .string ⟨#[97, 109, 111, 111, 114, 46, 119]⟩, .string ⟨#[97, 109, 111, 109, 105, 110, 46, 119]⟩, .string ⟨#[97, 109, 111, 109, 97, 120, 46, 119]⟩, .string ⟨#[97, 109, 111, 109, 105, 110, 117, 46, 119]⟩, .string ⟨#[97, 109, 111, 109, 97, 120, 117, 46, 119]⟩] 9))
  rw [size_two] at CN
  have HR := Lib.hid (run_at (op := 46) (fm := 65) (code := 47) (n := 11) (zo := 46) (zf := 65) (zc := 47) rfl rfl rfl rfl rfl rfl (by decide) (by decide) (by decide) C3.out C7.out CN.out)
  go_wp2_with fail
  refine HR.out.mono ?_
  rintro e y7 ⟨g, c, rfl, hcl, hb⟩
  have AK := Lib.hid (A7.out.below (D.out.trans (hb.mono D.out.size)))
  clear HR C3 C7 CN D hb A7
  go_wp2_with (at_builtin; refine wpList_app rfl (.tmp 49) (.tmp 53) rfl rfl AK.out.r AK.out.b.size (m := 11) (by rw [rowsV_len _ _ rfl]; rfl) hcl (rowsV_one _ _) rfl (by decide) (by decide) ?_; intro v8 w8 hrow hgr)
  have A8 := Lib.hid (AK.out.grown hrow hgr)
  clear hrow hgr hcl AK
  -- rows 57..
  have C3 : Hid (ColAt (w8.alloc (.cells #[.int .u32 1, .int .u32 2, .int .u32 3] 22)) w8.heap.size (u32s [1, 2, 3])) := Lib.hid (ColAt.new w8 (u32s [1, 2, 3]) 22)
  have D : Hid (Below w8.heap.size w8 (w8.alloc (.cells #[.int .u32 1, .int .u32 2, .int .u32 3] 22))) := Lib.hid ((Below.refl _ _).alloc (Nat.le_refl _) _)
  go_wp2_with fail
  refine (noughts_any (n := 3) rfl (by decide) _).mono ?_
  rintro e y ⟨b7, rfl, hc7, hb⟩
  have C7 := Lib.hid hc7
  have C3 := Lib.hid (C3.out.below hb)
  have D := Lib.hid (D.out.trans (hb.mono D.out.size))
  clear hc7 hb
  have CN : Hid (ColAt (y.alloc (.cells #[.string ⟨#[99, 115, 114, 114, 119]⟩, .string ⟨#[99, 115, 114, 114, 115]⟩, .string ⟨#[99, 115, 114, 114, 99]⟩] 9)) y.heap.size (strs n57)) := Lib.hid (ColAt.new y (strs n57) 9)
  have C3 := Lib.hid (C3.out.alloc (.cells #[.string ⟨#[99, 115, 114, 114, 119]⟩, .string ⟨#[99, 115, 114, 114, 115]⟩, .string ⟨#[99, 115, 114, 114, 99]⟩] 9))
  have C7 := Lib.hid (C7.out.alloc (.cells #[.string ⟨#[99, 115, 114, 114, 119]⟩, .string ⟨#[99, 115, 114, 114, 115]⟩, .string ⟨#[99, 115, 114, 114, 99]⟩] 9))
  have D := Lib.hid (D.out.alloc (D.out.size) (.cells #[.string ⟨#[99, 115, 114, 114, 119]⟩, .string ⟨#[99, 115, 114, 114, 115]⟩, .string ⟨#[99, 115, 114, 114, 99]⟩] 9))
  have HR := Lib.hid (run_at (op := 57) (fm := 67) (code := 115) (n := 3) (zo := 57) (zf := 67) (zc := 115) rfl rfl rfl rfl rfl rfl (by decide) (by decide) (by decide) C3.out C7.out CN.out)
  go_wp2_with fail
  refine HR.out.mono ?_
  rintro e y8 ⟨g, c, rfl, hcl, hb⟩
  have AK := Lib.hid (A8.out.below (D.out.trans (hb.mono D.out.size)))
  clear HR C3 C7 CN D hb A8
  go_wp2_with (at_builtin; refine wpList_app rfl (.tmp 55) (.tmp 59) rfl rfl AK.out.r AK.out.b.size (m := 3) (by rw [rowsV_len _ _ rfl]; rfl) hcl (rowsV_one _ _) rfl (by decide) (by decide) ?_; intro v9 w9 hrow hgr)
  have A9 := Lib.hid (AK.out.grown hrow hgr)
  clear hrow hgr hcl AK
  -- rows 60..
  have C3 : Hid (ColAt (w9.alloc (.cells #[.int .u32 5, .int .u32 6, .int .u32 7] 22)) w9.heap.size (u32s [5, 6, 7])) := Lib.hid (ColAt.new w9 (u32s [5, 6, 7]) 22)
  have D : Hid (Below w9.heap.size w9 (w9.alloc (.cells #[.int .u32 5, .int .u32 6, .int .u32 7] 22))) := Lib.hid ((Below.refl _ _).alloc (Nat.le_refl _) _)
  go_wp2_with fail
  refine (noughts_any (n := 3) rfl (by decide) _).mono ?_
  rintro e y ⟨b7, rfl, hc7, hb⟩
  have C7 := Lib.hid hc7
  have C3 := Lib.hid (C3.out.below hb)
  have D := Lib.hid (D.out.trans (hb.mono D.out.size))
  clear hc7 hb
  have CN : Hid (ColAt (y.alloc (.cells #[.string ⟨#[99, 115, 114, 114, 119, 105]⟩, .string ⟨#[99, 115, 114, 114, 115, 105]⟩, .string ⟨#[99, 115, 114, 114, 99, 105]⟩] 9)) y.heap.size (strs n60)) := Lib.hid (ColAt.new y (strs n60) 9)
  have C3 := Lib.hid (C3.out.alloc (.cells #[.string ⟨#[99, 115, 114, 114, 119, 105]⟩, .string ⟨#[99, 115, 114, 114, 115, 105]⟩, .string ⟨#[99, 115, 114, 114, 99, 105]⟩] 9))
  have C7 := Lib.hid (C7.out.alloc (.cells #[.string ⟨#[99, 115, 114, 114, 119, 105]⟩, .string ⟨#[99, 115, 114, 114, 115, 105]⟩, .string ⟨#[99, 115, 114, 114, 99, 105]⟩] 9))
  have D := Lib.hid (D.out.alloc (D.out.size) (.cells #[.string ⟨#[99, 115, 114, 114, 119, 105]⟩, .string ⟨#[99, 115, 114, 114, 115, 105]⟩, .string ⟨#[99, 115, 114, 114, 99, 105]⟩] 9))
  have HR := Lib.hid (run_at (op := 60) (fm := 68) (code := 115) (n := 3) (zo := 60) (zf := 68) (zc := 115) rfl rfl rfl rfl rfl rfl (by decide) (by decide) (by decide) C3.out C7.out CN.out)
  go_wp2_with fail
  refine HR.out.mono ?_
  rintro e y9 ⟨g, c, rfl, hcl, hb⟩
  have AK := Lib.hid (A9.out.below (D.out.trans (hb.mono D.out.size)))
  clear HR C3 C7 CN D hb A9
  go_wp2_with (at_builtin; refine wpList_app rfl (.tmp 61) (.tmp 65) rfl rfl AK.out.r AK.out.b.size (m := 3) (by rw [rowsV_len _ _ rfl]; rfl) hcl (rowsV_one _ _) rfl (by decide) (by decide) ?_; intro v10 w10 hrow hgr)
  have A10 := Lib.hid (AK.out.grown hrow hgr)
  clear hrow hgr hcl AK
  -- rows 63..
  have C3 : Hid (ColAt (w10.alloc (.cells #[.int .u32 0, .int .u32 1] 22)) w10.heap.size (u32s [0, 1])) := Lib.hid (ColAt.new w10 (u32s [0, 1]) 22)
  have D : Hid (Below w10.heap.size w10 (w10.alloc (.cells #[.int .u32 0, .int .u32 1] 22))) := Lib.hid ((Below.refl _ _).alloc (Nat.le_refl _) _)
  go_wp2_with fail
  refine (noughts_any (n := 2) rfl (by decide) _).mono ?_
  rintro e y ⟨b7, rfl, hc7, hb⟩
  have C7 := Lib.hid hc7
  have C3 := Lib.hid (C3.out.below hb)
  have D := Lib.hid (D.out.trans (hb.mono D.out.size))
  clear hc7 hb
  have CN : Hid (ColAt (y.alloc (.cells #[.string ⟨#[102, 101, 110, 99, 101]⟩, .string ⟨#[102, 101, 110, 99, 101, 46, 105]⟩] 9)) y.heap.size (strs n63)) := Lib.hid (ColAt.new y (strs n63) 9)
  have C3 := Lib.hid (C3.out.alloc (.cells #[.string ⟨#[102, 101, 110, 99, 101]⟩, .string ⟨#[102, 101, 110, 99, 101, 46, 105]⟩] 9))
  have C7 := Lib.hid (C7.out.alloc (.cells #[.string ⟨#[102, 101, 110, 99, 101]⟩, .string ⟨#[102, 101, 110, 99, 101, 46, 105]⟩] 9))
  have D := Lib.hid (D.out.alloc (D.out.size) (.cells #[.string ⟨#[102, 101, 110, 99, 101]⟩, .string ⟨#[102, 101, 110, 99, 101, 46, 105]⟩] 9))
  have HR := Lib.hid (run_at (op := 63) (fm := 70) (code := 15) (n := 2) (zo := 63) (zf := 70) (zc := 15) rfl rfl rfl rfl rfl rfl (by decide) (by decide) (by decide) C3.out C7.out CN.out)
  go_wp2_with fail
  refine HR.out.mono ?_
  rintro e y10 ⟨g, c, rfl, hcl, hb⟩
  have AK := Lib.hid (A10.out.below (D.out.trans (hb.mono D.out.size)))
  clear HR C3 C7 CN D hb A10
  go_upto_region 13 with (at_builtin; refine wpList_app rfl (.tmp 67) (.tmp 71) rfl rfl AK.out.r AK.out.b.size (m := 2) (by rw [rowsV_len _ _ rfl]; rfl) hcl (rowsV_one _ _) rfl (by decide) (by decide) ?_; intro v11 w11 hrow hgr)
  have A11 := Lib.hid (AK.out.grown hrow hgr)
  clear hrow hgr hcl AK
  -- the last four
  have HB : Hid (Below w11.heap.size w11 (w11.alloc (.cells #[.int .u8 65, .int .u8 88, .int .u32 115, .int .u32 0, .int .u32 0, .string ⟨#[101, 99, 97, 108, 108]⟩, .int .u8 66, .int .u8 88, .int .u32 1048691, .int .u32 0, .int .u32 0, .string ⟨#[101, 98, 114, 101, 97, 107]⟩, .int .u8 67, .int .u8 88, .int .u32 807403635, .int .u32 0, .int .u32 0, .string ⟨#[109, 114, 101, 116]⟩, .int .u8 68, .int .u8 88, .int .u32 273678451, .int .u32 0, .int .u32 0, .string ⟨#[119, 102, 105]⟩] 44))) := Lib.hid ((Below.refl _ _).alloc (Nat.le_refl _) _)
  have AK := Lib.hid (A11.out.below HB.out)
  have HC := Lib.hid (new_row w11 [.int .u8 65, .int .u8 88, .int .u32 115, .int .u32 0, .int .u32 0, .string ⟨#[101, 99, 97, 108, 108]⟩, .int .u8 66, .int .u8 88, .int .u32 1048691, .int .u32 0, .int .u32 0, .string ⟨#[101, 98, 114, 101, 97, 107]⟩, .int .u8 67, .int .u8 88, .int .u32 807403635, .int .u32 0, .int .u32 0, .string ⟨#[109, 114, 101, 116]⟩, .int .u8 68, .int .u8 88, .int .u32 273678451, .int .u32 0, .int .u32 0, .string ⟨#[119, 102, 105]⟩] 44)
  go_wp2_with (at_builtin; refine wpList_app rfl (.tmp 73) (.tmp 78) rfl rfl AK.out.r AK.out.b.size (m := 4) (by rfl) HC.out (by simp [Value.oneCell']) rfl (by decide) (by decide) ?_; intro v w' hrow hgr)
  go_ret
  have AE := AK.out.grown hrow hgr
  refine ⟨v, rfl, ?_⟩
  have e : rowsV rowsP namesP = rowsV headP headN ++ rowsV (runP 5 73 3 [0, 1, 2, 4, 5] [0, 0, 0, 0, 0]) n5 ++ rowsV (runP 10 73 19 [0, 2, 3, 4, 6, 7] [0, 0, 0, 0, 0, 0]) n10 ++ rowsV (runP 16 72 19 [1, 5, 5] [0, 0, 32]) n16 ++ rowsV (runP 19 83 35 [0, 1, 2] [0, 0, 0]) n19 ++ rowsV (runP 22 66 99 [0, 1, 4, 5, 6, 7] [0, 0, 0, 0, 0, 0]) n22 ++ rowsV (runP 28 82 51 [0, 0, 1, 2, 3, 4, 5, 5, 6, 7] [0, 32, 0, 0, 0, 0, 0, 32, 0, 0]) n28 ++ rowsV (runP 38 82 51 [0, 1, 2, 3, 4, 5, 6, 7] [1, 1, 1, 1, 1, 1, 1, 1]) n38 ++ rowsV (runP 46 65 47 [2, 2, 2, 2, 2, 2, 2, 2, 2, 2, 2] [2, 3, 1, 0, 4, 12, 8, 16, 20, 24, 28]) n46 ++ rowsV (runP 57 67 115 [1, 2, 3] [0, 0, 0]) n57 ++ rowsV (runP 60 68 115 [5, 6, 7] [0, 0, 0]) n60 ++ rowsV (runP 63 70 15 [0, 1] [0, 0]) n63  ++ rowsV tailP tailN := by
    unfold rowsP namesP
    rw [rowsV_app _ _ _ _ (by decide), rowsV_app _ _ _ _ (by decide), rowsV_app _ _ _ _ (by decide), rowsV_app _ _ _ _ (by decide), rowsV_app _ _ _ _ (by decide), rowsV_app _ _ _ _ (by decide), rowsV_app _ _ _ _ (by decide), rowsV_app _ _ _ _ (by decide), rowsV_app _ _ _ _ (by decide), rowsV_app _ _ _ _ (by decide), rowsV_app _ _ _ _ (by decide), rowsV_app _ _ _ _ (by decide)]
  rw [e]
  exact AE
end De
end Go.Proofs.YtbgcgomefdblpaaDoor
