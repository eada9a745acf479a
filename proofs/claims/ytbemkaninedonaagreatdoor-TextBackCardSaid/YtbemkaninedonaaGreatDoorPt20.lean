/-
What the library's functions answer layer text: numbers in tens, put and got; a text cut at its beginning.
The writer of layer text: what it has in memory; what is added to it, as a fact on one call.
add of layer text: what a writer has written behind it, or the error by which it leaves, as a fact on one call.
-/
import Derived.Test.YtbemkaninedonaaGreatDoorPt19
import Derived.Lib.ItoaMem
import Derived.Lib.ItoaWalk
import Derived.Lib.Walk
import Derived.WalkKit
import Derived.BigCall
import Derived.Below
import Derived.Lib.Hide
import Derived.Lib.SmallJoins
import Derived.Test.YtbemkaninedonaaGreatDoorPt01
import Derived.Test.YtbemkaninedonaaGreatDoorPt17
import Derived.Lib.AppendStr
import Derived.Deep.LoopGhost
import Derived.WalkLawsBesides
namespace Go.Proofs.YtbemkaninedonaaGreatDoor
open Go.RowKit Go.Sort Go.Lib
namespace Tx
set_option maxHeartbeats 1600000
set_option maxRecDepth 100000

theorem bel_grow (w : World) (k : Nat) (os : Array Obj) : Below w.heap.size w (grow (w.drewN k) os) := by
  refine ⟨rfl, rfl, rfl, ?_, fun i hi => ?_⟩
  · rw [size_grow]; exact Nat.le_add_right _ _
  · exact heap_grow_old (w.drewN k) os hi

theorem small_any (i : Nat) (h : i < 100) (w : World) :
    Calls Tryz.prog 76 #[.int .i64 i] w fun e w' => e = .returned (.string ⟨(decDigits i).toArray⟩) ∧ w' = w := Any.internal_strconv_small Tryz.lays283 i h w
theorem numDigits_any (u : Nat) (h1 : 1 ≤ u) (h2 : u < 18446744073709551616) (w : World) (htab : TabIs Tryz.prog w "internal/strconv.uint64pow10" .u64 pow10Tab) :
    Calls Tryz.prog 77 #[.int .u64 u] w fun e w' => e = .returned (.int .i64 (nDigits u)) ∧ w' = w := Any.internal_strconv_numDigits Tryz.laysM284 u h1 h2 w htab
theorem formatBase10_any (blk off cap : Nat) (u : Nat) (d : Array UInt8) (w : World) (hH : Holds (fun (b : UInt8) => Value.int .u8 (b.toNat : Int)) w blk off d) (hu : u < 10 ^ d.size) (hu64 : u < 18446744073709551616) (hsz : d.size < 4611686018427387904) :
    Calls Tryz.prog 78 #[.slice (some ⟨blk, off, none⟩) d.size cap, .int .u64 u] w fun e w' =>
      e = .returned (.tuple #[]) ∧ ∃ (n v' : Nat) (dk : Array UInt8), w' = (putRow (fun (b : UInt8) => Value.int .u8 (b.toNat : Int)) w blk off dk).drewN n ∧ FmtInv d.size u 0 v' dk := Any.internal_strconv_formatBase10 Tryz.lays285 blk off cap u d w hH hu hu64 hsz
theorem cutPrefix_any (s p : ByteArray) (w : World) :
    Calls Tryz.prog 65 #[.string s, .string p] w fun e w' => e = .returned (.tuple #[.string ⟨(trimPrefix s.data.toList p.data.toList).toArray⟩, .bool (hasPrefix s.data.toList p.data.toList)]) ∧ w' = w := Any.strings_CutPrefix Tryz.lays103 s p w
theorem itoa_any (n : Int) (h0 : -9223372036854775808 ≤ n) (h1 : n ≤ 9223372036854775807) (w : World) (htab : TabIs Tryz.prog w "internal/strconv.uint64pow10" .u64 pow10Tab) :
    Calls Tryz.prog 101 #[.int .i64 n] w fun e w' => e = .returned (.string ⟨(itoa n).toArray⟩) ∧ Below w.heap.size w w' := by
  refine (Any.strconv_Itoa Tryz.laysM171 n h0 h1 w htab).mono ?_
  rintro e w' ⟨rfl, k, os, rfl⟩
  exact ⟨rfl, bel_grow w k os⟩
theorem parse_ok (s : ByteArray) (hmax : s.size ≤ 9223372036854775806) (u : Nat) (h : parseUintB 64 s.data.toList = .ok u) (w : World) :
    Calls Tryz.prog 67 #[.string s, .int .i64 10, .int .i64 64] w fun e w' => e = .returned (.tuple #[.int .u64 u, .nilIface]) ∧ Below w.heap.size w w' := by
  refine (Any.strconv_ParseUint_10_at64_ok Tryz.laysPu14 s hmax u h w).mono ?_
  rintro e w' ⟨rfl, hw⟩
  refine ⟨rfl, ?_⟩
  rcases hw with rfl | rfl
  · exact Below.refl _ _
  · exact bytesWorld_below _ _ _
/-- No number in tens. -/
def NoNum (r : NumEnd Nat) : Prop := (∀ u, r ≠ .ok u) ∧ r ≠ .range
theorem parse_syntax (s : ByteArray) (hlim : s.size ≤ 281474976710656) (h : NoNum (parseUintB 64 s.data.toList)) (t : TypeId) (p : Value) (w : World) (hv : w.cell? ⟨2, 0, none⟩ = some (.iface t p)) :
    Calls Tryz.prog 67 #[.string s, .int .i64 10, .int .i64 64] w fun e w' => ∃ N, e = .returned (.tuple #[.int .u64 0, .iface 135 (.pointer (some ⟨N, 0, none⟩))]) ∧ Below w.heap.size w w' := by
  cases hp : parseUintB 64 s.data.toList with
  | ok u => rw [hp] at h; exact absurd rfl (h.1 u)
  | range => rw [hp] at h; exact absurd rfl h.2
  | _ =>
    refine (Any.strconv_ParseUint_10_at64_syntax Tryz.laysPu14 s hlim hp (.iface t p) w hv (Or.inr ⟨t, p, rfl⟩)).mono ?_
    rintro e w' ⟨N, rfl, _, _, hb⟩
    exact ⟨N, rfl, hb⟩
theorem parse_range (s : ByteArray) (hlim : s.size ≤ 281474976710656) (h : parseUintB 64 s.data.toList = .range) (t : TypeId) (p : Value) (w : World) (hv : w.cell? ⟨3, 0, none⟩ = some (.iface t p)) :
    Calls Tryz.prog 67 #[.string s, .int .i64 10, .int .i64 64] w fun e w' => ∃ N, e = .returned (.tuple #[.int .u64 18446744073709551615, .iface 135 (.pointer (some ⟨N, 0, none⟩))]) ∧ Below w.heap.size w w' := by
  refine (Any.strconv_ParseUint_10_at64_range Tryz.laysPu14 s hlim h (.iface t p) w hv (Or.inr ⟨t, p, rfl⟩)).mono ?_
  rintro e w' ⟨N, rfl, _, _, hb⟩
  exact ⟨N, rfl, hb⟩

theorem formatUint_in (u : Nat) (hu64 : u < 18446744073709551616) (w : World) (htab : TabIs Tryz.prog w "internal/strconv.uint64pow10" .u64 pow10Tab) :
    Calls Tryz.prog 64 #[.int .u64 u, .int .i64 10] w fun e w' => e = .returned (.string ⟨(decDigits u).toArray⟩) ∧ Below w.heap.size w w' := by
  by_cases hi : u < 100
  · have q : ((u : Nat) : Int) < 100 := by omega
    have cw : IntKind.i64.wrap ((u : Nat) : Int) = ((u : Nat) : Int) := by rw [IntKind.wrap_i64]; omega
    clear htab
    go_enter Tryz.func64, Tryz.ntmps64
    go_wp2_with (go_at_call 76; refine (small_any u hi _).mono ?_; rintro e w' ⟨rfl, rfl⟩)
    go_ret
    exact ⟨rfl, Below.refl _ _⟩
  · have hu1 : 1 ≤ u := by omega
    have q : ¬ ((u : Nat) : Int) < 100 := by omega
    have hnd20 : nDigits u ≤ 20 := by have := numDigits_eq u hu1 hu64; split at this <;> omega
    have hal : Tryz.prog.arrayLen 119 = 24 := by kernel_rfl
    have hel : Tryz.prog.underlying 119 = some (TypeDesc.array 24 (Tryz.prog.elem 119)) := by kernel_rfl
    have hsl1 : ∀ W, (Instr.sliceAt 119 (.pointer (some ⟨w.heap.size, 0, none⟩)) none (some (.int .i64 (nDigits u : Int))) none).run Tryz.prog W = .ok (.slice (some ⟨w.heap.size, 0, none⟩) (nDigits u) 24) W := fun W => by
      rw [run_sliceAt_array_h W 119 ⟨w.heap.size, 0, none⟩ (by rw [hal]; exact hel) .i64 (nDigits u : Int) (by omega) (by rw [hal]; omega)]
      simp [Tryz.sizeOf5, slicedAt, go_sem]
    have hH0 : Holds (fun (b : UInt8) => Value.int .u8 (b.toNat : Int)) (w.alloc (.cells zeros24 119)) w.heap.size 0 (Array.replicate (nDigits u) 0) := by
      intro j hj
      rw [Array.size_replicate] at hj
      refine ⟨?_, World.frozen?_alloc_new _ _ _ _⟩
      rw [World.cell?_alloc_new]
      have := zeros24_at (0 + j) (by omega)
      simpa [Array.getElem!_eq_getD, hj] using this
    have hfmt := formatBase10_any w.heap.size 0 24 u (Array.replicate (nDigits u) 0) (w.alloc (.cells zeros24 119)) hH0 (by rw [Array.size_replicate]; exact lt_pow_nDigits u) hu64 (by rw [Array.size_replicate]; omega)
    rw [Array.size_replicate] at hfmt
    have HH0 := Lib.hid hH0
    clear hH0 hal hel
    go_enter Tryz.func64, Tryz.ntmps64
    go_wp2_with (first
      | (go_at_call 77; refine (numDigits_any u hu1 hu64 _ (tabIs_alloc htab _)).mono ?_; rintro e w' ⟨rfl, rfl⟩)
      | (go_at_call 78; refine hfmt.mono ?_; rintro e w' ⟨rfl, k, v', dk, rfl, hF⟩; refine Hid.out ?_))
    refine Lib.hid ?_
    have hal : Tryz.prog.arrayLen 119 = 24 := by kernel_rfl
    have hcv : (convert 46 9 (.slice (some ⟨w.heap.size, 0, none⟩) (nDigits u) 24)).run Tryz.prog ((putRow (fun (b : UInt8) => Value.int .u8 (b.toNat : Int)) (w.alloc (.cells zeros24 119)) w.heap.size 0 dk).drewN k) = .ok (.string ⟨(decDigits u).toArray⟩) ((putRow (fun (b : UInt8) => Value.int .u8 (b.toNat : Int)) (w.alloc (.cells zeros24 119)) w.heap.size 0 dk).drewN k) := by
      have h := run_convert_bytes_back (P := Tryz.prog) ((putRow (fun (b : UInt8) => Value.int .u8 (b.toNat : Int)) (w.alloc (.cells zeros24 119)) w.heap.size 0 dk).drewN k) 46 9 5 ⟨w.heap.size, 0, none⟩ 24 (decDigits u) Tryz.underlying46 Tryz.underlying5 Tryz.underlying9 (fun j hj => by
        rw [row_is_numeral hF j hj, add_plain, World.cell?_drewN]
        exact cell?_putRow (fun (b : UInt8) => Value.int .u8 (b.toNat : Int)) _ w.heap.size 0 _ dk HH0.out (by rw [hF.size, Array.size_replicate]) j (by rw [hF.size]; rw [decDigits_length] at hj; exact hj))
      rw [decDigits_length] at h
      exact h
    go_wp2_with fail
    go_ret
    refine ⟨rfl, ?_⟩
    rw [alloc_eq_grow]
    obtain ⟨os', _, e⟩ := putRow_grow_new (fun (b : UInt8) => Value.int .u8 (b.toNat : Int)) w #[.cells zeros24 119] w.heap.size 0 dk (Nat.le_refl _)
    rw [e]
    exact bel_grow w k os'

theorem formatUint_any (u : Nat) (hu64 : u < 18446744073709551616) (w : World) (htab : TabIs Tryz.prog w "internal/strconv.uint64pow10" .u64 pow10Tab) :
    Calls Tryz.prog 42 #[.int .u64 u, .int .i64 10] w fun e w' => e = .returned (.string ⟨(decDigits u).toArray⟩) ∧ Below w.heap.size w w' := by
  have H := Lib.hid (formatUint_in u hu64 w htab)
  clear htab
  go_enter Tryz.func42, Tryz.ntmps42
  go_wp2_with (go_at_call 64; refine H.out.mono ?_; rintro e w' ⟨rfl, hb⟩)
  go_ret
  exact ⟨rfl, hb⟩

theorem tens_any (u : Nat) (hu64 : u < 18446744073709551616) (w : World) (htab : TabIs Tryz.prog w "internal/strconv.uint64pow10" .u64 pow10Tab) :
    Calls Tryz.prog 26 #[.int .u64 u] w fun e w' => e = .returned (.string ⟨(decDigits u).toArray⟩) ∧ Below w.heap.size w w' := by
  have H := Lib.hid (formatUint_any u hu64 w htab)
  clear htab
  go_enter Tryz.func26, Tryz.ntmps26
  go_wp2_with (go_at_call 42; refine H.out.mono ?_; rintro e w' ⟨rfl, hb⟩)
  go_ret
  exact ⟨rfl, hb⟩

theorem small_tens (u : Nat) (hu : u < 100) (w : World) :
    Calls Tryz.prog 26 #[.int .u64 u] w fun e w' => e = .returned (.string ⟨(decDigits u).toArray⟩) ∧ w = w' := by
  have q : ((u : Nat) : Int) < 100 := by omega
  have cw : IntKind.i64.wrap ((u : Nat) : Int) = ((u : Nat) : Int) := by rw [IntKind.wrap_i64]; omega
  go_enter Tryz.func26, Tryz.ntmps26
  go_wp2_with (first | (go_at_call 76; refine (small_any u hu _).mono ?_; rintro e w' ⟨rfl, rfl⟩) | go_in)
  go_ret
  exact ⟨rfl, rfl⟩

end Tx
end Go.Proofs.YtbemkaninedonaaGreatDoor

namespace Go.Proofs.YtbemkaninedonaaGreatDoor
open Go.RowKit Go.Maps Bv Tm
namespace Tx
set_option maxHeartbeats 1600000
set_option maxRecDepth 100000

/-- A text's cells. -/
def bc (l : By) : List Value := l.map fun b => Value.int .u8 (b.toNat : Int)
theorem bc_append (a b : By) : bc (a ++ b) = bc a ++ bc b := by simp [bc]
theorem strCells_bc (s : ByteArray) : Lib.strCells s = bc s.data.toList := rfl
theorem size_len (s : ByteArray) : s.size = s.data.toList.length := (Array.length_toList).symm
theorem str_len (l : By) : (⟨l.toArray⟩ : ByteArray).size = l.length := by rw [size_len]

/-- append of a text onto a list of bytes of one's own: where the list then lies. -/
theorem append_str {P : Program} (w : World) (base : Nat) (t u ty e : TypeId) (i : TypeInfo) (ht : P.underlying t = some (.slice e)) (hu : P.underlying u = some .string) (hi : P.info? e = some i) (hz : i.zero = some (.int .u8 0))
    (hsize : i.size = 1) (hby : i.bytes = 1) (v : Value) (n : Nat) (xs : List Value) (hown : w.ownsRow base e 1 v n xs) (s : ByteArray) (hbytes : n + s.size ≤ 1000000) (hbase : base ≤ w.heap.size) :
    ∃ v' w', (Builtin.append_ #[t, u] ty #[v, .string s]).run P w = .ok v' w' ∧ w'.ownsRow base e 1 v' (n + s.size) (xs ++ Lib.strCells s) ∧ w.grownBy w' v.ownBlock ∧ (v'.ownBlock = v.ownBlock ∨ v'.ownBlock = some w.heap.size) := by
  have h63 : n + s.size ≤ maxLen := by unfold maxLen; omega
  obtain ⟨v', w', hrun, h1, h2, h3⟩ := Lib.run_append_own_string (P := P) w base t u ty e i ht hu hi hz hsize hby v n xs hown s h63 (by omega) hbase
  refine ⟨v', w', hrun, h1, h2, ?_⟩
  rcases hown with ⟨hl, ⟨rfl, rfl⟩ | ⟨g, cap, cur, rfl, hb, hg, hn, hcm, hcs, htake⟩⟩
  · by_cases hs : s.size = 0
    · left; rw [h3.2 ⟨rfl, hs⟩]
    · right
      have hr := run_append_nil_string (P := P) w t u ty e i (.int .u8 0) ht hu hi hz s (by omega) (by omega) (by rw [hby]; omega)
      rw [hrun] at hr
      injection hr with hr _
      subst hr
      rfl
  · by_cases hroom : n + s.size ≤ cap
    · left
      have hr := Lib.run_append_room_string (P := P) w t u ty e i ht hu hi hsize g n cap cur hg s hroom (by simpa [hcs] using hroom)
      rw [hrun] at hr
      injection hr with hr _
      subst hr
      rfl
    · right
      have hr := Lib.run_append_grow_string (P := P) w t u ty e i (.int .u8 0) ht hu hi hz ⟨g, 0, none⟩ n cap xs (by rw [hsize]; exact hl) (World.ownsRow.cells (g := g) ⟨hl, .inr ⟨g, cap, cur, rfl, hb, hg, hn, hcm, hcs, htake⟩⟩ rfl) s (by omega) (by omega) (by rw [hby]; exact growslice_fits (by omega) (by omega))
      rw [hrun] at hr
      injection hr with hr _
      subst hr
      rfl

theorem wpList_append_str {P : Program} {w : World} {ops : Array Oper} {rest : List Oper} {o : Oper} {a : Act} {Q : Exit → Act → World → Prop} (hgd : o.guard = none) (sl x : Operand) (t u : TypeId)
    (ho : o.op = .call { callee := .builtin .append, args := #[sl, x], argTypes := #[t, u] })
    (base : Nat) (e : TypeId) (i : TypeInfo) (ht : P.underlying t = some (.slice e)) (hu : P.underlying u = some .string) (hi : P.info? e = some i) (hz : i.zero = some (.int .u8 0))
    (hsize : i.size = 1) (hby : i.bytes = 1)
    (v : Value) (n : Nat) (xs : List Value) (hs : a.eval sl = v) (hown : w.ownsRow base e 1 v n xs) (s : ByteArray) (hx : a.eval x = .string s)
    (hbytes : n + s.size ≤ 1000000) (hbase : base ≤ w.heap.size)
    (h : ∀ v' w', w'.ownsRow base e 1 v' (n + s.size) (xs ++ Lib.strCells s) → w.grownBy w' v.ownBlock → (v'.ownBlock = v.ownBlock ∨ v'.ownBlock = some w.heap.size) → wpList P ops Q rest (a.put o.dst v') w') : wpList P ops Q (o :: rest) a w := by
  refine wpList_plain hgd fun K hK => ?_
  obtain ⟨v', w', hr, h2, h3, h4⟩ := append_str (P := P) w base t u o.type e i ht hu hi hz hsize hby v n xs hown s hbytes hbase
  unfold Oper.wp execOp
  simp only [ho, resolve, invoke, builtin, Sem.run_bind, Sem.run_pure, Result.andThen_ok, List.map_toArray, List.map_cons, List.map_nil, hs, hx, hr]
  exact hK _ _ (h v' w' h2 h3 h4)

/-! ### the writer -/
/-- The block b of w is a writer over the store st that has written bs; F: the blocks that may change. -/
structure WrAt (F : Nat → Prop) (b : Nat) (st v : Value) (bs : By) (w : World) : Prop where
  c0 : w.cell? ⟨b, 0, none⟩ = some st
  c1 : w.cell? ⟨b, 1, none⟩ = some v
  fr : ∀ o, w.frozen? ⟨b, o, none⟩ = false
  row : w.ownsRow 0 5 1 v bs.length (bc bs)
  gp : v.ownBlock ≠ some b
  fb : F b
  fo : ∀ g, v.ownBlock = some g → F g
  fn : ∀ i, w.heap.size ≤ i → F i
def WrE (F : Nat → Prop) (b : Nat) (st : Value) (bs : By) (w : World) : Prop := ∃ v, WrAt F b st v bs w

theorem WrAt.lt {F : Nat → Prop} {b : Nat} {st v : Value} {bs : By} {w : World} (h : WrAt F b st v bs w) : b < w.heap.size := World.block_lt_of_cell? w _ h.c0
theorem own_lt {w : World} {base : Nat} {e : TypeId} {size : Nat} {v : Value} {n : Nat} {xs : List Value} (h : w.ownsRow base e size v n xs) {g : Nat} (hg : v.ownBlock = some g) : g < w.heap.size := (h.lt g hg).2

/-- Blocks that may not change are as they were: so is what is read of them. -/
theorem WrAt.appended {F : Nat → Prop} {b : Nat} {st v v' : Value} {bs : By} {w w1 : World} (h : WrAt F b st v bs w) (s : ByteArray)
    (hown : w1.ownsRow 0 5 1 v' (bs.length + s.size) (bc bs ++ Lib.strCells s)) (hg : w.grownBy w1 v.ownBlock) (hat : v'.ownBlock = v.ownBlock ∨ v'.ownBlock = some w.heap.size) :
    WrE F b st (bs ++ s.data.toList) (w1.setCell ⟨b, 1, none⟩ v') ∧ Kept F w (w1.setCell ⟨b, 1, none⟩ v') ∧ w1.cell? ⟨b, 1, none⟩ = some v ∧ w1.frozen? ⟨b, 1, none⟩ = false := by
  have lb := h.lt
  have K1 : Kept F w w1 := (Kept.refl F w).grown hg (fun i hi _ => h.fo i hi)
  have nb : v.ownBlock ≠ some b := h.gp
  have hc : ∀ o, w1.cell? ⟨b, o, none⟩ = w.cell? ⟨b, o, none⟩ := fun o => World.cell?_of_block (w := w) (hg.block b lb (Ne.symm nb))
  have hf : ∀ o, w1.frozen? ⟨b, o, none⟩ = w.frozen? ⟨b, o, none⟩ := fun o => World.frozen?_of_block (w := w) (hg.block b lb (Ne.symm nb))
  have nb' : v'.ownBlock ≠ some b := by
    rcases hat with e | e
    · rw [e]; exact nb
    · rw [e]; intro c; simp at c; omega
  refine ⟨⟨v', ?_, ?_, fun o => ?_, ?_, nb', h.fb, ?_, ?_⟩, K1.setCell _ _ (fun _ => h.fb), ?_, ?_⟩
  · rw [World.cell?_setCell_other _ _ _ _ (by simp), hc]; exact h.c0
  · exact World.cell?_setCell_same _ _ _ ((hc 1).trans h.c1)
  · rw [World.frozen?_setCell]; rw [hf]; exact h.fr o
  · have r := row_setCell hown v' (a := ⟨b, 1, none⟩) nb'
    rw [strCells_bc, ← bc_append] at r
    rw [List.length_append, ← size_len]
    exact r
  · intro g e
    rcases hat with c | c
    · rw [c] at e; exact h.fo g e
    · rw [c] at e; simp at e; exact h.fn g (by omega)
  · intro i hi
    refine h.fn i (Nat.le_trans ?_ hi)
    simpa using hg.size
  · rw [hc]; exact h.c1
  · rw [hf]; exact h.fr 1

/-- What leaves the writer alone. -/
theorem WrAt.keep {F G : Nat → Prop} {b : Nat} {st v : Value} {bs : By} {w w' : World} (h : WrAt F b st v bs w) (k : Kept G w w') (hG : ∀ i, i < w.heap.size → G i → i ≠ b ∧ v.ownBlock ≠ some i) : WrAt F b st v bs w' := by
  have lb := h.lt
  have nb : ¬ G b := fun c => (hG b lb c).1 rfl
  refine ⟨(k.cell (x := ⟨b, 0, none⟩) lb nb).trans h.c0, (k.cell (x := ⟨b, 1, none⟩) lb nb).trans h.c1, fun o => (k.frozen (x := ⟨b, o, none⟩) lb nb).trans (h.fr o), ?_, h.gp, h.fb, h.fo, fun i hi => h.fn i (Nat.le_trans k.size hi)⟩
  exact row_kept h.row k (fun g e c => (hG g (own_lt h.row e) c).2 e)
end Tx
end Go.Proofs.YtbemkaninedonaaGreatDoor

namespace Go.Proofs.YtbemkaninedonaaGreatDoor
open Go.RowKit Go.Maps Bv Tm
namespace Tx
set_option maxHeartbeats 1600000
set_option maxRecDepth 100000

theorem info_u8 : (Tryz.prog.info? 5).map (fun i => (i.zero, i.size, i.bytes)) = some (some (.int .u8 0), 1, 1) := by kernel_rfl
/-- The texts, one behind the other. -/
def flat (P : List ByteArray) : By := P.flatMap (fun s => s.data.toList)
theorem flat_take {P : List ByteArray} {i : Nat} {s : ByteArray} (h : P[i]? = some s) : flat (P.take (i + 1)) = flat (P.take i) ++ s.data.toList := by
  unfold flat
  rw [List.take_add_one, h]
  simp
theorem flat_le {P : List ByteArray} (i : Nat) : (flat (P.take i)).length ≤ (flat P).length := by
  have : flat P = flat (P.take i) ++ flat (P.drop i) := by unfold flat; rw [← List.flatMap_append, List.take_append_drop]
  rw [this]; simp

/-- The error by which a call leaves. -/
abbrev boom (n : Int) : Ending := .panicked [{ v := .iface 31 (.int .i64 n), recovered := false }]
/-- What add has done. -/
def Added1 (F : Nat → Prop) (b : Nat) (st : Value) (bs : By) (w : World) (e : Ending) (w' : World) : Prop :=
  if bs.length ≤ 10000 then e = .returned (.tuple #[]) ∧ WrE F b st bs w' ∧ Kept F w w' else e = boom 3 ∧ Kept F w w'

theorem row_shape {w : World} {base size n : Nat} {e : TypeId} {v : Value} {xs : List Value} (h : w.ownsRow base e size v n xs) : ∃ a c, v = .slice a n c := by
  rcases h with ⟨_, ⟨h1, h2⟩ | ⟨g, cap, cur, hv, _⟩⟩
  · exact ⟨none, 0, by rw [h1, h2]⟩
  · exact ⟨_, _, hv⟩

theorem row_shape3 {w : World} {base size n : Nat} {e : TypeId} {v : Value} {xs : List Value} (h : w.ownsRow base e size v n xs) : ∃ a m c, v = .slice a m c := by
  obtain ⟨a, c, h⟩ := row_shape h
  exact ⟨a, n, c, h⟩

theorem add_any {F : Nat → Prop} {b : Nat} {st : Value} {bs : By} {w : World} {pb cap n : Nat} {P : List ByteArray} (hW : WrE F b st bs w) (hP : ∀ (i : Nat) (s : ByteArray), P[i]? = some s → w.cell? ⟨pb, i, none⟩ = some (.string s)) (hF : ¬ F pb) (hlen : bs.length + (flat P).length ≤ 900000) (hn : n = P.length) (hpb : pb < w.heap.size) (hnb : n < 1000) :
    Calls Tryz.prog 25 #[.pointer (some ⟨b, 0, none⟩), .slice (some ⟨pb, 0, none⟩) n cap] w (Added1 F b st (bs ++ flat P) w) := by
  obtain ⟨i0, hi0, hz0, hz1, hz2⟩ := info_parts info_u8
  have HP := Lib.hid hP
  have HF := Lib.hid hF
  have HL := Lib.hid hlen
  have HN := Lib.hid (And.intro hn hnb)
  have HPB := Lib.hid hpb
  have HW := Lib.hid hW
  clear hP hF hlen hn hW hpb hnb
  go_enter Tryz.func25, Tryz.ntmps25
  go_wp2_with fail
  go_loopg [8] n (fun gk u8 wr => ∃ i : Nat, u8 = .int .i64 ((i : Nat) : Int) ∧ i + gk = n ∧ WrE F b st (bs ++ flat (P.take i)) wr ∧ Kept F w wr)
  case atStart => exact ⟨0, rfl, by omega, by simpa [flat] using HW.out, Kept.refl F w⟩
  case round =>
    obtain ⟨i, rfl, hgk, hE, hK⟩ := hrel
    clear HW
    have HK := Lib.hid hK
    by_cases hin : i < n
    · obtain ⟨s, hs⟩ : ∃ s, P[i]? = some s := ⟨_, List.getElem?_eq_getElem (by rw [← HN.out.1]; exact hin)⟩
      obtain ⟨v, hv⟩ := hE
      have c1 := hv.c1
      have hcell : wr.cell? ⟨pb, i, none⟩ = some (.string s) := (hK.cell (x := ⟨pb, i, none⟩) HPB.out HF.out).trans (HP.out i s hs)
      have q1 : ((i : Nat) : Int) < ((n : Nat) : Int) := by omega
      have q0 : (0 : Int) ≤ ((i : Nat) : Int) := by omega
      have hft := flat_take hs
      have hsz : (bs ++ flat (P.take i)).length + s.size ≤ 1000000 := by
        have := flat_le (P := P) (i + 1)
        have := HL.out
        rw [hft] at *
        simp only [List.length_append, ← size_len] at *
        omega
      have r1 : IntKind.i64.wrap (((i : Nat) : Int) + 1) = (((i + 1 : Nat) : Nat) : Int) := by have := HN.out.2; rw [IntKind.wrap_i64]; omega
      have r2 : wrap64 (((i : Nat) : Int) + 1) = (((i + 1 : Nat) : Nat) : Int) := by unfold wrap64; rw [← IntKind.wrap_i64]; exact r1
      have HR2 := Lib.hid r2
      have HV := Lib.hid hv
      have HSZ := Lib.hid hsz
      have HFT := Lib.hid hft
      have HGK := Lib.hid (And.intro hgk hin)
      clear hv hsz hft hgk hin hs hK r1 r2
      go_wp2_with (at_builtin; refine wpList_append_str rfl _ _ 46 9 rfl 0 5 i0 Tryz.underlying46 Tryz.underlying9 hi0 hz0 hz1 hz2 v _ _ rfl HV.out.row s rfl HSZ.out (Nat.zero_le _) ?_; intro v' w1 hown hg hat; obtain ⟨hE1, hK1, g1, g2⟩ := HV.out.appended s hown hg hat; obtain ⟨sa, sn, sc, rfl⟩ := row_shape3 hown; have HE1 := Lib.hid hE1; have HK1 := Lib.hid hK1; clear hE1 hK1 hown hg hat)
      go_roundg (gk - 1)
      case measure => have := HGK.out; omega
      case rel => exact ⟨i + 1, by first | rfl | (rw [HR2.out]) | (congr 1; exact HR2.out), by have := HGK.out; omega, by rw [HFT.out, ← List.append_assoc]; exact HE1.out, HK.out.trans HK1.out⟩
    · obtain ⟨v, hv⟩ := hE
      have hin' : n ≤ i := by omega
      have hall : P.take i = P := List.take_of_length_le (by rw [← HN.out.1]; exact hin')
      rw [hall] at hv
      have c1 := hv.c1
      obtain ⟨sa, sc, hsv⟩ := row_shape hv.row
      obtain ⟨m, hm⟩ : ∃ m, m = (bs ++ flat P).length := ⟨_, rfl⟩
      rw [← hm] at hsv
      have HV := Lib.hid hv
      clear hv hall
      rw [hsv] at c1
      have HM := Lib.hid hm
      clear hm hgk hin hK
      by_cases hle : m ≤ 10000
      · have q : ¬ (10000 : Int) < ((m : Nat) : Int) := by omega
        go_wp2_with fail
        refine bodyPost_ret (v := .tuple #[]) (by simp [results, Tryz.results25, go_sem]) rfl ?_
        unfold Added1
        rw [if_pos (by rw [← HM.out]; exact hle)]
        exact ⟨rfl, ⟨v, HV.out⟩, HK.out⟩
      · have q : (10000 : Int) < ((m : Nat) : Int) := by omega
        go_wp2_with fail
        refine ⟨rfl, ?_⟩
        unfold Added1
        rw [if_neg (by rw [← HM.out]; exact hle)]
        exact ⟨rfl, HK.out⟩
end Tx
end Go.Proofs.YtbemkaninedonaaGreatDoor
