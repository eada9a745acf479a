/-
  Is a word a row's? The document's fits, walked.
-/
import Derived.Test.YtbgcgomefdblpaaDoorDeRef
namespace Go.Proofs.YtbgcgomefdblpaaDoor
open Go.RowKit
namespace De
set_option maxHeartbeats 6400000
set_option maxRecDepth 100000

/-- A row's cells, with its name. -/
def rowV (r : Row) (s : ByteArray) : Array Value := #[.int .u8 ((r.op : Nat) : Int), .int .u8 ((r.fm : Nat) : Int), .int .u32 ((r.code : Nat) : Int), .int .u32 ((r.f3 : Nat) : Int), .int .u32 ((r.f7 : Nat) : Int), .string s]
/-- A row boxed. -/
structure RowAt (w : World) (b : Nat) (r : Row) (s : ByteArray) : Prop where
  c0 : w.cell? ⟨b, 0, none⟩ = some (.int .u8 ((r.op : Nat) : Int))
  c1 : w.cell? ⟨b, 1, none⟩ = some (.int .u8 ((r.fm : Nat) : Int))
  c2 : w.cell? ⟨b, 2, none⟩ = some (.int .u32 ((r.code : Nat) : Int))
  c3 : w.cell? ⟨b, 3, none⟩ = some (.int .u32 ((r.f3 : Nat) : Int))
  c4 : w.cell? ⟨b, 4, none⟩ = some (.int .u32 ((r.f7 : Nat) : Int))
theorem new_cell (W : World) (A : Array Value) (t : TypeId) (j : Nat) : (W.alloc (.cells A t)).cell? ⟨W.heap.size, j, none⟩ = A[j]? := by
  rw [cell_of_row (W.alloc (.cells A t)) W.heap.size j A t (0, 0) (heap_alloc_new W _)]
theorem RowAt.drewN {w : World} {b : Nat} {r : Row} {s : ByteArray} (h : RowAt w b r s) (n : Nat) : RowAt (w.drewN n) b r s :=
  ⟨by simpa using h.c0, by simpa using h.c1, by simpa using h.c2, by simpa using h.c3, by simpa using h.c4⟩
theorem RowAt.new (w : World) (r : Row) (s : ByteArray) : RowAt (w.alloc (.cells (rowV r s) 44)) w.heap.size r s := by
  refine ⟨?_, ?_, ?_, ?_, ?_⟩ <;> (rw [new_cell]; rfl)
theorem bool_eq (a b : Nat) : ((((a : Nat) : Int) == ((b : Nat) : Int)) : Bool) = decide (a = b) := by
  by_cases h : a = b
  · subst h; simp
  · rw [decide_eq_false h, beq_eq_false_iff_ne]; omega
theorem eq_t {a b : Nat} {z : Int} (hz : z = ((b : Nat) : Int)) (h : a = b) : (((a : Nat) : Int) == z) = true := by subst hz; subst h; simp
theorem eq_f {a b : Nat} {z : Int} (hz : z = ((b : Nat) : Int)) (h : a ≠ b) : (((a : Nat) : Int) == z) = false := by subst hz; rw [beq_eq_false_iff_ne]; omega
theorem field_at {w : Nat} (hw : w < 4294967296) {lo n : Nat} {zl zn : Int} (h1 : zl = ((lo : Nat) : Int)) (h2 : zn = ((n : Nat) : Int)) (hlo : lo ≤ 32) (hn : n ≤ 32) (W : World) :
    Calls Tryd.prog 25 #[.int .u32 ((w : Nat) : Int), .int .i64 zl, .int .i64 zn] W fun e W' => e = .returned (.int .u32 ((fld w lo n : Nat) : Int)) ∧ W' = W := by
  subst h1; subst h2
  exact field_any hw hlo hn W
theorem q_add {P : Program} {f : FuncId} {args : Array Value} {w : World} {a n : Nat} {v : Value} (h : Calls P f args (w.drewN (a + n)) fun e w' => e = .returned v ∧ w' = w.drewN (a + n)) : Calls P f args (w.drewN (a + n)) fun e w'' => e = .returned v ∧ ∃ m, w'' = w.drewN (a + m) :=
  h.mono fun _ _ ⟨he, hm⟩ => ⟨he, n, hm⟩
theorem q_one {P : Program} {f : FuncId} {args : Array Value} {w : World} {n : Nat} {v : Value} (h : Calls P f args (w.drewN n) fun e w' => e = .returned v ∧ w' = w.drewN n) : Calls P f args (w.drewN n) fun e w'' => e = .returned v ∧ ∃ m, w'' = w.drewN m :=
  h.mono fun _ _ ⟨he, hm⟩ => ⟨he, n, hm⟩
theorem below_drewN {W w : World} (h : Below W.heap.size W w) (n : Nat) : Below W.heap.size W (w.drewN n) := by
  induction n with
  | zero => exact h
  | succ n ih => exact ih.drew
theorem fits_any {r : Row} {s : ByteArray} {w : Nat} (hw : w < 4294967296) (W : World) :
    Calls Tryd.prog 17 #[.agg (rowV r s), .int .u32 ((w : Nat) : Int)] W fun e W' => e = .returned (.bool (fitsP r w)) ∧ Below W.heap.size W W' := by
  have F0 : Hid (∀ W : World, Calls Tryd.prog 25 #[.int .u32 ((w : Nat) : Int), .int .i64 0, .int .i64 7] W fun e w' => e = .returned (.int .u32 ((fld w 0 7 : Nat) : Int)) ∧ w' = W) := Lib.hid (field_at hw rfl rfl (by decide) (by decide))
  have F1 : Hid (∀ W : World, Calls Tryd.prog 25 #[.int .u32 ((w : Nat) : Int), .int .i64 12, .int .i64 3] W fun e w' => e = .returned (.int .u32 ((fld w 12 3 : Nat) : Int)) ∧ w' = W) := Lib.hid (field_at hw rfl rfl (by decide) (by decide))
  have F2 : Hid (∀ W : World, Calls Tryd.prog 25 #[.int .u32 ((w : Nat) : Int), .int .i64 25, .int .i64 7] W fun e w' => e = .returned (.int .u32 ((fld w 25 7 : Nat) : Int)) ∧ w' = W) := Lib.hid (field_at hw rfl rfl (by decide) (by decide))
  have F3 : Hid (∀ W : World, Calls Tryd.prog 25 #[.int .u32 ((w : Nat) : Int), .int .i64 27, .int .i64 5] W fun e w' => e = .returned (.int .u32 ((fld w 27 5 : Nat) : Int)) ∧ w' = W) := Lib.hid (field_at hw rfl rfl (by decide) (by decide))
  have F4 : Hid (∀ W : World, Calls Tryd.prog 25 #[.int .u32 ((w : Nat) : Int), .int .i64 20, .int .i64 5] W fun e w' => e = .returned (.int .u32 ((fld w 20 5 : Nat) : Int)) ∧ w' = W) := Lib.hid (field_at hw rfl rfl (by decide) (by decide))
  unfold rowV
  obtain ⟨op, fm, code, f3, f7⟩ := r
  simp only []
  have HB : Hid (Below W.heap.size W (W.alloc (.cells #[.int .u8 ((op : Nat) : Int), .int .u8 ((fm : Nat) : Int), .int .u32 ((code : Nat) : Int), .int .u32 ((f3 : Nat) : Int), .int .u32 ((f7 : Nat) : Int), .string s] 44))) := Lib.hid ((Below.refl _ _).alloc (Nat.le_refl _) _)
  by_cases c88 : fm = 88
  · have e88 := eq_t (z := 88) rfl c88
    have hf : fitsP ⟨op, fm, code, f3, f7⟩ w = decide (w = code) := by unfold fitsP; rw [if_pos c88]
    rw [hf]
    have ec := bool_eq w code
    clear hf c88 hw
    go_enter Tryd.func17, Tryd.ntmps17
    go_wp2_with fail
    go_ret
    exact ⟨rfl, HB.out⟩
  have e88 := eq_f (z := 88) rfl c88
  by_cases cc : ¬ fld w 0 7 = code
  · have hf : fitsP ⟨op, fm, code, f3, f7⟩ w = false := by unfold fitsP; rw [if_neg c88, if_pos cc]
    rw [hf]
    have n0 : (((fld w 0 7 : Nat) : Int) != ((code : Nat) : Int)) = true := by rw [bne, bool_eq, decide_eq_false cc]; rfl
    clear hf c88 cc hw
    go_enter Tryd.func17, Tryd.ntmps17
    go_wp2_with fail
    go_quiet ((go_at_call 25; with_reducible exact q_one (F0.out _)))
    go_wp2_with fail
    go_ret
    exact ⟨rfl, below_drewN HB.out _⟩
  have cc : fld w 0 7 = code := Decidable.not_not.1 cc
  have n0 : (((fld w 0 7 : Nat) : Int) != ((code : Nat) : Int)) = false := by rw [bne, bool_eq, decide_eq_true cc]; rfl
  have q0 : ((((fld w 0 7 : Nat) : Int) == ((code : Nat) : Int)) : Bool) = true := eq_t rfl cc
  by_cases cu : fm = 85 ∨ fm = 74
  · have hf : fitsP ⟨op, fm, code, f3, f7⟩ w = true := by unfold fitsP; rw [if_neg c88, if_neg (not_not_intro cc), if_pos cu]
    rw [hf]
    have e85 := bool_eq fm 85
    have HU : Hid ((((fm : Nat) : Int) == 85) = true ∨ (((fm : Nat) : Int) == 85) = false ∧ (((fm : Nat) : Int) == 74) = true) := Lib.hid (by
      rcases cu with c | c
      · exact .inl (eq_t rfl c)
      · exact .inr ⟨eq_f (b := 85) rfl (by omega), eq_t rfl c⟩)
    clear hf c88 cc hw e85 cu
    rcases HU.out with e85 | ⟨e85, e74⟩
    · clear HU
      go_enter Tryd.func17, Tryd.ntmps17
      go_wp2_with fail
      go_quiet ((go_at_call 25; with_reducible exact q_one (F0.out _)))
      go_wp2_with fail
      go_ret
      exact ⟨rfl, below_drewN HB.out _⟩
    · clear HU
      go_enter Tryd.func17, Tryd.ntmps17
      go_wp2_with fail
      go_quiet ((go_at_call 25; with_reducible exact q_one (F0.out _)))
      go_wp2_with fail
      go_ret
      exact ⟨rfl, below_drewN HB.out _⟩
  have e85 := eq_f (z := 85) rfl (show fm ≠ 85 by omega)
  have e74 := eq_f (z := 74) rfl (show fm ≠ 74 by omega)
  by_cases ch : fm = 72 ∨ fm = 82
  · have hf : fitsP ⟨op, fm, code, f3, f7⟩ w = decide (fld w 12 3 = f3 ∧ fld w 25 7 = f7) := by unfold fitsP; rw [if_neg c88, if_neg (not_not_intro cc), if_neg cu, if_pos ch]
    rw [hf]
    have HU : Hid ((((fm : Nat) : Int) == 72) = true ∨ (((fm : Nat) : Int) == 72) = false ∧ (((fm : Nat) : Int) == 82) = true) := Lib.hid (by
      rcases ch with c | c
      · exact .inl (eq_t rfl c)
      · exact .inr ⟨eq_f (b := 72) rfl (by omega), eq_t rfl c⟩)
    clear hf c88 cc hw cu ch
    by_cases t3 : fld w 12 3 = f3
    · have b3 : ((((fld w 12 3 : Nat) : Int) == ((f3 : Nat) : Int)) : Bool) = true := eq_t rfl t3
      have b7 := bool_eq (fld w 25 7) f7
      have ef : decide (fld w 12 3 = f3 ∧ fld w 25 7 = f7) = decide (fld w 25 7 = f7) := by simp [t3]
      rw [ef]
      clear ef t3
      rcases HU.out with e72 | ⟨e72, e82⟩
      · clear HU
        go_enter Tryd.func17, Tryd.ntmps17
        go_wp2_with fail
        go_quiet ((go_at_call 25; first | with_reducible exact q_one (F0.out _)))
        have HX : Hid (RowAt ((W.alloc (.cells #[.int .u8 ((op : Nat) : Int), .int .u8 ((fm : Nat) : Int), .int .u32 ((code : Nat) : Int), .int .u32 ((f3 : Nat) : Int), .int .u32 ((f7 : Nat) : Int), .string s] 44)).drewN nq) W.heap.size ⟨op, fm, code, f3, f7⟩ s ∧ Below W.heap.size W ((W.alloc (.cells #[.int .u8 ((op : Nat) : Int), .int .u8 ((fm : Nat) : Int), .int .u32 ((code : Nat) : Int), .int .u32 ((f3 : Nat) : Int), .int .u32 ((f7 : Nat) : Int), .string s] 44)).drewN nq)) := Lib.hid ⟨(RowAt.new W ⟨op, fm, code, f3, f7⟩ s).drewN nq, below_drewN HB.out _⟩
        generalize (W.alloc (.cells #[.int .u8 ((op : Nat) : Int), .int .u8 ((fm : Nat) : Int), .int .u32 ((code : Nat) : Int), .int .u32 ((f3 : Nat) : Int), .int .u32 ((f7 : Nat) : Int), .string s] 44)).drewN nq = w2 at HX ⊢
        have k0 := HX.out.1.c0
        have k1 := HX.out.1.c1
        have k3 := HX.out.1.c3
        have k4 := HX.out.1.c4
        go_wp2_with fail
        go_quiet ((go_at_call 25; first | with_reducible exact q_one (F1.out _) | with_reducible exact q_one (F2.out _)))
        go_wp2_with fail
        go_ret
        exact ⟨by first | rfl | (simp; exact bool_eq _ 0), below_drewN HX.out.2 _⟩
      · clear HU
        go_enter Tryd.func17, Tryd.ntmps17
        go_wp2_with fail
        go_quiet ((go_at_call 25; first | with_reducible exact q_one (F0.out _)))
        have HX : Hid (RowAt ((W.alloc (.cells #[.int .u8 ((op : Nat) : Int), .int .u8 ((fm : Nat) : Int), .int .u32 ((code : Nat) : Int), .int .u32 ((f3 : Nat) : Int), .int .u32 ((f7 : Nat) : Int), .string s] 44)).drewN nq) W.heap.size ⟨op, fm, code, f3, f7⟩ s ∧ Below W.heap.size W ((W.alloc (.cells #[.int .u8 ((op : Nat) : Int), .int .u8 ((fm : Nat) : Int), .int .u32 ((code : Nat) : Int), .int .u32 ((f3 : Nat) : Int), .int .u32 ((f7 : Nat) : Int), .string s] 44)).drewN nq)) := Lib.hid ⟨(RowAt.new W ⟨op, fm, code, f3, f7⟩ s).drewN nq, below_drewN HB.out _⟩
        generalize (W.alloc (.cells #[.int .u8 ((op : Nat) : Int), .int .u8 ((fm : Nat) : Int), .int .u32 ((code : Nat) : Int), .int .u32 ((f3 : Nat) : Int), .int .u32 ((f7 : Nat) : Int), .string s] 44)).drewN nq = w2 at HX ⊢
        have k0 := HX.out.1.c0
        have k1 := HX.out.1.c1
        have k3 := HX.out.1.c3
        have k4 := HX.out.1.c4
        go_wp2_with fail
        go_quiet ((go_at_call 25; first | with_reducible exact q_one (F1.out _) | with_reducible exact q_one (F2.out _)))
        go_wp2_with fail
        go_ret
        exact ⟨by first | rfl | (simp; exact bool_eq _ 0), below_drewN HX.out.2 _⟩
    · have b3 : ((((fld w 12 3 : Nat) : Int) == ((f3 : Nat) : Int)) : Bool) = false := eq_f rfl t3
      have ef : decide (fld w 12 3 = f3 ∧ fld w 25 7 = f7) = false := decide_eq_false (fun c => t3 c.1)
      rw [ef]
      clear ef t3
      rcases HU.out with e72 | ⟨e72, e82⟩
      · clear HU
        go_enter Tryd.func17, Tryd.ntmps17
        go_wp2_with fail
        go_quiet ((go_at_call 25; first | with_reducible exact q_one (F0.out _)))
        have HX : Hid (RowAt ((W.alloc (.cells #[.int .u8 ((op : Nat) : Int), .int .u8 ((fm : Nat) : Int), .int .u32 ((code : Nat) : Int), .int .u32 ((f3 : Nat) : Int), .int .u32 ((f7 : Nat) : Int), .string s] 44)).drewN nq) W.heap.size ⟨op, fm, code, f3, f7⟩ s ∧ Below W.heap.size W ((W.alloc (.cells #[.int .u8 ((op : Nat) : Int), .int .u8 ((fm : Nat) : Int), .int .u32 ((code : Nat) : Int), .int .u32 ((f3 : Nat) : Int), .int .u32 ((f7 : Nat) : Int), .string s] 44)).drewN nq)) := Lib.hid ⟨(RowAt.new W ⟨op, fm, code, f3, f7⟩ s).drewN nq, below_drewN HB.out _⟩
        generalize (W.alloc (.cells #[.int .u8 ((op : Nat) : Int), .int .u8 ((fm : Nat) : Int), .int .u32 ((code : Nat) : Int), .int .u32 ((f3 : Nat) : Int), .int .u32 ((f7 : Nat) : Int), .string s] 44)).drewN nq = w2 at HX ⊢
        have k0 := HX.out.1.c0
        have k1 := HX.out.1.c1
        have k3 := HX.out.1.c3
        have k4 := HX.out.1.c4
        go_wp2_with fail
        go_quiet ((go_at_call 25; first | with_reducible exact q_one (F1.out _)))
        go_wp2_with fail
        go_ret
        exact ⟨by first | rfl | (simp; exact bool_eq _ 0), below_drewN HX.out.2 _⟩
      · clear HU
        go_enter Tryd.func17, Tryd.ntmps17
        go_wp2_with fail
        go_quiet ((go_at_call 25; first | with_reducible exact q_one (F0.out _)))
        have HX : Hid (RowAt ((W.alloc (.cells #[.int .u8 ((op : Nat) : Int), .int .u8 ((fm : Nat) : Int), .int .u32 ((code : Nat) : Int), .int .u32 ((f3 : Nat) : Int), .int .u32 ((f7 : Nat) : Int), .string s] 44)).drewN nq) W.heap.size ⟨op, fm, code, f3, f7⟩ s ∧ Below W.heap.size W ((W.alloc (.cells #[.int .u8 ((op : Nat) : Int), .int .u8 ((fm : Nat) : Int), .int .u32 ((code : Nat) : Int), .int .u32 ((f3 : Nat) : Int), .int .u32 ((f7 : Nat) : Int), .string s] 44)).drewN nq)) := Lib.hid ⟨(RowAt.new W ⟨op, fm, code, f3, f7⟩ s).drewN nq, below_drewN HB.out _⟩
        generalize (W.alloc (.cells #[.int .u8 ((op : Nat) : Int), .int .u8 ((fm : Nat) : Int), .int .u32 ((code : Nat) : Int), .int .u32 ((f3 : Nat) : Int), .int .u32 ((f7 : Nat) : Int), .string s] 44)).drewN nq = w2 at HX ⊢
        have k0 := HX.out.1.c0
        have k1 := HX.out.1.c1
        have k3 := HX.out.1.c3
        have k4 := HX.out.1.c4
        go_wp2_with fail
        go_quiet ((go_at_call 25; first | with_reducible exact q_one (F1.out _)))
        go_wp2_with fail
        go_ret
        exact ⟨by first | rfl | (simp; exact bool_eq _ 0), below_drewN HX.out.2 _⟩
  have e72 := eq_f (z := 72) rfl (show fm ≠ 72 by omega)
  have e82 := eq_f (z := 82) rfl (show fm ≠ 82 by omega)
  by_cases ca : fm = 65
  · have hf : fitsP ⟨op, fm, code, f3, f7⟩ w = decide (fld w 12 3 = f3 ∧ fld w 27 5 = f7 ∧ (op ≠ 46 ∨ fld w 20 5 = 0)) := by unfold fitsP; rw [if_neg c88, if_neg (not_not_intro cc), if_neg cu, if_neg ch, if_pos ca]
    rw [hf]
    have e65 := eq_t (z := 65) rfl ca
    clear hf c88 cc hw cu ch ca
    by_cases t3 : fld w 12 3 = f3
    · have b3 : ((((fld w 12 3 : Nat) : Int) == ((f3 : Nat) : Int)) : Bool) = true := eq_t rfl t3
      by_cases t7 : fld w 27 5 = f7
      · have b7 : ((((fld w 27 5 : Nat) : Int) == ((f7 : Nat) : Int)) : Bool) = true := eq_t rfl t7
        by_cases tq : op = 46
        · have bo : ((((op : Nat) : Int) != 46) : Bool) = false := by rw [bne, eq_t (z := 46) rfl tq]; rfl
          have b0 := bool_eq (fld w 20 5) 0
          have ef : decide (fld w 12 3 = f3 ∧ fld w 27 5 = f7 ∧ (op ≠ 46 ∨ fld w 20 5 = 0)) = decide (fld w 20 5 = 0) := by simp [t3, t7, tq]
          rw [ef]
          clear ef t3 t7 tq
          go_enter Tryd.func17, Tryd.ntmps17
          go_wp2_with fail
          go_quiet ((go_at_call 25; first | with_reducible exact q_one (F0.out _)))
          have HX : Hid (RowAt ((W.alloc (.cells #[.int .u8 ((op : Nat) : Int), .int .u8 ((fm : Nat) : Int), .int .u32 ((code : Nat) : Int), .int .u32 ((f3 : Nat) : Int), .int .u32 ((f7 : Nat) : Int), .string s] 44)).drewN nq) W.heap.size ⟨op, fm, code, f3, f7⟩ s ∧ Below W.heap.size W ((W.alloc (.cells #[.int .u8 ((op : Nat) : Int), .int .u8 ((fm : Nat) : Int), .int .u32 ((code : Nat) : Int), .int .u32 ((f3 : Nat) : Int), .int .u32 ((f7 : Nat) : Int), .string s] 44)).drewN nq)) := Lib.hid ⟨(RowAt.new W ⟨op, fm, code, f3, f7⟩ s).drewN nq, below_drewN HB.out _⟩
          generalize (W.alloc (.cells #[.int .u8 ((op : Nat) : Int), .int .u8 ((fm : Nat) : Int), .int .u32 ((code : Nat) : Int), .int .u32 ((f3 : Nat) : Int), .int .u32 ((f7 : Nat) : Int), .string s] 44)).drewN nq = w2 at HX ⊢
          have k0 := HX.out.1.c0
          have k1 := HX.out.1.c1
          have k3 := HX.out.1.c3
          have k4 := HX.out.1.c4
          go_wp2_with fail
          go_quiet ((go_at_call 25; first | with_reducible exact q_one (F1.out _) | with_reducible exact q_one (F3.out _) | with_reducible exact q_one (F4.out _)))
          go_wp2_with fail
          go_ret
          exact ⟨by first | rfl | (simp; exact bool_eq _ 0), below_drewN HX.out.2 _⟩
        · have bo : ((((op : Nat) : Int) != 46) : Bool) = true := by rw [bne, eq_f (z := 46) rfl tq]; rfl
          have ef : decide (fld w 12 3 = f3 ∧ fld w 27 5 = f7 ∧ (op ≠ 46 ∨ fld w 20 5 = 0)) = true := decide_eq_true ⟨t3, t7, .inl tq⟩
          rw [ef]
          clear ef t3 t7 tq
          go_enter Tryd.func17, Tryd.ntmps17
          go_wp2_with fail
          go_quiet ((go_at_call 25; first | with_reducible exact q_one (F0.out _)))
          have HX : Hid (RowAt ((W.alloc (.cells #[.int .u8 ((op : Nat) : Int), .int .u8 ((fm : Nat) : Int), .int .u32 ((code : Nat) : Int), .int .u32 ((f3 : Nat) : Int), .int .u32 ((f7 : Nat) : Int), .string s] 44)).drewN nq) W.heap.size ⟨op, fm, code, f3, f7⟩ s ∧ Below W.heap.size W ((W.alloc (.cells #[.int .u8 ((op : Nat) : Int), .int .u8 ((fm : Nat) : Int), .int .u32 ((code : Nat) : Int), .int .u32 ((f3 : Nat) : Int), .int .u32 ((f7 : Nat) : Int), .string s] 44)).drewN nq)) := Lib.hid ⟨(RowAt.new W ⟨op, fm, code, f3, f7⟩ s).drewN nq, below_drewN HB.out _⟩
          generalize (W.alloc (.cells #[.int .u8 ((op : Nat) : Int), .int .u8 ((fm : Nat) : Int), .int .u32 ((code : Nat) : Int), .int .u32 ((f3 : Nat) : Int), .int .u32 ((f7 : Nat) : Int), .string s] 44)).drewN nq = w2 at HX ⊢
          have k0 := HX.out.1.c0
          have k1 := HX.out.1.c1
          have k3 := HX.out.1.c3
          have k4 := HX.out.1.c4
          go_wp2_with fail
          go_quiet ((go_at_call 25; first | with_reducible exact q_one (F1.out _) | with_reducible exact q_one (F3.out _)))
          go_wp2_with fail
          go_ret
          exact ⟨by first | rfl | (simp; exact bool_eq _ 0), below_drewN HX.out.2 _⟩
      · have b7 : ((((fld w 27 5 : Nat) : Int) == ((f7 : Nat) : Int)) : Bool) = false := eq_f rfl t7
        have ef : decide (fld w 12 3 = f3 ∧ fld w 27 5 = f7 ∧ (op ≠ 46 ∨ fld w 20 5 = 0)) = false := decide_eq_false (fun c => t7 c.2.1)
        rw [ef]
        clear ef t3 t7
        go_enter Tryd.func17, Tryd.ntmps17
        go_wp2_with fail
        go_quiet ((go_at_call 25; first | with_reducible exact q_one (F0.out _)))
        have HX : Hid (RowAt ((W.alloc (.cells #[.int .u8 ((op : Nat) : Int), .int .u8 ((fm : Nat) : Int), .int .u32 ((code : Nat) : Int), .int .u32 ((f3 : Nat) : Int), .int .u32 ((f7 : Nat) : Int), .string s] 44)).drewN nq) W.heap.size ⟨op, fm, code, f3, f7⟩ s ∧ Below W.heap.size W ((W.alloc (.cells #[.int .u8 ((op : Nat) : Int), .int .u8 ((fm : Nat) : Int), .int .u32 ((code : Nat) : Int), .int .u32 ((f3 : Nat) : Int), .int .u32 ((f7 : Nat) : Int), .string s] 44)).drewN nq)) := Lib.hid ⟨(RowAt.new W ⟨op, fm, code, f3, f7⟩ s).drewN nq, below_drewN HB.out _⟩
        generalize (W.alloc (.cells #[.int .u8 ((op : Nat) : Int), .int .u8 ((fm : Nat) : Int), .int .u32 ((code : Nat) : Int), .int .u32 ((f3 : Nat) : Int), .int .u32 ((f7 : Nat) : Int), .string s] 44)).drewN nq = w2 at HX ⊢
        have k0 := HX.out.1.c0
        have k1 := HX.out.1.c1
        have k3 := HX.out.1.c3
        have k4 := HX.out.1.c4
        go_wp2_with fail
        go_quiet ((go_at_call 25; first | with_reducible exact q_one (F1.out _) | with_reducible exact q_one (F3.out _)))
        go_wp2_with fail
        go_ret
        exact ⟨by first | rfl | (simp; exact bool_eq _ 0), below_drewN HX.out.2 _⟩
    · have b3 : ((((fld w 12 3 : Nat) : Int) == ((f3 : Nat) : Int)) : Bool) = false := eq_f rfl t3
      have ef : decide (fld w 12 3 = f3 ∧ fld w 27 5 = f7 ∧ (op ≠ 46 ∨ fld w 20 5 = 0)) = false := decide_eq_false (fun c => t3 c.1)
      rw [ef]
      clear ef t3
      go_enter Tryd.func17, Tryd.ntmps17
      go_wp2_with fail
      go_quiet ((go_at_call 25; first | with_reducible exact q_one (F0.out _)))
      have HX : Hid (RowAt ((W.alloc (.cells #[.int .u8 ((op : Nat) : Int), .int .u8 ((fm : Nat) : Int), .int .u32 ((code : Nat) : Int), .int .u32 ((f3 : Nat) : Int), .int .u32 ((f7 : Nat) : Int), .string s] 44)).drewN nq) W.heap.size ⟨op, fm, code, f3, f7⟩ s ∧ Below W.heap.size W ((W.alloc (.cells #[.int .u8 ((op : Nat) : Int), .int .u8 ((fm : Nat) : Int), .int .u32 ((code : Nat) : Int), .int .u32 ((f3 : Nat) : Int), .int .u32 ((f7 : Nat) : Int), .string s] 44)).drewN nq)) := Lib.hid ⟨(RowAt.new W ⟨op, fm, code, f3, f7⟩ s).drewN nq, below_drewN HB.out _⟩
      generalize (W.alloc (.cells #[.int .u8 ((op : Nat) : Int), .int .u8 ((fm : Nat) : Int), .int .u32 ((code : Nat) : Int), .int .u32 ((f3 : Nat) : Int), .int .u32 ((f7 : Nat) : Int), .string s] 44)).drewN nq = w2 at HX ⊢
      have k0 := HX.out.1.c0
      have k1 := HX.out.1.c1
      have k3 := HX.out.1.c3
      have k4 := HX.out.1.c4
      go_wp2_with fail
      go_quiet ((go_at_call 25; first | with_reducible exact q_one (F1.out _)))
      go_wp2_with fail
      go_ret
      exact ⟨by first | rfl | (simp; exact bool_eq _ 0), below_drewN HX.out.2 _⟩
  have e65 := eq_f (z := 65) rfl ca
  have hf : fitsP ⟨op, fm, code, f3, f7⟩ w = decide (fld w 12 3 = f3) := by unfold fitsP; rw [if_neg c88, if_neg (not_not_intro cc), if_neg cu, if_neg ch, if_neg ca]
  rw [hf]
  have b3 := bool_eq (fld w 12 3) f3
  clear hf c88 cc hw cu ch ca
  go_enter Tryd.func17, Tryd.ntmps17
  go_wp2_with fail
  go_quiet ((go_at_call 25; first | with_reducible exact q_one (F0.out _)))
  have HX : Hid (RowAt ((W.alloc (.cells #[.int .u8 ((op : Nat) : Int), .int .u8 ((fm : Nat) : Int), .int .u32 ((code : Nat) : Int), .int .u32 ((f3 : Nat) : Int), .int .u32 ((f7 : Nat) : Int), .string s] 44)).drewN nq) W.heap.size ⟨op, fm, code, f3, f7⟩ s ∧ Below W.heap.size W ((W.alloc (.cells #[.int .u8 ((op : Nat) : Int), .int .u8 ((fm : Nat) : Int), .int .u32 ((code : Nat) : Int), .int .u32 ((f3 : Nat) : Int), .int .u32 ((f7 : Nat) : Int), .string s] 44)).drewN nq)) := Lib.hid ⟨(RowAt.new W ⟨op, fm, code, f3, f7⟩ s).drewN nq, below_drewN HB.out _⟩
  generalize (W.alloc (.cells #[.int .u8 ((op : Nat) : Int), .int .u8 ((fm : Nat) : Int), .int .u32 ((code : Nat) : Int), .int .u32 ((f3 : Nat) : Int), .int .u32 ((f7 : Nat) : Int), .string s] 44)).drewN nq = w2 at HX ⊢
  have k0 := HX.out.1.c0
  have k1 := HX.out.1.c1
  have k3 := HX.out.1.c3
  have k4 := HX.out.1.c4
  go_wp2_with fail
  go_quiet ((go_at_call 25; first | with_reducible exact q_one (F1.out _)))
  go_wp2_with fail
  go_ret
  exact ⟨by first | rfl | (simp; exact bool_eq _ 0), below_drewN HX.out.2 _⟩
end De
end Go.Proofs.YtbgcgomefdblpaaDoor
