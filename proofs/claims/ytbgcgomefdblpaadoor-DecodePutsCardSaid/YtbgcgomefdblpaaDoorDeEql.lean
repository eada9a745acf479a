/-
  Two instructions, compared: what the model makes of them.
-/
import Derived.Test.YtbgcgomefdblpaaDoorDeReadA
import Derived.WalkKit
import Derived.Outline
import Derived.DeepKeys4
import Derived.Laws.Cover3
import Derived.KernelRfl
namespace Go.Proofs.YtbgcgomefdblpaaDoor
open Go.RowKit
namespace De
set_option maxHeartbeats 800000
set_option maxRecDepth 100000

/-- Each field within its kind. -/
structure Ins.Ok (i : Ins) : Prop where
  op : i.op ≤ 255
  rd : i.rd ≤ 255
  a : i.a ≤ 255
  b : i.b ≤ 255
  imm : -2147483648 ≤ i.imm ∧ i.imm < 2147483648
  csr : i.csr ≤ 65535
theorem cells_ins : Tryd.prog.cellsOf 26 = 6 := by kernel_rfl
theorem cells_iop : Tryd.prog.cellsOf 23 = 1 := by kernel_rfl
theorem cells_u8 : Tryd.prog.cellsOf 5 = 1 := by kernel_rfl
theorem cells_i32 : Tryd.prog.cellsOf 21 = 1 := by kernel_rfl
theorem cells_u16 : Tryd.prog.cellsOf 24 = 1 := by kernel_rfl
def Ins.lits (i : Ins) : List Lit := [.int .u8 i.op, .int .u8 i.rd, .int .u8 i.a, .int .u8 i.b, .int .i32 i.imm, .int .u16 i.csr]
theorem Ins.lits_inj {x y : Ins} (h : x.lits = y.lits) : x = y := by
  simp only [Ins.lits, List.cons.injEq, Lit.int.injEq, Int.natCast_inj, true_and, and_true] at h
  obtain ⟨a, b, c, d, e, f⟩ := x
  simp only [] at h
  obtain ⟨rfl, rfl, rfl, rfl, rfl, rfl⟩ := h
  rfl
theorem wf_u8 {n : Nat} (h : n ≤ 255) : (Lit.int .u8 (n : Int)).wf = true := by
  simp [Lit.wf, IntKind.min, IntKind.max, IntKind.signed, IntKind.bits]; omega
theorem wf_u16 {n : Nat} (h : n ≤ 65535) : (Lit.int .u16 (n : Int)).wf = true := by
  simp [Lit.wf, IntKind.min, IntKind.max, IntKind.signed, IntKind.bits]; omega
theorem wf_i32 {n : Int} (h : -2147483648 ≤ n ∧ n < 2147483648) : (Lit.int .i32 n).wf = true := by
  simp [Lit.wf, IntKind.min, IntKind.max, IntKind.signed, IntKind.bits]; omega
theorem lits_at (d : Nat) (x : Ins) (hx : x.Ok) : Tryd.prog.keyLits (d + 2) 26 (insV x).toList = some x.lits := by
  have a0 := wf_u8 hx.op
  have a1 := wf_u8 hx.rd
  have a2 := wf_u8 hx.a
  have a3 := wf_u8 hx.b
  have a4 := wf_i32 hx.imm
  have a5 := wf_u16 hx.csr
  simp [Program.keyLits, Tryd.underlying26, Tryd.underlying23, Tryd.underlying5, Tryd.underlying21, Tryd.underlying24, cells_ins, cells_iop, cells_u8, cells_i32, cells_u16,
    insV, Ins.lits, a0, a1, a2, a3, a4, a5]
theorem deep_ins : Tryd.prog.keyTypeAt 2 26 = true := by kernel_rfl
theorem formed_ins (x : Ins) : (Value.agg (insV x)).formed Tryd.prog 26 = true := by simp [insV, Value.formed, Tryd.underlying26, cells_ins]
theorem equal_ins (x y : Ins) (hx : x.Ok) (hy : y.Ok) (W : World) : (Op.equalIn 10000 26 (.agg (insV x)) (.agg (insV y))).run Tryd.prog W = .ok (decide (x = y)) W := by
  obtain ⟨r, hr, hi⟩ := run_equalIn_deep 9998 2 26 deep_ins W 2 2 (.agg (insV x)) (.agg (insV y)) x.lits y.lits (formed_ins x) (formed_ins y) (lits_at 0 x hx) (lits_at 0 y hy)
  have : r = decide (x = y) := by
    by_cases e : x = y
    · subst e; simp [hi.2 rfl]
    · have : ¬ r = true := fun h => e (Ins.lits_inj (hi.1 h))
      simp [e, this]
  rw [this] at hr
  exact hr
theorem eql_ins (x y : Ins) (hx : x.Ok) (hy : y.Ok) (W : World) : (binOp .eql 26 (.agg (insV x)) (.agg (insV y))).run Tryd.prog W = .ok (.bool (decide (x = y))) W := by
  have h := equal_ins x y hx hy W
  unfold insV at h ⊢
  rw [run_eql_struct, h]
  rfl
theorem sgn_in {x n : Nat} (h : x < 2 ^ n) (hn1 : 1 ≤ n) (hn : n ≤ 32) : -2147483648 ≤ sgn x n ∧ sgn x n < 2147483648 := by
  have hp : 2 ^ (n - 1) ≤ 2147483648 := Nat.pow_le_pow_right (n := 2) (by decide) (show n - 1 ≤ 31 by omega)
  have hs : 2 * 2 ^ (n - 1) = 2 ^ n := by rw [Nat.mul_comm, ← Nat.pow_succ]; congr 1; omega
  unfold sgn
  have e : (2 : Int) ^ (n - 1) = ((2 ^ (n - 1) : Nat) : Int) := by rw [Int.natCast_pow]; rfl
  rw [e]
  generalize 2 ^ (n - 1) = y at *
  split <;> omega
theorem immJ_lt (w : Nat) : immJ w < 2 ^ 21 := by unfold immJ; have := fld_lt w 31 1; have := fld_lt w 12 8; have := fld_lt w 20 1; have := fld_lt w 21 10; omega
theorem immS_lt (w : Nat) : immS w < 2 ^ 12 := by unfold immS; have := fld_lt w 25 7; have := fld_lt w 7 5; omega
theorem immB_lt (w : Nat) : immB w < 2 ^ 13 := by unfold immB; have := fld_lt w 31 1; have := fld_lt w 7 1; have := fld_lt w 25 6; have := fld_lt w 8 4; omega
theorem read_ok {r : Row} (hg : good r = true) (w : Nat) : (readP r w).Ok := by
  have hop : r.op ≤ 255 := by
    unfold good at hg
    simp only [Bool.and_eq_true, decide_eq_true_eq] at hg
    have := hg.1.1.1.1.2
    omega
  have h1 := fld_lt w 7 5
  have h2 := fld_lt w 15 5
  have h3 := fld_lt w 20 5
  have h4 := fld_lt w 20 12
  have s1 := sgn_in (x := 4096 * fld w 12 20) (n := 32) (by have := fld_lt w 12 20; omega) (by decide) (by decide)
  have s2 := sgn_in (immJ_lt w) (by decide) (by decide)
  have s3 := sgn_in (fld_lt w 20 12) (by decide) (by decide)
  have s4 := sgn_in (immS_lt w) (by decide) (by decide)
  have s5 := sgn_in (immB_lt w) (by decide) (by decide)
  unfold readP
  simp only []
  repeat' split
  all_goals (refine ⟨hop, ?_, ?_, ?_, ?_, ?_⟩ <;> simp only [] <;> first | assumption | omega)
theorem get_ok {w : Nat} {i : Ins} (h : getP w = some i) : i.Ok := by
  obtain ⟨r, hr, _, rfl⟩ := fits_get h
  exact read_ok (rows_good r hr) w
theorem least_lt {r : Row} {i : Ins} (hg : good r = true) (hi : boundsP i = true) : leastP r i < 4294967296 := by
  obtain ⟨b1, b2, b3, b4⟩ := of_decide_eq_true hi
  unfold good at hg
  simp only [Bool.and_eq_true, decide_eq_true_eq] at hg
  obtain ⟨⟨⟨⟨⟨⟨⟨g1, g2⟩, _⟩, _⟩, g5⟩, g6⟩, gz⟩, _⟩ := hg
  unfold leastP
  simp only []
  have f1 := fld_lt (u32 i.imm) 12 20
  have f2 := fld_lt (u32 i.imm) 20 1
  have f3 := fld_lt (u32 i.imm) 1 10
  have f4 := fld_lt (u32 i.imm) 11 1
  have f5 := fld_lt (u32 i.imm) 12 8
  have f6 := fld_lt (u32 i.imm) 0 12
  have f7 := fld_lt (u32 i.imm) 0 5
  have f8 := fld_lt (u32 i.imm) 5 7
  have f9 := fld_lt (u32 i.imm) 12 1
  have fa := fld_lt (u32 i.imm) 5 6
  have fb := fld_lt (u32 i.imm) 1 4
  by_cases c : r.fm = 88
  · rw [if_pos c] at g5 ⊢
    exact (of_decide_eq_true g5).1
  · rw [if_neg c] at g5 ⊢
    have hc := of_decide_eq_true g5
    repeat' split
    all_goals (try have hz := gz (by omega)); (try have h32 := g6 (by omega)); omega
theorem put_lt {i : Ins} {v : Nat} (h : putP i = some v) : v < 4294967296 := by
  unfold putP at h
  obtain ⟨r, hr, h⟩ := List.exists_of_findSome?_eq_some h
  unfold putOne at h
  split at h
  · rename_i c
    injection h with h
    rw [← h]
    exact least_lt (rows_good r hr) c.2.1
  · cases h
end De
end Go.Proofs.YtbgcgomefdblpaaDoor
