/-
  The least word of one of a row's instructions: the program's put of a row, walked.
-/
import Derived.Test.YtbgcgomefdblpaaDoorDqBits
import Derived.Test.YtbgcgomefdblpaaDoorDqInsB
import Derived.Test.YtbgcgomefdblpaaDoorDePut
import Derived.Deep.RegionHeld3
namespace Go.Proofs.YtbgcgomefdblpaaDoor
open Go.RowKit
namespace De
set_option maxHeartbeats 6400000
set_option maxRecDepth 100000

theorem neq_ins (x y : Ins) (hx : x.Ok) (hy : y.Ok) (W : World) : (binOp .neq 26 (.agg (insV x)) (.agg (insV y))).run Tryd.prog W = .ok (.bool (decide (¬ x = y))) W := by
  have h := equal_ins x y hx hy W
  unfold insV at h ⊢
  rw [run_neq_struct, h]
  simp [Result.andThen, go_sem]
theorem noguard_ins : Tryd.prog.eqGuardType Tryd.prog.depth 26 = false := by kernel_rfl
theorem exec_neq {ev : Operand → Value} {o : Oper} {x y : Operand} {ty : TypeId} {xs ys : Array Value} {v : Value} {w : World} (ho : o.op = .binOp .neq 26 x y ty) (hx : ev x = .agg xs) (hy : ev y = .agg ys)
    (h : (binOp .neq 26 (.agg xs) (.agg ys)).run Tryd.prog w = .ok v w) : (execOp ev o).run Tryd.prog w = .ok (.value v) w := by
  have hg : (eqGuard .neq 26 x y (.agg xs) (.agg ys)).run Tryd.prog w = .ok () w := by
    simp [eqGuard, go_sem, Result.andThen]
  unfold execOp
  simp only [ho, hx, hy, Sem.run_bind, hg, h, Result.andThen_ok, Sem.run_pure]
/-- A row and an instruction in memory. -/
structure PuAt (W w : World) (q : Qr) (i : Ins) : Prop where
  q : QrAt w W.heap.size q
  x : InsAt w (W.heap.size + 1) i
  e : EnvAt w
  bw : Below W.heap.size W w
theorem PuAt.on {W w w' : World} {q : Qr} {i : Ins} (h : PuAt W w q i) (hb : Below w.heap.size w w') : PuAt W w' q i := ⟨h.q.below hb, h.x.below hb, h.e.below hb, De.on h.bw hb⟩
theorem PuAt.drew {W w : World} {q : Qr} {i : Ins} (h : PuAt W w q i) : PuAt W w.drew q i := h.on (below_drewN (Below.refl _ w) 1)
theorem PuAt.new {W : World} (hE : EnvAt W) (q : Qr) (i : Ins) (t1 t2 : TypeId) : PuAt W ((W.alloc (.cells (qrV q) t1)).alloc (.cells (insV i) t2)) q i := by
  have h := InsAt.new (W.alloc (.cells (qrV q) t1)) i t2
  rw [show (W.alloc (.cells (qrV q) t1)).heap.size = W.heap.size + 1 by simp] at h
  have hb := De.on (alloc_below W (.cells (qrV q) t1)) (alloc_below _ (.cells (insV i) t2))
  exact ⟨(QrAt.new W q t1).below (alloc_below _ _), h, hE.below hb, hb⟩
theorem PuAt.two {W w' : World} {q : Qr} {i : Ins} (h : PuAt W w' q i) : w'.cell? ⟨W.heap.size, 0, none⟩ = some (.int .u8 ((q.lo : Nat) : Int)) ∧ w'.cell? ⟨W.heap.size, 1, none⟩ = some (.int .u8 ((q.hi : Nat) : Int)) ∧ w'.cell? ⟨W.heap.size, 2, none⟩ = some (.int .u8 ((q.form : Nat) : Int)) ∧ w'.cell? ⟨W.heap.size, 3, none⟩ = some (.int .u32 ((q.word : Nat) : Int)) ∧ w'.cell? ⟨W.heap.size + 1, 0, none⟩ = some (.int .u8 ((i.op : Nat) : Int)) ∧ w'.cell? ⟨W.heap.size + 1, 1, none⟩ = some (.int .u8 ((i.rd : Nat) : Int)) ∧ w'.cell? ⟨W.heap.size + 1, 2, none⟩ = some (.int .u8 ((i.a : Nat) : Int)) ∧ w'.cell? ⟨W.heap.size + 1, 3, none⟩ = some (.int .u8 ((i.b : Nat) : Int)) ∧ w'.cell? ⟨W.heap.size + 1, 4, none⟩ = some (.int .i32 i.imm) ∧ w'.cell? ⟨W.heap.size + 1, 5, none⟩ = some (.int .u16 ((i.csr : Nat) : Int)) :=
  ⟨h.q.q0, h.q.q1, h.q.q2, h.q.q3, h.x.i0, h.x.i1, h.x.i2, h.x.i3, h.x.i4, h.x.i5⟩
theorem PuAt.all {W w' : World} {q : Qr} {i : Ins} {f : Fm} (h : PuAt W w' q i) (hk : q.form ≤ 12) (hf : f = fmQ q.form) : w'.cell? ⟨W.heap.size, 0, none⟩ = some (.int .u8 ((q.lo : Nat) : Int)) ∧ w'.cell? ⟨W.heap.size, 1, none⟩ = some (.int .u8 ((q.hi : Nat) : Int)) ∧ w'.cell? ⟨W.heap.size, 2, none⟩ = some (.int .u8 ((q.form : Nat) : Int)) ∧ w'.cell? ⟨W.heap.size, 3, none⟩ = some (.int .u32 ((q.word : Nat) : Int)) ∧ w'.cell? ⟨W.heap.size + 1, 0, none⟩ = some (.int .u8 ((i.op : Nat) : Int)) ∧ w'.cell? ⟨W.heap.size + 1, 1, none⟩ = some (.int .u8 ((i.rd : Nat) : Int)) ∧ w'.cell? ⟨W.heap.size + 1, 2, none⟩ = some (.int .u8 ((i.a : Nat) : Int)) ∧ w'.cell? ⟨W.heap.size + 1, 3, none⟩ = some (.int .u8 ((i.b : Nat) : Int)) ∧ w'.cell? ⟨W.heap.size + 1, 4, none⟩ = some (.int .i32 i.imm) ∧ w'.cell? ⟨W.heap.size + 1, 5, none⟩ = some (.int .u16 ((i.csr : Nat) : Int)) ∧ w'.cell? ⟨2, q.form * 15, none⟩ = some (.int .u32 ((f.fixed : Nat) : Int)) ∧ w'.cell? ⟨2, q.form * 15 + 1, none⟩ = some (.int .u8 ((f.has : Nat) : Int)) ∧ w'.cell? ⟨2, q.form * 15 + 2, none⟩ = some (.int .u8 ((f.spare : Nat) : Int)) ∧ w'.cell? ⟨2, q.form * 15 + 3, none⟩ = some (.int .u8 ((f.p0.a : Nat) : Int)) ∧ w'.cell? ⟨2, q.form * 15 + 4, none⟩ = some (.int .u8 ((f.p0.b : Nat) : Int)) ∧ w'.cell? ⟨2, q.form * 15 + 5, none⟩ = some (.int .u8 ((f.p0.n : Nat) : Int)) ∧ w'.cell? ⟨2, q.form * 15 + 6, none⟩ = some (.int .u8 ((f.p1.a : Nat) : Int)) ∧ w'.cell? ⟨2, q.form * 15 + 7, none⟩ = some (.int .u8 ((f.p1.b : Nat) : Int)) ∧ w'.cell? ⟨2, q.form * 15 + 8, none⟩ = some (.int .u8 ((f.p1.n : Nat) : Int)) ∧ w'.cell? ⟨2, q.form * 15 + 9, none⟩ = some (.int .u8 ((f.p2.a : Nat) : Int)) ∧ w'.cell? ⟨2, q.form * 15 + 10, none⟩ = some (.int .u8 ((f.p2.b : Nat) : Int)) ∧ w'.cell? ⟨2, q.form * 15 + 11, none⟩ = some (.int .u8 ((f.p2.n : Nat) : Int)) ∧ w'.cell? ⟨2, q.form * 15 + 12, none⟩ = some (.int .u8 ((f.p3.a : Nat) : Int)) ∧ w'.cell? ⟨2, q.form * 15 + 13, none⟩ = some (.int .u8 ((f.p3.b : Nat) : Int)) ∧ w'.cell? ⟨2, q.form * 15 + 14, none⟩ = some (.int .u8 ((f.p3.n : Nat) : Int)) := by
  subst hf
  have k := env_form h.e hk
  exact ⟨h.q.q0, h.q.q1, h.q.q2, h.q.q3, h.x.i0, h.x.i1, h.x.i2, h.x.i3, h.x.i4, h.x.i5, k⟩
theorem num_in (f : Fm) (w : Nat) : -2147483648 ≤ numP f w ∧ numP f w < 2147483648 := by
  unfold numP
  have h : -2147483648 ≤ IntKind.i32.wrap ((orP f w * 2 ^ f.spare % 4294967296 : Nat) : Int) ∧ IntKind.i32.wrap ((orP f w * 2 ^ f.spare % 4294967296 : Nat) : Int) < 2147483648 := by rw [IntKind.wrap_i32]; omega
  generalize IntKind.i32.wrap ((orP f w * 2 ^ f.spare % 4294967296 : Nat) : Int) = x at h ⊢
  have e : ((2 : Int) ^ f.spare) = ((2 ^ f.spare : Nat) : Int) := by simp
  have hp := Nat.two_pow_pos f.spare
  rw [e]
  generalize 2 ^ f.spare = p at hp ⊢
  have hp : (1 : Int) ≤ ((p : Nat) : Int) := by omega
  have h1 : (-2147483648 : Int) * ((p : Nat) : Int) ≤ x := by omega
  have h2 : x < (2147483648 : Int) * ((p : Nat) : Int) := by omega
  exact ⟨(Int.le_ediv_iff_mul_le (by omega)).2 h1, Int.ediv_lt_of_lt_mul (by omega) h2⟩
theorem instr_ok (q : Qr) {w : Nat} (hw : w < 4294967296) : (instrP q w).Ok := by
  unfold instrP fieldsP
  refine ⟨?_, ?_, ?_, ?_, num_in _ _, ?_⟩
  all_goals (simp only [])
  · omega
  all_goals (split <;> omega)
theorem rput_any {q : Qr} (hq : q ∈ rowsQ) {i : Ins} (hi : i.Ok) (hlo : q.lo ≤ i.op) (hhi : i.op ≤ q.hi) (W : World) (hE : EnvAt W) :
    Calls Tryd.prog 19 #[.agg (qrV q), .agg (insV i)] W fun e W' => e = .returned (.tuple #[.int .u32 (((putQ q i).getD 0 : Nat) : Int), .int .i64 (erN (putQ q i) 2)]) ∧ Below W.heap.size W W' := by
  obtain ⟨h1, h2, h3, hk, h5⟩ := rowQ_ok q hq
  have hpl := putW_lt hq hi hhi
  have HN := Lib.hid (PuAt.new hE q i 37 26)
  have HBT := Lib.hid (fun W => bits_any (fmQ_ok q.form hk) hi W)
  have HIN := Lib.hid (fun W hE => instr_any hq hpl W hE)
  have HNE := neq_ins (instrP q (putW q i)) i (instr_ok q hpl) hi
  have hbl := bits_lt (fmQ_ok q.form hk) hi
  have ho := hi.op
  obtain ⟨d, hd⟩ : ∃ d, d = i.op - q.lo := ⟨_, rfl⟩
  obtain ⟨m, hm⟩ : ∃ m, m = 4096 * d := ⟨_, rfl⟩
  obtain ⟨n, hn⟩ : ∃ n, n = q.word + m := ⟨_, rfl⟩
  have e1 : IntKind.u8.wrap (((i.op : Nat) : Int) - ((q.lo : Nat) : Int)) = ((d : Nat) : Int) := by
    rw [show ((i.op : Nat) : Int) - ((q.lo : Nat) : Int) = ((d : Nat) : Int) by omega]; exact wu8 (by omega)
  have e2 : IntKind.u32.wrap ((d : Nat) : Int) = ((d : Nat) : Int) := by rw [IntKind.wrap_u32]; omega
  have e3 : IntKind.u32.wrap (4096 * ((d : Nat) : Int)) = ((m : Nat) : Int) := by rw [IntKind.wrap_u32]; omega
  have e4 : IntKind.u32.wrap (((q.word : Nat) : Int) + ((m : Nat) : Int)) = ((n : Nat) : Int) := by rw [IntKind.wrap_u32]; omega
  have e5 : bits .or .u32 ((n : Nat) : Int) ((bitsP (fmQ q.form) i : Nat) : Int) = ((putW q i : Nat) : Int) := by
    rw [u32_or_nat _ _ (by omega) hbl, hn, hm, hd]; rfl
  have HP : Hid (putQ q i = if instrP q (putW q i) = i then some (putW q i) else none) := Lib.hid rfl
  have HKK := Lib.hid hk
  clear hd hm hn hpl hbl hq hi hlo hhi hE h1 h2 h3 h5 ho
  have f0 : (0 : Int) ≤ ((q.form : Nat) : Int) := by omega
  have f1 : ((q.form : Nat) : Int) < 13 := by omega
  obtain ⟨f, hf⟩ : ∃ f, f = fmQ q.form := ⟨_, rfl⟩
  have HF := Lib.hid hf
  rw [← hf] at HBT e5
  clear hf hk
  generalize putQ q i = pq at HP ⊢
  generalize putW q i = p at *
  generalize bitsP f i = bt at *
  generalize hx : instrP q p = x at HIN HNE HP
  clear hx
  have HNEQ : Hid (∀ W : World, (binOp .neq 26 (.agg (insV x)) (.agg #[.int .u8 ((i.op : Nat) : Int), .int .u8 ((i.rd : Nat) : Int), .int .u8 ((i.a : Nat) : Int), .int .u8 ((i.b : Nat) : Int), .int .i32 i.imm, .int .u16 ((i.csr : Nat) : Int)])).run Tryd.prog W = .ok (.bool (decide (¬ x = i))) W) := Lib.hid HNE
  clear HNE
  generalize insV x = X at HNEQ HIN
  unfold insV fmV at HBT
  unfold qrV at HIN
  unfold qrV insV at HN ⊢
  go_enter Tryd.func19, Tryd.ntmps19
  go_upto_region 1 with fail
  generalize World.alloc _ _ = w0 at HN ⊢
  have HK := HN.out.all HKK.out HF.out
  have XD := Lib.hid HN.out.drew
  go_region_held3 (fun w' => w'.cell? ⟨W.heap.size, 0, none⟩ = some (.int .u8 ((q.lo : Nat) : Int)) ∧ w'.cell? ⟨W.heap.size, 1, none⟩ = some (.int .u8 ((q.hi : Nat) : Int)) ∧ w'.cell? ⟨W.heap.size, 2, none⟩ = some (.int .u8 ((q.form : Nat) : Int)) ∧ w'.cell? ⟨W.heap.size, 3, none⟩ = some (.int .u32 ((q.word : Nat) : Int)) ∧ w'.cell? ⟨W.heap.size + 1, 0, none⟩ = some (.int .u8 ((i.op : Nat) : Int)) ∧ w'.cell? ⟨W.heap.size + 1, 1, none⟩ = some (.int .u8 ((i.rd : Nat) : Int)) ∧ w'.cell? ⟨W.heap.size + 1, 2, none⟩ = some (.int .u8 ((i.a : Nat) : Int)) ∧ w'.cell? ⟨W.heap.size + 1, 3, none⟩ = some (.int .u8 ((i.b : Nat) : Int)) ∧ w'.cell? ⟨W.heap.size + 1, 4, none⟩ = some (.int .i32 i.imm) ∧ w'.cell? ⟨W.heap.size + 1, 5, none⟩ = some (.int .u16 ((i.csr : Nat) : Int)) ∧ w'.cell? ⟨2, q.form * 15, none⟩ = some (.int .u32 ((f.fixed : Nat) : Int)) ∧ w'.cell? ⟨2, q.form * 15 + 1, none⟩ = some (.int .u8 ((f.has : Nat) : Int)) ∧ w'.cell? ⟨2, q.form * 15 + 2, none⟩ = some (.int .u8 ((f.spare : Nat) : Int)) ∧ w'.cell? ⟨2, q.form * 15 + 3, none⟩ = some (.int .u8 ((f.p0.a : Nat) : Int)) ∧ w'.cell? ⟨2, q.form * 15 + 4, none⟩ = some (.int .u8 ((f.p0.b : Nat) : Int)) ∧ w'.cell? ⟨2, q.form * 15 + 5, none⟩ = some (.int .u8 ((f.p0.n : Nat) : Int)) ∧ w'.cell? ⟨2, q.form * 15 + 6, none⟩ = some (.int .u8 ((f.p1.a : Nat) : Int)) ∧ w'.cell? ⟨2, q.form * 15 + 7, none⟩ = some (.int .u8 ((f.p1.b : Nat) : Int)) ∧ w'.cell? ⟨2, q.form * 15 + 8, none⟩ = some (.int .u8 ((f.p1.n : Nat) : Int)) ∧ w'.cell? ⟨2, q.form * 15 + 9, none⟩ = some (.int .u8 ((f.p2.a : Nat) : Int)) ∧ w'.cell? ⟨2, q.form * 15 + 10, none⟩ = some (.int .u8 ((f.p2.b : Nat) : Int)) ∧ w'.cell? ⟨2, q.form * 15 + 11, none⟩ = some (.int .u8 ((f.p2.n : Nat) : Int)) ∧ w'.cell? ⟨2, q.form * 15 + 12, none⟩ = some (.int .u8 ((f.p3.a : Nat) : Int)) ∧ w'.cell? ⟨2, q.form * 15 + 13, none⟩ = some (.int .u8 ((f.p3.b : Nat) : Int)) ∧ w'.cell? ⟨2, q.form * 15 + 14, none⟩ = some (.int .u8 ((f.p3.n : Nat) : Int)))
    (first | exact XD.out.all HKK.out HF.out | exact H5.out.all HKK.out HF.out | (go_keep; done))
    (first | (go_at_call 27; refine (HBT.out _).mono ?_; rintro e w5 ⟨rfl, hb⟩; have H5 := Lib.hid (XD.out.on hb)) | fail)
  clear HK XD HN HBT e1 e2 e3 e4 e5 f0 f1
  go_upto_region 2 with fail
  by_cases c : x = i
  · skip
    have HNE1 : ∀ W : World, (binOp .neq 26 (.agg X) (.agg #[.int .u8 ((i.op : Nat) : Int), .int .u8 ((i.rd : Nat) : Int), .int .u8 ((i.a : Nat) : Int), .int .u8 ((i.b : Nat) : Int), .int .i32 i.imm, .int .u16 ((i.csr : Nat) : Int)])).run Tryd.prog W = .ok (.bool false) W := fun W => by rw [HNEQ.out W]; simp [c]
    have HP := Lib.hid (HP.out.trans (if_pos c))
    clear c HNEQ
    refine wp_region_held_drew (S := fun w' => PuAt W w' q i) (by kernel_rfl) H5.out.drew (fun hHeld => ?_)
    refine wpAnyH_take (i := 0) (v := .agg #[.int .u8 ((q.lo : Nat) : Int), .int .u8 ((q.hi : Nat) : Int), .int .u8 ((q.form : Nat) : Int), .int .u32 ((q.word : Nat) : Int)]) (by simp only [List.getElem?_toArray, List.getElem?_cons_zero]; rfl) (by kernel_rfl) (by kernel_rfl) (by kernel_rfl) (by exact fun _ _ _ h => h) (Or.inl ⟨by rfl, ?_⟩) hHeld ?_
    · intro w' hSw
      have q0 := hSw.q.q0; have q1 := hSw.q.q1; have q2 := hSw.q.q2; have q3 := hSw.q.q3; go_simp
    try simp only [Act.put, List.setIfInBounds_toArray, List.set_cons_zero, List.set_cons_succ]
    refine wpAnyH_take (i := 1) (v := .int .u32 ((p : Nat) : Int)) (by simp only [List.getElem?_toArray, List.getElem?_cons_zero, List.getElem?_cons_succ]; rfl) (by kernel_rfl) (by kernel_rfl) (by kernel_rfl) (by exact fun _ _ _ h => h) (Or.inl ⟨by rfl, ?_⟩) hHeld ?_
    · intro w' hSw
      go_simp
    try simp only [Act.put, List.setIfInBounds_toArray, List.set_cons_zero, List.set_cons_succ]
    refine wpAnyH_take (i := 3) (v := .agg #[.int .u8 ((i.op : Nat) : Int), .int .u8 ((i.rd : Nat) : Int), .int .u8 ((i.a : Nat) : Int), .int .u8 ((i.b : Nat) : Int), .int .i32 i.imm, .int .u16 ((i.csr : Nat) : Int)]) (by simp only [List.getElem?_toArray, List.getElem?_cons_zero, List.getElem?_cons_succ]; rfl) (by kernel_rfl) (by kernel_rfl) (by kernel_rfl) (by exact fun _ _ _ h => h) (Or.inl ⟨by rfl, ?_⟩) hHeld ?_
    · intro w' hSw
      have i0 := hSw.x.i0; have i1 := hSw.x.i1; have i2 := hSw.x.i2; have i3 := hSw.x.i3; have i4 := hSw.x.i4; have i5 := hSw.x.i5; go_simp
    try simp only [Act.put, List.setIfInBounds_toArray, List.set_cons_zero, List.set_cons_succ]
    refine wpAnyH_ready (rs := [2]) (by kernel_rfl) (by simp) ?_
    refine AllReadyH.cons (by simp only [List.getElem?_toArray, List.getElem?_cons_zero, List.getElem?_cons_succ]; rfl) (fun K hK => ?_) AllReadyH.nil
    go_simp
    refine (HIN.out _ (by exact H5.out.drew.e)).mono ?_
    rintro e w6 ⟨rfl, hb6⟩
    have H6 := Lib.hid (H5.out.drew.on hb6)
    refine hK.out _ _ H6.out (fun hHeld => ?_)
    clear hb6 hK K
    try simp only [Act.put, List.setIfInBounds_toArray, List.set_cons_zero, List.set_cons_succ]
    refine wpAnyH_take (i := 4) (v := .bool false) (by simp only [List.getElem?_toArray, List.getElem?_cons_zero, List.getElem?_cons_succ]; rfl) (by kernel_rfl) (by kernel_rfl) (by kernel_rfl) (by exact fun _ _ _ h => h) (Or.inl ⟨by rfl, ?_⟩) hHeld ?_
    · intro w' hSw
      exact exec_neq rfl rfl rfl (HNE1 w')
    try simp only [Act.put, List.setIfInBounds_toArray, List.set_cons_zero, List.set_cons_succ]
    refine wpAnyH_done (by kernel_rfl) ?_ _
    go_wp2_with fail
    go_ret2
    rw [HP.out]
    exact ⟨rfl, H6.out.bw⟩
  · skip
    have HNE1 : ∀ W : World, (binOp .neq 26 (.agg X) (.agg #[.int .u8 ((i.op : Nat) : Int), .int .u8 ((i.rd : Nat) : Int), .int .u8 ((i.a : Nat) : Int), .int .u8 ((i.b : Nat) : Int), .int .i32 i.imm, .int .u16 ((i.csr : Nat) : Int)])).run Tryd.prog W = .ok (.bool true) W := fun W => by rw [HNEQ.out W]; simp [c]
    have HP := Lib.hid (HP.out.trans (if_neg c))
    clear c HNEQ
    refine wp_region_held_drew (S := fun w' => PuAt W w' q i) (by kernel_rfl) H5.out.drew (fun hHeld => ?_)
    refine wpAnyH_take (i := 0) (v := .agg #[.int .u8 ((q.lo : Nat) : Int), .int .u8 ((q.hi : Nat) : Int), .int .u8 ((q.form : Nat) : Int), .int .u32 ((q.word : Nat) : Int)]) (by simp only [List.getElem?_toArray, List.getElem?_cons_zero]; rfl) (by kernel_rfl) (by kernel_rfl) (by kernel_rfl) (by exact fun _ _ _ h => h) (Or.inl ⟨by rfl, ?_⟩) hHeld ?_
    · intro w' hSw
      have q0 := hSw.q.q0; have q1 := hSw.q.q1; have q2 := hSw.q.q2; have q3 := hSw.q.q3; go_simp
    try simp only [Act.put, List.setIfInBounds_toArray, List.set_cons_zero, List.set_cons_succ]
    refine wpAnyH_take (i := 1) (v := .int .u32 ((p : Nat) : Int)) (by simp only [List.getElem?_toArray, List.getElem?_cons_zero, List.getElem?_cons_succ]; rfl) (by kernel_rfl) (by kernel_rfl) (by kernel_rfl) (by exact fun _ _ _ h => h) (Or.inl ⟨by rfl, ?_⟩) hHeld ?_
    · intro w' hSw
      go_simp
    try simp only [Act.put, List.setIfInBounds_toArray, List.set_cons_zero, List.set_cons_succ]
    refine wpAnyH_take (i := 3) (v := .agg #[.int .u8 ((i.op : Nat) : Int), .int .u8 ((i.rd : Nat) : Int), .int .u8 ((i.a : Nat) : Int), .int .u8 ((i.b : Nat) : Int), .int .i32 i.imm, .int .u16 ((i.csr : Nat) : Int)]) (by simp only [List.getElem?_toArray, List.getElem?_cons_zero, List.getElem?_cons_succ]; rfl) (by kernel_rfl) (by kernel_rfl) (by kernel_rfl) (by exact fun _ _ _ h => h) (Or.inl ⟨by rfl, ?_⟩) hHeld ?_
    · intro w' hSw
      have i0 := hSw.x.i0; have i1 := hSw.x.i1; have i2 := hSw.x.i2; have i3 := hSw.x.i3; have i4 := hSw.x.i4; have i5 := hSw.x.i5; go_simp
    try simp only [Act.put, List.setIfInBounds_toArray, List.set_cons_zero, List.set_cons_succ]
    refine wpAnyH_ready (rs := [2]) (by kernel_rfl) (by simp) ?_
    refine AllReadyH.cons (by simp only [List.getElem?_toArray, List.getElem?_cons_zero, List.getElem?_cons_succ]; rfl) (fun K hK => ?_) AllReadyH.nil
    go_simp
    refine (HIN.out _ (by exact H5.out.drew.e)).mono ?_
    rintro e w6 ⟨rfl, hb6⟩
    have H6 := Lib.hid (H5.out.drew.on hb6)
    refine hK.out _ _ H6.out (fun hHeld => ?_)
    clear hb6 hK K
    try simp only [Act.put, List.setIfInBounds_toArray, List.set_cons_zero, List.set_cons_succ]
    refine wpAnyH_take (i := 4) (v := .bool true) (by simp only [List.getElem?_toArray, List.getElem?_cons_zero, List.getElem?_cons_succ]; rfl) (by kernel_rfl) (by kernel_rfl) (by kernel_rfl) (by exact fun _ _ _ h => h) (Or.inl ⟨by rfl, ?_⟩) hHeld ?_
    · intro w' hSw
      exact exec_neq rfl rfl rfl (HNE1 w')
    try simp only [Act.put, List.setIfInBounds_toArray, List.set_cons_zero, List.set_cons_succ]
    refine wpAnyH_done (by kernel_rfl) ?_ _
    go_wp2_with fail
    go_ret2
    rw [HP.out]
    exact ⟨rfl, H6.out.bw⟩
end De
end Go.Proofs.YtbgcgomefdblpaaDoor
