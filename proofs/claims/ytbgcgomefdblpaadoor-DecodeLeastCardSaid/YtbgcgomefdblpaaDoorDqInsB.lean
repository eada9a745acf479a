/-
  The instruction that a row of the program's reads a word as, walked.
-/
import Derived.Test.YtbgcgomefdblpaaDoorDqInsA
import Derived.Deep.RegionHeld3
namespace Go.Proofs.YtbgcgomefdblpaaDoor
open Go.RowKit
namespace De
set_option maxHeartbeats 3200000
set_option maxRecDepth 100000

theorem instr_any {q : Qr} (hq : q ∈ rowsQ) {w : Nat} (hw : w < 4294967296) (W : World) (hE : EnvAt W) :
    Calls Tryd.prog 15 #[.agg (qrV q), .int .u32 ((w : Nat) : Int)] W fun e W' => e = .returned (.agg (insV (instrP q w))) ∧ Below W.heap.size W W' := by
  obtain ⟨h1, h2, h3, hf, h5⟩ := rowQ_ok q hq
  have HA := Lib.hid (fun W hE => above_any hq hw W hE)
  have HFL := Lib.hid (fun W => fields_any (fmQ_ok q.form hf) hw W)
  have HNEW := Lib.hid (fun (w1 : World) (t1 t2 t3 : TypeId) (i : Ins) => RiAt.new (W := W) (w1 := w1) q t1 t2 t3 i)
  have HB := Lib.hid (on (alloc_below W (.cells (qrV q) 37)) (alloc_below (W.alloc (.cells (qrV q) 37)) (.cells #[.int .u8 0, .int .u8 0, .int .u8 0, .int .u8 0, .int .i32 0, .int .u16 0] 26)))
  have HQ := Lib.hid ((QrAt.new W q 37).below (alloc_below (W.alloc (.cells (qrV q) 37)) (.cells #[.int .u8 0, .int .u8 0, .int .u8 0, .int .u8 0, .int .i32 0, .int .u16 0] 26)))
  have HE := Lib.hid (hE.below HB.out)
  have HI : Hid (instrP q w = { fieldsP (fmQ q.form) w with op := (q.lo + aboveP q w / 4096) % 256 }) := Lib.hid rfl
  have hl : aboveP q w < 4294967296 := Nat.mod_lt _ (by decide)
  have HEF := Lib.hid (env_form HE.out hf)
  have ho0 : (fieldsP (fmQ q.form) w).op = 0 := rfl
  have HN := Lib.hid (fun (w1 : World) => HNEW.out w1 37 26 26 (fieldsP (fmQ q.form) w))
  clear hw hE hq HNEW
  rw [HI.out]
  clear HI
  generalize aboveP q w = ab at *
  generalize fieldsP (fmQ q.form) w = x at *
  obtain ⟨xo, xd, xa, xb, xi, xc⟩ := x
  simp only [] at ho0
  subst ho0
  generalize fmQ q.form = f at *
  have f0 : (0 : Int) ≤ ((q.form : Nat) : Int) := by omega
  have f1 : ((q.form : Nat) : Int) < 13 := by omega
  have l2 : q.lo ≤ 68 := by omega
  obtain ⟨t, ht⟩ : ∃ t, t = ab / 4096 % 256 := ⟨_, rfl⟩
  obtain ⟨v, hv⟩ : ∃ v, v = (q.lo + ab / 4096) % 256 := ⟨_, rfl⟩
  obtain ⟨c, hc⟩ : ∃ c, c = ab / 4096 := ⟨_, rfl⟩
  have e0 : IntKind.u32.wrap (((ab : Nat) : Int) / 4096) = ((c : Nat) : Int) := by rw [IntKind.wrap_u32]; omega
  have e1 : IntKind.u8.wrap ((c : Nat) : Int) = ((t : Nat) : Int) := by
    simp only [IntKind.wrap, IntKind.bits, IntKind.signed]; simp; omega
  have e2 : IntKind.u8.wrap (((q.lo : Nat) : Int) + ((t : Nat) : Int)) = ((v : Nat) : Int) := by
    simp only [IntKind.wrap, IntKind.bits, IntKind.signed]; simp; omega
  rw [← hv]
  clear h1 h2 h3 hf h5 ht hv hc hl l2
  unfold qrV at HA HB HQ HE HN HEF ⊢
  unfold fmV at HFL
  unfold insV at HFL HN ⊢
  simp only [] at HFL HN ⊢
  go_enter Tryd.func15, Tryd.ntmps15
  go_upto_region 1 with fail
  generalize World.alloc _ _ = w0 at HB HQ HE HEF HN ⊢
  obtain ⟨k0, k1, k2, k3, k4, k5, k6, k7, k8, k9, k10, k11, k12, k13, k14⟩ := HEF.out
  have q2 := HQ.out.q2
  go_wp2_with fail
  refine (HFL.out _).mono ?_
  rintro e w1 ⟨rfl, hb⟩
  have HX := Lib.hid (HN.out w1 hb)
  have HE1 := Lib.hid (HE.out.below (De.on hb (alloc_below w1 (.cells #[.int .u8 0, .int .u8 ((xd : Nat) : Int), .int .u8 ((xa : Nat) : Int), .int .u8 ((xb : Nat) : Int), .int .i32 xi, .int .u16 ((xc : Nat) : Int)] 26))))
  clear k0 k1 k2 k3 k4 k5 k6 k7 k8 k9 k10 k11 k12 k13 k14 q2 HFL HN hb HEF HE HQ
  go_upto_region 2 with fail
  change Hid (RiAt W (w1.alloc (.cells #[.int .u8 0, .int .u8 ((xd : Nat) : Int), .int .u8 ((xa : Nat) : Int), .int .u8 ((xb : Nat) : Int), .int .i32 xi, .int .u16 ((xc : Nat) : Int)] 26)) _ _ _) at HX
  generalize w1.alloc _ = w2 at HX HE1 ⊢
  generalize w1.heap.size = bx at HX ⊢
  have HKEEP : Hid (∀ w' : World, RiAt W w' q bx ⟨0, xd, xa, xb, xi, xc⟩ → w'.cell? ⟨W.heap.size, 0, none⟩ = some (.int .u8 ((q.lo : Nat) : Int)) ∧ w'.cell? ⟨W.heap.size, 1, none⟩ = some (.int .u8 ((q.hi : Nat) : Int)) ∧ w'.cell? ⟨W.heap.size, 2, none⟩ = some (.int .u8 ((q.form : Nat) : Int)) ∧ w'.cell? ⟨W.heap.size, 3, none⟩ = some (.int .u32 ((q.word : Nat) : Int))) := Lib.hid fun w' h => ⟨h.q.q0, h.q.q1, h.q.q2, h.q.q3⟩
  have HKS : Hid (∀ (w' : World) (u : Value), RiAt W w' q bx ⟨0, xd, xa, xb, xi, xc⟩ → (w'.setCell ⟨bx, 0, none⟩ u).cell? ⟨W.heap.size, 0, none⟩ = some (.int .u8 ((q.lo : Nat) : Int)) ∧ (w'.setCell ⟨bx, 0, none⟩ u).cell? ⟨W.heap.size, 1, none⟩ = some (.int .u8 ((q.hi : Nat) : Int)) ∧ (w'.setCell ⟨bx, 0, none⟩ u).cell? ⟨W.heap.size, 2, none⟩ = some (.int .u8 ((q.form : Nat) : Int)) ∧ (w'.setCell ⟨bx, 0, none⟩ u).cell? ⟨W.heap.size, 3, none⟩ = some (.int .u32 ((q.word : Nat) : Int))) := Lib.hid fun w' u h => by
    have hne : bx ≠ W.heap.size := by have := h.lo; omega
    exact ⟨set_blk h.q.q0 hne, set_blk h.q.q1 hne, set_blk h.q.q2 hne, set_blk h.q.q3 hne⟩
  have XD := Lib.hid HX.out.drew
  have q0 := HX.out.q.q0
  have q1 := HX.out.q.q1
  have q2 := HX.out.q.q2
  have q3 := HX.out.q.q3
  have HED := Lib.hid (HE1.out.below (below_drewN (Below.refl _ w2) 1))
  clear f0 f1
  go_region_held3 (fun w' => w'.cell? ⟨W.heap.size, 0, none⟩ = some (.int .u8 ((q.lo : Nat) : Int)) ∧ w'.cell? ⟨W.heap.size, 1, none⟩ = some (.int .u8 ((q.hi : Nat) : Int)) ∧ w'.cell? ⟨W.heap.size, 2, none⟩ = some (.int .u8 ((q.form : Nat) : Int)) ∧ w'.cell? ⟨W.heap.size, 3, none⟩ = some (.int .u32 ((q.word : Nat) : Int)))
    (first | exact HKEEP.out _ XD.out | exact HKEEP.out _ H5.out | exact HKS.out _ _ H5.out)
    (first | (go_at_call 21; refine (HA.out _ (by exact HED.out)).mono ?_; rintro e w5 ⟨rfl, hb⟩; have H5 := Lib.hid (XD.out.on hb); have x0 := H5.out.x.i0; have g2 := H5.out.fx 0) | fail)
  have hlo := H5.out.lo
  have ne1 : ¬ bx = W.heap.size := by omega
  have ne2 : ¬ bx = W.heap.size + 1 := by omega
  have x1 := H5.out.x.i1
  have x2 := H5.out.x.i2
  have x3 := H5.out.x.i3
  have x4 := H5.out.x.i4
  have x5 := H5.out.x.i5
  have y0 := H5.out.y0
  have y1 := H5.out.y1
  have y2 := H5.out.y2
  have y3 := H5.out.y3
  have y4 := H5.out.y4
  have y5 := H5.out.y5
  have fx := H5.out.fx
  have fy := H5.out.fy
  all_goals go_wp2_with fail
  refine bodyPost_ret (v := .agg #[.int .u8 ((v : Nat) : Int), .int .u8 ((xd : Nat) : Int), .int .u8 ((xa : Nat) : Int), .int .u8 ((xb : Nat) : Int), .int .i32 xi, .int .u16 ((xc : Nat) : Int)]) ?_ rfl ⟨rfl, ?_⟩
  · refine instr_out (b := W.heap.size + 1) rfl ?_ ?_ ?_ ?_ ?_ ?_
    all_goals (repeat (first | with_reducible exact y0 | with_reducible exact y1 | with_reducible exact y2 | with_reducible exact y3 | with_reducible exact y4 | with_reducible exact y5 | with_reducible refine set_off ?_ (by decide) | with_reducible refine set_blk ?_ (by omega) | with_reducible refine set_at ?_ | with_reducible refine set_some ?_ | with_reducible exact is_some y0 | with_reducible exact is_some y1 | with_reducible exact is_some y2 | with_reducible exact is_some y3 | with_reducible exact is_some y4 | with_reducible exact is_some y5))
  · repeat (first | with_reducible exact H5.out.bw | (with_reducible refine Below.setCell ?_ (by simp; try omega) _))
end De
end Go.Proofs.YtbgcgomefdblpaaDoor
