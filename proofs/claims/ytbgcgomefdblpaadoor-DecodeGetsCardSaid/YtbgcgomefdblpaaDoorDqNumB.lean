/-
  The program's word of a number, walked.
-/
import Derived.Test.YtbgcgomefdblpaaDoorDqNum
namespace Go.Proofs.YtbgcgomefdblpaaDoor
open Go.RowKit
namespace De
set_option maxHeartbeats 3200000
set_option maxRecDepth 100000

theorem scat_any {f : Fm} (hf : f.Ok) {w : Nat} (hw : w < 4294967296) (W : World) :
    Calls Tryd.prog 29 #[.agg (fmV f), .int .u32 ((w : Nat) : Int)] W fun e W' => e = .returned (.int .u32 ((scatP f w : Nat) : Int)) ∧ Below W.heap.size W W' := by
  have HF := Lib.hid hf
  have HW := Lib.hid hw
  have HB := Lib.hid (alloc_below W (.cells (fmV f) 53))
  clear hf hw
  unfold fmV at HB ⊢
  go_enter Tryd.func29, Tryd.ntmps29
  go_wp2_with fail
  generalize hw0 : W.alloc _ = w0 at HB ⊢
  clear hw0
  go_loopg [5, 10] 4 (fun gk v5 v10 wr => ∃ k : Nat, v5 = .int .u32 ((accS f w k : Nat) : Int) ∧ v10 = .int .i64 ((k : Nat) : Int) ∧ k + gk = 4 ∧ Below w0.heap.size w0 wr)
  case atStart => exact ⟨0, rfl, rfl, rfl, Below.refl _ _⟩
  case round =>
    obtain ⟨k, rfl, rfl, hgk, hb⟩ := hrel
    have HGK := Lib.hid hgk
    have HR := Lib.hid hb
    clear hb
    by_cases hlt : k < 4
    · have g1 : ((k : Nat) : Int) < 4 := by omega
      have hix := fun w => index_pc f hlt w
      have hacc := Lib.hid (rfl : accS f w (k + 1) = accS f w k ||| scP w (f.pc k))
      have hp := HF.out.pc k
      have ONE := Lib.hid (fun W => ones_any hp W)
      have ha0 : (0 : Int) ≤ (((f.pc k).a : Nat) : Int) := by omega
      have hb0 : (0 : Int) ≤ (((f.pc k).b : Nat) : Int) := by omega
      have ha1 : (((f.pc k).a : Nat) : Int) ≤ 32 := by have := hp.2.2.2.1; omega
      have hb1 : (((f.pc k).b : Nat) : Int) ≤ 32 := by have := hp.2.2.2.2; omega
      obtain ⟨o, ho⟩ : ∃ o, o = 2 ^ (f.pc k).n - 1 := ⟨_, rfl⟩
      obtain ⟨y, hy⟩ : ∃ y, y = w / 2 ^ (f.pc k).b % 2 ^ (f.pc k).n := ⟨_, rfl⟩
      obtain ⟨z, hz⟩ : ∃ z, z = y * 2 ^ (f.pc k).a := ⟨_, rfl⟩
      have hz2 : z = scP w (f.pc k) := by rw [hz, hy]; rfl
      have e1 : bits .and .u32 (((w : Nat) : Int) / 2 ^ (f.pc k).b) ((o : Nat) : Int) = ((y : Nat) : Int) := by rw [hy]; exact piece_and HW.out ho hp.2.2.1
      have hzl : z < 4294967296 := by rw [hz2]; exact sc_lt w _ hp.1
      have e2 : IntKind.u32.wrap (((y : Nat) : Int) * 2 ^ (f.pc k).a) = ((z : Nat) : Int) := (IntKind.wrap_u32 _).trans (piece_shl hz hzl)
      have e3 : bits .or .u32 ((accS f w k : Nat) : Int) ((z : Nat) : Int) = ((accS f w (k + 1) : Nat) : Int) := by
        rw [u32_or_nat _ _ (accS_lt HF.out w k) hzl, hz2]; rfl
      rw [← ho] at ONE
      clear hz hy hz2 hzl ho hgk hp hacc
      generalize f.pc k = p at *
      have XN := Lib.hid (PnAt.new (w := wr) p 50 HR.out)
      unfold pcV at hix ONE XN
      unfold pcsV at hix
      go_upto_region 5 with fail
      generalize wr.alloc _ = w1 at XN ⊢
      generalize wr.heap.size = b1 at XN ⊢
      have XD := Lib.hid XN.out.drew
      have c0 := XN.out.c.1
      have c1 := XN.out.c.2.1
      have c2 := XN.out.c.2.2
      go_region_held3 (fun w' => w'.cell? ⟨b1, 0, none⟩ = some (.int .u8 ((p.a : Nat) : Int)) ∧ w'.cell? ⟨b1, 1, none⟩ = some (.int .u8 ((p.b : Nat) : Int)) ∧ w'.cell? ⟨b1, 2, none⟩ = some (.int .u8 ((p.n : Nat) : Int)))
        (first | exact X5.out.c | exact XD.out.c)
        (first | (go_at_call 30; refine (ONE.out _).mono ?_; rintro e w5 ⟨rfl, hb5⟩; have X5 := Lib.hid (XD.out.on hb5)) | fail)
      all_goals go_wp2_with fail
      go_roundg (gk - 1)
      case measure => have := HGK.out; omega
      case rel => exact ⟨k + 1, rfl, by go_num, by have := HGK.out; omega, X5.out.bw⟩
    · have g1 : decide (((k : Nat) : Int) < 4) = false := decide_eq_false (by omega)
      obtain rfl : k = 4 := by omega
      have HN : Hid (scatP f w = accS f w 4) := Lib.hid rfl
      clear hgk hlt
      go_wp2_with fail
      go_ret
      refine ⟨?_, De.on HB.out HR.out⟩
      rw [HN.out]
      rfl
end De
end Go.Proofs.YtbgcgomefdblpaaDoor
