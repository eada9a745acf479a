/-
  The program's number of a word, walked.
-/
import Derived.Test.YtbgcgomefdblpaaDoorDqNum
namespace Go.Proofs.YtbgcgomefdblpaaDoor
open Go.RowKit
namespace De
set_option maxHeartbeats 3200000
set_option maxRecDepth 100000

theorem number_any {f : Fm} (hf : f.Ok) {w : Nat} (hw : w < 4294967296) (W : World) :
    Calls Tryd.prog 28 #[.agg (fmV f), .int .u32 ((w : Nat) : Int)] W fun e W' => e = .returned (.int .i32 (numP f w)) ∧ Below W.heap.size W W' := by
  have HF := Lib.hid hf
  have HW := Lib.hid hw
  have HB := Lib.hid (alloc_below W (.cells (fmV f) 53))
  have HC : Hid ((W.alloc (.cells (fmV f) 53)).cell? ⟨W.heap.size, 2, none⟩ = some (.int .u8 ((f.spare : Nat) : Int)) ∧ W.heap.size < (W.alloc (.cells (fmV f) 53)).heap.size) := Lib.hid ⟨by rw [new_cell]; rfl, by simp⟩
  clear hf hw
  unfold fmV at HB HC ⊢
  go_enter Tryd.func28, Tryd.ntmps28
  go_wp2_with fail
  generalize hw0 : W.alloc _ = w0 at HB HC ⊢
  clear hw0
  go_loopg [5, 10] 4 (fun gk v5 v10 wr => ∃ k : Nat, v5 = .int .u32 ((accP f w k : Nat) : Int) ∧ v10 = .int .i64 ((k : Nat) : Int) ∧ k + gk = 4 ∧ Below w0.heap.size w0 wr)
  case atStart => exact ⟨0, rfl, rfl, rfl, Below.refl _ _⟩
  case round =>
    obtain ⟨k, rfl, rfl, hgk, hb⟩ := hrel
    have HGK := Lib.hid hgk
    have HR := Lib.hid hb
    clear hb
    by_cases hlt : k < 4
    · have g1 : ((k : Nat) : Int) < 4 := by omega
      have hix := fun w => index_pc f hlt w
      have hacc := Lib.hid (rfl : accP f w (k + 1) = accP f w k ||| pcP w (f.pc k))
      have hp := HF.out.pc k
      have ONE := Lib.hid (fun W => ones_any hp W)
      have ha0 : (0 : Int) ≤ (((f.pc k).a : Nat) : Int) := by omega
      have hb0 : (0 : Int) ≤ (((f.pc k).b : Nat) : Int) := by omega
      have ha1 : (((f.pc k).a : Nat) : Int) ≤ 32 := by have := hp.2.2.2.1; omega
      have hb1 : (((f.pc k).b : Nat) : Int) ≤ 32 := by have := hp.2.2.2.2; omega
      obtain ⟨o, ho⟩ : ∃ o, o = 2 ^ (f.pc k).n - 1 := ⟨_, rfl⟩
      obtain ⟨y, hy⟩ : ∃ y, y = w / 2 ^ (f.pc k).a % 2 ^ (f.pc k).n := ⟨_, rfl⟩
      obtain ⟨z, hz⟩ : ∃ z, z = y * 2 ^ (f.pc k).b := ⟨_, rfl⟩
      have hz2 : z = pcP w (f.pc k) := by rw [hz, hy]; rfl
      have e1 : bits .and .u32 (((w : Nat) : Int) / 2 ^ (f.pc k).a) ((o : Nat) : Int) = ((y : Nat) : Int) := by rw [hy]; exact piece_and HW.out ho hp.2.2.1
      have hzl : z < 4294967296 := by rw [hz2]; exact pc_lt w _ hp.2.1
      have e2 : IntKind.u32.wrap (((y : Nat) : Int) * 2 ^ (f.pc k).b) = ((z : Nat) : Int) := (IntKind.wrap_u32 _).trans (piece_shl hz hzl)
      have e3 : bits .or .u32 ((accP f w k : Nat) : Int) ((z : Nat) : Int) = ((accP f w (k + 1) : Nat) : Int) := by
        rw [u32_or_nat _ _ (accP_lt HF.out w k) hzl, hz2]; rfl
      rw [← ho] at ONE
      clear hz hy hz2 hzl ho hgk hp hacc
      generalize f.pc k = p at *
      have XN := Lib.hid (PnAt.new (w := wr) p 50 HR.out)
      unfold pcV at hix ONE XN
      unfold pcsV at hix
      go_upto_region 5 with fail
      generalize wr.alloc _ = w1 at XN ⊢
      generalize wr.heap.size = b1 at XN ⊢
      have XD := Lib.hid XN.out.drew
      have c0 := XN.out.c.1
      have c1 := XN.out.c.2.1
      have c2 := XN.out.c.2.2
      go_region_held3 (fun w' => w'.cell? ⟨b1, 0, none⟩ = some (.int .u8 ((p.a : Nat) : Int)) ∧ w'.cell? ⟨b1, 1, none⟩ = some (.int .u8 ((p.b : Nat) : Int)) ∧ w'.cell? ⟨b1, 2, none⟩ = some (.int .u8 ((p.n : Nat) : Int)))
        (first | exact X5.out.c | exact XD.out.c)
        (first | (go_at_call 30; refine (ONE.out _).mono ?_; rintro e w5 ⟨rfl, hb5⟩; have X5 := Lib.hid (XD.out.on hb5)) | fail)
      all_goals go_wp2_with fail
      go_roundg (gk - 1)
      case measure => have := HGK.out; omega
      case rel => exact ⟨k + 1, rfl, by go_num, by have := HGK.out; omega, X5.out.bw⟩
    · have g1 : decide (((k : Nat) : Int) < 4) = false := decide_eq_false (by omega)
      obtain rfl : k = 4 := by omega
      have s1 : f.spare ≤ 31 := HF.out.spare
      have s2 : (0 : Int) ≤ ((f.spare : Nat) : Int) := by omega
      have s3 : ((f.spare : Nat) : Int) ≤ 32 := by omega
      have c2 : wr.cell? ⟨W.heap.size, 2, none⟩ = some (.int .u8 ((f.spare : Nat) : Int)) := (HR.out.cell (p := ⟨W.heap.size, 2, none⟩) HC.out.2).trans HC.out.1
      have hn : numP f w = IntKind.i32.wrap ((accP f w 4 * 2 ^ f.spare % 4294967296 : Nat) : Int) / 2 ^ f.spare := rfl
      obtain ⟨u, hu⟩ : ∃ u, u = accP f w 4 * 2 ^ f.spare % 4294967296 := ⟨_, rfl⟩
      rw [← hu] at hn
      have e1 : IntKind.u32.wrap (((accP f w 4 : Nat) : Int) * 2 ^ f.spare) = ((u : Nat) : Int) := by
        rw [IntKind.wrap_u32, hu]; simp
      have HN := Lib.hid hn
      clear hn hu hgk hlt s1
      generalize accP f w 4 = ac at *
      go_wp2_with fail
      go_ret
      refine ⟨?_, De.on HB.out HR.out⟩
      rw [HN.out, show IntKind.i32.wrap ((u : Nat) : Int) = wrap32 ((u : Nat) : Int) from IntWalk.i32_left _]
      rfl
end De
end Go.Proofs.YtbgcgomefdblpaaDoor
