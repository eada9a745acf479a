/-
  The reader of layer text: what stands ahead of a node's kids, as a fact on one call.
-/
import Derived.Test.YtkiegiofholofaaGreatDoorPt26
import Derived.Deep.DeepMust
namespace Go.Proofs.YtkiegiofholofaaGreatDoor
open Go.RowKit Go.Maps Bv Tm
namespace Tx
set_option maxHeartbeats 3200000
set_option maxRecDepth 100000

theorem aft_le (p : UInt8 → Bool) (s : By) : (s.dropWhile p).length ≤ s.length := by
  have h := congrArg List.length (List.takeWhile_append_dropWhile (p := p) (l := s))
  rw [List.length_append] at h
  omega
theorem need_len {c : UInt8} {s s' : By} (h : need c s = some s') : s'.length + 1 = s.length := by
  unfold need at h
  cases s with
  | nil => cases h
  | cons d r =>
    by_cases hd : d = c
    · simp only [if_pos hd, Option.some.injEq] at h; rw [← h]; rfl
    · simp only [if_neg hd] at h; cases h
theorem num_len {s s' : By} {n : Nat} (h : num s = some (n, s')) : s'.length ≤ s.length := by
  rcases num_cases (s := s) with ⟨m, _, _, hn⟩ | ⟨m, hp, _, hn⟩ | ⟨_, hn⟩ | ⟨_, hn⟩
  · rw [hn] at h; cases h
  · rw [hn] at h; cases h; exact aft_le _ _
  · rw [hn] at h; cases h
  · rw [hn] at h; cases h
theorem sho_len {s s' : By} {n : Nat} (h : sho s = some (n, s')) : s'.length ≤ s.length := by
  unfold sho at h
  cases hq : num s with
  | none => rw [hq] at h; cases h
  | some q =>
    obtain ⟨m, s2⟩ := q
    rw [hq] at h
    simp only [Option.map_some, Option.some.injEq, Prod.mk.injEq] at h
    have := num_len hq
    rw [← h.2]; exact this

def zNd : Nd := ⟨0, 0, 0, 0, 0, 0, 0⟩
abbrev S7 (X : World) (b : Nat) (v0 v1 v2 v3 v4 v5 v6 : Value) : World := ((((((X.setCell ⟨b, 0, none⟩ v0).setCell ⟨b, 1, none⟩ v1).setCell ⟨b, 2, none⟩ v2).setCell ⟨b, 3, none⟩ v3).setCell ⟨b, 4, none⟩ v4).setCell ⟨b, 5, none⟩ v5).setCell ⟨b, 6, none⟩ v6
theorem set7 {X : World} {b : Nat} {y0 y1 y2 y3 y4 y5 y6 : Value} (h : At7 X b y0 y1 y2 y3 y4 y5 y6) (v0 v1 v2 v3 v4 v5 v6 : Value) : At7 (S7 X b v0 v1 v2 v3 v4 v5 v6) b v0 v1 v2 v3 v4 v5 v6 := by
  unfold At7 at *
  obtain ⟨h0, h1, h2, h3, h4, h5, h6⟩ := h
  refine ⟨?_, ?_, ?_, ?_, ?_, ?_, ?_⟩
  · rw [World.cell?_setCell_other _ _ _ _ (by simp), World.cell?_setCell_other _ _ _ _ (by simp), World.cell?_setCell_other _ _ _ _ (by simp), World.cell?_setCell_other _ _ _ _ (by simp), World.cell?_setCell_other _ _ _ _ (by simp), World.cell?_setCell_other _ _ _ _ (by simp)]
    exact World.cell?_setCell_same _ _ _ h0
  · rw [World.cell?_setCell_other _ _ _ _ (by simp), World.cell?_setCell_other _ _ _ _ (by simp), World.cell?_setCell_other _ _ _ _ (by simp), World.cell?_setCell_other _ _ _ _ (by simp), World.cell?_setCell_other _ _ _ _ (by simp)]
    exact World.cell?_setCell_same _ _ _ (by rw [World.cell?_setCell_other _ _ _ _ (by simp)]; exact h1)
  · rw [World.cell?_setCell_other _ _ _ _ (by simp), World.cell?_setCell_other _ _ _ _ (by simp), World.cell?_setCell_other _ _ _ _ (by simp), World.cell?_setCell_other _ _ _ _ (by simp)]
    exact World.cell?_setCell_same _ _ _ (by rw [World.cell?_setCell_other _ _ _ _ (by simp), World.cell?_setCell_other _ _ _ _ (by simp)]; exact h2)
  · rw [World.cell?_setCell_other _ _ _ _ (by simp), World.cell?_setCell_other _ _ _ _ (by simp), World.cell?_setCell_other _ _ _ _ (by simp)]
    exact World.cell?_setCell_same _ _ _ (by rw [World.cell?_setCell_other _ _ _ _ (by simp), World.cell?_setCell_other _ _ _ _ (by simp), World.cell?_setCell_other _ _ _ _ (by simp)]; exact h3)
  · rw [World.cell?_setCell_other _ _ _ _ (by simp), World.cell?_setCell_other _ _ _ _ (by simp)]
    exact World.cell?_setCell_same _ _ _ (by rw [World.cell?_setCell_other _ _ _ _ (by simp), World.cell?_setCell_other _ _ _ _ (by simp), World.cell?_setCell_other _ _ _ _ (by simp), World.cell?_setCell_other _ _ _ _ (by simp)]; exact h4)
  · rw [World.cell?_setCell_other _ _ _ _ (by simp)]
    exact World.cell?_setCell_same _ _ _ (by rw [World.cell?_setCell_other _ _ _ _ (by simp), World.cell?_setCell_other _ _ _ _ (by simp), World.cell?_setCell_other _ _ _ _ (by simp), World.cell?_setCell_other _ _ _ _ (by simp), World.cell?_setCell_other _ _ _ _ (by simp)]; exact h5)
  · exact World.cell?_setCell_same _ _ _ (by rw [World.cell?_setCell_other _ _ _ _ (by simp), World.cell?_setCell_other _ _ _ _ (by simp), World.cell?_setCell_other _ _ _ _ (by simp), World.cell?_setCell_other _ _ _ _ (by simp), World.cell?_setCell_other _ _ _ _ (by simp), World.cell?_setCell_other _ _ _ _ (by simp)]; exact h6)
theorem rd7 {G : Nat → Prop} {r b : Nat} {s : By} {ns : List Nd} {X : World} (h : RdE G r s ns X) (hb : ¬ G b) (v0 v1 v2 v3 v4 v5 v6 : Value) : RdE G r s ns (S7 X b v0 v1 v2 v3 v4 v5 v6) := ((((((h.set hb).set hb).set hb).set hb).set hb).set hb).set hb
theorem k7 {F : Nat → Prop} {b : Nat} {W X : World} (h : Kept F W X) (hb : F b) (v0 v1 v2 v3 v4 v5 v6 : Value) : Kept F W (S7 X b v0 v1 v2 v3 v4 v5 v6) := ((((((h.setCell ⟨b, 0, none⟩ v0 (fun _ => hb)).setCell ⟨b, 1, none⟩ v1 (fun _ => hb)).setCell ⟨b, 2, none⟩ v2 (fun _ => hb)).setCell ⟨b, 3, none⟩ v3 (fun _ => hb)).setCell ⟨b, 4, none⟩ v4 (fun _ => hb)).setCell ⟨b, 5, none⟩ v5 (fun _ => hb)).setCell ⟨b, 6, none⟩ v6 (fun _ => hb)

theorem zeros_alloc {w : World} {b : Nat} (h : NdAt w b zNd) : (∀ o, (w.alloc o).cell? ⟨b, 0, none⟩ = some (.int .u8 0)) ∧ (∀ o, (w.alloc o).cell? ⟨b, 1, none⟩ = some (.int .u8 0)) ∧ (∀ o, (w.alloc o).cell? ⟨b, 2, none⟩ = some (.int .i64 0)) ∧ (∀ o, (w.alloc o).cell? ⟨b, 3, none⟩ = some (.int .i64 0)) ∧ (∀ o, (w.alloc o).cell? ⟨b, 4, none⟩ = some (.int .i64 0)) ∧ (∀ o, (w.alloc o).cell? ⟨b, 5, none⟩ = some (.int .u64 0)) ∧ (∀ o, (w.alloc o).cell? ⟨b, 6, none⟩ = some (.int .u8 0)) ∧ (∀ o i, (w.alloc o).frozen? ⟨b, i, none⟩ = false) := by
  have A := fun o => (h.call (bel_alloc (Below.refl _ _) o))
  exact ⟨fun o => (A o).1.1, fun o => (A o).1.2.1, fun o => (A o).1.2.2.1, fun o => (A o).1.2.2.2.1, fun o => (A o).1.2.2.2.2.1, fun o => (A o).1.2.2.2.2.2.1, fun o => (A o).1.2.2.2.2.2.2, fun o i => (A o).2 i⟩

theorem rhead_22 {F : Nat → Prop} {r : Nat} {s1 t : By} {ns : List Nd} {w : World} (HB0 : Hid (Below w.heap.size w (w.alloc (.cells zNd.cells 36)))) (HE : Hid (EnvAt F w)) (HFB : Hid (∀ i, w.heap.size ≤ i → F i)) (HZ0 : Hid (NdAt (w.alloc (.cells zNd.cells 36)) w.heap.size zNd))
    (HRUN : Hid (Calls Tryz.prog 157 #[.pointer (some ⟨r, 0, none⟩), .int .u8 97, .int .u8 122] (w.alloc (.cells #[.int .u8 ((0 : Nat) : Int), .int .u8 ((0 : Nat) : Int), .int .i64 0, .int .i64 0, .int .i64 0, .int .u64 ((0 : Nat) : Int), .int .u8 ((0 : Nat) : Int)] 36)) (fun e w' => e = .returned (.string ⟨t.toArray⟩) ∧ RdE (fun i => F i ∧ i ≠ w.heap.size) r s1 ns w' ∧ Kept (fun i => F i ∧ i ≠ w.heap.size) (w.alloc (.cells #[.int .u8 ((0 : Nat) : Int), .int .u8 ((0 : Nat) : Int), .int .i64 0, .int .i64 0, .int .i64 0, .int .u64 ((0 : Nat) : Int), .int .u8 ((0 : Nat) : Int)] 36)) w')))
    (HL1 : Hid (s1.length ≤ 1000000)) (HON : Hid (∀ w1 : World, EnvAt F w1 → Calls Tryz.prog 159 #[.string ⟨t.toArray⟩] w1 fun e w' => e = .returned (.int .u8 22) ∧ w1 = w')) :
    Calls Tryz.prog 131 #[.pointer (some ⟨r, 0, none⟩)] w (Reads F r w ((need 32 s1).bind fun r => (sho r).bind fun p => (need 32 p.2).bind fun r => (sho r).map fun q => ((⟨22, q.1, 0, 0, 0, 0, p.1⟩ : Nd), q.2)) (fun p => p.1.val) (fun p => p.2) (fun _ => ns)) := by
  go_enter Tryz.func131, Tryz.ntmps131
  go_wp2_with (first
        | (go_at_call 157; refine HRUN.out.mono ?_; rintro e w1 ⟨rfl, h1, k1⟩; have HZ1 := Lib.hid (HZ0.out.kept k1 (fun c => c.2 rfl)); have H1 := Lib.hid h1; have K1 := Lib.hid k1; clear h1 k1)
        | (go_at_call 159; refine (HON.out _ ((HE.out.call HB0.out).kept (K1.out.mono (fun i _ c => c.1)))).mono ?_; rintro e w2 ⟨rfl, rfl⟩))
  have HX := Lib.hid (bel_alloc (Below.refl _ w1) (.cells #[.int .u8 22, .int .u8 0, .int .i64 0, .int .i64 0, .int .i64 0, .int .u64 0, .int .u8 0] 36))
  have HBX : Hid (NdAt (w1.alloc (.cells #[.int .u8 22, .int .u8 0, .int .i64 0, .int .i64 0, .int .i64 0, .int .u64 0, .int .u8 0] 36)) w1.heap.size ⟨22, 0, 0, 0, 0, 0, 0⟩) := NdAt.new w1 ⟨22, 0, 0, 0, 0, 0, 0⟩ 36
  have HRX := Lib.hid (H1.out.apart HX.out (Nat.le_refl _) (by simp))
  have HKX := Lib.hid (((Kept.ofBelow HB0.out F).trans (K1.out.mono (fun i _ c => c.1))).trans (Kept.ofBelow HX.out F))
  have HB2 := Lib.hid (HZ1.out.call HX.out)
  have HLB : Hid (w.heap.size < w1.heap.size) := HZ1.out.lt
  obtain ⟨bx, hbx⟩ : ∃ bx, w1.heap.size = bx := ⟨_, rfl⟩
  rw [hbx] at HBX HRX HLB
  simp only [hbx]
  generalize (w1.alloc (.cells #[.int .u8 22, .int .u8 0, .int .i64 0, .int .i64 0, .int .i64 0, .int .u64 0, .int .u8 0] 36)) = X at HX HBX HRX HKX HB2 ⊢
  obtain ⟨G, hG⟩ : ∃ G : Nat → Prop, G = (fun i => (F i ∧ i ≠ w.heap.size) ∧ i ≠ bx) := ⟨_, rfl⟩
  rw [← hG] at HRX
  have HBS : Hid (BS F G r w bx s1 ns ⟨22, 0, 0, 0, 0, 0, 0⟩ X) := ⟨HRX.out, HKX.out, HBX.out, HE.out.kept HKX.out, fun i c => by rw [hG] at c; exact c.1.1, fun c => by rw [hG] at c; exact c.2 rfl, HFB.out _ (Nat.le_of_lt HLB.out)⟩
  have HG2 : Hid (¬ G w.heap.size) := Lib.hid (fun c => by rw [hG] at c; exact c.1.2 rfl)
  clear hG hbx HRX HKX HBX HZ1 K1 H1 HRUN HON HZ0 HX
  go_wp2_with (
     go_at_call 129
     go_must (refine (rneed_any HBS.out.rd).mono ?_; intro e a0 h7)
     rcases hq : need 32 s1 with _ | t0
     · rw [hq] at h7
       obtain ⟨rfl, k7⟩ := h7
       exact ⟨rfl, by simp only [hq, Option.bind_none]; exact ⟨rfl, HBS.out.k.trans (k7.mono (fun i _ c => HBS.out.gf i c))⟩⟩
     rw [hq] at h7
     obtain ⟨rfl, h7, k7⟩ := h7
     have NA0 := Lib.hid (HBS.out.call h7 k7)
     have KA0 := Lib.hid k7
     have HQ0 := Lib.hid (need_len hq)
     have EN0 := Lib.hid hq
     clear h7 k7 hq
     refine Hid.out ?_)
  refine Lib.hid ?_
  have HT0 : Hid (t0.length ≤ 1000000) := Lib.hid (by have := HQ0.out; have := HL1.out; omega)
  have HZA0 := Lib.hid (HB2.out.kept KA0.out HG2.out)
  go_wp2_with (
     go_at_call 128
     refine (rsho_any NA0.out.rd NA0.out.envG HT0.out).mono ?_
     intro e b0 h7
     rcases hq : sho t0 with _ | ⟨v0, u0⟩
     · rw [hq] at h7
       obtain ⟨rfl, k7⟩ := h7
       exact ⟨rfl, by simp only [EN0.out, hq, Option.bind_none, Option.bind_some]; exact ⟨rfl, NA0.out.k.trans (k7.mono (fun i _ c => NA0.out.gf i c))⟩⟩
     rw [hq] at h7
     obtain ⟨rfl, h7, k7⟩ := h7
     have NB0 := Lib.hid (NA0.out.call h7 k7)
     have HZB0 := Lib.hid (HZA0.out.kept k7 HG2.out)
     have HU0 := Lib.hid (Nat.le_trans (sho_len hq) HT0.out)
     have ES0 := Lib.hid hq
     have g0 := NB0.out.box.1.2.2.2.2.2.2
     have g1 := NB0.out.box.2 6
     clear h7 k7 hq
     refine Hid.out ?_)
  refine Lib.hid ?_
  have NC0 : Hid (BS F G r w bx u0 ns ⟨22, 0, 0, 0, 0, 0, v0⟩ (b0.setCell ⟨bx, 6, none⟩ (.int .u8 ((v0 : Nat) : Int)))) := NB0.out.set (by omega) rfl (by intro j hj hne; rcases j with _ | _ | _ | _ | _ | _ | _ | j <;> first | rfl | omega)
  have HZC0 : Hid (NdAt (b0.setCell ⟨bx, 6, none⟩ (.int .u8 ((v0 : Nat) : Int))) w.heap.size zNd) := HZB0.out.kept ((Kept.refl (fun i => i = bx) _).setCell ⟨bx, 6, none⟩ (.int .u8 ((v0 : Nat) : Int)) (fun _ => rfl)) (fun c => by have := HLB.out; omega)
  go_wp2_with (
     go_at_call 129
     go_must (refine (rneed_any NC0.out.rd).mono ?_; intro e a1 h7)
     rcases hq : need 32 u0 with _ | t1
     · rw [hq] at h7
       obtain ⟨rfl, k7⟩ := h7
       exact ⟨rfl, by simp only [EN0.out, ES0.out, hq, Option.bind_none, Option.bind_some]; exact ⟨rfl, NC0.out.k.trans (k7.mono (fun i _ c => NC0.out.gf i c))⟩⟩
     rw [hq] at h7
     obtain ⟨rfl, h7, k7⟩ := h7
     have NA1 := Lib.hid (NC0.out.call h7 k7)
     have KA1 := Lib.hid k7
     have HQ1 := Lib.hid (need_len hq)
     have EN1 := Lib.hid hq
     clear h7 k7 hq
     refine Hid.out ?_)
  refine Lib.hid ?_
  have HT1 : Hid (t1.length ≤ 1000000) := Lib.hid (by have := HQ1.out; have := HU0.out; omega)
  have HZA1 := Lib.hid (HZC0.out.kept KA1.out HG2.out)
  go_wp2_with (
     go_at_call 128
     refine (rsho_any NA1.out.rd NA1.out.envG HT1.out).mono ?_
     intro e b1 h7
     rcases hq : sho t1 with _ | ⟨v1, u1⟩
     · rw [hq] at h7
       obtain ⟨rfl, k7⟩ := h7
       exact ⟨rfl, by simp only [EN0.out, ES0.out, EN1.out, hq, Option.bind_some, Option.map_none]; exact ⟨rfl, NA1.out.k.trans (k7.mono (fun i _ c => NA1.out.gf i c))⟩⟩
     rw [hq] at h7
     obtain ⟨rfl, h7, k7⟩ := h7
     have NB1 := Lib.hid (NA1.out.call h7 k7)
     have HZB1 := Lib.hid (HZA1.out.kept k7 HG2.out)
     have HU1 := Lib.hid (Nat.le_trans (sho_len hq) HT1.out)
     have ES1 := Lib.hid hq
     have g0 := NB1.out.box.1.2.1
     have g1 := NB1.out.box.2 1
     clear h7 k7 hq
     refine Hid.out ?_)
  refine Lib.hid ?_
  have NC1 : Hid (BS F G r w bx u1 ns ⟨22, v1, 0, 0, 0, 0, v0⟩ (b1.setCell ⟨bx, 1, none⟩ (.int .u8 ((v1 : Nat) : Int)))) := NB1.out.set (by omega) rfl (by intro j hj hne; rcases j with _ | _ | _ | _ | _ | _ | _ | j <;> first | rfl | omega)
  have HZC1 : Hid (NdAt (b1.setCell ⟨bx, 1, none⟩ (.int .u8 ((v1 : Nat) : Int))) w.heap.size zNd) := HZB1.out.kept ((Kept.refl (fun i => i = bx) _).setCell ⟨bx, 1, none⟩ (.int .u8 ((v1 : Nat) : Int)) (fun _ => rfl)) (fun c => by have := HLB.out; omega)
  have f0 : (b1.setCell ⟨bx, 1, none⟩ (.int .u8 ((v1 : Nat) : Int))).cell? ⟨bx, 0, none⟩ = some (.int .u8 22) := NC1.out.box.1.1
  have f1 : (b1.setCell ⟨bx, 1, none⟩ (.int .u8 ((v1 : Nat) : Int))).cell? ⟨bx, 1, none⟩ = some (.int .u8 ((v1 : Nat) : Int)) := NC1.out.box.1.2.1
  have f2 : (b1.setCell ⟨bx, 1, none⟩ (.int .u8 ((v1 : Nat) : Int))).cell? ⟨bx, 2, none⟩ = some (.int .i64 0) := NC1.out.box.1.2.2.1
  have f3 : (b1.setCell ⟨bx, 1, none⟩ (.int .u8 ((v1 : Nat) : Int))).cell? ⟨bx, 3, none⟩ = some (.int .i64 0) := NC1.out.box.1.2.2.2.1
  have f4 : (b1.setCell ⟨bx, 1, none⟩ (.int .u8 ((v1 : Nat) : Int))).cell? ⟨bx, 4, none⟩ = some (.int .i64 0) := NC1.out.box.1.2.2.2.2.1
  have f5 : (b1.setCell ⟨bx, 1, none⟩ (.int .u8 ((v1 : Nat) : Int))).cell? ⟨bx, 5, none⟩ = some (.int .u64 0) := NC1.out.box.1.2.2.2.2.2.1
  have f6 : (b1.setCell ⟨bx, 1, none⟩ (.int .u8 ((v1 : Nat) : Int))).cell? ⟨bx, 6, none⟩ = some (.int .u8 ((v0 : Nat) : Int)) := NC1.out.box.1.2.2.2.2.2.2
  have z0 : (b1.setCell ⟨bx, 1, none⟩ (.int .u8 ((v1 : Nat) : Int))).cell? ⟨w.heap.size, 0, none⟩ = some (.int .u8 0) := HZC1.out.1.1
  have z1 : (b1.setCell ⟨bx, 1, none⟩ (.int .u8 ((v1 : Nat) : Int))).cell? ⟨w.heap.size, 1, none⟩ = some (.int .u8 0) := HZC1.out.1.2.1
  have z2 : (b1.setCell ⟨bx, 1, none⟩ (.int .u8 ((v1 : Nat) : Int))).cell? ⟨w.heap.size, 2, none⟩ = some (.int .i64 0) := HZC1.out.1.2.2.1
  have z3 : (b1.setCell ⟨bx, 1, none⟩ (.int .u8 ((v1 : Nat) : Int))).cell? ⟨w.heap.size, 3, none⟩ = some (.int .i64 0) := HZC1.out.1.2.2.2.1
  have z4 : (b1.setCell ⟨bx, 1, none⟩ (.int .u8 ((v1 : Nat) : Int))).cell? ⟨w.heap.size, 4, none⟩ = some (.int .i64 0) := HZC1.out.1.2.2.2.2.1
  have z5 : (b1.setCell ⟨bx, 1, none⟩ (.int .u8 ((v1 : Nat) : Int))).cell? ⟨w.heap.size, 5, none⟩ = some (.int .u64 0) := HZC1.out.1.2.2.2.2.2.1
  have z6 : (b1.setCell ⟨bx, 1, none⟩ (.int .u8 ((v1 : Nat) : Int))).cell? ⟨w.heap.size, 6, none⟩ = some (.int .u8 0) := HZC1.out.1.2.2.2.2.2.2
  have zf : ∀ i, (b1.setCell ⟨bx, 1, none⟩ (.int .u8 ((v1 : Nat) : Int))).frozen? ⟨w.heap.size, i, none⟩ = false := HZC1.out.2
  have hA := set7 (X := (b1.setCell ⟨bx, 1, none⟩ (.int .u8 ((v1 : Nat) : Int)))) (b := w.heap.size) ⟨z0, z1, z2, z3, z4, z5, z6⟩ (.int .u8 22) (.int .u8 ((v1 : Nat) : Int)) (.int .i64 0) (.int .i64 0) (.int .i64 0) (.int .u64 0) (.int .u8 ((v0 : Nat) : Int))
  unfold At7 at hA
  obtain ⟨e0, e1, e2, e3, e4, e5, e6⟩ := hA
  go_wp2_with fail
  exact bodyPost_ret (v := .agg #[.int .u8 22, .int .u8 ((v1 : Nat) : Int), .int .i64 0, .int .i64 0, .int .i64 0, .int .u64 0, .int .u8 ((v0 : Nat) : Int)]) (by simp [results, Tryz.results131, go_sem, e0, e1, e2, e3, e4, e5, e6]) rfl (by simp only [EN0.out, ES0.out, EN1.out, ES1.out, Option.bind_some, Option.map_some]; exact ⟨rfl, (rd7 NC1.out.rd HG2.out _ _ _ _ _ _ _).mono NC1.out.gf, k7 NC1.out.k (HFB.out _ (Nat.le_refl _)) _ _ _ _ _ _ _⟩)

theorem rhead_23 {F : Nat → Prop} {r : Nat} {s1 t : By} {ns : List Nd} {w : World} (HB0 : Hid (Below w.heap.size w (w.alloc (.cells zNd.cells 36)))) (HE : Hid (EnvAt F w)) (HFB : Hid (∀ i, w.heap.size ≤ i → F i)) (HZ0 : Hid (NdAt (w.alloc (.cells zNd.cells 36)) w.heap.size zNd))
    (HRUN : Hid (Calls Tryz.prog 157 #[.pointer (some ⟨r, 0, none⟩), .int .u8 97, .int .u8 122] (w.alloc (.cells #[.int .u8 ((0 : Nat) : Int), .int .u8 ((0 : Nat) : Int), .int .i64 0, .int .i64 0, .int .i64 0, .int .u64 ((0 : Nat) : Int), .int .u8 ((0 : Nat) : Int)] 36)) (fun e w' => e = .returned (.string ⟨t.toArray⟩) ∧ RdE (fun i => F i ∧ i ≠ w.heap.size) r s1 ns w' ∧ Kept (fun i => F i ∧ i ≠ w.heap.size) (w.alloc (.cells #[.int .u8 ((0 : Nat) : Int), .int .u8 ((0 : Nat) : Int), .int .i64 0, .int .i64 0, .int .i64 0, .int .u64 ((0 : Nat) : Int), .int .u8 ((0 : Nat) : Int)] 36)) w')))
    (HL1 : Hid (s1.length ≤ 1000000)) (HON : Hid (∀ w1 : World, EnvAt F w1 → Calls Tryz.prog 159 #[.string ⟨t.toArray⟩] w1 fun e w' => e = .returned (.int .u8 23) ∧ w1 = w')) :
    Calls Tryz.prog 131 #[.pointer (some ⟨r, 0, none⟩)] w (Reads F r w ((need 32 s1).bind fun r => (sho r).map fun q => ((⟨23, q.1, 0, 0, 0, 0, 0⟩ : Nd), q.2)) (fun p => p.1.val) (fun p => p.2) (fun _ => ns)) := by
  go_enter Tryz.func131, Tryz.ntmps131
  go_wp2_with (first
        | (go_at_call 157; refine HRUN.out.mono ?_; rintro e w1 ⟨rfl, h1, k1⟩; have HZ1 := Lib.hid (HZ0.out.kept k1 (fun c => c.2 rfl)); have H1 := Lib.hid h1; have K1 := Lib.hid k1; clear h1 k1)
        | (go_at_call 159; refine (HON.out _ ((HE.out.call HB0.out).kept (K1.out.mono (fun i _ c => c.1)))).mono ?_; rintro e w2 ⟨rfl, rfl⟩))
  have HX := Lib.hid (bel_alloc (Below.refl _ w1) (.cells #[.int .u8 23, .int .u8 0, .int .i64 0, .int .i64 0, .int .i64 0, .int .u64 0, .int .u8 0] 36))
  have HBX : Hid (NdAt (w1.alloc (.cells #[.int .u8 23, .int .u8 0, .int .i64 0, .int .i64 0, .int .i64 0, .int .u64 0, .int .u8 0] 36)) w1.heap.size ⟨23, 0, 0, 0, 0, 0, 0⟩) := NdAt.new w1 ⟨23, 0, 0, 0, 0, 0, 0⟩ 36
  have HRX := Lib.hid (H1.out.apart HX.out (Nat.le_refl _) (by simp))
  have HKX := Lib.hid (((Kept.ofBelow HB0.out F).trans (K1.out.mono (fun i _ c => c.1))).trans (Kept.ofBelow HX.out F))
  have HB2 := Lib.hid (HZ1.out.call HX.out)
  have HLB : Hid (w.heap.size < w1.heap.size) := HZ1.out.lt
  obtain ⟨bx, hbx⟩ : ∃ bx, w1.heap.size = bx := ⟨_, rfl⟩
  rw [hbx] at HBX HRX HLB
  simp only [hbx]
  generalize (w1.alloc (.cells #[.int .u8 23, .int .u8 0, .int .i64 0, .int .i64 0, .int .i64 0, .int .u64 0, .int .u8 0] 36)) = X at HX HBX HRX HKX HB2 ⊢
  obtain ⟨G, hG⟩ : ∃ G : Nat → Prop, G = (fun i => (F i ∧ i ≠ w.heap.size) ∧ i ≠ bx) := ⟨_, rfl⟩
  rw [← hG] at HRX
  have HBS : Hid (BS F G r w bx s1 ns ⟨23, 0, 0, 0, 0, 0, 0⟩ X) := ⟨HRX.out, HKX.out, HBX.out, HE.out.kept HKX.out, fun i c => by rw [hG] at c; exact c.1.1, fun c => by rw [hG] at c; exact c.2 rfl, HFB.out _ (Nat.le_of_lt HLB.out)⟩
  have HG2 : Hid (¬ G w.heap.size) := Lib.hid (fun c => by rw [hG] at c; exact c.1.2 rfl)
  clear hG hbx HRX HKX HBX HZ1 K1 H1 HRUN HON HZ0 HX
  go_wp2_with (
     go_at_call 129
     go_must (refine (rneed_any HBS.out.rd).mono ?_; intro e a0 h7)
     rcases hq : need 32 s1 with _ | t0
     · rw [hq] at h7
       obtain ⟨rfl, k7⟩ := h7
       exact ⟨rfl, by simp only [hq, Option.bind_none]; exact ⟨rfl, HBS.out.k.trans (k7.mono (fun i _ c => HBS.out.gf i c))⟩⟩
     rw [hq] at h7
     obtain ⟨rfl, h7, k7⟩ := h7
     have NA0 := Lib.hid (HBS.out.call h7 k7)
     have KA0 := Lib.hid k7
     have HQ0 := Lib.hid (need_len hq)
     have EN0 := Lib.hid hq
     clear h7 k7 hq
     refine Hid.out ?_)
  refine Lib.hid ?_
  have HT0 : Hid (t0.length ≤ 1000000) := Lib.hid (by have := HQ0.out; have := HL1.out; omega)
  have HZA0 := Lib.hid (HB2.out.kept KA0.out HG2.out)
  go_wp2_with (
     go_at_call 128
     refine (rsho_any NA0.out.rd NA0.out.envG HT0.out).mono ?_
     intro e b0 h7
     rcases hq : sho t0 with _ | ⟨v0, u0⟩
     · rw [hq] at h7
       obtain ⟨rfl, k7⟩ := h7
       exact ⟨rfl, by simp only [EN0.out, hq, Option.bind_some, Option.map_none]; exact ⟨rfl, NA0.out.k.trans (k7.mono (fun i _ c => NA0.out.gf i c))⟩⟩
     rw [hq] at h7
     obtain ⟨rfl, h7, k7⟩ := h7
     have NB0 := Lib.hid (NA0.out.call h7 k7)
     have HZB0 := Lib.hid (HZA0.out.kept k7 HG2.out)
     have HU0 := Lib.hid (Nat.le_trans (sho_len hq) HT0.out)
     have ES0 := Lib.hid hq
     have g0 := NB0.out.box.1.2.1
     have g1 := NB0.out.box.2 1
     clear h7 k7 hq
     refine Hid.out ?_)
  refine Lib.hid ?_
  have NC0 : Hid (BS F G r w bx u0 ns ⟨23, v0, 0, 0, 0, 0, 0⟩ (b0.setCell ⟨bx, 1, none⟩ (.int .u8 ((v0 : Nat) : Int)))) := NB0.out.set (by omega) rfl (by intro j hj hne; rcases j with _ | _ | _ | _ | _ | _ | _ | j <;> first | rfl | omega)
  have HZC0 : Hid (NdAt (b0.setCell ⟨bx, 1, none⟩ (.int .u8 ((v0 : Nat) : Int))) w.heap.size zNd) := HZB0.out.kept ((Kept.refl (fun i => i = bx) _).setCell ⟨bx, 1, none⟩ (.int .u8 ((v0 : Nat) : Int)) (fun _ => rfl)) (fun c => by have := HLB.out; omega)
  have f0 : (b0.setCell ⟨bx, 1, none⟩ (.int .u8 ((v0 : Nat) : Int))).cell? ⟨bx, 0, none⟩ = some (.int .u8 23) := NC0.out.box.1.1
  have f1 : (b0.setCell ⟨bx, 1, none⟩ (.int .u8 ((v0 : Nat) : Int))).cell? ⟨bx, 1, none⟩ = some (.int .u8 ((v0 : Nat) : Int)) := NC0.out.box.1.2.1
  have f2 : (b0.setCell ⟨bx, 1, none⟩ (.int .u8 ((v0 : Nat) : Int))).cell? ⟨bx, 2, none⟩ = some (.int .i64 0) := NC0.out.box.1.2.2.1
  have f3 : (b0.setCell ⟨bx, 1, none⟩ (.int .u8 ((v0 : Nat) : Int))).cell? ⟨bx, 3, none⟩ = some (.int .i64 0) := NC0.out.box.1.2.2.2.1
  have f4 : (b0.setCell ⟨bx, 1, none⟩ (.int .u8 ((v0 : Nat) : Int))).cell? ⟨bx, 4, none⟩ = some (.int .i64 0) := NC0.out.box.1.2.2.2.2.1
  have f5 : (b0.setCell ⟨bx, 1, none⟩ (.int .u8 ((v0 : Nat) : Int))).cell? ⟨bx, 5, none⟩ = some (.int .u64 0) := NC0.out.box.1.2.2.2.2.2.1
  have f6 : (b0.setCell ⟨bx, 1, none⟩ (.int .u8 ((v0 : Nat) : Int))).cell? ⟨bx, 6, none⟩ = some (.int .u8 0) := NC0.out.box.1.2.2.2.2.2.2
  have z0 : (b0.setCell ⟨bx, 1, none⟩ (.int .u8 ((v0 : Nat) : Int))).cell? ⟨w.heap.size, 0, none⟩ = some (.int .u8 0) := HZC0.out.1.1
  have z1 : (b0.setCell ⟨bx, 1, none⟩ (.int .u8 ((v0 : Nat) : Int))).cell? ⟨w.heap.size, 1, none⟩ = some (.int .u8 0) := HZC0.out.1.2.1
  have z2 : (b0.setCell ⟨bx, 1, none⟩ (.int .u8 ((v0 : Nat) : Int))).cell? ⟨w.heap.size, 2, none⟩ = some (.int .i64 0) := HZC0.out.1.2.2.1
  have z3 : (b0.setCell ⟨bx, 1, none⟩ (.int .u8 ((v0 : Nat) : Int))).cell? ⟨w.heap.size, 3, none⟩ = some (.int .i64 0) := HZC0.out.1.2.2.2.1
  have z4 : (b0.setCell ⟨bx, 1, none⟩ (.int .u8 ((v0 : Nat) : Int))).cell? ⟨w.heap.size, 4, none⟩ = some (.int .i64 0) := HZC0.out.1.2.2.2.2.1
  have z5 : (b0.setCell ⟨bx, 1, none⟩ (.int .u8 ((v0 : Nat) : Int))).cell? ⟨w.heap.size, 5, none⟩ = some (.int .u64 0) := HZC0.out.1.2.2.2.2.2.1
  have z6 : (b0.setCell ⟨bx, 1, none⟩ (.int .u8 ((v0 : Nat) : Int))).cell? ⟨w.heap.size, 6, none⟩ = some (.int .u8 0) := HZC0.out.1.2.2.2.2.2.2
  have zf : ∀ i, (b0.setCell ⟨bx, 1, none⟩ (.int .u8 ((v0 : Nat) : Int))).frozen? ⟨w.heap.size, i, none⟩ = false := HZC0.out.2
  have hA := set7 (X := (b0.setCell ⟨bx, 1, none⟩ (.int .u8 ((v0 : Nat) : Int)))) (b := w.heap.size) ⟨z0, z1, z2, z3, z4, z5, z6⟩ (.int .u8 23) (.int .u8 ((v0 : Nat) : Int)) (.int .i64 0) (.int .i64 0) (.int .i64 0) (.int .u64 0) (.int .u8 0)
  unfold At7 at hA
  obtain ⟨e0, e1, e2, e3, e4, e5, e6⟩ := hA
  go_wp2_with fail
  exact bodyPost_ret (v := .agg #[.int .u8 23, .int .u8 ((v0 : Nat) : Int), .int .i64 0, .int .i64 0, .int .i64 0, .int .u64 0, .int .u8 0]) (by simp [results, Tryz.results131, go_sem, e0, e1, e2, e3, e4, e5, e6]) rfl (by simp only [EN0.out, ES0.out, Option.bind_some, Option.map_some]; exact ⟨rfl, (rd7 NC0.out.rd HG2.out _ _ _ _ _ _ _).mono NC0.out.gf, k7 NC0.out.k (HFB.out _ (Nat.le_refl _)) _ _ _ _ _ _ _⟩)

theorem rhead_24 {F : Nat → Prop} {r : Nat} {s1 t : By} {ns : List Nd} {w : World} (HB0 : Hid (Below w.heap.size w (w.alloc (.cells zNd.cells 36)))) (HE : Hid (EnvAt F w)) (HFB : Hid (∀ i, w.heap.size ≤ i → F i)) (HZ0 : Hid (NdAt (w.alloc (.cells zNd.cells 36)) w.heap.size zNd))
    (HRUN : Hid (Calls Tryz.prog 157 #[.pointer (some ⟨r, 0, none⟩), .int .u8 97, .int .u8 122] (w.alloc (.cells #[.int .u8 ((0 : Nat) : Int), .int .u8 ((0 : Nat) : Int), .int .i64 0, .int .i64 0, .int .i64 0, .int .u64 ((0 : Nat) : Int), .int .u8 ((0 : Nat) : Int)] 36)) (fun e w' => e = .returned (.string ⟨t.toArray⟩) ∧ RdE (fun i => F i ∧ i ≠ w.heap.size) r s1 ns w' ∧ Kept (fun i => F i ∧ i ≠ w.heap.size) (w.alloc (.cells #[.int .u8 ((0 : Nat) : Int), .int .u8 ((0 : Nat) : Int), .int .i64 0, .int .i64 0, .int .i64 0, .int .u64 ((0 : Nat) : Int), .int .u8 ((0 : Nat) : Int)] 36)) w')))
    (HL1 : Hid (s1.length ≤ 1000000)) (HON : Hid (∀ w1 : World, EnvAt F w1 → Calls Tryz.prog 159 #[.string ⟨t.toArray⟩] w1 fun e w' => e = .returned (.int .u8 24) ∧ w1 = w')) :
    Calls Tryz.prog 131 #[.pointer (some ⟨r, 0, none⟩)] w (Reads F r w ((need 32 s1).bind fun r => (sho r).map fun q => ((⟨24, q.1, 0, 0, 0, 0, 0⟩ : Nd), q.2)) (fun p => p.1.val) (fun p => p.2) (fun _ => ns)) := by
  go_enter Tryz.func131, Tryz.ntmps131
  go_wp2_with (first
        | (go_at_call 157; refine HRUN.out.mono ?_; rintro e w1 ⟨rfl, h1, k1⟩; have HZ1 := Lib.hid (HZ0.out.kept k1 (fun c => c.2 rfl)); have H1 := Lib.hid h1; have K1 := Lib.hid k1; clear h1 k1)
        | (go_at_call 159; refine (HON.out _ ((HE.out.call HB0.out).kept (K1.out.mono (fun i _ c => c.1)))).mono ?_; rintro e w2 ⟨rfl, rfl⟩))
  have HX := Lib.hid (bel_alloc (Below.refl _ w1) (.cells #[.int .u8 24, .int .u8 0, .int .i64 0, .int .i64 0, .int .i64 0, .int .u64 0, .int .u8 0] 36))
  have HBX : Hid (NdAt (w1.alloc (.cells #[.int .u8 24, .int .u8 0, .int .i64 0, .int .i64 0, .int .i64 0, .int .u64 0, .int .u8 0] 36)) w1.heap.size ⟨24, 0, 0, 0, 0, 0, 0⟩) := NdAt.new w1 ⟨24, 0, 0, 0, 0, 0, 0⟩ 36
  have HRX := Lib.hid (H1.out.apart HX.out (Nat.le_refl _) (by simp))
  have HKX := Lib.hid (((Kept.ofBelow HB0.out F).trans (K1.out.mono (fun i _ c => c.1))).trans (Kept.ofBelow HX.out F))
  have HB2 := Lib.hid (HZ1.out.call HX.out)
  have HLB : Hid (w.heap.size < w1.heap.size) := HZ1.out.lt
  obtain ⟨bx, hbx⟩ : ∃ bx, w1.heap.size = bx := ⟨_, rfl⟩
  rw [hbx] at HBX HRX HLB
  simp only [hbx]
  generalize (w1.alloc (.cells #[.int .u8 24, .int .u8 0, .int .i64 0, .int .i64 0, .int .i64 0, .int .u64 0, .int .u8 0] 36)) = X at HX HBX HRX HKX HB2 ⊢
  obtain ⟨G, hG⟩ : ∃ G : Nat → Prop, G = (fun i => (F i ∧ i ≠ w.heap.size) ∧ i ≠ bx) := ⟨_, rfl⟩
  rw [← hG] at HRX
  have HBS : Hid (BS F G r w bx s1 ns ⟨24, 0, 0, 0, 0, 0, 0⟩ X) := ⟨HRX.out, HKX.out, HBX.out, HE.out.kept HKX.out, fun i c => by rw [hG] at c; exact c.1.1, fun c => by rw [hG] at c; exact c.2 rfl, HFB.out _ (Nat.le_of_lt HLB.out)⟩
  have HG2 : Hid (¬ G w.heap.size) := Lib.hid (fun c => by rw [hG] at c; exact c.1.2 rfl)
  clear hG hbx HRX HKX HBX HZ1 K1 H1 HRUN HON HZ0 HX
  go_wp2_with (
     go_at_call 129
     go_must (refine (rneed_any HBS.out.rd).mono ?_; intro e a0 h7)
     rcases hq : need 32 s1 with _ | t0
     · rw [hq] at h7
       obtain ⟨rfl, k7⟩ := h7
       exact ⟨rfl, by simp only [hq, Option.bind_none]; exact ⟨rfl, HBS.out.k.trans (k7.mono (fun i _ c => HBS.out.gf i c))⟩⟩
     rw [hq] at h7
     obtain ⟨rfl, h7, k7⟩ := h7
     have NA0 := Lib.hid (HBS.out.call h7 k7)
     have KA0 := Lib.hid k7
     have HQ0 := Lib.hid (need_len hq)
     have EN0 := Lib.hid hq
     clear h7 k7 hq
     refine Hid.out ?_)
  refine Lib.hid ?_
  have HT0 : Hid (t0.length ≤ 1000000) := Lib.hid (by have := HQ0.out; have := HL1.out; omega)
  have HZA0 := Lib.hid (HB2.out.kept KA0.out HG2.out)
  go_wp2_with (
     go_at_call 128
     refine (rsho_any NA0.out.rd NA0.out.envG HT0.out).mono ?_
     intro e b0 h7
     rcases hq : sho t0 with _ | ⟨v0, u0⟩
     · rw [hq] at h7
       obtain ⟨rfl, k7⟩ := h7
       exact ⟨rfl, by simp only [EN0.out, hq, Option.bind_some, Option.map_none]; exact ⟨rfl, NA0.out.k.trans (k7.mono (fun i _ c => NA0.out.gf i c))⟩⟩
     rw [hq] at h7
     obtain ⟨rfl, h7, k7⟩ := h7
     have NB0 := Lib.hid (NA0.out.call h7 k7)
     have HZB0 := Lib.hid (HZA0.out.kept k7 HG2.out)
     have HU0 := Lib.hid (Nat.le_trans (sho_len hq) HT0.out)
     have ES0 := Lib.hid hq
     have g0 := NB0.out.box.1.2.1
     have g1 := NB0.out.box.2 1
     clear h7 k7 hq
     refine Hid.out ?_)
  refine Lib.hid ?_
  have NC0 : Hid (BS F G r w bx u0 ns ⟨24, v0, 0, 0, 0, 0, 0⟩ (b0.setCell ⟨bx, 1, none⟩ (.int .u8 ((v0 : Nat) : Int)))) := NB0.out.set (by omega) rfl (by intro j hj hne; rcases j with _ | _ | _ | _ | _ | _ | _ | j <;> first | rfl | omega)
  have HZC0 : Hid (NdAt (b0.setCell ⟨bx, 1, none⟩ (.int .u8 ((v0 : Nat) : Int))) w.heap.size zNd) := HZB0.out.kept ((Kept.refl (fun i => i = bx) _).setCell ⟨bx, 1, none⟩ (.int .u8 ((v0 : Nat) : Int)) (fun _ => rfl)) (fun c => by have := HLB.out; omega)
  have f0 : (b0.setCell ⟨bx, 1, none⟩ (.int .u8 ((v0 : Nat) : Int))).cell? ⟨bx, 0, none⟩ = some (.int .u8 24) := NC0.out.box.1.1
  have f1 : (b0.setCell ⟨bx, 1, none⟩ (.int .u8 ((v0 : Nat) : Int))).cell? ⟨bx, 1, none⟩ = some (.int .u8 ((v0 : Nat) : Int)) := NC0.out.box.1.2.1
  have f2 : (b0.setCell ⟨bx, 1, none⟩ (.int .u8 ((v0 : Nat) : Int))).cell? ⟨bx, 2, none⟩ = some (.int .i64 0) := NC0.out.box.1.2.2.1
  have f3 : (b0.setCell ⟨bx, 1, none⟩ (.int .u8 ((v0 : Nat) : Int))).cell? ⟨bx, 3, none⟩ = some (.int .i64 0) := NC0.out.box.1.2.2.2.1
  have f4 : (b0.setCell ⟨bx, 1, none⟩ (.int .u8 ((v0 : Nat) : Int))).cell? ⟨bx, 4, none⟩ = some (.int .i64 0) := NC0.out.box.1.2.2.2.2.1
  have f5 : (b0.setCell ⟨bx, 1, none⟩ (.int .u8 ((v0 : Nat) : Int))).cell? ⟨bx, 5, none⟩ = some (.int .u64 0) := NC0.out.box.1.2.2.2.2.2.1
  have f6 : (b0.setCell ⟨bx, 1, none⟩ (.int .u8 ((v0 : Nat) : Int))).cell? ⟨bx, 6, none⟩ = some (.int .u8 0) := NC0.out.box.1.2.2.2.2.2.2
  have z0 : (b0.setCell ⟨bx, 1, none⟩ (.int .u8 ((v0 : Nat) : Int))).cell? ⟨w.heap.size, 0, none⟩ = some (.int .u8 0) := HZC0.out.1.1
  have z1 : (b0.setCell ⟨bx, 1, none⟩ (.int .u8 ((v0 : Nat) : Int))).cell? ⟨w.heap.size, 1, none⟩ = some (.int .u8 0) := HZC0.out.1.2.1
  have z2 : (b0.setCell ⟨bx, 1, none⟩ (.int .u8 ((v0 : Nat) : Int))).cell? ⟨w.heap.size, 2, none⟩ = some (.int .i64 0) := HZC0.out.1.2.2.1
  have z3 : (b0.setCell ⟨bx, 1, none⟩ (.int .u8 ((v0 : Nat) : Int))).cell? ⟨w.heap.size, 3, none⟩ = some (.int .i64 0) := HZC0.out.1.2.2.2.1
  have z4 : (b0.setCell ⟨bx, 1, none⟩ (.int .u8 ((v0 : Nat) : Int))).cell? ⟨w.heap.size, 4, none⟩ = some (.int .i64 0) := HZC0.out.1.2.2.2.2.1
  have z5 : (b0.setCell ⟨bx, 1, none⟩ (.int .u8 ((v0 : Nat) : Int))).cell? ⟨w.heap.size, 5, none⟩ = some (.int .u64 0) := HZC0.out.1.2.2.2.2.2.1
  have z6 : (b0.setCell ⟨bx, 1, none⟩ (.int .u8 ((v0 : Nat) : Int))).cell? ⟨w.heap.size, 6, none⟩ = some (.int .u8 0) := HZC0.out.1.2.2.2.2.2.2
  have zf : ∀ i, (b0.setCell ⟨bx, 1, none⟩ (.int .u8 ((v0 : Nat) : Int))).frozen? ⟨w.heap.size, i, none⟩ = false := HZC0.out.2
  have hA := set7 (X := (b0.setCell ⟨bx, 1, none⟩ (.int .u8 ((v0 : Nat) : Int)))) (b := w.heap.size) ⟨z0, z1, z2, z3, z4, z5, z6⟩ (.int .u8 24) (.int .u8 ((v0 : Nat) : Int)) (.int .i64 0) (.int .i64 0) (.int .i64 0) (.int .u64 0) (.int .u8 0)
  unfold At7 at hA
  obtain ⟨e0, e1, e2, e3, e4, e5, e6⟩ := hA
  go_wp2_with fail
  exact bodyPost_ret (v := .agg #[.int .u8 24, .int .u8 ((v0 : Nat) : Int), .int .i64 0, .int .i64 0, .int .i64 0, .int .u64 0, .int .u8 0]) (by simp [results, Tryz.results131, go_sem, e0, e1, e2, e3, e4, e5, e6]) rfl (by simp only [EN0.out, ES0.out, Option.bind_some, Option.map_some]; exact ⟨rfl, (rd7 NC0.out.rd HG2.out _ _ _ _ _ _ _).mono NC0.out.gf, k7 NC0.out.k (HFB.out _ (Nat.le_refl _)) _ _ _ _ _ _ _⟩)

theorem rhead_any {F : Nat → Prop} {r : Nat} {s : By} {ns : List Nd} {w : World} (h : RdE F r s ns w) (hE : EnvAt F w) (hs : s.length ≤ 1000000) :
    Calls Tryz.prog 131 #[.pointer (some ⟨r, 0, none⟩)] w (Reads F r w (headP s) (fun p => p.1.val) (fun p => p.2) (fun _ => ns)) := by
  -- the answer's own variable
  have hb0 : Below w.heap.size w (w.alloc (.cells zNd.cells 36)) := bel_alloc (Below.refl _ _) _
  have R0 := h.apart hb0 (Nat.le_refl _) (by simp)
  have E0 := (hE.call hb0).mono (G := fun i => F i ∧ i ≠ w.heap.size) (fun i c => c.1)
  have HRUN := Lib.hid (rrun_any 97 122 R0 hs)
  have Z0 := NdAt.new w zNd 36
  have HB0 := Lib.hid hb0
  have HE := Lib.hid hE
  have HFB := Lib.hid (show ∀ i, w.heap.size ≤ i → F i by obtain ⟨_, _, h⟩ := h; exact h.fn)
  have HE0 := Lib.hid E0
  have HZ0 := Lib.hid Z0
  have HS := Lib.hid hs
  clear h hE hb0 R0 E0 Z0 hs
  unfold zNd Nd.cells at HRUN
  obtain ⟨t, ht⟩ : ∃ t, s.takeWhile (inR 97 122) = t := ⟨_, rfl⟩
  obtain ⟨s1, hs1⟩ : ∃ s1, s.dropWhile (inR 97 122) = s1 := ⟨_, rfl⟩
  rw [ht, hs1] at HRUN
  have hl1 : s1.length ≤ 1000000 := by rw [← hs1]; exact Nat.le_trans (aft_le _ _) HS.out
  have HHP : Hid (headP s = (if opN t = 0 then none else if opN t = 22 then (need 32 s1).bind fun r => (sho r).bind fun p => (need 32 p.2).bind fun r => (sho r).map fun q => (⟨opN t, q.1, 0, 0, 0, 0, p.1⟩, q.2)
      else if opN t = 23 ∨ opN t = 24 then (need 32 s1).bind fun r => (sho r).map fun q => (⟨opN t, q.1, 0, 0, 0, 0, 0⟩, q.2) else some (⟨opN t, 0, 0, 0, 0, 0, 0⟩, s1))) := by
    show _ = _
    unfold headP
    rw [ht, hs1]
  have HL1 := Lib.hid hl1
  clear ht hs1 hl1
  obtain ⟨o, ho⟩ : ∃ o, opN t = o := ⟨_, rfl⟩
  rw [ho] at HHP
  have HON : Hid (∀ w1 : World, EnvAt F w1 → Calls Tryz.prog 159 #[.string ⟨t.toArray⟩] w1 fun e w' => e = .returned (.int .u8 ((o : Nat) : Int)) ∧ w1 = w') := fun w1 h1 => by
    have := opNamed_any (s := t) h1
    rw [ho] at this
    exact this
  clear ho
  by_cases h0 : o = 0
  · subst h0
    rw [HHP.out, if_pos rfl]
    go_enter Tryz.func131, Tryz.ntmps131
    go_wp2_with (first
      | (go_at_call 157; refine HRUN.out.mono ?_; rintro e w1 ⟨rfl, h1, k1⟩; have H1 := Lib.hid h1; have K1 := Lib.hid k1; clear h1 k1)
      | (go_at_call 159; refine (HON.out _ ((HE.out.call HB0.out).kept (K1.out.mono (fun i _ c => c.1)))).mono ?_; rintro e w2 ⟨rfl, rfl⟩))
    exact ⟨rfl, rfl, (((Kept.ofBelow HB0.out F).trans (K1.out.mono (fun i _ c => c.1))).alloc _)⟩
  · by_cases hsp : o = 22 ∨ o = 23 ∨ o = 24
    · rcases hsp with rfl | rfl | rfl
      · rw [HHP.out, if_neg (by omega), if_pos rfl]
        exact rhead_22 HB0 HE HFB HZ0 HRUN HL1 HON
      · rw [HHP.out, if_neg (by omega), if_neg (by omega), if_pos (by omega)]
        exact rhead_23 HB0 HE HFB HZ0 HRUN HL1 HON
      · rw [HHP.out, if_neg (by omega), if_neg (by omega), if_pos (by omega)]
        exact rhead_24 HB0 HE HFB HZ0 HRUN HL1 HON
    · have d0 : (((o : Nat) : Int) == 0) = false := by simp; omega
      have d22 : (((o : Nat) : Int) == 22) = false := by simp; omega
      have d23 : (((o : Nat) : Int) == 23) = false := by simp; omega
      have d24 : (((o : Nat) : Int) == 24) = false := by simp; omega
      rw [HHP.out, if_neg h0, if_neg (by omega), if_neg (by omega)]
      clear h0 hsp
      go_enter Tryz.func131, Tryz.ntmps131
      go_wp2_with (first
        | (go_at_call 157; refine HRUN.out.mono ?_; rintro e w1 ⟨rfl, h1, k1⟩; have hz := zeros_alloc (HZ0.out.kept k1 (fun c => c.2 rfl)); obtain ⟨z0, z1, z2, z3, z4, z5, z6, zf⟩ := hz; have H1 := Lib.hid h1; have K1 := Lib.hid k1; clear h1 k1)
        | (go_at_call 159; refine (HON.out _ ((HE.out.call HB0.out).kept (K1.out.mono (fun i _ c => c.1)))).mono ?_; rintro e w2 ⟨rfl, rfl⟩))
      have hA := set7 (b := w.heap.size) (⟨z0 (.cells #[.int .u8 ((o : Nat) : Int), .int .u8 0, .int .i64 0, .int .i64 0, .int .i64 0, .int .u64 0, .int .u8 0] 36), z1 _, z2 _, z3 _, z4 _, z5 _, z6 _⟩) (.int .u8 ((o : Nat) : Int)) (.int .u8 0) (.int .i64 0) (.int .i64 0) (.int .i64 0) (.int .u64 0) (.int .u8 0)
      unfold At7 at hA
      obtain ⟨e0, e1, e2, e3, e4, e5, e6⟩ := hA
      have R1 := H1.out.call (bel_alloc (Below.refl _ _) (.cells #[.int .u8 ((o : Nat) : Int), .int .u8 0, .int .i64 0, .int .i64 0, .int .i64 0, .int .u64 0, .int .u8 0] 36))
      have K2 := (((Kept.ofBelow HB0.out F).trans (K1.out.mono (fun i _ c => c.1))).alloc (.cells #[.int .u8 ((o : Nat) : Int), .int .u8 0, .int .i64 0, .int .i64 0, .int .i64 0, .int .u64 0, .int .u8 0] 36))
      exact bodyPost_ret (v := .agg #[.int .u8 ((o : Nat) : Int), .int .u8 0, .int .i64 0, .int .i64 0, .int .i64 0, .int .u64 0, .int .u8 0]) (by simp [results, Tryz.results131, go_sem, e0, e1, e2, e3, e4, e5, e6]) rfl ⟨rfl, (rd7 R1 (fun c => c.2 rfl) _ _ _ _ _ _ _).mono (fun i c => c.1), k7 K2 (HFB.out _ (Nat.le_refl _)) _ _ _ _ _ _ _⟩
end Tx
end Go.Proofs.YtkiegiofholofaaGreatDoor
