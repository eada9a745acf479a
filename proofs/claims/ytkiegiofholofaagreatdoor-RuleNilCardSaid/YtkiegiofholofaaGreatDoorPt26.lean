/-
The operator of a name: a fact on one call.
The reader of layer text: what stands ahead of a node's kids, as a fact on one call; the node's own variable in memory.
-/
import Derived.Test.YtkiegiofholofaaGreatDoorPt25
import Derived.Test.YtkiegiofholofaaGreatDoorPt04
namespace Go.Proofs.YtkiegiofholofaaGreatDoor
open Go.RowKit Go.Maps Bv Tm
namespace Tx
set_option maxHeartbeats 1600000
set_option maxRecDepth 100000

theorem nm_get {o : Nat} (h : o < nameL.length) : nameL[o] = nm o := by
  unfold nm
  rw [List.getD_eq_getElem?_getD, List.getElem?_eq_getElem h]
  rfl
theorem nm_low {o : Nat} (h : o < 3) : nm o = [] := by
  have : ∀ o : Fin 3, nm o.val = [] := by decide
  exact this ⟨o, h⟩
theorem nm_high {o : Nat} (h3 : 3 ≤ o) (h : o < 26) : nm o ≠ [] := by
  have : ∀ o : Fin 26, 3 ≤ o.val → nm o.val ≠ [] := by decide
  exact this ⟨o, h⟩ h3
theorem opN_hit {s : By} {o : Nat} (h3 : 3 ≤ o) (h25 : o ≤ 25) (he : nm o = s) (hno : ∀ j, 3 ≤ j → j < o → nm j ≠ s) : opN s = o := by
  have hs : s ≠ [] := by rw [← he]; exact nm_high h3 (by omega)
  have hl : nameL.length = 26 := rfl
  have hi : nameL.findIdx (fun y => decide (y = s)) = o := by
    rw [List.findIdx_eq (by omega)]
    refine ⟨by rw [nm_get]; simpa using he, fun j hj => ?_⟩
    rw [nm_get]
    by_cases h : j < 3
    · rw [nm_low h]
      simpa using hs
    · simpa using hno j (by omega) hj
  unfold opN
  rw [if_neg hs]
  simp only [hi]
  rw [if_pos (by omega)]
theorem opN_miss {s : By} (hno : ∀ j, 3 ≤ j → j < 26 → nm j ≠ s) : opN s = 0 := by
  unfold opN
  by_cases hs : s = []
  · rw [if_pos hs]
  · rw [if_neg hs]
    have hl : nameL.length = 26 := rfl
    have hi : ¬ nameL.findIdx (fun y => decide (y = s)) < 26 := by
      intro c
      have := List.findIdx_getElem (p := fun y => decide (y = s)) (xs := nameL) (w := by omega)
      rw [nm_get] at this
      simp only [decide_eq_true_eq] at this
      by_cases h : nameL.findIdx (fun y => decide (y = s)) < 3
      · rw [nm_low h] at this; exact hs this.symm
      · exact hno _ (by omega) c this
    simp only []
    rw [if_neg hi]

theorem opNamed_any {F : Nat → Prop} {s : By} {w : World} (hE : EnvAt F w) : Calls Tryz.prog 159 #[.string ⟨s.toArray⟩] w fun e w' => e = .returned (.int .u8 ((opN s : Nat) : Int)) ∧ w = w' := by
  have HE := Lib.hid hE
  clear hE
  obtain ⟨sv, hsv⟩ : ∃ sv : ByteArray, sv = ⟨s.toArray⟩ := ⟨_, rfl⟩
  rw [← hsv]
  have HSV := Lib.hid hsv
  clear hsv
  go_enter Tryz.func159, Tryz.ntmps159
  go_wp2_with fail
  go_loopg [3] 26 (fun gk u3 wr => ∃ o : Nat, u3 = .int .u8 ((o : Nat) : Int) ∧ o + gk = 29 ∧ 3 ≤ o ∧ o ≤ 26 ∧ Hid (∀ j, 3 ≤ j → j < o → nm j ≠ s) ∧ w = wr)
  case atStart => exact ⟨3, rfl, by omega, Nat.le_refl _, by omega, Lib.hid (fun j h1 h2 => by omega), rfl⟩
  case round =>
    obtain ⟨o, rfl, hgk, h3, h26, HNO, rfl⟩ := hrel
    by_cases ho : o ≤ 25
    · have q1 : ((o : Nat) : Int) ≤ 25 := by omega
      have HNM := Lib.hid (name_any (o := o) HE.out (by omega))
      obtain ⟨nv, hnv⟩ : ∃ nv : ByteArray, nv = ⟨(nm o).toArray⟩ := ⟨_, rfl⟩
      rw [← hnv] at HNM
      have HNV := Lib.hid hnv
      have HGK := Lib.hid (And.intro hgk (And.intro h3 ho))
      clear hnv hgk h3 h26 ho
      go_wp2_with (go_at_call 59; refine HNM.out.mono ?_; rintro e w' ⟨rfl, rfl⟩)
      · rename_i hcmp
        have hc : nm o = s := by
          rw [Lib.toList_data, Lib.toList_data, HNV.out, HSV.out] at hcmp
          simpa using hcmp
        have hop := opN_hit HGK.out.2.1 HGK.out.2.2 hc HNO.out
        exact bodyPost_ret (v := .int .u8 ((opN s : Nat) : Int)) (by rw [hop]; simp [results, Tryz.results159, go_sem]) rfl ⟨rfl, rfl⟩
      · rename_i hcmp
        have hc : nm o ≠ s := by
          rw [Lib.toList_data, Lib.toList_data, HNV.out, HSV.out] at hcmp
          simpa using hcmp
        go_roundg (gk - 1)
        case measure => have := HGK.out; omega
        case rel => exact ⟨o + 1, by first | rfl | (congr 1), by have := HGK.out; omega, by have := HGK.out; omega, by have := HGK.out; omega, Lib.hid (fun j h1 h2 => by
          by_cases e : j = o
          · rw [e]; exact hc
          · exact HNO.out j h1 (by omega)), rfl⟩
    · have hop := opN_miss (s := s) (fun j h1 h2 => HNO.out j h1 (by omega))
      have q1 : ¬ ((o : Nat) : Int) ≤ 25 := by omega
      have HOP := Lib.hid hop
      clear hop hgk h3 h26 ho
      go_wp2_with fail
      exact bodyPost_ret (v := .int .u8 ((opN s : Nat) : Int)) (by rw [HOP.out]; simp [results, Tryz.results159, go_sem]) rfl ⟨rfl, rfl⟩
end Tx
end Go.Proofs.YtkiegiofholofaaGreatDoor

namespace Go.Proofs.YtkiegiofholofaaGreatDoor
open Go.RowKit Go.Maps Bv Tm
namespace Tx
set_option maxHeartbeats 3200000
set_option maxRecDepth 100000

/-- The block b holds the node x, a variable of the call's own. -/
def NdAt (w : World) (b : Nat) (x : Nd) : Prop := At7 w b (.int .u8 ((x.o : Nat) : Int)) (.int .u8 ((x.w : Nat) : Int)) (.int .i64 x.k0) (.int .i64 x.k1) (.int .i64 x.k2) (.int .u64 ((x.n : Nat) : Int)) (.int .u8 ((x.l : Nat) : Int)) ∧ ∀ o, w.frozen? ⟨b, o, none⟩ = false
theorem NdAt.lt {w : World} {b : Nat} {x : Nd} (h : NdAt w b x) : b < w.heap.size := h.1.lt
theorem NdAt.kept {G : Nat → Prop} {w w' : World} {b : Nat} {x : Nd} (h : NdAt w b x) (k : Kept G w w') (hG : ¬ G b) : NdAt w' b x :=
  ⟨h.1.kept k hG, fun o => (k.frozen (x := ⟨b, o, none⟩) h.lt hG).trans (h.2 o)⟩
theorem NdAt.call {w w' : World} {b : Nat} {x : Nd} (h : NdAt w b x) (k : Below w.heap.size w w') : NdAt w' b x := h.kept (Kept.ofBelow k (fun _ => False)) (fun c => c)
theorem NdAt.new (w : World) (x : Nd) (t : TypeId) : NdAt (w.alloc (.cells x.cells t)) w.heap.size x := ⟨At7.new w _ _ _ _ _ _ _ t, fun _o => World.frozen?_alloc_new _ _ _ _⟩
/-- A place of the variable is laid anew. -/
theorem NdAt.set {w : World} {b i : Nat} {x x' : Nd} {u : Value} (h : NdAt w b x) (hi : i < 7) (hu : x'.cells.toList[i]? = some u) (ho : ∀ j, j < 7 → j ≠ i → x'.cells.toList[j]? = x.cells.toList[j]?) : NdAt (w.setCell ⟨b, i, none⟩ u) b x' := by
  have hc : ∀ j v, j < 7 → x.cells.toList[j]? = some v → w.cell? ⟨b, j, none⟩ = some v := by
    obtain ⟨h, _⟩ := h
    unfold At7 at h
    obtain ⟨h0, h1, h2, h3, h4, h5, h6⟩ := h
    intro j v hj e
    match j, hj with
    | 0, _ => simp [Nd.cells] at e; rw [← e]; exact h0
    | 1, _ => simp [Nd.cells] at e; rw [← e]; exact h1
    | 2, _ => simp [Nd.cells] at e; rw [← e]; exact h2
    | 3, _ => simp [Nd.cells] at e; rw [← e]; exact h3
    | 4, _ => simp [Nd.cells] at e; rw [← e]; exact h4
    | 5, _ => simp [Nd.cells] at e; rw [← e]; exact h5
    | 6, _ => simp [Nd.cells] at e; rw [← e]; exact h6
    | (j + 7), hj => omega
  have hl : ∀ j, j < 7 → ∃ v, x.cells.toList[j]? = some v := fun j hj => ⟨_, List.getElem?_eq_getElem (by simpa [Nd.cells] using hj)⟩
  have hn : ∀ j v, j < 7 → x'.cells.toList[j]? = some v → (w.setCell ⟨b, i, none⟩ u).cell? ⟨b, j, none⟩ = some v := by
    intro j v hj e
    by_cases hji : j = i
    · subst hji
      rw [hu] at e
      obtain ⟨v0, hv0⟩ := hl j hj
      rw [World.cell?_setCell_same _ _ _ (hc j v0 hj hv0)]
      exact e
    · rw [World.cell?_setCell_other _ _ _ _ (by simp)]
      rw [ho j hj hji] at e
      exact hc j v hj e
  refine ⟨?_, fun o => by rw [World.frozen?_setCell]; exact h.2 o⟩
  unfold At7
  exact ⟨hn 0 _ (by omega) rfl, hn 1 _ (by omega) rfl, hn 2 _ (by omega) rfl, hn 3 _ (by omega) rfl, hn 4 _ (by omega) rfl, hn 5 _ (by omega) rfl, hn 6 _ (by omega) rfl⟩

/-- The reader beside a variable of the call's own: G: the blocks that the calls may change, F: those that this call may. -/
structure BS (F G : Nat → Prop) (r : Nat) (W : World) (b : Nat) (s : By) (ns : List Nd) (x : Nd) (w : World) : Prop where
  rd : RdE G r s ns w
  k : Kept F W w
  box : NdAt w b x
  env : EnvAt F w
  gf : ∀ i, G i → F i
  gb : ¬ G b
  fb : F b
theorem BS.call {F G : Nat → Prop} {r : Nat} {W : World} {b : Nat} {s s' : By} {ns ns' : List Nd} {x : Nd} {w w' : World} (h : BS F G r W b s ns x w) (hr : RdE G r s' ns' w') (k : Kept G w w') : BS F G r W b s' ns' x w' :=
  ⟨hr, h.k.trans (k.mono (fun i _ c => h.gf i c)), h.box.kept k h.gb, h.env.kept (k.mono (fun i _ c => h.gf i c)), h.gf, h.gb, h.fb⟩
theorem BS.below {F G : Nat → Prop} {r : Nat} {W : World} {b : Nat} {s : By} {ns : List Nd} {x : Nd} {w w' : World} (h : BS F G r W b s ns x w) (k : Below w.heap.size w w') : BS F G r W b s ns x w' :=
  h.call (h.rd.call k) (Kept.ofBelow k G)
theorem BS.envG {F G : Nat → Prop} {r : Nat} {W : World} {b : Nat} {s : By} {ns : List Nd} {x : Nd} {w : World} (h : BS F G r W b s ns x w) : EnvAt G w := h.env.mono h.gf
theorem RdE.set {G : Nat → Prop} {r b i : Nat} {s : By} {ns : List Nd} {w : World} {u : Value} (h : RdE G r s ns w) (hb : ¬ G b) : RdE G r s ns (w.setCell ⟨b, i, none⟩ u) := by
  obtain ⟨tx, v, h⟩ := h
  have hr : r ≠ b := fun e => hb (e ▸ h.fb)
  exact ⟨tx, v, h.keep ((Kept.refl (fun j => j = b) w).setCell ⟨b, i, none⟩ u (fun _ => rfl)) (fun j _ e => by subst e; exact ⟨fun e => hr e.symm, fun e => hb (h.fo _ e)⟩)⟩
theorem BS.set {F G : Nat → Prop} {r : Nat} {W : World} {b i : Nat} {s : By} {ns : List Nd} {x x' : Nd} {w : World} {u : Value} (h : BS F G r W b s ns x w) (hi : i < 7) (hu : x'.cells.toList[i]? = some u) (ho : ∀ j, j < 7 → j ≠ i → x'.cells.toList[j]? = x.cells.toList[j]?) : BS F G r W b s ns x' (w.setCell ⟨b, i, none⟩ u) :=
  ⟨h.rd.set h.gb, h.k.setCell _ _ (fun _ => h.fb), h.box.set hi hu ho, h.env.kept ((Kept.refl F w).setCell _ _ (fun _ => h.fb)), h.gf, h.gb, h.fb⟩

theorem NdAt.kid {w : World} {b i : Nat} {x : Nd} (h : NdAt w b x) (hi : i < 3) : w.cell? ⟨b, 2 + i, none⟩ = some (.int .i64 (x.kid i)) := by
  match i, hi with
  | 0, _ => exact h.1.2.2.1
  | 1, _ => exact h.1.2.2.2.1
  | 2, _ => exact h.1.2.2.2.2.1
  | (j + 3), h => omega
theorem NdAt.setKid {w : World} {b i : Nat} {x : Nd} {v : Int} (h : NdAt w b x) (hi : i < 3) : NdAt (w.setCell ⟨b, 2 + i, none⟩ (.int .i64 v)) b (setKid x i v) := by
  match i, hi with
  | 0, _ => exact h.set (i := 2) (by omega) rfl (by intro j hj hne; rcases j with _ | _ | _ | _ | _ | _ | _ | j <;> first | rfl | omega)
  | 1, _ => exact h.set (i := 3) (by omega) rfl (by intro j hj hne; rcases j with _ | _ | _ | _ | _ | _ | _ | j <;> first | rfl | omega)
  | 2, _ => exact h.set (i := 4) (by omega) rfl (by intro j hj hne; rcases j with _ | _ | _ | _ | _ | _ | _ | j <;> first | rfl | omega)
  | (j + 3), h => omega

theorem rneed_any {F : Nat → Prop} {r : Nat} {s : By} {ns : List Nd} {w : World} {c : UInt8} (h : RdE F r s ns w) :
    Calls Tryz.prog 129 #[.pointer (some ⟨r, 0, none⟩), .string ⟨#[c]⟩] w (Reads F r w (need c s) (fun _ => .tuple #[]) (fun s' => s') (fun _ => ns)) := by
  cases hn : need c s with
  | none => exact rneed_no h hn
  | some s' => exact rneed_yes h hn
end Tx
end Go.Proofs.YtkiegiofholofaaGreatDoor
