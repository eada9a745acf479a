/-
Make of layer term, case by case, as a fact on one call.
Const, Var, Node, Len, Width of layer term, of a store that was made, each as a fact on one call; and what they answer of none and of a zero one.
A row of numbers.
-/
import Derived.Test.YtigjbngedbbdbaaPt08
import Derived.BigQuiet
namespace Go.Proofs.Ytigjbngedbbdbaa
open Go.RowKit Go.Maps Bv
namespace Tm
set_option maxHeartbeats 1000000
set_option maxRecDepth 100000

theorem StoreAt.drewN {B : Nat} {w : World} {p m : Nat} {sv : Value} {L : List Nd} (h : StoreAt B w p m sv L) (n : Nat) : StoreAt B (w.drewN n) p m sv L :=
  h.kept (F := fun _ => False) ⟨rfl, rfl, rfl, Nat.le_refl _, fun _ _ _ => rfl⟩ (fun _ _ x => x)
theorem Kept.drewN {F : Nat → Prop} {a b : World} (h : Kept F a b) (n : Nat) : Kept F a (b.drewN n) := ⟨h.os, h.tape, h.output, h.size, h.block⟩

theorem look_yes {B : Nat} {w : World} {p m : Nat} {sv : Value} {L : List Nd} {x : Nd} (S : StoreAt B w p m sv L) (hx : x.Ok) (h : x ∈ L) :
    (Instr.lookup 47 (.map (some m)) x.val true).run Try.prog w = .ok (.tuple #[.int .i64 ((idx L x : Nat) : Int), .bool true]) w := by
  obtain ⟨D, hD, hT⟩ := S.tab
  obtain ⟨v, ps, hrun, hv⟩ := hD.look_ok law_nd Try.underlying47 (zero_int w) (plainElem_int (H := Unit) Try.underlying3 (a := 0) (by decide)) (key_nd x hx)
  rw [hT.get x hx h] at hv
  obtain ⟨c, rfl, hc, _⟩ := plainElem_int_inv Try.underlying3 hv
  simp at hc
  rw [hrun, hT.has x hx, decide_eq_true h, hc.1]
theorem look_no {B : Nat} {w : World} {p m : Nat} {sv : Value} {L : List Nd} {x : Nd} (S : StoreAt B w p m sv L) (hx : x.Ok) (h : ¬ x ∈ L) :
    (Instr.lookup 47 (.map (some m)) x.val true).run Try.prog w = .ok (.tuple #[.int .i64 0, .bool false]) w := by
  obtain ⟨D, hD, hT⟩ := S.tab
  obtain ⟨v, ps, hrun, hv⟩ := hD.look_ok law_nd Try.underlying47 (zero_int w) (plainElem_int (H := Unit) Try.underlying3 (a := 0) (by decide)) (key_nd x hx)
  have hn := hT.has x hx
  rw [decide_eq_false h] at hn
  rw [atKey_of_not_has hn] at hv
  obtain ⟨c, rfl, hc, _⟩ := plainElem_int_inv Try.underlying3 hv
  simp at hc
  rw [hrun, hn, ← hc.1]

theorem make_bad (o w n l : Nat) (k0 k1 k2 : Int) (B p m : Nat) (sv : Value) (L : List Nd) (W : World) (S : StoreAt B W p m sv L) (hB : B ≤ W.heap.size) (hx : Nd.Ok ⟨o, w, k0, k1, k2, n, l⟩) (hm : mayN L ⟨o, w, k0, k1, k2, n, l⟩ = false) :
    Calls Try.prog 13 #[.pointer (some ⟨p, 0, none⟩), .agg #[.int .u8 o, .int .u8 w, .int .i64 k0, .int .i64 k1, .int .i64 k2, .int .u64 n, .int .u8 l]] W fun e W' => e = .returned (.tuple #[.int .i64 0, .int .i64 2]) ∧
      ∃ v, StoreAt B W' p m v L ∧ Kept (foot p m sv) W W' ∧ (v.ownBlock = sv.ownBlock ∨ ∃ g, W.heap.size ≤ g ∧ v.ownBlock = some g) := by
  have A := At7.new W (.int .u8 o) (.int .u8 w) (.int .i64 k0) (.int .i64 k1) (.int .i64 k2) (.int .u64 n) (.int .u8 l) 57
  have S1 := S.alloc (.cells #[.int .u8 o, .int .u8 w, .int .i64 k0, .int .i64 k1, .int .i64 k2, .int .u64 n, .int .u8 l] 57)
  have C1 := S1.c1
  have HM := Lib.hid (may_any' (x := ⟨o, w, k0, k1, k2, n, l⟩) S1 hx)
  rw [hm] at HM
  have HS := Lib.hid S1
  have HB := Lib.hid hB
  clear S1 hB hm
  go_enter Try.func13, Try.ntmps13
  go_wp2_with (first | (go_at_call 23; refine (none_made p m _ C1).mono ?_; rintro e w1 ⟨rfl, rfl⟩) | (go_at_call 24; refine HM.out.mono ?_; rintro e w1 ⟨rfl, hb⟩; have S2 := HS.out.call hb; replace A := A.keep hb; have la := A.lt; unfold At7 at A))
  exact bodyPost_ret (v := .tuple #[.int .i64 0, .int .i64 2]) (by simp [results, Try.results13, go_sem]) rfl ⟨rfl, sv, S2, ((Kept.refl _ W).alloc _).call hb, .inl rfl⟩

theorem make_twice (w n l : Nat) (k0 k1 k2 : Int) (B p m : Nat) (sv : Value) (L : List Nd) (W : World) (S : StoreAt B W p m sv L) (hB : B ≤ W.heap.size) (hx : Nd.Ok ⟨2, w, k0, k1, k2, n, l⟩) (hm : mayN L ⟨2, w, k0, k1, k2, n, l⟩ = true) (hn2 : n < 256) (dz : (((wdOf L n : Nat) : Int) != 0) = true) (ds : (((wdOf L n : Nat) : Int) != ((w : Nat) : Int)) = true) :
    Calls Try.prog 13 #[.pointer (some ⟨p, 0, none⟩), .agg #[.int .u8 2, .int .u8 w, .int .i64 k0, .int .i64 k1, .int .i64 k2, .int .u64 n, .int .u8 l]] W fun e W' => e = .returned (.tuple #[.int .i64 0, .int .i64 7]) ∧
      ∃ v, StoreAt B W' p m v L ∧ Kept (foot p m sv) W W' ∧ (v.ownBlock = sv.ownBlock ∨ ∃ g, W.heap.size ≤ g ∧ v.ownBlock = some g) := by
  have A := At7.new W (.int .u8 2) (.int .u8 w) (.int .i64 k0) (.int .i64 k1) (.int .i64 k2) (.int .u64 n) (.int .u8 l) 57
  have S1 := S.alloc (.cells #[.int .u8 2, .int .u8 w, .int .i64 k0, .int .i64 k1, .int .i64 k2, .int .u64 n, .int .u8 l] 57)
  have C1 := S1.c1
  have HM := Lib.hid (may_any' (x := ⟨2, w, k0, k1, k2, n, l⟩) S1 hx)
  rw [hm] at HM
  have HS := Lib.hid S1
  have HB := Lib.hid hB
  clear S1 hB hm
  go_enter Try.func13, Try.ntmps13
  go_wp2_with (first | (go_at_call 23; refine (none_made p m _ C1).mono ?_; rintro e w1 ⟨rfl, rfl⟩) | (go_at_call 24; refine HM.out.mono ?_; rintro e w1 ⟨rfl, hb⟩; have S2 := HS.out.call hb; replace A := A.keep hb; have la := A.lt; unfold At7 at A))
  have K2 := (((Kept.refl (foot p m sv) W).alloc (.cells #[.int .u8 2, .int .u8 w, .int .i64 k0, .int .i64 k1, .int .i64 k2, .int .u64 n, .int .u8 l] 57))).call hb
  have Cw := S2.cw n hn2
  have hn3 : (n : Int) < 256 := by omega
  have HK2 := Lib.hid K2
  have HS2 := Lib.hid S2
  have c0 := S2.c0
  have c1 := S2.c1
  clear K2 S2
  go_quiet (fail)
  go_wp2_with fail
  exact bodyPost_ret (v := .tuple #[.int .i64 0, .int .i64 7]) (by simp [results, Try.results13, go_sem]) rfl ⟨rfl, sv, by first | exact HS2.out.drewN _ | exact (HS2.out.drewN _).drewN _, by first | exact HK2.out.drewN _ | exact (HK2.out.drewN _).drewN _, .inl rfl⟩

theorem make_there_p (o w n l : Nat) (k0 k1 k2 : Int) (B p m : Nat) (sv : Value) (L : List Nd) (W : World) (S : StoreAt B W p m sv L) (hB : B ≤ W.heap.size) (hx : Nd.Ok ⟨o, w, k0, k1, k2, n, l⟩) (hm : mayN L ⟨o, w, k0, k1, k2, n, l⟩ = true) (d2 : ((o : Int) == 2) = false) (hin : Nd.mk o w k0 k1 k2 n l ∈ L) :
    Calls Try.prog 13 #[.pointer (some ⟨p, 0, none⟩), .agg #[.int .u8 o, .int .u8 w, .int .i64 k0, .int .i64 k1, .int .i64 k2, .int .u64 n, .int .u8 l]] W fun e W' => e = .returned (.tuple #[.int .i64 ((idx L ⟨o, w, k0, k1, k2, n, l⟩ : Nat) : Int), .int .i64 0]) ∧
      ∃ v, StoreAt B W' p m v L ∧ Kept (foot p m sv) W W' ∧ (v.ownBlock = sv.ownBlock ∨ ∃ g, W.heap.size ≤ g ∧ v.ownBlock = some g) := by
  have A := At7.new W (.int .u8 o) (.int .u8 w) (.int .i64 k0) (.int .i64 k1) (.int .i64 k2) (.int .u64 n) (.int .u8 l) 57
  have S1 := S.alloc (.cells #[.int .u8 o, .int .u8 w, .int .i64 k0, .int .i64 k1, .int .i64 k2, .int .u64 n, .int .u8 l] 57)
  have C1 := S1.c1
  have HM := Lib.hid (may_any' (x := ⟨o, w, k0, k1, k2, n, l⟩) S1 hx)
  rw [hm] at HM
  have HS := Lib.hid S1
  have HB := Lib.hid hB
  clear S1 hB hm
  go_enter Try.func13, Try.ntmps13
  go_wp2_with (first | (go_at_call 23; refine (none_made p m _ C1).mono ?_; rintro e w1 ⟨rfl, rfl⟩) | (go_at_call 24; refine HM.out.mono ?_; rintro e w1 ⟨rfl, hb⟩; have S2 := HS.out.call hb; replace A := A.keep hb; have la := A.lt; unfold At7 at A))
  have K2 := (((Kept.refl (foot p m sv) W).alloc (.cells #[.int .u8 o, .int .u8 w, .int .i64 k0, .int .i64 k1, .int .i64 k2, .int .u64 n, .int .u8 l] 57))).call hb
  have HK2 := Lib.hid K2
  have HS2 := Lib.hid S2
  have c0 := S2.c0
  have c1 := S2.c1
  clear K2 S2
  go_quiet (fail)
  go_wp2_with fail
  have hlk : ∀ q, (Instr.lookup 47 (.map (some m)) (.agg #[.int .u8 o, .int .u8 w, .int .i64 k0, .int .i64 k1, .int .i64 k2, .int .u64 n, .int .u8 l]) true).run Try.prog (w1.drewN q) = .ok (.tuple #[.int .i64 ((idx L ⟨o, w, k0, k1, k2, n, l⟩ : Nat) : Int), .bool true]) (w1.drewN q) := fun q => look_yes (x := ⟨o, w, k0, k1, k2, n, l⟩) (HS2.out.drewN q) hx hin
  go_quiet (fail)
  go_wp2_with fail
  exact bodyPost_ret (v := .tuple #[.int .i64 ((idx L ⟨o, w, k0, k1, k2, n, l⟩ : Nat) : Int), .int .i64 0]) (by simp [results, Try.results13, go_sem]) rfl ⟨rfl, sv, by first | exact HS2.out.drewN _ | exact (HS2.out.drewN _).drewN _, by first | exact HK2.out.drewN _ | exact (HK2.out.drewN _).drewN _, .inl rfl⟩

theorem make_full_p (o w n l : Nat) (k0 k1 k2 : Int) (B p m : Nat) (sv : Value) (L : List Nd) (W : World) (S : StoreAt B W p m sv L) (hB : B ≤ W.heap.size) (hx : Nd.Ok ⟨o, w, k0, k1, k2, n, l⟩) (hm : mayN L ⟨o, w, k0, k1, k2, n, l⟩ = true) (d2 : ((o : Int) == 2) = false) (hin : ¬ Nd.mk o w k0 k1 k2 n l ∈ L) (hlen : 200000 ≤ L.length) :
    Calls Try.prog 13 #[.pointer (some ⟨p, 0, none⟩), .agg #[.int .u8 o, .int .u8 w, .int .i64 k0, .int .i64 k1, .int .i64 k2, .int .u64 n, .int .u8 l]] W fun e W' => e = .returned (.tuple #[.int .i64 0, .int .i64 3]) ∧
      ∃ v, StoreAt B W' p m v L ∧ Kept (foot p m sv) W W' ∧ (v.ownBlock = sv.ownBlock ∨ ∃ g, W.heap.size ≤ g ∧ v.ownBlock = some g) := by
  have A := At7.new W (.int .u8 o) (.int .u8 w) (.int .i64 k0) (.int .i64 k1) (.int .i64 k2) (.int .u64 n) (.int .u8 l) 57
  have S1 := S.alloc (.cells #[.int .u8 o, .int .u8 w, .int .i64 k0, .int .i64 k1, .int .i64 k2, .int .u64 n, .int .u8 l] 57)
  have C1 := S1.c1
  have HM := Lib.hid (may_any' (x := ⟨o, w, k0, k1, k2, n, l⟩) S1 hx)
  rw [hm] at HM
  have HS := Lib.hid S1
  have HB := Lib.hid hB
  clear S1 hB hm
  go_enter Try.func13, Try.ntmps13
  go_wp2_with (first | (go_at_call 23; refine (none_made p m _ C1).mono ?_; rintro e w1 ⟨rfl, rfl⟩) | (go_at_call 24; refine HM.out.mono ?_; rintro e w1 ⟨rfl, hb⟩; have S2 := HS.out.call hb; replace A := A.keep hb; have la := A.lt; unfold At7 at A))
  have K2 := (((Kept.refl (foot p m sv) W).alloc (.cells #[.int .u8 o, .int .u8 w, .int .i64 k0, .int .i64 k1, .int .i64 k2, .int .u64 n, .int .u8 l] 57))).call hb
  have HK2 := Lib.hid K2
  have HS2 := Lib.hid S2
  have c0 := S2.c0
  have c1 := S2.c1
  clear K2 S2
  go_quiet (fail)
  go_wp2_with fail
  have hlk : ∀ q, (Instr.lookup 47 (.map (some m)) (.agg #[.int .u8 o, .int .u8 w, .int .i64 k0, .int .i64 k1, .int .i64 k2, .int .u64 n, .int .u8 l]) true).run Try.prog (w1.drewN q) = .ok (.tuple #[.int .i64 0, .bool false]) (w1.drewN q) := fun q => look_no (x := ⟨o, w, k0, k1, k2, n, l⟩) (HS2.out.drewN q) hx hin
  go_quiet (fail)
  have hsh := HS2.out.shape
  obtain ⟨a, c, hsv⟩ := hsh
  rw [hsv] at c0
  have dl : decide ((200000 : Int) ≤ (L.length : Int)) = true := decide_eq_true (by omega)
  go_wp2_with fail
  exact bodyPost_ret (v := .tuple #[.int .i64 0, .int .i64 3]) (by simp [results, Try.results13, go_sem]) rfl ⟨rfl, sv, by first | exact HS2.out.drewN _ | exact (HS2.out.drewN _).drewN _, by first | exact HK2.out.drewN _ | exact (HK2.out.drewN _).drewN _, .inl rfl⟩

theorem make_more_p (o w n l : Nat) (k0 k1 k2 : Int) (B p m : Nat) (sv : Value) (L : List Nd) (W : World) (S : StoreAt B W p m sv L) (hB : B ≤ W.heap.size) (hx : Nd.Ok ⟨o, w, k0, k1, k2, n, l⟩) (hm : mayN L ⟨o, w, k0, k1, k2, n, l⟩ = true) (d2 : ((o : Int) == 2) = false) (hin : ¬ Nd.mk o w k0 k1 k2 n l ∈ L) (hlen : L.length < 200000) (hw : Hid (¬ ((Nd.mk o w k0 k1 k2 n l).o = 2 ∧ ¬ wdOf L (Nd.mk o w k0 k1 k2 n l).n = 0 ∧ ¬ wdOf L (Nd.mk o w k0 k1 k2 n l).n = (Nd.mk o w k0 k1 k2 n l).w))) :
    Calls Try.prog 13 #[.pointer (some ⟨p, 0, none⟩), .agg #[.int .u8 o, .int .u8 w, .int .i64 k0, .int .i64 k1, .int .i64 k2, .int .u64 n, .int .u8 l]] W fun e W' => e = .returned (.tuple #[.int .i64 ((L.length : Nat) : Int), .int .i64 0]) ∧
      ∃ v, StoreAt B W' p m v (L ++ [⟨o, w, k0, k1, k2, n, l⟩]) ∧ Kept (foot p m sv) W W' ∧ (v.ownBlock = sv.ownBlock ∨ ∃ g, W.heap.size ≤ g ∧ v.ownBlock = some g) := by
  have A := At7.new W (.int .u8 o) (.int .u8 w) (.int .i64 k0) (.int .i64 k1) (.int .i64 k2) (.int .u64 n) (.int .u8 l) 57
  have S1 := S.alloc (.cells #[.int .u8 o, .int .u8 w, .int .i64 k0, .int .i64 k1, .int .i64 k2, .int .u64 n, .int .u8 l] 57)
  have C1 := S1.c1
  have HM := Lib.hid (may_any' (x := ⟨o, w, k0, k1, k2, n, l⟩) S1 hx)
  have HMAY := Lib.hid hm
  rw [hm] at HM
  have HS := Lib.hid S1
  have HB := Lib.hid hB
  clear S1 hB hm
  go_enter Try.func13, Try.ntmps13
  go_wp2_with (first | (go_at_call 23; refine (none_made p m _ C1).mono ?_; rintro e w1 ⟨rfl, rfl⟩) | (go_at_call 24; refine HM.out.mono ?_; rintro e w1 ⟨rfl, hb⟩; have S2 := HS.out.call hb; replace A := A.keep hb; have la := A.lt; unfold At7 at A))
  have K2 := (((Kept.refl (foot p m sv) W).alloc (.cells #[.int .u8 o, .int .u8 w, .int .i64 k0, .int .i64 k1, .int .i64 k2, .int .u64 n, .int .u8 l] 57))).call hb
  have HK2 := Lib.hid K2
  have HS2 := Lib.hid S2
  have c0 := S2.c0
  have c1 := S2.c1
  clear K2 S2
  go_quiet (fail)
  go_wp2_with fail
  have hlk : ∀ q, (Instr.lookup 47 (.map (some m)) (.agg #[.int .u8 o, .int .u8 w, .int .i64 k0, .int .i64 k1, .int .i64 k2, .int .u64 n, .int .u8 l]) true).run Try.prog (w1.drewN q) = .ok (.tuple #[.int .i64 0, .bool false]) (w1.drewN q) := fun q => look_no (x := ⟨o, w, k0, k1, k2, n, l⟩) (HS2.out.drewN q) hx hin
  go_quiet (fail)
  have hsh := HS2.out.shape
  obtain ⟨a, c, hsv⟩ := hsh
  rw [hsv] at c0
  have dl : decide ((200000 : Int) ≤ (L.length : Int)) = false := decide_eq_false (by omega)
  have HD := Lib.hid (fun q => add_any (x := ⟨o, w, k0, k1, k2, n, l⟩) (HS2.out.drewN q) (Nat.le_trans HB.out HK2.out.size) hx HMAY.out hin hlen (by have := hw.out; simpa using this))
  go_wp2_with (go_at_call 25; refine (HD.out _).mono ?_; rintro e w2 ⟨rfl, v, S3, K3, hloc⟩)
  exact bodyPost_ret (v := .tuple #[.int .i64 ((L.length : Nat) : Int), .int .i64 0]) (by simp [results, Try.results13, go_sem]) rfl ⟨rfl, v, S3, by first | exact (HK2.out.drewN _).thenNew K3 (fun _ _ x => x) | exact ((HK2.out.drewN _).drewN _).thenNew K3 (fun _ _ x => x), hloc.imp id (fun ⟨g, hg, e⟩ => ⟨g, Nat.le_trans HK2.out.size hg, e⟩)⟩

theorem make_there_z (w n l : Nat) (k0 k1 k2 : Int) (B p m : Nat) (sv : Value) (L : List Nd) (W : World) (S : StoreAt B W p m sv L) (hB : B ≤ W.heap.size) (hx : Nd.Ok ⟨2, w, k0, k1, k2, n, l⟩) (hm : mayN L ⟨2, w, k0, k1, k2, n, l⟩ = true) (hn2 : n < 256) (dz : (((wdOf L n : Nat) : Int) != 0) = false) (hin : Nd.mk 2 w k0 k1 k2 n l ∈ L) :
    Calls Try.prog 13 #[.pointer (some ⟨p, 0, none⟩), .agg #[.int .u8 2, .int .u8 w, .int .i64 k0, .int .i64 k1, .int .i64 k2, .int .u64 n, .int .u8 l]] W fun e W' => e = .returned (.tuple #[.int .i64 ((idx L ⟨2, w, k0, k1, k2, n, l⟩ : Nat) : Int), .int .i64 0]) ∧
      ∃ v, StoreAt B W' p m v L ∧ Kept (foot p m sv) W W' ∧ (v.ownBlock = sv.ownBlock ∨ ∃ g, W.heap.size ≤ g ∧ v.ownBlock = some g) := by
  have A := At7.new W (.int .u8 2) (.int .u8 w) (.int .i64 k0) (.int .i64 k1) (.int .i64 k2) (.int .u64 n) (.int .u8 l) 57
  have S1 := S.alloc (.cells #[.int .u8 2, .int .u8 w, .int .i64 k0, .int .i64 k1, .int .i64 k2, .int .u64 n, .int .u8 l] 57)
  have C1 := S1.c1
  have HM := Lib.hid (may_any' (x := ⟨2, w, k0, k1, k2, n, l⟩) S1 hx)
  rw [hm] at HM
  have HS := Lib.hid S1
  have HB := Lib.hid hB
  clear S1 hB hm
  go_enter Try.func13, Try.ntmps13
  go_wp2_with (first | (go_at_call 23; refine (none_made p m _ C1).mono ?_; rintro e w1 ⟨rfl, rfl⟩) | (go_at_call 24; refine HM.out.mono ?_; rintro e w1 ⟨rfl, hb⟩; have S2 := HS.out.call hb; replace A := A.keep hb; have la := A.lt; unfold At7 at A))
  have K2 := (((Kept.refl (foot p m sv) W).alloc (.cells #[.int .u8 2, .int .u8 w, .int .i64 k0, .int .i64 k1, .int .i64 k2, .int .u64 n, .int .u8 l] 57))).call hb
  have Cw := S2.cw n hn2
  have hn3 : (n : Int) < 256 := by omega
  have HK2 := Lib.hid K2
  have HS2 := Lib.hid S2
  have c0 := S2.c0
  have c1 := S2.c1
  clear K2 S2
  go_quiet (fail)
  go_wp2_with fail
  have hlk : ∀ q, (Instr.lookup 47 (.map (some m)) (.agg #[.int .u8 2, .int .u8 w, .int .i64 k0, .int .i64 k1, .int .i64 k2, .int .u64 n, .int .u8 l]) true).run Try.prog (w1.drewN q) = .ok (.tuple #[.int .i64 ((idx L ⟨2, w, k0, k1, k2, n, l⟩ : Nat) : Int), .bool true]) (w1.drewN q) := fun q => look_yes (x := ⟨2, w, k0, k1, k2, n, l⟩) (HS2.out.drewN q) hx hin
  go_quiet (fail)
  go_wp2_with fail
  exact bodyPost_ret (v := .tuple #[.int .i64 ((idx L ⟨2, w, k0, k1, k2, n, l⟩ : Nat) : Int), .int .i64 0]) (by simp [results, Try.results13, go_sem]) rfl ⟨rfl, sv, by first | exact HS2.out.drewN _ | exact (HS2.out.drewN _).drewN _, by first | exact HK2.out.drewN _ | exact (HK2.out.drewN _).drewN _, .inl rfl⟩

theorem make_full_z (w n l : Nat) (k0 k1 k2 : Int) (B p m : Nat) (sv : Value) (L : List Nd) (W : World) (S : StoreAt B W p m sv L) (hB : B ≤ W.heap.size) (hx : Nd.Ok ⟨2, w, k0, k1, k2, n, l⟩) (hm : mayN L ⟨2, w, k0, k1, k2, n, l⟩ = true) (hn2 : n < 256) (dz : (((wdOf L n : Nat) : Int) != 0) = false) (hin : ¬ Nd.mk 2 w k0 k1 k2 n l ∈ L) (hlen : 200000 ≤ L.length) :
    Calls Try.prog 13 #[.pointer (some ⟨p, 0, none⟩), .agg #[.int .u8 2, .int .u8 w, .int .i64 k0, .int .i64 k1, .int .i64 k2, .int .u64 n, .int .u8 l]] W fun e W' => e = .returned (.tuple #[.int .i64 0, .int .i64 3]) ∧
      ∃ v, StoreAt B W' p m v L ∧ Kept (foot p m sv) W W' ∧ (v.ownBlock = sv.ownBlock ∨ ∃ g, W.heap.size ≤ g ∧ v.ownBlock = some g) := by
  have A := At7.new W (.int .u8 2) (.int .u8 w) (.int .i64 k0) (.int .i64 k1) (.int .i64 k2) (.int .u64 n) (.int .u8 l) 57
  have S1 := S.alloc (.cells #[.int .u8 2, .int .u8 w, .int .i64 k0, .int .i64 k1, .int .i64 k2, .int .u64 n, .int .u8 l] 57)
  have C1 := S1.c1
  have HM := Lib.hid (may_any' (x := ⟨2, w, k0, k1, k2, n, l⟩) S1 hx)
  rw [hm] at HM
  have HS := Lib.hid S1
  have HB := Lib.hid hB
  clear S1 hB hm
  go_enter Try.func13, Try.ntmps13
  go_wp2_with (first | (go_at_call 23; refine (none_made p m _ C1).mono ?_; rintro e w1 ⟨rfl, rfl⟩) | (go_at_call 24; refine HM.out.mono ?_; rintro e w1 ⟨rfl, hb⟩; have S2 := HS.out.call hb; replace A := A.keep hb; have la := A.lt; unfold At7 at A))
  have K2 := (((Kept.refl (foot p m sv) W).alloc (.cells #[.int .u8 2, .int .u8 w, .int .i64 k0, .int .i64 k1, .int .i64 k2, .int .u64 n, .int .u8 l] 57))).call hb
  have Cw := S2.cw n hn2
  have hn3 : (n : Int) < 256 := by omega
  have HK2 := Lib.hid K2
  have HS2 := Lib.hid S2
  have c0 := S2.c0
  have c1 := S2.c1
  clear K2 S2
  go_quiet (fail)
  go_wp2_with fail
  have hlk : ∀ q, (Instr.lookup 47 (.map (some m)) (.agg #[.int .u8 2, .int .u8 w, .int .i64 k0, .int .i64 k1, .int .i64 k2, .int .u64 n, .int .u8 l]) true).run Try.prog (w1.drewN q) = .ok (.tuple #[.int .i64 0, .bool false]) (w1.drewN q) := fun q => look_no (x := ⟨2, w, k0, k1, k2, n, l⟩) (HS2.out.drewN q) hx hin
  go_quiet (fail)
  have hsh := HS2.out.shape
  obtain ⟨a, c, hsv⟩ := hsh
  rw [hsv] at c0
  have dl : decide ((200000 : Int) ≤ (L.length : Int)) = true := decide_eq_true (by omega)
  go_wp2_with fail
  exact bodyPost_ret (v := .tuple #[.int .i64 0, .int .i64 3]) (by simp [results, Try.results13, go_sem]) rfl ⟨rfl, sv, by first | exact HS2.out.drewN _ | exact (HS2.out.drewN _).drewN _, by first | exact HK2.out.drewN _ | exact (HK2.out.drewN _).drewN _, .inl rfl⟩

theorem make_more_z (w n l : Nat) (k0 k1 k2 : Int) (B p m : Nat) (sv : Value) (L : List Nd) (W : World) (S : StoreAt B W p m sv L) (hB : B ≤ W.heap.size) (hx : Nd.Ok ⟨2, w, k0, k1, k2, n, l⟩) (hm : mayN L ⟨2, w, k0, k1, k2, n, l⟩ = true) (hn2 : n < 256) (dz : (((wdOf L n : Nat) : Int) != 0) = false) (hin : ¬ Nd.mk 2 w k0 k1 k2 n l ∈ L) (hlen : L.length < 200000) (hw : Hid (¬ ((Nd.mk 2 w k0 k1 k2 n l).o = 2 ∧ ¬ wdOf L (Nd.mk 2 w k0 k1 k2 n l).n = 0 ∧ ¬ wdOf L (Nd.mk 2 w k0 k1 k2 n l).n = (Nd.mk 2 w k0 k1 k2 n l).w))) :
    Calls Try.prog 13 #[.pointer (some ⟨p, 0, none⟩), .agg #[.int .u8 2, .int .u8 w, .int .i64 k0, .int .i64 k1, .int .i64 k2, .int .u64 n, .int .u8 l]] W fun e W' => e = .returned (.tuple #[.int .i64 ((L.length : Nat) : Int), .int .i64 0]) ∧
      ∃ v, StoreAt B W' p m v (L ++ [⟨2, w, k0, k1, k2, n, l⟩]) ∧ Kept (foot p m sv) W W' ∧ (v.ownBlock = sv.ownBlock ∨ ∃ g, W.heap.size ≤ g ∧ v.ownBlock = some g) := by
  have A := At7.new W (.int .u8 2) (.int .u8 w) (.int .i64 k0) (.int .i64 k1) (.int .i64 k2) (.int .u64 n) (.int .u8 l) 57
  have S1 := S.alloc (.cells #[.int .u8 2, .int .u8 w, .int .i64 k0, .int .i64 k1, .int .i64 k2, .int .u64 n, .int .u8 l] 57)
  have C1 := S1.c1
  have HM := Lib.hid (may_any' (x := ⟨2, w, k0, k1, k2, n, l⟩) S1 hx)
  have HMAY := Lib.hid hm
  rw [hm] at HM
  have HS := Lib.hid S1
  have HB := Lib.hid hB
  clear S1 hB hm
  go_enter Try.func13, Try.ntmps13
  go_wp2_with (first | (go_at_call 23; refine (none_made p m _ C1).mono ?_; rintro e w1 ⟨rfl, rfl⟩) | (go_at_call 24; refine HM.out.mono ?_; rintro e w1 ⟨rfl, hb⟩; have S2 := HS.out.call hb; replace A := A.keep hb; have la := A.lt; unfold At7 at A))
  have K2 := (((Kept.refl (foot p m sv) W).alloc (.cells #[.int .u8 2, .int .u8 w, .int .i64 k0, .int .i64 k1, .int .i64 k2, .int .u64 n, .int .u8 l] 57))).call hb
  have Cw := S2.cw n hn2
  have hn3 : (n : Int) < 256 := by omega
  have HK2 := Lib.hid K2
  have HS2 := Lib.hid S2
  have c0 := S2.c0
  have c1 := S2.c1
  clear K2 S2
  go_quiet (fail)
  go_wp2_with fail
  have hlk : ∀ q, (Instr.lookup 47 (.map (some m)) (.agg #[.int .u8 2, .int .u8 w, .int .i64 k0, .int .i64 k1, .int .i64 k2, .int .u64 n, .int .u8 l]) true).run Try.prog (w1.drewN q) = .ok (.tuple #[.int .i64 0, .bool false]) (w1.drewN q) := fun q => look_no (x := ⟨2, w, k0, k1, k2, n, l⟩) (HS2.out.drewN q) hx hin
  go_quiet (fail)
  have hsh := HS2.out.shape
  obtain ⟨a, c, hsv⟩ := hsh
  rw [hsv] at c0
  have dl : decide ((200000 : Int) ≤ (L.length : Int)) = false := decide_eq_false (by omega)
  have HD := Lib.hid (fun q => add_any (x := ⟨2, w, k0, k1, k2, n, l⟩) (HS2.out.drewN q) (Nat.le_trans HB.out HK2.out.size) hx HMAY.out hin hlen (by have := hw.out; simpa using this))
  go_wp2_with (go_at_call 25; refine (HD.out _).mono ?_; rintro e w2 ⟨rfl, v, S3, K3, hloc⟩)
  exact bodyPost_ret (v := .tuple #[.int .i64 ((L.length : Nat) : Int), .int .i64 0]) (by simp [results, Try.results13, go_sem]) rfl ⟨rfl, v, S3, by first | exact (HK2.out.drewN _).thenNew K3 (fun _ _ x => x) | exact ((HK2.out.drewN _).drewN _).thenNew K3 (fun _ _ x => x), hloc.imp id (fun ⟨g, hg, e⟩ => ⟨g, Nat.le_trans HK2.out.size hg, e⟩)⟩

theorem make_there_s (w n l : Nat) (k0 k1 k2 : Int) (B p m : Nat) (sv : Value) (L : List Nd) (W : World) (S : StoreAt B W p m sv L) (hB : B ≤ W.heap.size) (hx : Nd.Ok ⟨2, w, k0, k1, k2, n, l⟩) (hm : mayN L ⟨2, w, k0, k1, k2, n, l⟩ = true) (hn2 : n < 256) (dz : (((wdOf L n : Nat) : Int) != 0) = true) (ds : (((wdOf L n : Nat) : Int) != ((w : Nat) : Int)) = false) (hin : Nd.mk 2 w k0 k1 k2 n l ∈ L) :
    Calls Try.prog 13 #[.pointer (some ⟨p, 0, none⟩), .agg #[.int .u8 2, .int .u8 w, .int .i64 k0, .int .i64 k1, .int .i64 k2, .int .u64 n, .int .u8 l]] W fun e W' => e = .returned (.tuple #[.int .i64 ((idx L ⟨2, w, k0, k1, k2, n, l⟩ : Nat) : Int), .int .i64 0]) ∧
      ∃ v, StoreAt B W' p m v L ∧ Kept (foot p m sv) W W' ∧ (v.ownBlock = sv.ownBlock ∨ ∃ g, W.heap.size ≤ g ∧ v.ownBlock = some g) := by
  have A := At7.new W (.int .u8 2) (.int .u8 w) (.int .i64 k0) (.int .i64 k1) (.int .i64 k2) (.int .u64 n) (.int .u8 l) 57
  have S1 := S.alloc (.cells #[.int .u8 2, .int .u8 w, .int .i64 k0, .int .i64 k1, .int .i64 k2, .int .u64 n, .int .u8 l] 57)
  have C1 := S1.c1
  have HM := Lib.hid (may_any' (x := ⟨2, w, k0, k1, k2, n, l⟩) S1 hx)
  rw [hm] at HM
  have HS := Lib.hid S1
  have HB := Lib.hid hB
  clear S1 hB hm
  go_enter Try.func13, Try.ntmps13
  go_wp2_with (first | (go_at_call 23; refine (none_made p m _ C1).mono ?_; rintro e w1 ⟨rfl, rfl⟩) | (go_at_call 24; refine HM.out.mono ?_; rintro e w1 ⟨rfl, hb⟩; have S2 := HS.out.call hb; replace A := A.keep hb; have la := A.lt; unfold At7 at A))
  have K2 := (((Kept.refl (foot p m sv) W).alloc (.cells #[.int .u8 2, .int .u8 w, .int .i64 k0, .int .i64 k1, .int .i64 k2, .int .u64 n, .int .u8 l] 57))).call hb
  have Cw := S2.cw n hn2
  have hn3 : (n : Int) < 256 := by omega
  have HK2 := Lib.hid K2
  have HS2 := Lib.hid S2
  have c0 := S2.c0
  have c1 := S2.c1
  clear K2 S2
  go_quiet (fail)
  go_wp2_with fail
  have hlk : ∀ q, (Instr.lookup 47 (.map (some m)) (.agg #[.int .u8 2, .int .u8 w, .int .i64 k0, .int .i64 k1, .int .i64 k2, .int .u64 n, .int .u8 l]) true).run Try.prog (w1.drewN q) = .ok (.tuple #[.int .i64 ((idx L ⟨2, w, k0, k1, k2, n, l⟩ : Nat) : Int), .bool true]) (w1.drewN q) := fun q => look_yes (x := ⟨2, w, k0, k1, k2, n, l⟩) (HS2.out.drewN q) hx hin
  go_quiet (fail)
  go_wp2_with fail
  exact bodyPost_ret (v := .tuple #[.int .i64 ((idx L ⟨2, w, k0, k1, k2, n, l⟩ : Nat) : Int), .int .i64 0]) (by simp [results, Try.results13, go_sem]) rfl ⟨rfl, sv, by first | exact HS2.out.drewN _ | exact (HS2.out.drewN _).drewN _, by first | exact HK2.out.drewN _ | exact (HK2.out.drewN _).drewN _, .inl rfl⟩

theorem make_full_s (w n l : Nat) (k0 k1 k2 : Int) (B p m : Nat) (sv : Value) (L : List Nd) (W : World) (S : StoreAt B W p m sv L) (hB : B ≤ W.heap.size) (hx : Nd.Ok ⟨2, w, k0, k1, k2, n, l⟩) (hm : mayN L ⟨2, w, k0, k1, k2, n, l⟩ = true) (hn2 : n < 256) (dz : (((wdOf L n : Nat) : Int) != 0) = true) (ds : (((wdOf L n : Nat) : Int) != ((w : Nat) : Int)) = false) (hin : ¬ Nd.mk 2 w k0 k1 k2 n l ∈ L) (hlen : 200000 ≤ L.length) :
    Calls Try.prog 13 #[.pointer (some ⟨p, 0, none⟩), .agg #[.int .u8 2, .int .u8 w, .int .i64 k0, .int .i64 k1, .int .i64 k2, .int .u64 n, .int .u8 l]] W fun e W' => e = .returned (.tuple #[.int .i64 0, .int .i64 3]) ∧
      ∃ v, StoreAt B W' p m v L ∧ Kept (foot p m sv) W W' ∧ (v.ownBlock = sv.ownBlock ∨ ∃ g, W.heap.size ≤ g ∧ v.ownBlock = some g) := by
  have A := At7.new W (.int .u8 2) (.int .u8 w) (.int .i64 k0) (.int .i64 k1) (.int .i64 k2) (.int .u64 n) (.int .u8 l) 57
  have S1 := S.alloc (.cells #[.int .u8 2, .int .u8 w, .int .i64 k0, .int .i64 k1, .int .i64 k2, .int .u64 n, .int .u8 l] 57)
  have C1 := S1.c1
  have HM := Lib.hid (may_any' (x := ⟨2, w, k0, k1, k2, n, l⟩) S1 hx)
  rw [hm] at HM
  have HS := Lib.hid S1
  have HB := Lib.hid hB
  clear S1 hB hm
  go_enter Try.func13, Try.ntmps13
  go_wp2_with (first | (go_at_call 23; refine (none_made p m _ C1).mono ?_; rintro e w1 ⟨rfl, rfl⟩) | (go_at_call 24; refine HM.out.mono ?_; rintro e w1 ⟨rfl, hb⟩; have S2 := HS.out.call hb; replace A := A.keep hb; have la := A.lt; unfold At7 at A))
  have K2 := (((Kept.refl (foot p m sv) W).alloc (.cells #[.int .u8 2, .int .u8 w, .int .i64 k0, .int .i64 k1, .int .i64 k2, .int .u64 n, .int .u8 l] 57))).call hb
  have Cw := S2.cw n hn2
  have hn3 : (n : Int) < 256 := by omega
  have HK2 := Lib.hid K2
  have HS2 := Lib.hid S2
  have c0 := S2.c0
  have c1 := S2.c1
  clear K2 S2
  go_quiet (fail)
  go_wp2_with fail
  have hlk : ∀ q, (Instr.lookup 47 (.map (some m)) (.agg #[.int .u8 2, .int .u8 w, .int .i64 k0, .int .i64 k1, .int .i64 k2, .int .u64 n, .int .u8 l]) true).run Try.prog (w1.drewN q) = .ok (.tuple #[.int .i64 0, .bool false]) (w1.drewN q) := fun q => look_no (x := ⟨2, w, k0, k1, k2, n, l⟩) (HS2.out.drewN q) hx hin
  go_quiet (fail)
  have hsh := HS2.out.shape
  obtain ⟨a, c, hsv⟩ := hsh
  rw [hsv] at c0
  have dl : decide ((200000 : Int) ≤ (L.length : Int)) = true := decide_eq_true (by omega)
  go_wp2_with fail
  exact bodyPost_ret (v := .tuple #[.int .i64 0, .int .i64 3]) (by simp [results, Try.results13, go_sem]) rfl ⟨rfl, sv, by first | exact HS2.out.drewN _ | exact (HS2.out.drewN _).drewN _, by first | exact HK2.out.drewN _ | exact (HK2.out.drewN _).drewN _, .inl rfl⟩

theorem make_more_s (w n l : Nat) (k0 k1 k2 : Int) (B p m : Nat) (sv : Value) (L : List Nd) (W : World) (S : StoreAt B W p m sv L) (hB : B ≤ W.heap.size) (hx : Nd.Ok ⟨2, w, k0, k1, k2, n, l⟩) (hm : mayN L ⟨2, w, k0, k1, k2, n, l⟩ = true) (hn2 : n < 256) (dz : (((wdOf L n : Nat) : Int) != 0) = true) (ds : (((wdOf L n : Nat) : Int) != ((w : Nat) : Int)) = false) (hin : ¬ Nd.mk 2 w k0 k1 k2 n l ∈ L) (hlen : L.length < 200000) (hw : Hid (¬ ((Nd.mk 2 w k0 k1 k2 n l).o = 2 ∧ ¬ wdOf L (Nd.mk 2 w k0 k1 k2 n l).n = 0 ∧ ¬ wdOf L (Nd.mk 2 w k0 k1 k2 n l).n = (Nd.mk 2 w k0 k1 k2 n l).w))) :
    Calls Try.prog 13 #[.pointer (some ⟨p, 0, none⟩), .agg #[.int .u8 2, .int .u8 w, .int .i64 k0, .int .i64 k1, .int .i64 k2, .int .u64 n, .int .u8 l]] W fun e W' => e = .returned (.tuple #[.int .i64 ((L.length : Nat) : Int), .int .i64 0]) ∧
      ∃ v, StoreAt B W' p m v (L ++ [⟨2, w, k0, k1, k2, n, l⟩]) ∧ Kept (foot p m sv) W W' ∧ (v.ownBlock = sv.ownBlock ∨ ∃ g, W.heap.size ≤ g ∧ v.ownBlock = some g) := by
  have A := At7.new W (.int .u8 2) (.int .u8 w) (.int .i64 k0) (.int .i64 k1) (.int .i64 k2) (.int .u64 n) (.int .u8 l) 57
  have S1 := S.alloc (.cells #[.int .u8 2, .int .u8 w, .int .i64 k0, .int .i64 k1, .int .i64 k2, .int .u64 n, .int .u8 l] 57)
  have C1 := S1.c1
  have HM := Lib.hid (may_any' (x := ⟨2, w, k0, k1, k2, n, l⟩) S1 hx)
  have HMAY := Lib.hid hm
  rw [hm] at HM
  have HS := Lib.hid S1
  have HB := Lib.hid hB
  clear S1 hB hm
  go_enter Try.func13, Try.ntmps13
  go_wp2_with (first | (go_at_call 23; refine (none_made p m _ C1).mono ?_; rintro e w1 ⟨rfl, rfl⟩) | (go_at_call 24; refine HM.out.mono ?_; rintro e w1 ⟨rfl, hb⟩; have S2 := HS.out.call hb; replace A := A.keep hb; have la := A.lt; unfold At7 at A))
  have K2 := (((Kept.refl (foot p m sv) W).alloc (.cells #[.int .u8 2, .int .u8 w, .int .i64 k0, .int .i64 k1, .int .i64 k2, .int .u64 n, .int .u8 l] 57))).call hb
  have Cw := S2.cw n hn2
  have hn3 : (n : Int) < 256 := by omega
  have HK2 := Lib.hid K2
  have HS2 := Lib.hid S2
  have c0 := S2.c0
  have c1 := S2.c1
  clear K2 S2
  go_quiet (fail)
  go_wp2_with fail
  have hlk : ∀ q, (Instr.lookup 47 (.map (some m)) (.agg #[.int .u8 2, .int .u8 w, .int .i64 k0, .int .i64 k1, .int .i64 k2, .int .u64 n, .int .u8 l]) true).run Try.prog (w1.drewN q) = .ok (.tuple #[.int .i64 0, .bool false]) (w1.drewN q) := fun q => look_no (x := ⟨2, w, k0, k1, k2, n, l⟩) (HS2.out.drewN q) hx hin
  go_quiet (fail)
  have hsh := HS2.out.shape
  obtain ⟨a, c, hsv⟩ := hsh
  rw [hsv] at c0
  have dl : decide ((200000 : Int) ≤ (L.length : Int)) = false := decide_eq_false (by omega)
  have HD := Lib.hid (fun q => add_any (x := ⟨2, w, k0, k1, k2, n, l⟩) (HS2.out.drewN q) (Nat.le_trans HB.out HK2.out.size) hx HMAY.out hin hlen (by have := hw.out; simpa using this))
  go_wp2_with (go_at_call 25; refine (HD.out _).mono ?_; rintro e w2 ⟨rfl, v, S3, K3, hloc⟩)
  exact bodyPost_ret (v := .tuple #[.int .i64 ((L.length : Nat) : Int), .int .i64 0]) (by simp [results, Try.results13, go_sem]) rfl ⟨rfl, v, S3, by first | exact (HK2.out.drewN _).thenNew K3 (fun _ _ x => x) | exact ((HK2.out.drewN _).drewN _).thenNew K3 (fun _ _ x => x), hloc.imp id (fun ⟨g, hg, e⟩ => ⟨g, Nat.le_trans HK2.out.size hg, e⟩)⟩

/-- Make, for every node. -/
theorem make_any {B p m : Nat} {sv : Value} {L : List Nd} {x : Nd} {W : World} (S : StoreAt B W p m sv L) (hB : B ≤ W.heap.size) (hx : x.Ok) :
    Calls Try.prog 13 #[.pointer (some ⟨p, 0, none⟩), x.val] W fun e W' => e = .returned (.tuple #[.int .i64 (((mk L x).2.1 : Nat) : Int), .int .i64 (((mk L x).2.2 : Nat) : Int)]) ∧
      ∃ v, StoreAt B W' p m v (mk L x).1 ∧ Kept (foot p m sv) W W' ∧ (v.ownBlock = sv.ownBlock ∨ ∃ g, W.heap.size ≤ g ∧ v.ownBlock = some g) := by
  cases hm : mayN L x
  · rw [show mk L x = (L, 0, 2) by unfold mk; rw [if_pos hm]]
    obtain ⟨o, w, k0, k1, k2, n, l⟩ := x
    exact make_bad o w n l k0 k1 k2 B p m sv L W S hB hx hm
  have hv := fun h => mayN_var hm h
  by_cases ht : x.o = 2 ∧ ¬ wdOf L x.n = 0 ∧ ¬ wdOf L x.n = x.w
  · rw [show mk L x = (L, 0, 7) by unfold mk; rw [if_neg (by simp [hm]), if_pos ht]]
    obtain ⟨o, w, k0, k1, k2, n, l⟩ := x
    obtain ⟨h1, h2, h3⟩ := ht
    simp only at h1 h2 h3 hv
    subst h1
    exact make_twice w n l k0 k1 k2 B p m sv L W S hB hx hm (hv rfl) (by simp; omega) (by simp; omega)
  have key : ∀ (P : List Nd × Nat × Nat → Prop), (∀ (h : x ∈ L), P (L, idx L x, 0)) → (∀ (h : ¬ x ∈ L) (hl : 200000 ≤ L.length), P (L, 0, 3)) → (∀ (h : ¬ x ∈ L) (hl : L.length < 200000), P (L ++ [x], L.length, 0)) → P (mk L x) := by
    intro P h1 h2 h3
    unfold mk
    rw [if_neg (by simp [hm]), if_neg ht]
    by_cases hin : x ∈ L
    · rw [if_pos hin]; exact h1 hin
    · rw [if_neg hin]
      by_cases hl : 200000 ≤ L.length
      · rw [if_pos hl]; exact h2 hin hl
      · rw [if_neg hl]; exact h3 hin (by omega)
  refine key (fun q => Calls Try.prog 13 #[.pointer (some ⟨p, 0, none⟩), x.val] W fun e W' => e = .returned (.tuple #[.int .i64 ((q.2.1 : Nat) : Int), .int .i64 ((q.2.2 : Nat) : Int)]) ∧
      ∃ v, StoreAt B W' p m v q.1 ∧ Kept (foot p m sv) W W' ∧ (v.ownBlock = sv.ownBlock ∨ ∃ g, W.heap.size ≤ g ∧ v.ownBlock = some g)) ?_ ?_ ?_
  all_goals intro hin
  case refine_1 =>
    obtain ⟨o, w, k0, k1, k2, n, l⟩ := x
    simp only at ht hv
    by_cases ho : o = 2
    · subst ho
      by_cases hz : wdOf L n = 0
      · exact make_there_z w n l k0 k1 k2 B p m sv L W S hB hx hm (hv rfl) (by simp; omega) hin
      · exact make_there_s w n l k0 k1 k2 B p m sv L W S hB hx hm (hv rfl) (by simp; omega) (by simp; by_cases e : wdOf L n = w; omega; exact absurd ⟨rfl, hz, e⟩ ht) hin
    · exact make_there_p o w n l k0 k1 k2 B p m sv L W S hB hx hm (by simp; omega) hin
  all_goals intro hl
  case refine_2 =>
    obtain ⟨o, w, k0, k1, k2, n, l⟩ := x
    simp only at ht hv
    by_cases ho : o = 2
    · subst ho
      by_cases hz : wdOf L n = 0
      · exact make_full_z w n l k0 k1 k2 B p m sv L W S hB hx hm (hv rfl) (by simp; omega) hin hl
      · exact make_full_s w n l k0 k1 k2 B p m sv L W S hB hx hm (hv rfl) (by simp; omega) (by simp; by_cases e : wdOf L n = w; omega; exact absurd ⟨rfl, hz, e⟩ ht) hin hl
    · exact make_full_p o w n l k0 k1 k2 B p m sv L W S hB hx hm (by simp; omega) hin hl
  case refine_3 =>
    have ht' := ht
    obtain ⟨o, w, k0, k1, k2, n, l⟩ := x
    simp only at ht hv
    by_cases ho : o = 2
    · subst ho
      by_cases hz : wdOf L n = 0
      · exact make_more_z w n l k0 k1 k2 B p m sv L W S hB hx hm (hv rfl) (by simp; omega) hin hl ht'
      · exact make_more_s w n l k0 k1 k2 B p m sv L W S hB hx hm (hv rfl) (by simp; omega) (by simp; by_cases e : wdOf L n = w; omega; exact absurd ⟨rfl, hz, e⟩ ht) hin hl ht'
    · exact make_more_p o w n l k0 k1 k2 B p m sv L W S hB hx hm (by simp; omega) hin hl ht'
end Tm
end Go.Proofs.Ytigjbngedbbdbaa

namespace Go.Proofs.Ytigjbngedbbdbaa
open Go.RowKit Go.Maps Bv
namespace Tm
set_option maxHeartbeats 1000000
set_option maxRecDepth 100000

/-- A width as a node has it. -/
def nar (w : Int) : Nat := if 0 ≤ w ∧ w ≤ 255 then w.toNat else 0
theorem nar_le (w : Int) : nar w ≤ 255 := by unfold nar; split <;> omega
def cnd (w : Int) (n : Nat) : Nd := ⟨1, nar w, 0, 0, 0, n, 0⟩
def u64 (n : Int) : Nat := (IntKind.u64.wrap n).toNat
theorem u64_is (n : Int) : ((u64 n : Nat) : Int) = IntKind.u64.wrap n := by
  unfold u64
  rw [IntKind.wrap_u64]
  omega
theorem u64_lt (n : Int) : u64 n < 18446744073709551616 := by
  unfold u64
  rw [IntKind.wrap_u64]
  omega
def vnd (w : Int) (n : Int) : Nd := ⟨2, nar w, 0, 0, 0, u64 n, 0⟩
theorem i64_0 : I64 0 := by unfold I64; omega
theorem cnd_ok (w : Int) {n : Nat} (h : n < 18446744073709551616) : (cnd w n).Ok := ⟨by simp [cnd], nar_le w, i64_0, i64_0, i64_0, h, by simp [cnd]⟩
theorem vnd_ok (w n : Int) : (vnd w n).Ok := ⟨by simp [vnd], nar_le w, i64_0, i64_0, i64_0, u64_lt n, by simp [vnd]⟩

/-- What a call of Make, Const, Var has done. -/
def Made (B : Nat) (p m : Nat) (sv : Value) (L : List Nd) (x : Nd) (W : World) (e : Ending) (W' : World) : Prop :=
  e = .returned (.tuple #[.int .i64 (((mk L x).2.1 : Nat) : Int), .int .i64 (((mk L x).2.2 : Nat) : Int)]) ∧
      ∃ v, StoreAt B W' p m v (mk L x).1 ∧ Kept (foot p m sv) W W' ∧ (v.ownBlock = sv.ownBlock ∨ ∃ g, W.heap.size ≤ g ∧ v.ownBlock = some g)

theorem node_yes {B p m k : Nat} {sv : Value} {L : List Nd} {x : Nd} {W : World} (S : StoreAt B W p m sv L) (hx : L[k]? = some x) :
    Calls Try.prog 15 #[.pointer (some ⟨p, 0, none⟩), .int .i64 ((k : Nat) : Int)] W fun e W' => e = .returned (.tuple #[x.val, .int .i64 0]) ∧ Below W.heap.size W W' := by
  have hlt := (List.getElem?_eq_some_iff.1 hx).1
  obtain ⟨g, c, rfl, hc⟩ := S.shapeAt hx
  have S1 := S.alloc (.cells #[.int .u8 0, .int .u8 0, .int .i64 0, .int .i64 0, .int .i64 0, .int .u64 0, .int .u8 0] 57)
  have hi : inB L ((k : Nat) : Int) = true := by simp [inB]; omega
  have c1 := S1.c1
  have c0 := S1.c0
  have lg : g < W.heap.size := by
    have := hc 0 _ rfl
    exact World.block_lt_of_cell? W _ this
  have hk1 : ((k : Nat) : Int) < ((L.length : Nat) : Int) := by omega
  have f0 : W.cell? ⟨g, k * 7, none⟩ = some (.int .u8 ((x.o : Nat) : Int)) := hc 0 _ rfl
  have f1 := hc 1 _ rfl
  have f2 := hc 2 _ rfl
  have f3 := hc 3 _ rfl
  have f4 := hc 4 _ rfl
  have f5 := hc 5 _ rfl
  have f6 := hc 6 _ rfl
  have HI := Lib.hid hi
  clear S S1 hc hx hi
  go_enter Try.func15, Try.ntmps15
  go_wp2_with (first | (go_at_call 23; refine (none_made p m _ c1).mono ?_; rintro e w' ⟨rfl, rfl⟩) | (go_at_call 28; refine (has_any p _ L c _ _ c0).mono ?_; rw [HI.out]; rintro e w' ⟨rfl, rfl⟩))
  exact bodyPost_ret (v := .tuple #[x.val, .int .i64 0]) (by simp [results, Try.results15, go_sem, Nd.val]) rfl ⟨rfl, by repeat (first | exact Below.refl _ _ | (refine Below.setCell ?_ (by simp; try omega) _) | (refine bel_alloc ?_ _) | (refine Below.drew ?_))⟩

theorem node_no {B p m : Nat} {k : Int} {sv : Value} {L : List Nd} {W : World} (S : StoreAt B W p m sv L) (hi : inB L k = false) :
    Calls Try.prog 15 #[.pointer (some ⟨p, 0, none⟩), .int .i64 k] W fun e W' => e = .returned (.tuple #[.agg #[.int .u8 0, .int .u8 0, .int .i64 0, .int .i64 0, .int .i64 0, .int .u64 0, .int .u8 0], .int .i64 2]) ∧ Below W.heap.size W W' := by
  have S1 := S.alloc (.cells #[.int .u8 0, .int .u8 0, .int .i64 0, .int .i64 0, .int .i64 0, .int .u64 0, .int .u8 0] 57)
  obtain ⟨a, c, rfl⟩ := S.shape
  have c1 := S1.c1
  have c0 := S1.c0
  have HI := Lib.hid hi
  clear S S1 hi
  go_enter Try.func15, Try.ntmps15
  go_wp2_with (first | (go_at_call 23; refine (none_made p m _ c1).mono ?_; rintro e w' ⟨rfl, rfl⟩) | (go_at_call 28; refine (has_any p _ L c _ _ c0).mono ?_; rw [HI.out]; rintro e w' ⟨rfl, rfl⟩))
  exact bodyPost_ret (v := .tuple #[.agg #[.int .u8 0, .int .u8 0, .int .i64 0, .int .i64 0, .int .i64 0, .int .u64 0, .int .u8 0], .int .i64 2]) (by simp [results, Try.results15, go_sem]) rfl ⟨rfl, by repeat (first | exact Below.refl _ _ | (refine Below.setCell ?_ (by simp; try omega) _) | (refine bel_alloc ?_ _) | (refine Below.drew ?_))⟩

/-! ### none, and a zero one -/
/-- The value leads to no store that a call made. -/
def NoneAt (w : World) (ptr : Value) : Prop := ptr = .pointer none ∨ ∃ p, ptr = .pointer (some ⟨p, 0, none⟩) ∧ w.cell? ⟨p, 1, none⟩ = some (.map none)
theorem NoneAt.keep {w w' : World} {ptr : Value} (h : NoneAt w ptr) (k : Below w.heap.size w w') : NoneAt w' ptr := by
  rcases h with h | ⟨p, h, hc⟩
  · exact .inl h
  · exact .inr ⟨p, h, (k.cell (p := ⟨p, 1, none⟩) (World.block_lt_of_cell? w _ hc)).trans hc⟩
theorem NoneAt.alloc {w : World} {ptr : Value} (h : NoneAt w ptr) (o : Obj) : NoneAt (w.alloc o) ptr := h.keep (bel_alloc (Below.refl _ _) o)
theorem isNone_any {w : World} {ptr : Value} (h : NoneAt w ptr) : Calls Try.prog 23 #[ptr] w fun e W' => e = .returned (.bool true) ∧ w = W' := by
  rcases h with h | ⟨p, h, hc⟩
  · subst h; exact none_nil w
  · subst h; exact none_zero p w hc

theorem make_none (ptr : Value) (x : Nd) (W : World) (h : NoneAt W ptr) :
    Calls Try.prog 13 #[ptr, x.val] W fun e W' => e = .returned (.tuple #[.int .i64 0, .int .i64 1]) ∧ Below W.heap.size W W' := by
  have HN := Lib.hid (h.alloc (.cells x.cells 57))
  clear h
  obtain ⟨o, w, k0, k1, k2, n, l⟩ := x
  unfold Nd.val
  unfold Nd.cells at HN
  go_enter Try.func13, Try.ntmps13
  go_wp2_with (go_at_call 23; refine (isNone_any HN.out).mono ?_; rintro e w' ⟨rfl, rfl⟩)
  exact bodyPost_ret (v := .tuple #[.int .i64 0, .int .i64 1]) (by simp [results, Try.results13, go_sem]) rfl ⟨rfl, bel_alloc (Below.refl _ _) _⟩

theorem node_none (ptr : Value) (k : Int) (W : World) (h : NoneAt W ptr) :
    Calls Try.prog 15 #[ptr, .int .i64 k] W fun e W' => e = .returned (.tuple #[.agg #[.int .u8 0, .int .u8 0, .int .i64 0, .int .i64 0, .int .i64 0, .int .u64 0, .int .u8 0], .int .i64 1]) ∧ Below W.heap.size W W' := by
  have HN := Lib.hid (h.alloc (.cells #[.int .u8 0, .int .u8 0, .int .i64 0, .int .i64 0, .int .i64 0, .int .u64 0, .int .u8 0] 57))
  clear h
  go_enter Try.func15, Try.ntmps15
  go_wp2_with (go_at_call 23; refine (isNone_any HN.out).mono ?_; rintro e w' ⟨rfl, rfl⟩)
  exact bodyPost_ret (v := .tuple #[.agg #[.int .u8 0, .int .u8 0, .int .i64 0, .int .i64 0, .int .i64 0, .int .u64 0, .int .u8 0], .int .i64 1]) (by simp [results, Try.results15, go_sem]) rfl ⟨rfl, by repeat (first | exact Below.refl _ _ | (refine Below.setCell ?_ (by simp; try omega) _) | (refine bel_alloc ?_ _) | (refine Below.drew ?_))⟩

end Tm
end Go.Proofs.Ytigjbngedbbdbaa

namespace Go.Proofs.Ytigjbngedbbdbaa
open Go.RowKit Go.Maps Bv
namespace Tm
set_option maxHeartbeats 1000000
set_option maxRecDepth 100000

def todoRow (T : List Nat) : List Value := T.map (fun i => .int .i64 ((i : Nat) : Int))

end Tm
end Go.Proofs.Ytigjbngedbbdbaa
