/-
  The law FnExactReorderRounds holds for every argument: the program answers as the model does.
-/
import Derived.Test.YtfkfolglfmmkoaaRows
import Derived.WalkKit
import Derived.ProofKit
import Derived.OpenShut
import Derived.ShutString
import Derived.ChangeOld
import Derived.Below
import Derived.Lib.Hide
import Derived.Deep.RegionHeld3
import Derived.Test.YtfkfolglfmmkoaaQ1
import Derived.Test.YtfkfolglfmmkoaaQ2
import Derived.Test.YtfkfolglfmmkoaaQ3
import Derived.Test.YtfkfolglfmmkoaaQ4
import Derived.Test.YtfkfolglfmmkoaaQ8
import Derived.Test.YtfkfolglfmmkoaaQ10
import Derived.Test.YtfkfolglfmmkoaaQ11
import Derived.Test.YtfkfolglfmmkoaaQ12
import Derived.Test.YtfkfolglfmmkoaaQ13
namespace Go.Proofs.Ytfkfolglfmmkoaa.fnExactReorderRounds
open Go.ChangeShapes Go.WideShapes Go.ChangeAt Go.RowKit
open Go.ChangeMaps (open_string shut_string)
set_option linter.unusedVariables false

theorem own : ownKnob Try.prog.godebug = none := by kernel_rfl
theorem laidOut : laidOutB Try.prog = true := by kernel_rfl

set_option maxHeartbeats 4000000 in
set_option maxRecDepth 100000 in
theorem walk (vaRounds : Value) (d_aRounds : tPairSS.D) (vaOrder : Value) (d_aOrder : tIntS.D) (w : World) (h_aRounds : RdA tPairSS w [vaRounds] d_aRounds) (f_aRounds : tPairSS.fit d_aRounds) (h_aOrder : RdA tIntS w [vaOrder] d_aOrder) (f_aOrder : tIntS.fit d_aOrder) :
    Calls Try.prog 9 #[vaRounds, vaOrder] w fun e w' => e = .returned (.bool true) ∧ Below w.heap.size w w' := by
  obtain ⟨d_r0, r1, nb0, CS, CI⟩ : ∃ (d_r0 : tPairSS.D) (r1 : Bool), (tPairSS.wt d_aRounds ≤ 1048576 → tIntS.wt d_aOrder ≤ 1048576 → tPairSS.mks d_r0 ≤ 100000000000) ∧ Hid (∀ (vaRounds : Value) (vaOrder : Value) (w1 : World), RdA tPairSS w1 [vaRounds] d_aRounds → RdA tIntS w1 [vaOrder] d_aOrder → tPairSS.wt d_aRounds ≤ 1048576 → tIntS.wt d_aOrder ≤ 1048576 → Calls Try.prog 33 #[vaRounds, vaOrder] w1 fun e w' => ∃ vr0 : Value, e = .returned (.tuple #[vr0, .bool r1]) ∧ OwN tPairSS w' w1.heap.size w'.heap.size [vr0] d_r0 ∧ Below w1.heap.size w1 w') ∧ Hid (∀ (vaRounds : Value) (vaOrder : Value) (w1 : World), RdA tPairSS w1 [vaRounds] d_aRounds → RdA tIntS w1 [vaOrder] d_aOrder → tPairSS.wt d_aRounds ≤ 1048576 → tIntS.wt d_aOrder ≤ 1048576 → Calls Try.prog 16 #[vaRounds, vaOrder] w1 fun e w' => ∃ vr0 : Value, e = .returned (.tuple #[vr0, .bool r1]) ∧ OwN tPairSS w' w1.heap.size w'.heap.size [vr0] d_r0 ∧ Below w1.heap.size w1 w') := by
    obtain ⟨R, hR⟩ := boolEx (ordP (List.length (α := PairL) d_aRounds) d_aOrder)
    exact ⟨_, _, fun s so => marks_reo hR s, fun v vo w1 h ho s so => reorderRounds_spec v d_aRounds vo d_aOrder R w1 hR h s (rd_IntS.1 ho), fun v vo w1 h ho s so => reorderRounds_impl v d_aRounds vo d_aOrder R w1 hR h s (rd_IntS.1 ho)⟩
  have HB : Hid (Below w.heap.size w w) := Below.refl _ _
  have HNB0 := Lib.hid nb0
  clear nb0
  have HA_aRounds := Lib.hid h_aRounds
  have HF_aRounds := Lib.hid f_aRounds
  clear h_aRounds f_aRounds
  obtain ⟨sa_aOrder, sc_aOrder, hv_aOrder, hm_aOrder⟩ := rd_row_form h_aOrder
  obtain ⟨n_aOrder, hn_aOrder⟩ : ∃ n, List.length d_aOrder = n := ⟨_, rfl⟩
  rw [hn_aOrder] at hv_aOrder hm_aOrder
  subst hv_aOrder
  have HN_aOrder := Lib.hid hn_aOrder
  clear hn_aOrder
  have HA_aOrder := Lib.hid h_aOrder
  have HF_aOrder := Lib.hid f_aOrder
  clear h_aOrder f_aOrder
  by_cases hl_aOrder : 1048576 < n_aOrder
  · have g0 : decide ((1048576 : Int) < (n_aOrder : Int)) = true := decide_eq_true (by omega)
    have g0' : decide (1048576 < n_aOrder) = true := decide_eq_true (by omega)
    go_enter Try.func9, Try.ntmps9
    go_wp2
    go_ret
    exact ⟨rfl, HB.out⟩
  have hs_aOrder : n_aOrder ≤ 1048576 := by omega
  have hg_aOrder : decide ((1048576 : Int) < (n_aOrder : Int)) = false := decide_eq_false (by omega)
  have hg2_aOrder : decide (1048576 < n_aOrder) = false := decide_eq_false (by omega)
  have SM_aOrder : Hid (tIntS.wt d_aOrder ≤ 1048576) := Nat.le_trans (Nat.le_of_eq ((wt_IntS d_aOrder).trans HN_aOrder.out)) hs_aOrder
  clear hl_aOrder
  go_enter Try.func9, Try.ntmps9
  go_wp2_with fail
  refine (y_sz_PairSS (vaRounds) d_aRounds (1048576) _ (by omega) (by omega) (RdA.below HA_aRounds.out HB.out)).mono ?_
  rintro e w1 ⟨⟨r1, rfl, hr1⟩, b1⟩
  have Z1 : Hid (w.heap.size ≤ w1.heap.size) := (by have := b1.size; show _ ≤ _; omega)
  replace HB := Lib.hid (HB.out.trans (b1.mono HB.out.size))
  by_cases hn1 : r1 < 0
  · have g2 : decide (r1 < 0) = true := decide_eq_true hn1
    clear hr1
    go_wp2
    go_ret
    exact ⟨rfl, HB.out⟩
  have g1 : decide (r1 < 0) = false := decide_eq_false hn1
  have SM_aRounds : Hid (tPairSS.wt d_aRounds ≤ 1048576) := (by show _ ≤ _; omega)
  replace hn1 : 0 ≤ r1 ∧ r1 ≤ 1048576 := by omega
  clear hr1
  go_wp2_with fail
  refine (y_to_PairSS (vaRounds) d_aRounds _ (RdA.below HA_aRounds.out HB.out) SM_aRounds.out).mono ?_
  rintro e w2 ⟨vaRoundst1, rfl, ho, b2⟩
  have Z2 : Hid (w1.heap.size ≤ w2.heap.size) := (by have := b2.size; show _ ≤ _; omega)
  replace HB := Lib.hid (HB.out.trans (b2.mono HB.out.size))
  have OW_aRoundst1 := Lib.hid (ho.mono (lo' := w1.heap.size) (hi' := w2.heap.size) (by have := Z1.out; have := Z2.out; (try simp only [World.alloc, Array.size_push]); omega) (Nat.le_refl _) (Nat.le_refl _))
  clear ho
  go_wp2_with fail
  refine (y_to_IntS (.slice sa_aOrder n_aOrder sc_aOrder) d_aOrder _ (RdA.below HA_aOrder.out HB.out) SM_aOrder.out).mono ?_
  rintro e w3 ⟨vaOrdert2, rfl, ho, b3⟩
  have Z3 : Hid (w2.heap.size ≤ w3.heap.size) := (by have := b3.size; show _ ≤ _; omega)
  replace HB := Lib.hid (HB.out.trans (b3.mono HB.out.size))
  replace OW_aRoundst1 := Lib.hid (OW_aRoundst1.out.below b3)
  have OW_aOrdert2 := Lib.hid (ho.mono (lo' := w2.heap.size) (hi' := w3.heap.size) (by have := Z1.out; have := Z2.out; have := Z3.out; (try simp only [World.alloc, Array.size_push]); omega) (Nat.le_refl _) (Nat.le_refl _))
  clear ho
  go_wp2_with fail
  refine (CS.out (vaRoundst1) (vaOrdert2) _ OW_aRoundst1.out.rdA OW_aOrdert2.out.rdA SM_aRounds.out SM_aOrder.out).mono ?_
  rintro e w4 ⟨vr0s, rfl, ho, b4⟩
  have Z4 : Hid (w3.heap.size ≤ w4.heap.size) := (by have := b4.size; show _ ≤ _; omega)
  replace HB := Lib.hid (HB.out.trans (b4.mono HB.out.size))
  replace OW_aRoundst1 := Lib.hid (OW_aRoundst1.out.below b4)
  replace OW_aOrdert2 := Lib.hid (OW_aOrdert2.out.below b4)
  clear OW_aRoundst1 OW_aOrdert2
  have OW_r0s := Lib.hid (ho.mono (lo' := w1.heap.size) (hi' := w4.heap.size) (by have := Z1.out; have := Z2.out; have := Z3.out; have := Z4.out; (try simp only [World.alloc, Array.size_push]); omega) (Nat.le_refl _) (Nat.le_refl _))
  clear ho
  go_wp2_with fail
  refine (y_to_PairSS (vaRounds) d_aRounds _ (RdA.below HA_aRounds.out HB.out) SM_aRounds.out).mono ?_
  rintro e w5 ⟨vaRoundsx, rfl, ho, b5⟩
  have Z5 : Hid (w4.heap.size ≤ w5.heap.size) := (by have := b5.size; show _ ≤ _; omega)
  replace HB := Lib.hid (HB.out.trans (b5.mono HB.out.size))
  replace OW_r0s := Lib.hid (OW_r0s.out.below b5)
  have OW_aRoundsx := Lib.hid (ho.mono (lo' := w4.heap.size) (hi' := w5.heap.size) (by have := Z1.out; have := Z2.out; have := Z3.out; have := Z4.out; have := Z5.out; (try simp only [World.alloc, Array.size_push]); omega) (Nat.le_refl _) (Nat.le_refl _))
  clear ho
  go_wp2_with fail
  refine (y_to_IntS (.slice sa_aOrder n_aOrder sc_aOrder) d_aOrder _ (RdA.below HA_aOrder.out HB.out) SM_aOrder.out).mono ?_
  rintro e w6 ⟨vaOrderx, rfl, ho, b6⟩
  have Z6 : Hid (w5.heap.size ≤ w6.heap.size) := (by have := b6.size; show _ ≤ _; omega)
  replace HB := Lib.hid (HB.out.trans (b6.mono HB.out.size))
  replace OW_r0s := Lib.hid (OW_r0s.out.below b6)
  replace OW_aRoundsx := Lib.hid (OW_aRoundsx.out.below b6)
  have OW_aOrderx := Lib.hid (ho.mono (lo' := w5.heap.size) (hi' := w6.heap.size) (by have := Z1.out; have := Z2.out; have := Z3.out; have := Z4.out; have := Z5.out; have := Z6.out; (try simp only [World.alloc, Array.size_push]); omega) (Nat.le_refl _) (Nat.le_refl _))
  clear ho
  go_wp2_with fail
  refine (CI.out (vaRoundsx) (vaOrderx) _ OW_aRoundsx.out.rdA OW_aOrderx.out.rdA SM_aRounds.out SM_aOrder.out).mono ?_
  rintro e w7 ⟨vr0i, rfl, ho, b7⟩
  have Z7 : Hid (w6.heap.size ≤ w7.heap.size) := (by have := b7.size; show _ ≤ _; omega)
  replace HB := Lib.hid (HB.out.trans (b7.mono HB.out.size))
  replace OW_r0s := Lib.hid (OW_r0s.out.below b7)
  replace OW_aRoundsx := Lib.hid (OW_aRoundsx.out.below b7)
  replace OW_aOrderx := Lib.hid (OW_aOrderx.out.below b7)
  have OW_r0i := Lib.hid (ho.mono (lo' := w6.heap.size) (hi' := w7.heap.size) (by have := Z1.out; have := Z2.out; have := Z3.out; have := Z4.out; have := Z5.out; have := Z6.out; have := Z7.out; (try simp only [World.alloc, Array.size_push]); omega) (Nat.le_refl _) (Nat.le_refl _))
  clear ho
  go_wp2_with fail
  refine (y_eq_PairSS (vr0i) (vr0s) d_r0 _ OW_r0i.out.rdA OW_r0s.out.rdA).mono ?_
  rintro e w8 ⟨rfl, b8⟩
  have Z8 : Hid (w7.heap.size ≤ w8.heap.size) := (by have := b8.size; show _ ≤ _; omega)
  replace HB := Lib.hid (HB.out.trans (b8.mono HB.out.size))
  replace OW_r0s := Lib.hid (OW_r0s.out.below b8)
  replace OW_aRoundsx := Lib.hid (OW_aRoundsx.out.below b8)
  replace OW_aOrderx := Lib.hid (OW_aOrderx.out.below b8)
  replace OW_r0i := Lib.hid (OW_r0i.out.below b8)
  go_wp2_with fail
  refine (y_to_PairSS (vaRounds) d_aRounds _ (RdA.below HA_aRounds.out HB.out) SM_aRounds.out).mono ?_
  rintro e w9 ⟨vaRoundst3, rfl, ho, b9⟩
  have Z9 : Hid (w8.heap.size ≤ w9.heap.size) := (by have := b9.size; show _ ≤ _; omega)
  replace HB := Lib.hid (HB.out.trans (b9.mono HB.out.size))
  replace OW_r0s := Lib.hid (OW_r0s.out.below b9)
  replace OW_aRoundsx := Lib.hid (OW_aRoundsx.out.below b9)
  replace OW_aOrderx := Lib.hid (OW_aOrderx.out.below b9)
  replace OW_r0i := Lib.hid (OW_r0i.out.below b9)
  have OW_aRoundst3 := Lib.hid (ho.mono (lo' := w8.heap.size) (hi' := w9.heap.size) (by have := Z1.out; have := Z2.out; have := Z3.out; have := Z4.out; have := Z5.out; have := Z6.out; have := Z7.out; have := Z8.out; have := Z9.out; (try simp only [World.alloc, Array.size_push]); omega) (Nat.le_refl _) (Nat.le_refl _))
  clear ho
  go_wp2_with fail
  refine (y_eq_PairSS (vaRoundsx) (vaRoundst3) d_aRounds _ OW_aRoundsx.out.rdA OW_aRoundst3.out.rdA).mono ?_
  rintro e w10 ⟨rfl, b10⟩
  have Z10 : Hid (w9.heap.size ≤ w10.heap.size) := (by have := b10.size; show _ ≤ _; omega)
  replace HB := Lib.hid (HB.out.trans (b10.mono HB.out.size))
  replace OW_r0s := Lib.hid (OW_r0s.out.below b10)
  replace OW_aRoundsx := Lib.hid (OW_aRoundsx.out.below b10)
  replace OW_aOrderx := Lib.hid (OW_aOrderx.out.below b10)
  replace OW_r0i := Lib.hid (OW_r0i.out.below b10)
  replace OW_aRoundst3 := Lib.hid (OW_aRoundst3.out.below b10)
  clear OW_aRoundst3
  go_wp2_with fail
  refine (y_to_IntS (.slice sa_aOrder n_aOrder sc_aOrder) d_aOrder _ (RdA.below HA_aOrder.out HB.out) SM_aOrder.out).mono ?_
  rintro e w11 ⟨vaOrdert4, rfl, ho, b11⟩
  have Z11 : Hid (w10.heap.size ≤ w11.heap.size) := (by have := b11.size; show _ ≤ _; omega)
  replace HB := Lib.hid (HB.out.trans (b11.mono HB.out.size))
  replace OW_r0s := Lib.hid (OW_r0s.out.below b11)
  replace OW_aRoundsx := Lib.hid (OW_aRoundsx.out.below b11)
  replace OW_aOrderx := Lib.hid (OW_aOrderx.out.below b11)
  replace OW_r0i := Lib.hid (OW_r0i.out.below b11)
  have OW_aOrdert4 := Lib.hid (ho.mono (lo' := w10.heap.size) (hi' := w11.heap.size) (by have := Z1.out; have := Z2.out; have := Z3.out; have := Z4.out; have := Z5.out; have := Z6.out; have := Z7.out; have := Z8.out; have := Z9.out; have := Z10.out; have := Z11.out; (try simp only [World.alloc, Array.size_push]); omega) (Nat.le_refl _) (Nat.le_refl _))
  clear ho
  go_wp2_with fail
  refine (y_eq_IntS (vaOrderx) (vaOrdert4) d_aOrder _ OW_aOrderx.out.rdA OW_aOrdert4.out.rdA).mono ?_
  rintro e w12 ⟨rfl, b12⟩
  have Z12 : Hid (w11.heap.size ≤ w12.heap.size) := (by have := b12.size; show _ ≤ _; omega)
  replace HB := Lib.hid (HB.out.trans (b12.mono HB.out.size))
  replace OW_r0s := Lib.hid (OW_r0s.out.below b12)
  replace OW_aRoundsx := Lib.hid (OW_aRoundsx.out.below b12)
  replace OW_aOrderx := Lib.hid (OW_aOrderx.out.below b12)
  replace OW_r0i := Lib.hid (OW_r0i.out.below b12)
  replace OW_aOrdert4 := Lib.hid (OW_aOrdert4.out.below b12)
  clear OW_aOrdert4
  obtain ⟨M_aRoundsx, hM⟩ : ∃ z, tPairSS.mks d_aRounds = z := ⟨_, rfl⟩
  have HM_aRoundsx := Lib.hid hM
  have hM2_aRoundsx : M_aRoundsx ≤ 100000000000 := (by have h7 : tPairSS.mks d_aRounds ≤ 2000000000 := (Bnd.le ((bnd_sl (bnd_sl (bnd_two bnd_int bnd_int))) : Bnd tPairSS 2) SM_aRounds.out (by decide)); rw [hM] at h7; omega)
  clear hM
  go_wp2_with fail
  refine (mark_windowC OW_aRoundsx.out fun bs ho hnd => yb_mk_PairSS (vaRoundsx) d_aRounds ((1 : Int)) _ bs _ ho hnd (by omega) (by have := HM_aRoundsx.out; omega)).mono ?_
  rintro e w13 ⟨rfl, hr, b13⟩
  rw [HM_aRoundsx.out]
  clear OW_aRoundsx
  clear hr
  have Z13 : Hid (w12.heap.size ≤ w13.heap.size) := (by have := b13.size; show _ ≤ _; omega)
  replace HB := Lib.hid (HB.out.trans (b13.below (by have := Z1.out; have := Z2.out; have := Z3.out; have := Z4.out; have := Z5.out; have := Z6.out; have := Z7.out; have := Z8.out; have := Z9.out; have := Z10.out; have := Z11.out; have := Z12.out; omega) HB.out.size))
  replace OW_r0s := Lib.hid (OW_r0s.out.touch b13 (by have := Z1.out; have := Z2.out; have := Z3.out; have := Z4.out; have := Z5.out; have := Z6.out; have := Z7.out; have := Z8.out; have := Z9.out; have := Z10.out; have := Z11.out; have := Z12.out; omega))
  replace OW_aOrderx := Lib.hid (OW_aOrderx.out.touch b13 (by have := Z1.out; have := Z2.out; have := Z3.out; have := Z4.out; have := Z5.out; have := Z6.out; have := Z7.out; have := Z8.out; have := Z9.out; have := Z10.out; have := Z11.out; have := Z12.out; omega))
  replace OW_r0i := Lib.hid (OW_r0i.out.touch b13 (by have := Z1.out; have := Z2.out; have := Z3.out; have := Z4.out; have := Z5.out; have := Z6.out; have := Z7.out; have := Z8.out; have := Z9.out; have := Z10.out; have := Z11.out; have := Z12.out; omega))
  obtain ⟨M_aOrderx, hM⟩ : ∃ z, tIntS.mks d_aOrder = z := ⟨_, rfl⟩
  have HM_aOrderx := Lib.hid hM
  have hM2_aOrderx : M_aOrderx ≤ 100000000000 := (by have h7 : tIntS.mks d_aOrder ≤ 2000000000 := (Bnd.le ((bnd_sl bnd_int) : Bnd tIntS 1) SM_aOrder.out (by decide)); rw [hM] at h7; omega)
  clear hM
  go_wp2_with fail
  refine (mark_windowC OW_aOrderx.out fun bs ho hnd => yb_mk_IntS (vaOrderx) d_aOrder ((1 : Int) + (M_aRoundsx : Int)) _ bs _ ho hnd (by omega) (by have := HM_aOrderx.out; omega)).mono ?_
  rintro e w14 ⟨rfl, hr, b14⟩
  rw [HM_aOrderx.out]
  clear OW_aOrderx
  clear hr
  have Z14 : Hid (w13.heap.size ≤ w14.heap.size) := (by have := b14.size; show _ ≤ _; omega)
  replace HB := Lib.hid (HB.out.trans (b14.below (by have := Z1.out; have := Z2.out; have := Z3.out; have := Z4.out; have := Z5.out; have := Z6.out; have := Z7.out; have := Z8.out; have := Z9.out; have := Z10.out; have := Z11.out; have := Z12.out; have := Z13.out; omega) HB.out.size))
  replace OW_r0s := Lib.hid (OW_r0s.out.touch b14 (by have := Z1.out; have := Z2.out; have := Z3.out; have := Z4.out; have := Z5.out; have := Z6.out; have := Z7.out; have := Z8.out; have := Z9.out; have := Z10.out; have := Z11.out; have := Z12.out; have := Z13.out; omega))
  replace OW_r0i := Lib.hid (OW_r0i.out.touch b14 (by have := Z1.out; have := Z2.out; have := Z3.out; have := Z4.out; have := Z5.out; have := Z6.out; have := Z7.out; have := Z8.out; have := Z9.out; have := Z10.out; have := Z11.out; have := Z12.out; have := Z13.out; omega))
  have kd4180 : decide ((1 : Int) + (M_aRoundsx : Int) + (M_aOrderx : Int) < 0) = false := decide_eq_false (by omega)
  go_wp2_with fail
  refine (y_eq_PairSS (vr0i) (vr0s) d_r0 _ OW_r0i.out.rdA OW_r0s.out.rdA).mono ?_
  rintro e w15 ⟨rfl, b15⟩
  have Z15 : Hid (w14.heap.size ≤ w15.heap.size) := (by have := b15.size; show _ ≤ _; omega)
  replace HB := Lib.hid (HB.out.trans (b15.mono HB.out.size))
  replace OW_r0s := Lib.hid (OW_r0s.out.below b15)
  replace OW_r0i := Lib.hid (OW_r0i.out.below b15)
  obtain ⟨M_r0i, hM⟩ : ∃ z, tPairSS.mks d_r0 = z := ⟨_, rfl⟩
  have HM_r0i := Lib.hid hM
  have hM2_r0i : M_r0i ≤ 100000000000 := (by have h7 : tPairSS.mks d_r0 ≤ 100000000000 := (HNB0.out SM_aRounds.out SM_aOrder.out); rw [hM] at h7; omega)
  clear hM
  go_wp2_with fail
  refine (mark_windowC OW_r0i.out fun bs ho hnd => yb_mk_PairSS (vr0i) d_r0 ((1 : Int)) _ bs _ ho hnd (by omega) (by have := HM_r0i.out; omega)).mono ?_
  rintro e w16 ⟨rfl, hr, b16⟩
  rw [HM_r0i.out]
  clear OW_r0i
  have Z16 : Hid (w15.heap.size ≤ w16.heap.size) := (by have := b16.size; show _ ≤ _; omega)
  replace HB := Lib.hid (HB.out.trans (b16.below (by have := Z1.out; have := Z2.out; have := Z3.out; have := Z4.out; have := Z5.out; have := Z6.out; have := Z7.out; have := Z8.out; have := Z9.out; have := Z10.out; have := Z11.out; have := Z12.out; have := Z13.out; have := Z14.out; have := Z15.out; omega) HB.out.size))
  replace OW_r0s := Lib.hid (OW_r0s.out.touch b16 (by have := Z1.out; have := Z2.out; have := Z3.out; have := Z4.out; have := Z5.out; have := Z6.out; have := Z7.out; have := Z8.out; have := Z9.out; have := Z10.out; have := Z11.out; have := Z12.out; have := Z13.out; have := Z14.out; have := Z15.out; omega))
  have RN_r0i := Lib.hid hr
  clear hr
  have qd4186 : decide ((1 : Int) + (M_r0i : Int) < 0) = false := decide_eq_false (by omega)
  go_wp2_with fail
  refine (y_hd_PairSS (vr0i) d_r0 (1 : Int) _ (RN_r0i.out.all (by have := Z1.out; have := Z2.out; have := Z3.out; have := Z4.out; have := Z5.out; have := Z6.out; have := Z7.out; have := Z8.out; have := Z9.out; have := Z10.out; have := Z11.out; have := Z12.out; have := Z13.out; have := Z14.out; have := Z15.out; have := Z16.out; (try simp only [World.alloc, Array.size_push]); omega)) (by omega) (by have := HM_r0i.out; omega)).mono ?_
  rintro e w17 ⟨rfl, b17⟩
  rw [HM_r0i.out]
  have Z17 : Hid (w16.heap.size ≤ w17.heap.size) := (by have := b17.size; show _ ≤ _; omega)
  replace HB := Lib.hid (HB.out.trans (b17.mono HB.out.size))
  replace OW_r0s := Lib.hid (OW_r0s.out.below b17)
  replace RN_r0i := Lib.hid (RN_r0i.out.below b17)
  go_wp2_with fail
  refine (y_to_PairSS (vaRounds) d_aRounds _ (RdA.below HA_aRounds.out HB.out) SM_aRounds.out).mono ?_
  rintro e w18 ⟨vaRoundst5, rfl, ho, b18⟩
  have Z18 : Hid (w17.heap.size ≤ w18.heap.size) := (by have := b18.size; show _ ≤ _; omega)
  replace HB := Lib.hid (HB.out.trans (b18.mono HB.out.size))
  replace OW_r0s := Lib.hid (OW_r0s.out.below b18)
  replace RN_r0i := Lib.hid (RN_r0i.out.below b18)
  have OW_aRoundst5 := Lib.hid (ho.mono (lo' := w17.heap.size) (hi' := w18.heap.size) (by have := Z1.out; have := Z2.out; have := Z3.out; have := Z4.out; have := Z5.out; have := Z6.out; have := Z7.out; have := Z8.out; have := Z9.out; have := Z10.out; have := Z11.out; have := Z12.out; have := Z13.out; have := Z14.out; have := Z15.out; have := Z16.out; have := Z17.out; have := Z18.out; (try simp only [World.alloc, Array.size_push]); omega) (Nat.le_refl _) (Nat.le_refl _))
  clear ho
  go_wp2_with fail
  refine (y_to_IntS (.slice sa_aOrder n_aOrder sc_aOrder) d_aOrder _ (RdA.below HA_aOrder.out HB.out) SM_aOrder.out).mono ?_
  rintro e w19 ⟨vaOrdert6, rfl, ho, b19⟩
  have Z19 : Hid (w18.heap.size ≤ w19.heap.size) := (by have := b19.size; show _ ≤ _; omega)
  replace HB := Lib.hid (HB.out.trans (b19.mono HB.out.size))
  replace OW_r0s := Lib.hid (OW_r0s.out.below b19)
  replace RN_r0i := Lib.hid (RN_r0i.out.below b19)
  replace OW_aRoundst5 := Lib.hid (OW_aRoundst5.out.below b19)
  have OW_aOrdert6 := Lib.hid (ho.mono (lo' := w18.heap.size) (hi' := w19.heap.size) (by have := Z1.out; have := Z2.out; have := Z3.out; have := Z4.out; have := Z5.out; have := Z6.out; have := Z7.out; have := Z8.out; have := Z9.out; have := Z10.out; have := Z11.out; have := Z12.out; have := Z13.out; have := Z14.out; have := Z15.out; have := Z16.out; have := Z17.out; have := Z18.out; have := Z19.out; (try simp only [World.alloc, Array.size_push]); omega) (Nat.le_refl _) (Nat.le_refl _))
  clear ho
  go_wp2_with fail
  refine (CI.out (vaRoundst5) (vaOrdert6) _ OW_aRoundst5.out.rdA OW_aOrdert6.out.rdA SM_aRounds.out SM_aOrder.out).mono ?_
  rintro e w20 ⟨vr0j, rfl, ho, b20⟩
  have Z20 : Hid (w19.heap.size ≤ w20.heap.size) := (by have := b20.size; show _ ≤ _; omega)
  replace HB := Lib.hid (HB.out.trans (b20.mono HB.out.size))
  replace OW_r0s := Lib.hid (OW_r0s.out.below b20)
  replace RN_r0i := Lib.hid (RN_r0i.out.below b20)
  replace OW_aRoundst5 := Lib.hid (OW_aRoundst5.out.below b20)
  replace OW_aOrdert6 := Lib.hid (OW_aOrdert6.out.below b20)
  clear OW_aRoundst5 OW_aOrdert6
  have OW_r0j := Lib.hid (ho.mono (lo' := w17.heap.size) (hi' := w20.heap.size) (by have := Z1.out; have := Z2.out; have := Z3.out; have := Z4.out; have := Z5.out; have := Z6.out; have := Z7.out; have := Z8.out; have := Z9.out; have := Z10.out; have := Z11.out; have := Z12.out; have := Z13.out; have := Z14.out; have := Z15.out; have := Z16.out; have := Z17.out; have := Z18.out; have := Z19.out; have := Z20.out; (try simp only [World.alloc, Array.size_push]); omega) (Nat.le_refl _) (Nat.le_refl _))
  clear ho
  go_wp2_with fail
  refine (y_eq_PairSS (vr0j) (vr0s) d_r0 _ OW_r0j.out.rdA OW_r0s.out.rdA).mono ?_
  rintro e w21 ⟨rfl, b21⟩
  have Z21 : Hid (w20.heap.size ≤ w21.heap.size) := (by have := b21.size; show _ ≤ _; omega)
  replace HB := Lib.hid (HB.out.trans (b21.mono HB.out.size))
  replace OW_r0s := Lib.hid (OW_r0s.out.below b21)
  replace RN_r0i := Lib.hid (RN_r0i.out.below b21)
  replace OW_r0j := Lib.hid (OW_r0j.out.below b21)
  have qd4198 : decide ((1 : Int) + (M_r0i : Int) < 0) = false := decide_eq_false (by omega)
  go_wp2_with fail
  refine (y_hd_PairSS (vr0i) d_r0 (1 : Int) _ (RN_r0i.out.all (by have := Z1.out; have := Z2.out; have := Z3.out; have := Z4.out; have := Z5.out; have := Z6.out; have := Z7.out; have := Z8.out; have := Z9.out; have := Z10.out; have := Z11.out; have := Z12.out; have := Z13.out; have := Z14.out; have := Z15.out; have := Z16.out; have := Z17.out; have := Z18.out; have := Z19.out; have := Z20.out; have := Z21.out; (try simp only [World.alloc, Array.size_push]); omega)) (by omega) (by have := HM_r0i.out; omega)).mono ?_
  rintro e w22 ⟨rfl, b22⟩
  rw [HM_r0i.out]
  have Z22 : Hid (w21.heap.size ≤ w22.heap.size) := (by have := b22.size; show _ ≤ _; omega)
  replace HB := Lib.hid (HB.out.trans (b22.mono HB.out.size))
  replace OW_r0s := Lib.hid (OW_r0s.out.below b22)
  replace RN_r0i := Lib.hid (RN_r0i.out.below b22)
  replace OW_r0j := Lib.hid (OW_r0j.out.below b22)
  go_wp2
  go_ret
  exact ⟨rfl, HB.out⟩
set_option maxRecDepth 100000 in
theorem lifted (os : Os) (started : os.Started) (H : Type) (enc : TypeId × Value → H) :
    ReturnsInHanded {} Try.checked os 9 .any (Rows.fnExactReorderRoundsSpec.pre6 enc Try.prog Try.f9 Rows.fnExactReorderRoundsRow.domain false) (Rows.fnExactReorderRoundsSpec.post enc Try.prog Try.f9 false true false false) := by
  refine returnsInHanded_of_change (C := Try.checked) own started (by kernel_rfl) Try.func9
    (ChangeSpec.witness6 (enc := enc) (C := Try.checked) false ⟨#[], #[.slice none 0 0, .slice none 0 0], []⟩ 8 (by kernel_rfl) (by kernel_rfl) (by kernel_rfl) (by kernel_rfl)) ?_
  intro W base args ds gs before hval0 hW hcnd _
  have hval : ∀ (j : Nat) t v, Try.f9.params[j]? = some t → args[j]? = some v → Value.okWide Try.prog W .any base t v := hval0
  have hW' := hW
  obtain ⟨p, q, hA0, hV, rfl, hfz, hnd⟩ := hW
  have hA : DataW.TrodAll enc Try.prog W 0 (fun _ => true) true Try.f9.params.toList args.toList ds p := hA0
  rw [Try.params9] at hA hval
  obtain ⟨v0, vs0, d0, ds0, p0, q0, hargs, rfl, rfl, h0, r0⟩ := trodAll_cons hA
  obtain ⟨v1, vs1, d1, ds1, p1, q1, rfl, rfl, rfl, h1, r1⟩ := trodAll_cons r0
  obtain ⟨rfl, rfl, rfl⟩ := trodAll_nil r1
  obtain rfl : args = #[v0, v1] := by cases args; simp_all
  obtain ⟨rfl, rfl⟩ := trodVars_none hV
  have k0 := h0
  have lt0 : ∀ x ∈ p0, x.block < W.heap.size := by obtain ⟨m, hm⟩ := k0; exact DataW.trod_lt m _ _ _ hm
  obtain ⟨x0, y0, f0⟩ := open_arg1 opens_PairSS Try.underlying46 (hval 0 46 v0 rfl rfl) h0
  have k1 := h1
  have lt1 : ∀ x ∈ p1, x.block < W.heap.size := by obtain ⟨m, hm⟩ := k1; exact DataW.trod_lt m _ _ _ hm
  obtain ⟨x1, y1, f1⟩ := open_arg1 opens_IntS Try.underlying24 (hval 1 24 v1 rfl rfl) h1
  clear hA0 hval0
  simp only [List.append_nil] at hW'
  refine (walk v0 x0 v1 x1 W y0 f0 y1 f1).mono fun e W' ⟨he, bel⟩ => ?_
  subst he
  exact ⟨_, rfl, _, _, _, [], _, [], hW', trodAll_mk1 (shut_bool Try.underlying4 _), (trodAll_cons_mk (Below.trod laidOut (by kernel_rfl) (of_decide_eq_true (by kernel_rfl)) k0 bel lt0) (trodAll_cons_mk (Below.trod laidOut (by kernel_rfl) (of_decide_eq_true (by kernel_rfl)) k1 bel lt1) trodAll_mk0)), rfl, bel.frame _, fun h => by cases h⟩

theorem over : Rows.fnExactReorderRoundsRow.holds Try.pinned (OpenSpec.ofChange Rows.fnExactReorderRoundsSpec) :=
  OpenClaim.holds_of_wide 9 Try.f9 rfl rfl rfl rfl rfl rfl rfl ⟨rfl, rfl, rfl, rfl, rfl⟩ rfl rfl rfl rfl rfl (by kernel_rfl) Try.func9 (by kernel_rfl)
    (of_decide_eq_true (by kernel_rfl)) (by unfold Func.isWrapper; first | (rw [if_pos (by decide +kernel)]; kernel_rfl) | (rw [if_neg (by decide +kernel)]; exact ⟨rfl, rfl⟩))
    (fun os started H enc _ => lifted os started H enc)

theorem proved : Rows.FnExactReorderRoundsSaid := over
end Go.Proofs.Ytfkfolglfmmkoaa.fnExactReorderRounds
