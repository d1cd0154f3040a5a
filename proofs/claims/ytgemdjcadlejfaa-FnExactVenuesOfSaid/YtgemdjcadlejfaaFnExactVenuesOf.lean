/-
  The law FnExactVenuesOf holds for every argument: the program answers as the model does.
-/
import Derived.Test.YtgemdjcadlejfaaRows
import Derived.WalkKit
import Derived.ProofKit
import Derived.OpenShut
import Derived.ShutString
import Derived.ChangeOld
import Derived.Below
import Derived.Lib.Hide
import Derived.Deep.RegionHeld3
import Derived.Test.YtgemdjcadlejfaaQ1
import Derived.Test.YtgemdjcadlejfaaQ2
import Derived.Test.YtgemdjcadlejfaaQ3
import Derived.Test.YtgemdjcadlejfaaQ5
import Derived.Test.YtgemdjcadlejfaaQ10
import Derived.Test.YtgemdjcadlejfaaQ12
import Derived.Test.YtgemdjcadlejfaaQ13
namespace Go.Proofs.Ytgemdjcadlejfaa.fnExactVenuesOf
open Go.ChangeShapes Go.WideShapes Go.ChangeAt Go.RowKit
open Go.ChangeMaps (open_string shut_string)
set_option linter.unusedVariables false

theorem own : ownKnob Try.prog.godebug = none := by kernel_rfl
theorem laidOut : laidOutB Try.prog = true := by kernel_rfl

set_option maxHeartbeats 4000000 in
set_option maxRecDepth 100000 in
theorem walk (vaRounds : Value) (d_aRounds : tPairSS.D) (aTeam : Int) (w : World) (h_aRounds : RdA tPairSS w [vaRounds] d_aRounds) (f_aRounds : tPairSS.fit d_aRounds) (f_aTeam : IntFit aTeam) :
    Calls Try.prog 8 #[vaRounds, .int .i64 aTeam] w fun e w' => e = .returned (.bool true) ∧ Below w.heap.size w w' := by
  obtain ⟨d_r0, nb0, CS, CI⟩ : ∃ (d_r0 : tIntS.D), (tPairSS.wt d_aRounds ≤ 1048576 → tIntS.mks d_r0 ≤ 100000000000) ∧ Hid (∀ (vaRounds : Value) (w1 : World), RdA tPairSS w1 [vaRounds] d_aRounds → tPairSS.wt d_aRounds ≤ 1048576 → Calls Try.prog 33 #[vaRounds, .int .i64 aTeam] w1 fun e w' => ∃ vr0 : Value, e = .returned (vr0) ∧ OwN tIntS w' w1.heap.size w'.heap.size [vr0] d_r0 ∧ Below w1.heap.size w1 w') ∧ Hid (∀ (vaRounds : Value) (w1 : World), RdA tPairSS w1 [vaRounds] d_aRounds → tPairSS.wt d_aRounds ≤ 1048576 → Calls Try.prog 19 #[vaRounds, .int .i64 aTeam] w1 fun e w' => ∃ vr0 : Value, e = .returned (vr0) ∧ OwN tIntS w' w1.heap.size w'.heap.size [vr0] d_r0 ∧ Below w1.heap.size w1 w') := by
    exact ⟨_, marks_venues d_aRounds aTeam, fun v w1 h s => (venuesOf_spec v d_aRounds aTeam w1 h s).mono fun e w' h => h.owN, fun v w1 h s => (venuesOf_impl v d_aRounds aTeam w1 h s).mono fun e w' h => h.owN⟩
  have HB : Hid (Below w.heap.size w w) := Below.refl _ _
  have HNB0 := Lib.hid nb0
  clear nb0
  have HA_aRounds := Lib.hid h_aRounds
  have HF_aRounds := Lib.hid f_aRounds
  clear h_aRounds f_aRounds
  go_enter Try.func8, Try.ntmps8
  go_wp2_with fail
  refine (y_sz_PairSS (vaRounds) d_aRounds (1048576) _ (by omega) (by omega) (RdA.below HA_aRounds.out HB.out)).mono ?_
  rintro e w1 ⟨⟨r1, rfl, hr1⟩, b1⟩
  have Z1 : Hid (w.heap.size ≤ w1.heap.size) := (by have := b1.size; show _ ≤ _; omega)
  replace HB := Lib.hid (HB.out.trans (b1.mono HB.out.size))
  by_cases hn1 : r1 < 0
  · have g2 : decide (r1 < 0) = true := decide_eq_true hn1
    clear hr1
    go_wp2
    go_ret
    exact ⟨rfl, HB.out⟩
  have g1 : decide (r1 < 0) = false := decide_eq_false hn1
  have SM_aRounds : Hid (tPairSS.wt d_aRounds ≤ 1048576) := (by show _ ≤ _; omega)
  replace hn1 : 0 ≤ r1 ∧ r1 ≤ 1048576 := by omega
  clear hr1
  go_wp2_with fail
  refine (y_to_PairSS (vaRounds) d_aRounds _ (RdA.below HA_aRounds.out HB.out) SM_aRounds.out).mono ?_
  rintro e w2 ⟨vaRoundst1, rfl, ho, b2⟩
  have Z2 : Hid (w1.heap.size ≤ w2.heap.size) := (by have := b2.size; show _ ≤ _; omega)
  replace HB := Lib.hid (HB.out.trans (b2.mono HB.out.size))
  have OW_aRoundst1 := Lib.hid (ho.mono (lo' := w1.heap.size) (hi' := w2.heap.size) (by have := Z1.out; have := Z2.out; (try simp only [World.alloc, Array.size_push]); omega) (Nat.le_refl _) (Nat.le_refl _))
  clear ho
  go_wp2_with fail
  refine (CS.out (vaRoundst1) _ OW_aRoundst1.out.rdA SM_aRounds.out).mono ?_
  rintro e w3 ⟨vr0s, rfl, ho, b3⟩
  have Z3 : Hid (w2.heap.size ≤ w3.heap.size) := (by have := b3.size; show _ ≤ _; omega)
  replace HB := Lib.hid (HB.out.trans (b3.mono HB.out.size))
  replace OW_aRoundst1 := Lib.hid (OW_aRoundst1.out.below b3)
  clear OW_aRoundst1
  have OW_r0s := Lib.hid (ho.mono (lo' := w1.heap.size) (hi' := w3.heap.size) (by have := Z1.out; have := Z2.out; have := Z3.out; (try simp only [World.alloc, Array.size_push]); omega) (Nat.le_refl _) (Nat.le_refl _))
  clear ho
  go_wp2_with fail
  refine (y_to_PairSS (vaRounds) d_aRounds _ (RdA.below HA_aRounds.out HB.out) SM_aRounds.out).mono ?_
  rintro e w4 ⟨vaRoundsx, rfl, ho, b4⟩
  have Z4 : Hid (w3.heap.size ≤ w4.heap.size) := (by have := b4.size; show _ ≤ _; omega)
  replace HB := Lib.hid (HB.out.trans (b4.mono HB.out.size))
  replace OW_r0s := Lib.hid (OW_r0s.out.below b4)
  have OW_aRoundsx := Lib.hid (ho.mono (lo' := w3.heap.size) (hi' := w4.heap.size) (by have := Z1.out; have := Z2.out; have := Z3.out; have := Z4.out; (try simp only [World.alloc, Array.size_push]); omega) (Nat.le_refl _) (Nat.le_refl _))
  clear ho
  go_wp2_with fail
  refine (CI.out (vaRoundsx) _ OW_aRoundsx.out.rdA SM_aRounds.out).mono ?_
  rintro e w5 ⟨vr0i, rfl, ho, b5⟩
  have Z5 : Hid (w4.heap.size ≤ w5.heap.size) := (by have := b5.size; show _ ≤ _; omega)
  replace HB := Lib.hid (HB.out.trans (b5.mono HB.out.size))
  replace OW_r0s := Lib.hid (OW_r0s.out.below b5)
  replace OW_aRoundsx := Lib.hid (OW_aRoundsx.out.below b5)
  have OW_r0i := Lib.hid (ho.mono (lo' := w4.heap.size) (hi' := w5.heap.size) (by have := Z1.out; have := Z2.out; have := Z3.out; have := Z4.out; have := Z5.out; (try simp only [World.alloc, Array.size_push]); omega) (Nat.le_refl _) (Nat.le_refl _))
  clear ho
  go_wp2_with fail
  refine (y_eq_IntS (vr0i) (vr0s) d_r0 _ OW_r0i.out.rdA OW_r0s.out.rdA).mono ?_
  rintro e w6 ⟨rfl, b6⟩
  have Z6 : Hid (w5.heap.size ≤ w6.heap.size) := (by have := b6.size; show _ ≤ _; omega)
  replace HB := Lib.hid (HB.out.trans (b6.mono HB.out.size))
  replace OW_r0s := Lib.hid (OW_r0s.out.below b6)
  replace OW_aRoundsx := Lib.hid (OW_aRoundsx.out.below b6)
  replace OW_r0i := Lib.hid (OW_r0i.out.below b6)
  go_wp2_with fail
  refine (y_to_PairSS (vaRounds) d_aRounds _ (RdA.below HA_aRounds.out HB.out) SM_aRounds.out).mono ?_
  rintro e w7 ⟨vaRoundst2, rfl, ho, b7⟩
  have Z7 : Hid (w6.heap.size ≤ w7.heap.size) := (by have := b7.size; show _ ≤ _; omega)
  replace HB := Lib.hid (HB.out.trans (b7.mono HB.out.size))
  replace OW_r0s := Lib.hid (OW_r0s.out.below b7)
  replace OW_aRoundsx := Lib.hid (OW_aRoundsx.out.below b7)
  replace OW_r0i := Lib.hid (OW_r0i.out.below b7)
  have OW_aRoundst2 := Lib.hid (ho.mono (lo' := w6.heap.size) (hi' := w7.heap.size) (by have := Z1.out; have := Z2.out; have := Z3.out; have := Z4.out; have := Z5.out; have := Z6.out; have := Z7.out; (try simp only [World.alloc, Array.size_push]); omega) (Nat.le_refl _) (Nat.le_refl _))
  clear ho
  go_wp2_with fail
  refine (y_eq_PairSS (vaRoundsx) (vaRoundst2) d_aRounds _ OW_aRoundsx.out.rdA OW_aRoundst2.out.rdA).mono ?_
  rintro e w8 ⟨rfl, b8⟩
  have Z8 : Hid (w7.heap.size ≤ w8.heap.size) := (by have := b8.size; show _ ≤ _; omega)
  replace HB := Lib.hid (HB.out.trans (b8.mono HB.out.size))
  replace OW_r0s := Lib.hid (OW_r0s.out.below b8)
  replace OW_aRoundsx := Lib.hid (OW_aRoundsx.out.below b8)
  replace OW_r0i := Lib.hid (OW_r0i.out.below b8)
  replace OW_aRoundst2 := Lib.hid (OW_aRoundst2.out.below b8)
  clear OW_aRoundst2
  obtain ⟨M_aRoundsx, hM⟩ : ∃ z, tPairSS.mks d_aRounds = z := ⟨_, rfl⟩
  have HM_aRoundsx := Lib.hid hM
  have hM2_aRoundsx : M_aRoundsx ≤ 100000000000 := (by have h7 : tPairSS.mks d_aRounds ≤ 2000000000 := (Bnd.le ((bnd_sl (bnd_sl (bnd_two bnd_int bnd_int))) : Bnd tPairSS 2) SM_aRounds.out (by decide)); rw [hM] at h7; omega)
  clear hM
  go_wp2_with fail
  refine (mark_windowC OW_aRoundsx.out fun bs ho hnd => yb_mk_PairSS (vaRoundsx) d_aRounds ((1 : Int)) _ bs _ ho hnd (by omega) (by have := HM_aRoundsx.out; omega)).mono ?_
  rintro e w9 ⟨rfl, hr, b9⟩
  rw [HM_aRoundsx.out]
  clear OW_aRoundsx
  clear hr
  have Z9 : Hid (w8.heap.size ≤ w9.heap.size) := (by have := b9.size; show _ ≤ _; omega)
  replace HB := Lib.hid (HB.out.trans (b9.below (by have := Z1.out; have := Z2.out; have := Z3.out; have := Z4.out; have := Z5.out; have := Z6.out; have := Z7.out; have := Z8.out; omega) HB.out.size))
  replace OW_r0s := Lib.hid (OW_r0s.out.touch b9 (by have := Z1.out; have := Z2.out; have := Z3.out; have := Z4.out; have := Z5.out; have := Z6.out; have := Z7.out; have := Z8.out; omega))
  replace OW_r0i := Lib.hid (OW_r0i.out.touch b9 (by have := Z1.out; have := Z2.out; have := Z3.out; have := Z4.out; have := Z5.out; have := Z6.out; have := Z7.out; have := Z8.out; omega))
  have kd3697 : decide ((1 : Int) + (M_aRoundsx : Int) < 0) = false := decide_eq_false (by omega)
  go_wp2_with fail
  refine (y_eq_IntS (vr0i) (vr0s) d_r0 _ OW_r0i.out.rdA OW_r0s.out.rdA).mono ?_
  rintro e w10 ⟨rfl, b10⟩
  have Z10 : Hid (w9.heap.size ≤ w10.heap.size) := (by have := b10.size; show _ ≤ _; omega)
  replace HB := Lib.hid (HB.out.trans (b10.mono HB.out.size))
  replace OW_r0s := Lib.hid (OW_r0s.out.below b10)
  replace OW_r0i := Lib.hid (OW_r0i.out.below b10)
  obtain ⟨M_r0i, hM⟩ : ∃ z, tIntS.mks d_r0 = z := ⟨_, rfl⟩
  have HM_r0i := Lib.hid hM
  have hM2_r0i : M_r0i ≤ 100000000000 := (by have h7 : tIntS.mks d_r0 ≤ 100000000000 := (HNB0.out SM_aRounds.out); rw [hM] at h7; omega)
  clear hM
  go_wp2_with fail
  refine (mark_windowC OW_r0i.out fun bs ho hnd => yb_mk_IntS (vr0i) d_r0 ((1 : Int)) _ bs _ ho hnd (by omega) (by have := HM_r0i.out; omega)).mono ?_
  rintro e w11 ⟨rfl, hr, b11⟩
  rw [HM_r0i.out]
  clear OW_r0i
  have Z11 : Hid (w10.heap.size ≤ w11.heap.size) := (by have := b11.size; show _ ≤ _; omega)
  replace HB := Lib.hid (HB.out.trans (b11.below (by have := Z1.out; have := Z2.out; have := Z3.out; have := Z4.out; have := Z5.out; have := Z6.out; have := Z7.out; have := Z8.out; have := Z9.out; have := Z10.out; omega) HB.out.size))
  replace OW_r0s := Lib.hid (OW_r0s.out.touch b11 (by have := Z1.out; have := Z2.out; have := Z3.out; have := Z4.out; have := Z5.out; have := Z6.out; have := Z7.out; have := Z8.out; have := Z9.out; have := Z10.out; omega))
  have RN_r0i := Lib.hid hr
  clear hr
  have qd3703 : decide ((1 : Int) + (M_r0i : Int) < 0) = false := decide_eq_false (by omega)
  go_wp2_with fail
  refine (y_hd_IntS (vr0i) d_r0 (1 : Int) _ (RN_r0i.out.all (by have := Z1.out; have := Z2.out; have := Z3.out; have := Z4.out; have := Z5.out; have := Z6.out; have := Z7.out; have := Z8.out; have := Z9.out; have := Z10.out; have := Z11.out; (try simp only [World.alloc, Array.size_push]); omega)) (by omega) (by have := HM_r0i.out; omega)).mono ?_
  rintro e w12 ⟨rfl, b12⟩
  rw [HM_r0i.out]
  have Z12 : Hid (w11.heap.size ≤ w12.heap.size) := (by have := b12.size; show _ ≤ _; omega)
  replace HB := Lib.hid (HB.out.trans (b12.mono HB.out.size))
  replace OW_r0s := Lib.hid (OW_r0s.out.below b12)
  replace RN_r0i := Lib.hid (RN_r0i.out.below b12)
  go_wp2_with fail
  refine (y_to_PairSS (vaRounds) d_aRounds _ (RdA.below HA_aRounds.out HB.out) SM_aRounds.out).mono ?_
  rintro e w13 ⟨vaRoundst3, rfl, ho, b13⟩
  have Z13 : Hid (w12.heap.size ≤ w13.heap.size) := (by have := b13.size; show _ ≤ _; omega)
  replace HB := Lib.hid (HB.out.trans (b13.mono HB.out.size))
  replace OW_r0s := Lib.hid (OW_r0s.out.below b13)
  replace RN_r0i := Lib.hid (RN_r0i.out.below b13)
  have OW_aRoundst3 := Lib.hid (ho.mono (lo' := w12.heap.size) (hi' := w13.heap.size) (by have := Z1.out; have := Z2.out; have := Z3.out; have := Z4.out; have := Z5.out; have := Z6.out; have := Z7.out; have := Z8.out; have := Z9.out; have := Z10.out; have := Z11.out; have := Z12.out; have := Z13.out; (try simp only [World.alloc, Array.size_push]); omega) (Nat.le_refl _) (Nat.le_refl _))
  clear ho
  go_wp2_with fail
  refine (CI.out (vaRoundst3) _ OW_aRoundst3.out.rdA SM_aRounds.out).mono ?_
  rintro e w14 ⟨vr0j, rfl, ho, b14⟩
  have Z14 : Hid (w13.heap.size ≤ w14.heap.size) := (by have := b14.size; show _ ≤ _; omega)
  replace HB := Lib.hid (HB.out.trans (b14.mono HB.out.size))
  replace OW_r0s := Lib.hid (OW_r0s.out.below b14)
  replace RN_r0i := Lib.hid (RN_r0i.out.below b14)
  replace OW_aRoundst3 := Lib.hid (OW_aRoundst3.out.below b14)
  clear OW_aRoundst3
  have OW_r0j := Lib.hid (ho.mono (lo' := w12.heap.size) (hi' := w14.heap.size) (by have := Z1.out; have := Z2.out; have := Z3.out; have := Z4.out; have := Z5.out; have := Z6.out; have := Z7.out; have := Z8.out; have := Z9.out; have := Z10.out; have := Z11.out; have := Z12.out; have := Z13.out; have := Z14.out; (try simp only [World.alloc, Array.size_push]); omega) (Nat.le_refl _) (Nat.le_refl _))
  clear ho
  go_wp2_with fail
  refine (y_eq_IntS (vr0j) (vr0s) d_r0 _ OW_r0j.out.rdA OW_r0s.out.rdA).mono ?_
  rintro e w15 ⟨rfl, b15⟩
  have Z15 : Hid (w14.heap.size ≤ w15.heap.size) := (by have := b15.size; show _ ≤ _; omega)
  replace HB := Lib.hid (HB.out.trans (b15.mono HB.out.size))
  replace OW_r0s := Lib.hid (OW_r0s.out.below b15)
  replace RN_r0i := Lib.hid (RN_r0i.out.below b15)
  replace OW_r0j := Lib.hid (OW_r0j.out.below b15)
  have qd3715 : decide ((1 : Int) + (M_r0i : Int) < 0) = false := decide_eq_false (by omega)
  go_wp2_with fail
  refine (y_hd_IntS (vr0i) d_r0 (1 : Int) _ (RN_r0i.out.all (by have := Z1.out; have := Z2.out; have := Z3.out; have := Z4.out; have := Z5.out; have := Z6.out; have := Z7.out; have := Z8.out; have := Z9.out; have := Z10.out; have := Z11.out; have := Z12.out; have := Z13.out; have := Z14.out; have := Z15.out; (try simp only [World.alloc, Array.size_push]); omega)) (by omega) (by have := HM_r0i.out; omega)).mono ?_
  rintro e w16 ⟨rfl, b16⟩
  rw [HM_r0i.out]
  have Z16 : Hid (w15.heap.size ≤ w16.heap.size) := (by have := b16.size; show _ ≤ _; omega)
  replace HB := Lib.hid (HB.out.trans (b16.mono HB.out.size))
  replace OW_r0s := Lib.hid (OW_r0s.out.below b16)
  replace RN_r0i := Lib.hid (RN_r0i.out.below b16)
  replace OW_r0j := Lib.hid (OW_r0j.out.below b16)
  go_wp2
  go_ret
  exact ⟨rfl, HB.out⟩
set_option maxRecDepth 100000 in
theorem lifted (os : Os) (started : os.Started) (H : Type) (enc : TypeId × Value → H) :
    ReturnsInHanded {} Try.checked os 8 .any (Rows.fnExactVenuesOfSpec.pre6 enc Try.prog Try.f8 Rows.fnExactVenuesOfRow.domain false) (Rows.fnExactVenuesOfSpec.post enc Try.prog Try.f8 false true false false) := by
  refine returnsInHanded_of_change (C := Try.checked) own started (by kernel_rfl) Try.func8
    (ChangeSpec.witness6 (enc := enc) (C := Try.checked) false ⟨#[], #[.slice none 0 0, .int .i64 0], []⟩ 8 (by kernel_rfl) (by kernel_rfl) (by kernel_rfl) (by kernel_rfl)) ?_
  intro W base args ds gs before hval0 hW hcnd _
  have hval : ∀ (j : Nat) t v, Try.f8.params[j]? = some t → args[j]? = some v → Value.okWide Try.prog W .any base t v := hval0
  have hW' := hW
  obtain ⟨p, q, hA0, hV, rfl, hfz, hnd⟩ := hW
  have hA : DataW.TrodAll enc Try.prog W 0 (fun _ => true) true Try.f8.params.toList args.toList ds p := hA0
  rw [Try.params8] at hA hval
  obtain ⟨v0, vs0, d0, ds0, p0, q0, hargs, rfl, rfl, h0, r0⟩ := trodAll_cons hA
  obtain ⟨v1, vs1, d1, ds1, p1, q1, rfl, rfl, rfl, h1, r1⟩ := trodAll_cons r0
  obtain ⟨rfl, rfl, rfl⟩ := trodAll_nil r1
  obtain rfl : args = #[v0, v1] := by cases args; simp_all
  obtain ⟨rfl, rfl⟩ := trodVars_none hV
  have k0 := h0
  have lt0 : ∀ x ∈ p0, x.block < W.heap.size := by obtain ⟨m, hm⟩ := k0; exact DataW.trod_lt m _ _ _ hm
  obtain ⟨x0, y0, f0⟩ := open_arg1 opens_PairSS Try.underlying42 (hval 0 42 v0 rfl rfl) h0
  obtain ⟨a1, rfl, rfl, rfl, w1⟩ := open_int Try.underlying3 (hval 1 3 v1 rfl rfl) h1
  clear hA0 hval0
  simp only [List.append_nil] at hW'
  refine (walk v0 x0 a1 W y0 f0 (intFit_of w1)).mono fun e W' ⟨he, bel⟩ => ?_
  subst he
  exact ⟨_, rfl, _, _, _, [], _, [], hW', trodAll_mk1 (shut_bool Try.underlying4 _), (trodAll_cons_mk (Below.trod laidOut (by kernel_rfl) (of_decide_eq_true (by kernel_rfl)) k0 bel lt0) (trodAll_cons_mk (shut_int Try.underlying3 w1) trodAll_mk0)), rfl, bel.frame _, fun h => by cases h⟩

theorem over : Rows.fnExactVenuesOfRow.holds Try.pinned (OpenSpec.ofChange Rows.fnExactVenuesOfSpec) :=
  OpenClaim.holds_of_wide 8 Try.f8 rfl rfl rfl rfl rfl rfl rfl ⟨rfl, rfl, rfl, rfl, rfl⟩ rfl rfl rfl rfl rfl (by kernel_rfl) Try.func8 (by kernel_rfl)
    (of_decide_eq_true (by kernel_rfl)) (by unfold Func.isWrapper; first | (rw [if_pos (by decide +kernel)]; kernel_rfl) | (rw [if_neg (by decide +kernel)]; exact ⟨rfl, rfl⟩))
    (fun os started H enc _ => lifted os started H enc)

theorem proved : Rows.FnExactVenuesOfSaid := over
end Go.Proofs.Ytgemdjcadlejfaa.fnExactVenuesOf
