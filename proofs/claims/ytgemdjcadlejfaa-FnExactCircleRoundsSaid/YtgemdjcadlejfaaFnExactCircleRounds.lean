/-
  The law FnExactCircleRounds holds for every argument: the program answers as the model does.
-/
import Derived.Test.YtgemdjcadlejfaaRows
import Derived.WalkKit
import Derived.ProofKit
import Derived.OpenShut
import Derived.ShutString
import Derived.ChangeOld
import Derived.Below
import Derived.Lib.Hide
import Derived.Deep.RegionHeld3
import Derived.Test.YtgemdjcadlejfaaQ1
import Derived.Test.YtgemdjcadlejfaaQ2
import Derived.Test.YtgemdjcadlejfaaQ3
import Derived.Test.YtgemdjcadlejfaaQ10
import Derived.Test.YtgemdjcadlejfaaQ12
import Derived.Test.YtgemdjcadlejfaaQ13
namespace Go.Proofs.Ytgemdjcadlejfaa.fnExactCircleRounds
open Go.ChangeShapes Go.WideShapes Go.ChangeAt Go.RowKit
open Go.ChangeMaps (open_string shut_string)
set_option linter.unusedVariables false

theorem own : ownKnob Try.prog.godebug = none := by kernel_rfl
theorem laidOut : laidOutB Try.prog = true := by kernel_rfl

set_option maxHeartbeats 4000000 in
set_option maxRecDepth 100000 in
theorem walk (aN : Int) (w : World) (f_aN : IntFit aN) :
    Calls Try.prog 4 #[.int .i64 aN] w fun e w' => e = .returned (.bool true) ∧ Below w.heap.size w w' := by
  obtain ⟨d_r0, nb0, CS, CI⟩ : ∃ (d_r0 : tPairSS.D), (tPairSS.mks d_r0 ≤ 100000000000) ∧ Hid (∀ (w1 : World), Calls Try.prog 23 #[.int .i64 aN] w1 fun e w' => ∃ vr0 : Value, e = .returned (vr0) ∧ OwN tPairSS w' w1.heap.size w'.heap.size [vr0] d_r0 ∧ Below w1.heap.size w1 w') ∧ Hid (∀ (w1 : World), Calls Try.prog 14 #[.int .i64 aN] w1 fun e w' => ∃ vr0 : Value, e = .returned (vr0) ∧ OwN tPairSS w' w1.heap.size w'.heap.size [vr0] d_r0 ∧ Below w1.heap.size w1 w') := by
    obtain ⟨R, hR⟩ := boolEx (2 ≤ aN ∧ aN ≤ 8)
    exact ⟨_, marks_circ hR, fun w1 => circleRounds_spec aN R hR w1, fun w1 => circleRounds_impl aN R hR w1⟩
  have HB : Hid (Below w.heap.size w w) := Below.refl _ _
  have HNB0 := Lib.hid nb0
  clear nb0
  go_enter Try.func4, Try.ntmps4
  go_wp2_with fail
  refine (CS.out  _ ).mono ?_
  rintro e w1 ⟨vr0s, rfl, ho, b1⟩
  have Z1 : Hid (w.heap.size ≤ w1.heap.size) := (by have := b1.size; show _ ≤ _; omega)
  replace HB := Lib.hid (HB.out.trans (b1.mono HB.out.size))
  have OW_r0s := Lib.hid (ho.mono (lo' := w.heap.size) (hi' := w1.heap.size) (by have := Z1.out; (try simp only [World.alloc, Array.size_push]); omega) (Nat.le_refl _) (Nat.le_refl _))
  clear ho
  go_wp2_with fail
  refine (CI.out  _ ).mono ?_
  rintro e w2 ⟨vr0i, rfl, ho, b2⟩
  have Z2 : Hid (w1.heap.size ≤ w2.heap.size) := (by have := b2.size; show _ ≤ _; omega)
  replace HB := Lib.hid (HB.out.trans (b2.mono HB.out.size))
  replace OW_r0s := Lib.hid (OW_r0s.out.below b2)
  have OW_r0i := Lib.hid (ho.mono (lo' := w1.heap.size) (hi' := w2.heap.size) (by have := Z1.out; have := Z2.out; (try simp only [World.alloc, Array.size_push]); omega) (Nat.le_refl _) (Nat.le_refl _))
  clear ho
  go_wp2_with fail
  refine (y_eq_PairSS (vr0i) (vr0s) d_r0 _ OW_r0i.out.rdA OW_r0s.out.rdA).mono ?_
  rintro e w3 ⟨rfl, b3⟩
  have Z3 : Hid (w2.heap.size ≤ w3.heap.size) := (by have := b3.size; show _ ≤ _; omega)
  replace HB := Lib.hid (HB.out.trans (b3.mono HB.out.size))
  replace OW_r0s := Lib.hid (OW_r0s.out.below b3)
  replace OW_r0i := Lib.hid (OW_r0i.out.below b3)
  obtain ⟨M_r0i, hM⟩ : ∃ z, tPairSS.mks d_r0 = z := ⟨_, rfl⟩
  have HM_r0i := Lib.hid hM
  have hM2_r0i : M_r0i ≤ 100000000000 := (by have h7 : tPairSS.mks d_r0 ≤ 100000000000 := (HNB0.out ); rw [hM] at h7; omega)
  clear hM
  go_wp2_with fail
  refine (mark_windowC OW_r0i.out fun bs ho hnd => yb_mk_PairSS (vr0i) d_r0 ((1 : Int)) _ bs _ ho hnd (by omega) (by have := HM_r0i.out; omega)).mono ?_
  rintro e w4 ⟨rfl, hr, b4⟩
  rw [HM_r0i.out]
  clear OW_r0i
  have Z4 : Hid (w3.heap.size ≤ w4.heap.size) := (by have := b4.size; show _ ≤ _; omega)
  replace HB := Lib.hid (HB.out.trans (b4.below (by have := Z1.out; have := Z2.out; have := Z3.out; omega) HB.out.size))
  replace OW_r0s := Lib.hid (OW_r0s.out.touch b4 (by have := Z1.out; have := Z2.out; have := Z3.out; omega))
  have RN_r0i := Lib.hid hr
  clear hr
  have qd3573 : decide ((1 : Int) + (M_r0i : Int) < 0) = false := decide_eq_false (by omega)
  go_wp2_with fail
  refine (y_hd_PairSS (vr0i) d_r0 (1 : Int) _ (RN_r0i.out.all (by have := Z1.out; have := Z2.out; have := Z3.out; have := Z4.out; (try simp only [World.alloc, Array.size_push]); omega)) (by omega) (by have := HM_r0i.out; omega)).mono ?_
  rintro e w5 ⟨rfl, b5⟩
  rw [HM_r0i.out]
  have Z5 : Hid (w4.heap.size ≤ w5.heap.size) := (by have := b5.size; show _ ≤ _; omega)
  replace HB := Lib.hid (HB.out.trans (b5.mono HB.out.size))
  replace OW_r0s := Lib.hid (OW_r0s.out.below b5)
  replace RN_r0i := Lib.hid (RN_r0i.out.below b5)
  go_wp2_with fail
  refine (CI.out  _ ).mono ?_
  rintro e w6 ⟨vr0j, rfl, ho, b6⟩
  have Z6 : Hid (w5.heap.size ≤ w6.heap.size) := (by have := b6.size; show _ ≤ _; omega)
  replace HB := Lib.hid (HB.out.trans (b6.mono HB.out.size))
  replace OW_r0s := Lib.hid (OW_r0s.out.below b6)
  replace RN_r0i := Lib.hid (RN_r0i.out.below b6)
  have OW_r0j := Lib.hid (ho.mono (lo' := w5.heap.size) (hi' := w6.heap.size) (by have := Z1.out; have := Z2.out; have := Z3.out; have := Z4.out; have := Z5.out; have := Z6.out; (try simp only [World.alloc, Array.size_push]); omega) (Nat.le_refl _) (Nat.le_refl _))
  clear ho
  go_wp2_with fail
  refine (y_eq_PairSS (vr0j) (vr0s) d_r0 _ OW_r0j.out.rdA OW_r0s.out.rdA).mono ?_
  rintro e w7 ⟨rfl, b7⟩
  have Z7 : Hid (w6.heap.size ≤ w7.heap.size) := (by have := b7.size; show _ ≤ _; omega)
  replace HB := Lib.hid (HB.out.trans (b7.mono HB.out.size))
  replace OW_r0s := Lib.hid (OW_r0s.out.below b7)
  replace RN_r0i := Lib.hid (RN_r0i.out.below b7)
  replace OW_r0j := Lib.hid (OW_r0j.out.below b7)
  have qd3585 : decide ((1 : Int) + (M_r0i : Int) < 0) = false := decide_eq_false (by omega)
  go_wp2_with fail
  refine (y_hd_PairSS (vr0i) d_r0 (1 : Int) _ (RN_r0i.out.all (by have := Z1.out; have := Z2.out; have := Z3.out; have := Z4.out; have := Z5.out; have := Z6.out; have := Z7.out; (try simp only [World.alloc, Array.size_push]); omega)) (by omega) (by have := HM_r0i.out; omega)).mono ?_
  rintro e w8 ⟨rfl, b8⟩
  rw [HM_r0i.out]
  have Z8 : Hid (w7.heap.size ≤ w8.heap.size) := (by have := b8.size; show _ ≤ _; omega)
  replace HB := Lib.hid (HB.out.trans (b8.mono HB.out.size))
  replace OW_r0s := Lib.hid (OW_r0s.out.below b8)
  replace RN_r0i := Lib.hid (RN_r0i.out.below b8)
  replace OW_r0j := Lib.hid (OW_r0j.out.below b8)
  go_wp2
  go_ret
  exact ⟨rfl, HB.out⟩
set_option maxRecDepth 100000 in
theorem lifted (os : Os) (started : os.Started) (H : Type) (enc : TypeId × Value → H) :
    ReturnsInHanded {} Try.checked os 4 .any (Rows.fnExactCircleRoundsSpec.pre6 enc Try.prog Try.f4 Rows.fnExactCircleRoundsRow.domain false) (Rows.fnExactCircleRoundsSpec.post enc Try.prog Try.f4 false true false false) := by
  refine returnsInHanded_of_change (C := Try.checked) own started (by kernel_rfl) Try.func4
    (ChangeSpec.witness6 (enc := enc) (C := Try.checked) false ⟨#[], #[.int .i64 0], []⟩ 8 (by kernel_rfl) (by kernel_rfl) (by kernel_rfl) (by kernel_rfl)) ?_
  intro W base args ds gs before hval0 hW hcnd _
  have hval : ∀ (j : Nat) t v, Try.f4.params[j]? = some t → args[j]? = some v → Value.okWide Try.prog W .any base t v := hval0
  have hW' := hW
  obtain ⟨p, q, hA0, hV, rfl, hfz, hnd⟩ := hW
  have hA : DataW.TrodAll enc Try.prog W 0 (fun _ => true) true Try.f4.params.toList args.toList ds p := hA0
  rw [Try.params4] at hA hval
  obtain ⟨v0, vs0, d0, ds0, p0, q0, hargs, rfl, rfl, h0, r0⟩ := trodAll_cons hA
  obtain ⟨rfl, rfl, rfl⟩ := trodAll_nil r0
  obtain rfl : args = #[v0] := by cases args; simp_all
  obtain ⟨rfl, rfl⟩ := trodVars_none hV
  obtain ⟨a0, rfl, rfl, rfl, w0⟩ := open_int Try.underlying3 (hval 0 3 v0 rfl rfl) h0
  clear hA0 hval0
  simp only [List.append_nil] at hW'
  refine (walk a0 W (intFit_of w0)).mono fun e W' ⟨he, bel⟩ => ?_
  subst he
  exact ⟨_, rfl, _, _, _, [], _, [], hW', trodAll_mk1 (shut_bool Try.underlying4 _), (trodAll_cons_mk (shut_int Try.underlying3 w0) trodAll_mk0), rfl, bel.frame _, fun h => by cases h⟩

theorem over : Rows.fnExactCircleRoundsRow.holds Try.pinned (OpenSpec.ofChange Rows.fnExactCircleRoundsSpec) :=
  OpenClaim.holds_of_wide 4 Try.f4 rfl rfl rfl rfl rfl rfl rfl ⟨rfl, rfl, rfl, rfl, rfl⟩ rfl rfl rfl rfl rfl (by kernel_rfl) Try.func4 (by kernel_rfl)
    (of_decide_eq_true (by kernel_rfl)) (by unfold Func.isWrapper; first | (rw [if_pos (by decide +kernel)]; kernel_rfl) | (rw [if_neg (by decide +kernel)]; exact ⟨rfl, rfl⟩))
    (fun os started H enc _ => lifted os started H enc)

theorem proved : Rows.FnExactCircleRoundsSaid := over
end Go.Proofs.Ytgemdjcadlejfaa.fnExactCircleRounds
