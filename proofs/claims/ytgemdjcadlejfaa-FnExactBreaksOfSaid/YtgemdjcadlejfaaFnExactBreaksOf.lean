/-
  The law FnExactBreaksOf holds for every argument: the program answers as the model does.
-/
import Derived.Test.YtgemdjcadlejfaaRows
import Derived.WalkKit
import Derived.ProofKit
import Derived.OpenShut
import Derived.ShutString
import Derived.ChangeOld
import Derived.Below
import Derived.Lib.Hide
import Derived.Deep.RegionHeld3
import Derived.Test.YtgemdjcadlejfaaQ1
import Derived.Test.YtgemdjcadlejfaaQ2
import Derived.Test.YtgemdjcadlejfaaQ3
import Derived.Test.YtgemdjcadlejfaaQ5
import Derived.Test.YtgemdjcadlejfaaQ10
import Derived.Test.YtgemdjcadlejfaaQ12
import Derived.Test.YtgemdjcadlejfaaQ13
namespace Go.Proofs.Ytgemdjcadlejfaa.fnExactBreaksOf
open Go.ChangeShapes Go.WideShapes Go.ChangeAt Go.RowKit
open Go.ChangeMaps (open_string shut_string)
set_option linter.unusedVariables false

theorem own : ownKnob Try.prog.godebug = none := by kernel_rfl
theorem laidOut : laidOutB Try.prog = true := by kernel_rfl

set_option maxHeartbeats 4000000 in
set_option maxRecDepth 100000 in
theorem walk (vaRounds : Value) (d_aRounds : tPairSS.D) (aTeam : Int) (w : World) (h_aRounds : RdA tPairSS w [vaRounds] d_aRounds) (f_aRounds : tPairSS.fit d_aRounds) (f_aTeam : IntFit aTeam) :
    Calls Try.prog 9 #[vaRounds, .int .i64 aTeam] w fun e w' => e = .returned (.bool true) ∧ Below w.heap.size w w' := by
  obtain ⟨r0, CS, CI⟩ : ∃ (r0 : Int), Hid (∀ (vaRounds : Value) (w1 : World), RdA tPairSS w1 [vaRounds] d_aRounds → tPairSS.wt d_aRounds ≤ 1048576 → Calls Try.prog 37 #[vaRounds, .int .i64 aTeam] w1 fun e w' => e = .returned (.int .i64 r0) ∧ Below w1.heap.size w1 w') ∧ Hid (∀ (vaRounds : Value) (w1 : World), RdA tPairSS w1 [vaRounds] d_aRounds → tPairSS.wt d_aRounds ≤ 1048576 → Calls Try.prog 20 #[vaRounds, .int .i64 aTeam] w1 fun e w' => e = .returned (.int .i64 r0) ∧ Below w1.heap.size w1 w') := by
    exact ⟨_, fun v w1 h s => breaksOf_spec v d_aRounds aTeam w1 h s, fun v w1 h s => breaksOf_impl v d_aRounds aTeam w1 h s⟩
  have HB : Hid (Below w.heap.size w w) := Below.refl _ _
  have HA_aRounds := Lib.hid h_aRounds
  have HF_aRounds := Lib.hid f_aRounds
  clear h_aRounds f_aRounds
  go_enter Try.func9, Try.ntmps9
  go_wp2_with fail
  refine (y_sz_PairSS (vaRounds) d_aRounds (1048576) _ (by omega) (by omega) (RdA.below HA_aRounds.out HB.out)).mono ?_
  rintro e w1 ⟨⟨r1, rfl, hr1⟩, b1⟩
  have Z1 : Hid (w.heap.size ≤ w1.heap.size) := (by have := b1.size; show _ ≤ _; omega)
  replace HB := Lib.hid (HB.out.trans (b1.mono HB.out.size))
  by_cases hn1 : r1 < 0
  · have g2 : decide (r1 < 0) = true := decide_eq_true hn1
    clear hr1
    go_wp2
    go_ret
    exact ⟨rfl, HB.out⟩
  have g1 : decide (r1 < 0) = false := decide_eq_false hn1
  have SM_aRounds : Hid (tPairSS.wt d_aRounds ≤ 1048576) := (by show _ ≤ _; omega)
  replace hn1 : 0 ≤ r1 ∧ r1 ≤ 1048576 := by omega
  clear hr1
  go_wp2_with fail
  refine (y_to_PairSS (vaRounds) d_aRounds _ (RdA.below HA_aRounds.out HB.out) SM_aRounds.out).mono ?_
  rintro e w2 ⟨vaRoundst1, rfl, ho, b2⟩
  have Z2 : Hid (w1.heap.size ≤ w2.heap.size) := (by have := b2.size; show _ ≤ _; omega)
  replace HB := Lib.hid (HB.out.trans (b2.mono HB.out.size))
  have OW_aRoundst1 := Lib.hid (ho.mono (lo' := w1.heap.size) (hi' := w2.heap.size) (by have := Z1.out; have := Z2.out; (try simp only [World.alloc, Array.size_push]); omega) (Nat.le_refl _) (Nat.le_refl _))
  clear ho
  go_wp2_with fail
  refine (CS.out (vaRoundst1) _ OW_aRoundst1.out.rdA SM_aRounds.out).mono ?_
  rintro e w3 ⟨rfl, b3⟩
  have Z3 : Hid (w2.heap.size ≤ w3.heap.size) := (by have := b3.size; show _ ≤ _; omega)
  replace HB := Lib.hid (HB.out.trans (b3.mono HB.out.size))
  replace OW_aRoundst1 := Lib.hid (OW_aRoundst1.out.below b3)
  clear OW_aRoundst1
  go_wp2_with fail
  refine (y_to_PairSS (vaRounds) d_aRounds _ (RdA.below HA_aRounds.out HB.out) SM_aRounds.out).mono ?_
  rintro e w4 ⟨vaRoundsx, rfl, ho, b4⟩
  have Z4 : Hid (w3.heap.size ≤ w4.heap.size) := (by have := b4.size; show _ ≤ _; omega)
  replace HB := Lib.hid (HB.out.trans (b4.mono HB.out.size))
  have OW_aRoundsx := Lib.hid (ho.mono (lo' := w3.heap.size) (hi' := w4.heap.size) (by have := Z1.out; have := Z2.out; have := Z3.out; have := Z4.out; (try simp only [World.alloc, Array.size_push]); omega) (Nat.le_refl _) (Nat.le_refl _))
  clear ho
  go_wp2_with fail
  refine (CI.out (vaRoundsx) _ OW_aRoundsx.out.rdA SM_aRounds.out).mono ?_
  rintro e w5 ⟨rfl, b5⟩
  have Z5 : Hid (w4.heap.size ≤ w5.heap.size) := (by have := b5.size; show _ ≤ _; omega)
  replace HB := Lib.hid (HB.out.trans (b5.mono HB.out.size))
  replace OW_aRoundsx := Lib.hid (OW_aRoundsx.out.below b5)
  go_wp2_with fail
  refine (y_to_PairSS (vaRounds) d_aRounds _ (RdA.below HA_aRounds.out HB.out) SM_aRounds.out).mono ?_
  rintro e w6 ⟨vaRoundst2, rfl, ho, b6⟩
  have Z6 : Hid (w5.heap.size ≤ w6.heap.size) := (by have := b6.size; show _ ≤ _; omega)
  replace HB := Lib.hid (HB.out.trans (b6.mono HB.out.size))
  replace OW_aRoundsx := Lib.hid (OW_aRoundsx.out.below b6)
  have OW_aRoundst2 := Lib.hid (ho.mono (lo' := w5.heap.size) (hi' := w6.heap.size) (by have := Z1.out; have := Z2.out; have := Z3.out; have := Z4.out; have := Z5.out; have := Z6.out; (try simp only [World.alloc, Array.size_push]); omega) (Nat.le_refl _) (Nat.le_refl _))
  clear ho
  go_wp2_with fail
  refine (y_eq_PairSS (vaRoundsx) (vaRoundst2) d_aRounds _ OW_aRoundsx.out.rdA OW_aRoundst2.out.rdA).mono ?_
  rintro e w7 ⟨rfl, b7⟩
  have Z7 : Hid (w6.heap.size ≤ w7.heap.size) := (by have := b7.size; show _ ≤ _; omega)
  replace HB := Lib.hid (HB.out.trans (b7.mono HB.out.size))
  replace OW_aRoundsx := Lib.hid (OW_aRoundsx.out.below b7)
  replace OW_aRoundst2 := Lib.hid (OW_aRoundst2.out.below b7)
  clear OW_aRoundst2
  go_wp2
  go_ret
  exact ⟨rfl, HB.out⟩
set_option maxRecDepth 100000 in
theorem lifted (os : Os) (started : os.Started) (H : Type) (enc : TypeId × Value → H) :
    ReturnsInHanded {} Try.checked os 9 .any (Rows.fnExactBreaksOfSpec.pre6 enc Try.prog Try.f9 Rows.fnExactBreaksOfRow.domain false) (Rows.fnExactBreaksOfSpec.post enc Try.prog Try.f9 false true false false) := by
  refine returnsInHanded_of_change (C := Try.checked) own started (by kernel_rfl) Try.func9
    (ChangeSpec.witness6 (enc := enc) (C := Try.checked) false ⟨#[], #[.slice none 0 0, .int .i64 0], []⟩ 8 (by kernel_rfl) (by kernel_rfl) (by kernel_rfl) (by kernel_rfl)) ?_
  intro W base args ds gs before hval0 hW hcnd _
  have hval : ∀ (j : Nat) t v, Try.f9.params[j]? = some t → args[j]? = some v → Value.okWide Try.prog W .any base t v := hval0
  have hW' := hW
  obtain ⟨p, q, hA0, hV, rfl, hfz, hnd⟩ := hW
  have hA : DataW.TrodAll enc Try.prog W 0 (fun _ => true) true Try.f9.params.toList args.toList ds p := hA0
  rw [Try.params9] at hA hval
  obtain ⟨v0, vs0, d0, ds0, p0, q0, hargs, rfl, rfl, h0, r0⟩ := trodAll_cons hA
  obtain ⟨v1, vs1, d1, ds1, p1, q1, rfl, rfl, rfl, h1, r1⟩ := trodAll_cons r0
  obtain ⟨rfl, rfl, rfl⟩ := trodAll_nil r1
  obtain rfl : args = #[v0, v1] := by cases args; simp_all
  obtain ⟨rfl, rfl⟩ := trodVars_none hV
  have k0 := h0
  have lt0 : ∀ x ∈ p0, x.block < W.heap.size := by obtain ⟨m, hm⟩ := k0; exact DataW.trod_lt m _ _ _ hm
  obtain ⟨x0, y0, f0⟩ := open_arg1 opens_PairSS Try.underlying42 (hval 0 42 v0 rfl rfl) h0
  obtain ⟨a1, rfl, rfl, rfl, w1⟩ := open_int Try.underlying3 (hval 1 3 v1 rfl rfl) h1
  clear hA0 hval0
  simp only [List.append_nil] at hW'
  refine (walk v0 x0 a1 W y0 f0 (intFit_of w1)).mono fun e W' ⟨he, bel⟩ => ?_
  subst he
  exact ⟨_, rfl, _, _, _, [], _, [], hW', trodAll_mk1 (shut_bool Try.underlying4 _), (trodAll_cons_mk (Below.trod laidOut (by kernel_rfl) (of_decide_eq_true (by kernel_rfl)) k0 bel lt0) (trodAll_cons_mk (shut_int Try.underlying3 w1) trodAll_mk0)), rfl, bel.frame _, fun h => by cases h⟩

theorem over : Rows.fnExactBreaksOfRow.holds Try.pinned (OpenSpec.ofChange Rows.fnExactBreaksOfSpec) :=
  OpenClaim.holds_of_wide 9 Try.f9 rfl rfl rfl rfl rfl rfl rfl ⟨rfl, rfl, rfl, rfl, rfl⟩ rfl rfl rfl rfl rfl (by kernel_rfl) Try.func9 (by kernel_rfl)
    (of_decide_eq_true (by kernel_rfl)) (by unfold Func.isWrapper; first | (rw [if_pos (by decide +kernel)]; kernel_rfl) | (rw [if_neg (by decide +kernel)]; exact ⟨rfl, rfl⟩))
    (fun os started H enc _ => lifted os started H enc)

theorem proved : Rows.FnExactBreaksOfSaid := over
end Go.Proofs.Ytgemdjcadlejfaa.fnExactBreaksOf
