/-
  The law FnExactLastDay holds for every argument: the program answers as the model does.
-/
import Derived.Test.YtcbpgbiannpfpaaRows
import Derived.WalkKit
import Derived.ProofKit
import Derived.OpenShut
import Derived.ShutString
import Derived.ChangeOld
import Derived.Below
import Derived.Lib.Hide
import Derived.Deep.RegionHeld3
import Derived.Test.YtcbpgbiannpfpaaQ1
import Derived.Test.YtcbpgbiannpfpaaQ2
import Derived.Test.YtcbpgbiannpfpaaQ4
import Derived.Test.YtcbpgbiannpfpaaQ7
import Derived.Test.YtcbpgbiannpfpaaQ9
import Derived.Test.YtcbpgbiannpfpaaQ10
import Derived.Test.YtcbpgbiannpfpaaQ11
import Derived.Test.YtcbpgbiannpfpaaQ12
namespace Go.Proofs.Ytcbpgbiannpfpaa.fnExactLastDay
open Go.ChangeShapes Go.WideShapes Go.ChangeAt Go.RowKit
open Go.ChangeMaps (open_string shut_string)
set_option linter.unusedVariables false

theorem own : ownKnob Try.prog.godebug = none := by kernel_rfl
theorem laidOut : laidOutB Try.prog = true := by kernel_rfl

set_option maxHeartbeats 4000000 in
set_option maxRecDepth 100000 in
theorem walk (vaDates : Value) (d_aDates : tIntS.D) (w : World) (h_aDates : RdA tIntS w [vaDates] d_aDates) (f_aDates : tIntS.fit d_aDates) :
    Calls Try.prog 6 #[vaDates] w fun e w' => e = .returned (.bool true) ∧ Below w.heap.size w w' := by
  obtain ⟨r0, CS, CI⟩ : ∃ (r0 : Int), Hid (∀ (vaDates : Value) (w1 : World), RdA tIntS w1 [vaDates] d_aDates → tIntS.wt d_aDates ≤ 1048576 → Calls Try.prog 25 #[vaDates] w1 fun e w' => e = .returned (.int .i64 r0) ∧ Below w1.heap.size w1 w') ∧ Hid (∀ (vaDates : Value) (w1 : World), RdA tIntS w1 [vaDates] d_aDates → tIntS.wt d_aDates ≤ 1048576 → Calls Try.prog 26 #[vaDates] w1 fun e w' => e = .returned (.int .i64 r0) ∧ Below w1.heap.size w1 w') := by
    exact ⟨_, fun v w1 h s => lastDay_spec v d_aDates w1 (rd_IntS.1 h), fun v w1 h s => lastDay_impl v d_aDates w1 (rd_IntS.1 h)⟩
  have HB : Hid (Below w.heap.size w w) := Below.refl _ _
  obtain ⟨sa_aDates, sc_aDates, hv_aDates, hm_aDates⟩ := rd_row_form h_aDates
  obtain ⟨n_aDates, hn_aDates⟩ : ∃ n, List.length d_aDates = n := ⟨_, rfl⟩
  rw [hn_aDates] at hv_aDates hm_aDates
  subst hv_aDates
  have HN_aDates := Lib.hid hn_aDates
  clear hn_aDates
  have HA_aDates := Lib.hid h_aDates
  have HF_aDates := Lib.hid f_aDates
  clear h_aDates f_aDates
  by_cases hl_aDates : 1048576 < n_aDates
  · have g0 : decide ((1048576 : Int) < (n_aDates : Int)) = true := decide_eq_true (by omega)
    have g0' : decide (1048576 < n_aDates) = true := decide_eq_true (by omega)
    go_enter Try.func6, Try.ntmps6
    go_wp2
    go_ret
    exact ⟨rfl, HB.out⟩
  have hs_aDates : n_aDates ≤ 1048576 := by omega
  have hg_aDates : decide ((1048576 : Int) < (n_aDates : Int)) = false := decide_eq_false (by omega)
  have hg2_aDates : decide (1048576 < n_aDates) = false := decide_eq_false (by omega)
  have SM_aDates : Hid (tIntS.wt d_aDates ≤ 1048576) := Nat.le_trans (Nat.le_of_eq ((wt_IntS d_aDates).trans HN_aDates.out)) hs_aDates
  clear hl_aDates
  go_enter Try.func6, Try.ntmps6
  go_wp2_with fail
  refine (y_to_IntS (.slice sa_aDates n_aDates sc_aDates) d_aDates _ (RdA.below HA_aDates.out HB.out) SM_aDates.out).mono ?_
  rintro e w1 ⟨vaDatest1, rfl, ho, b1⟩
  have Z1 : Hid (w.heap.size ≤ w1.heap.size) := (by have := b1.size; show _ ≤ _; omega)
  replace HB := Lib.hid (HB.out.trans (b1.mono HB.out.size))
  have OW_aDatest1 := Lib.hid (ho.mono (lo' := w.heap.size) (hi' := w1.heap.size) (by have := Z1.out; (try simp only [World.alloc, Array.size_push]); omega) (Nat.le_refl _) (Nat.le_refl _))
  clear ho
  go_wp2_with fail
  refine (CS.out (vaDatest1) _ OW_aDatest1.out.rdA SM_aDates.out).mono ?_
  rintro e w2 ⟨rfl, b2⟩
  have Z2 : Hid (w1.heap.size ≤ w2.heap.size) := (by have := b2.size; show _ ≤ _; omega)
  replace HB := Lib.hid (HB.out.trans (b2.mono HB.out.size))
  replace OW_aDatest1 := Lib.hid (OW_aDatest1.out.below b2)
  clear OW_aDatest1
  go_wp2_with fail
  refine (y_to_IntS (.slice sa_aDates n_aDates sc_aDates) d_aDates _ (RdA.below HA_aDates.out HB.out) SM_aDates.out).mono ?_
  rintro e w3 ⟨vaDatesx, rfl, ho, b3⟩
  have Z3 : Hid (w2.heap.size ≤ w3.heap.size) := (by have := b3.size; show _ ≤ _; omega)
  replace HB := Lib.hid (HB.out.trans (b3.mono HB.out.size))
  have OW_aDatesx := Lib.hid (ho.mono (lo' := w2.heap.size) (hi' := w3.heap.size) (by have := Z1.out; have := Z2.out; have := Z3.out; (try simp only [World.alloc, Array.size_push]); omega) (Nat.le_refl _) (Nat.le_refl _))
  clear ho
  go_wp2_with fail
  refine (CI.out (vaDatesx) _ OW_aDatesx.out.rdA SM_aDates.out).mono ?_
  rintro e w4 ⟨rfl, b4⟩
  have Z4 : Hid (w3.heap.size ≤ w4.heap.size) := (by have := b4.size; show _ ≤ _; omega)
  replace HB := Lib.hid (HB.out.trans (b4.mono HB.out.size))
  replace OW_aDatesx := Lib.hid (OW_aDatesx.out.below b4)
  go_wp2_with fail
  refine (y_to_IntS (.slice sa_aDates n_aDates sc_aDates) d_aDates _ (RdA.below HA_aDates.out HB.out) SM_aDates.out).mono ?_
  rintro e w5 ⟨vaDatest2, rfl, ho, b5⟩
  have Z5 : Hid (w4.heap.size ≤ w5.heap.size) := (by have := b5.size; show _ ≤ _; omega)
  replace HB := Lib.hid (HB.out.trans (b5.mono HB.out.size))
  replace OW_aDatesx := Lib.hid (OW_aDatesx.out.below b5)
  have OW_aDatest2 := Lib.hid (ho.mono (lo' := w4.heap.size) (hi' := w5.heap.size) (by have := Z1.out; have := Z2.out; have := Z3.out; have := Z4.out; have := Z5.out; (try simp only [World.alloc, Array.size_push]); omega) (Nat.le_refl _) (Nat.le_refl _))
  clear ho
  go_wp2_with fail
  refine (y_eq_IntS (vaDatesx) (vaDatest2) d_aDates _ OW_aDatesx.out.rdA OW_aDatest2.out.rdA).mono ?_
  rintro e w6 ⟨rfl, b6⟩
  have Z6 : Hid (w5.heap.size ≤ w6.heap.size) := (by have := b6.size; show _ ≤ _; omega)
  replace HB := Lib.hid (HB.out.trans (b6.mono HB.out.size))
  replace OW_aDatesx := Lib.hid (OW_aDatesx.out.below b6)
  replace OW_aDatest2 := Lib.hid (OW_aDatest2.out.below b6)
  clear OW_aDatest2
  go_wp2
  go_ret
  exact ⟨rfl, HB.out⟩
set_option maxRecDepth 100000 in
theorem lifted (os : Os) (started : os.Started) (H : Type) (enc : TypeId × Value → H) :
    ReturnsInHanded {} Try.checked os 6 .any (Rows.fnExactLastDaySpec.pre6 enc Try.prog Try.f6 Rows.fnExactLastDayRow.domain false) (Rows.fnExactLastDaySpec.post enc Try.prog Try.f6 false true false false) := by
  refine returnsInHanded_of_change (C := Try.checked) own started (by kernel_rfl) Try.func6
    (ChangeSpec.witness6 (enc := enc) (C := Try.checked) false ⟨#[], #[.slice none 0 0], []⟩ 8 (by kernel_rfl) (by kernel_rfl) (by kernel_rfl) (by kernel_rfl)) ?_
  intro W base args ds gs before hval0 hW hcnd _
  have hval : ∀ (j : Nat) t v, Try.f6.params[j]? = some t → args[j]? = some v → Value.okWide Try.prog W .any base t v := hval0
  have hW' := hW
  obtain ⟨p, q, hA0, hV, rfl, hfz, hnd⟩ := hW
  have hA : DataW.TrodAll enc Try.prog W 0 (fun _ => true) true Try.f6.params.toList args.toList ds p := hA0
  rw [Try.params6] at hA hval
  obtain ⟨v0, vs0, d0, ds0, p0, q0, hargs, rfl, rfl, h0, r0⟩ := trodAll_cons hA
  obtain ⟨rfl, rfl, rfl⟩ := trodAll_nil r0
  obtain rfl : args = #[v0] := by cases args; simp_all
  obtain ⟨rfl, rfl⟩ := trodVars_none hV
  have k0 := h0
  have lt0 : ∀ x ∈ p0, x.block < W.heap.size := by obtain ⟨m, hm⟩ := k0; exact DataW.trod_lt m _ _ _ hm
  obtain ⟨x0, y0, f0⟩ := open_arg1 opens_IntS Try.underlying37 (hval 0 37 v0 rfl rfl) h0
  clear hA0 hval0
  simp only [List.append_nil] at hW'
  refine (walk v0 x0 W y0 f0).mono fun e W' ⟨he, bel⟩ => ?_
  subst he
  exact ⟨_, rfl, _, _, _, [], _, [], hW', trodAll_mk1 (shut_bool Try.underlying4 _), (trodAll_cons_mk (Below.trod laidOut (by kernel_rfl) (of_decide_eq_true (by kernel_rfl)) k0 bel lt0) trodAll_mk0), rfl, bel.frame _, fun h => by cases h⟩

theorem over : Rows.fnExactLastDayRow.holds Try.pinned (OpenSpec.ofChange Rows.fnExactLastDaySpec) :=
  OpenClaim.holds_of_wide 6 Try.f6 rfl rfl rfl rfl rfl rfl rfl ⟨rfl, rfl, rfl, rfl, rfl⟩ rfl rfl rfl rfl rfl (by kernel_rfl) Try.func6 (by kernel_rfl)
    (of_decide_eq_true (by kernel_rfl)) (by unfold Func.isWrapper; first | (rw [if_pos (by decide +kernel)]; kernel_rfl) | (rw [if_neg (by decide +kernel)]; exact ⟨rfl, rfl⟩))
    (fun os started H enc _ => lifted os started H enc)

theorem proved : Rows.FnExactLastDaySaid := over
end Go.Proofs.Ytcbpgbiannpfpaa.fnExactLastDay
