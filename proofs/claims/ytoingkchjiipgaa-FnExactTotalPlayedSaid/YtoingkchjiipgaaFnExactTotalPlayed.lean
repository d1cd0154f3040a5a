/-
  The law FnExactTotalPlayed holds for every argument: the program answers as the model does.
-/
import Derived.Test.YtoingkchjiipgaaRows
import Derived.WalkKit
import Derived.ProofKit
import Derived.OpenShut
import Derived.ShutString
import Derived.ChangeOld
import Derived.Below
import Derived.Lib.Hide
import Derived.Test.YtoingkchjiipgaaLawKit
import Derived.Test.YtoingkchjiipgaaOpenAgg
import Derived.Deep.RegionHeld3
import Derived.Test.YtoingkchjiipgaaTables2
import Derived.Test.YtoingkchjiipgaaTablesImplA
import Derived.Test.YtoingkchjiipgaaTypeRow
namespace Go.Proofs.Ytoingkchjiipgaa.fnExactTotalPlayed
open Go.ChangeShapes Go.WideShapes Go.ChangeAt Go.RowKit
open Go.ChangeMaps (open_string shut_string)
set_option linter.unusedVariables false

theorem own : ownKnob Try.prog.godebug = none := by kernel_rfl
theorem laidOut : laidOutB Try.prog = true := by kernel_rfl

set_option maxHeartbeats 2000000 in
set_option maxRecDepth 100000 in
theorem walk (vRows : Value) (nRows : Nat) (gRows : Nat → RowD) (w : World) (hRows : RowRow w vRows nRows gRows) (fRows : ∀ i, (gRows i).fit) :
    Calls Try.prog 8 #[vRows] w fun e w' => e = .returned (.bool true) ∧ Below w.heap.size w w' := by
  obtain ⟨ar0, CS, CI⟩ : ∃ (ar0 : Int), Hid (∀ (vRows : Value) (w1 : World), RowRow w1 vRows nRows gRows → Calls Try.prog 41 #[vRows] w1 fun e w' => e = .returned (.int .i64 ar0) ∧ Below w1.heap.size w1 w') ∧ Hid (∀ (vRows : Value) (w1 : World), RowRow w1 vRows nRows gRows → Calls Try.prog 18 #[vRows] w1 fun e w' => e = .returned (.int .i64 ar0) ∧ Below w1.heap.size w1 w') := by
    exact ⟨_, fun v w1 h => totalPlayed_spec v nRows gRows w1 h, fun v w1 h => totalPlayed_impl v nRows gRows w1 h⟩
  have hb : Below w.heap.size w w := Below.refl _ _
  have iRows : 0 < nRows → InW 0 w.heap.size vRows := fun h0 => InW.rowRow hRows h0 (Nat.le_refl _)
  go_enter Try.func8, Try.ntmps8
  go_wp2_with fail
  refine (x_sz_RowS vRows nRows gRows (1048576) _ (by omega) (by omega) hRows).mono ?_
  rintro e w1 ⟨⟨r1, rfl, hr1⟩, b1⟩
  have z1 : w.heap.size ≤ w1.heap.size := b1.size
  replace hRows := hRows.below b1 (Nat.le_refl _)
  replace hb := hb.trans (b1.mono hb.size)
  by_cases hn1 : r1 < 0
  · have g2 : decide (r1 < 0) = true := decide_eq_true hn1
    clear hr1
    go_wp2
    go_ret
    exact ⟨rfl, hb⟩
  have g1 : decide (r1 < 0) = false := decide_eq_false hn1
  have hle1 : r1 ≤ 1048576 := by omega
  have smRows : nRows ≤ 1048576 := by omega
  replace hn1 : 0 ≤ r1 := by omega
  clear hr1
  go_wp2_with fail
  refine (x_to_RowS vRows nRows gRows _ hRows (by omega)).mono ?_
  rintro e w2 ⟨vRowst1, rfl, hRowst1, ⟨xRowst1, oRowst1⟩, b2⟩
  have z2 : w1.heap.size ≤ w2.heap.size := b2.size
  replace hRows := hRows.below b2 (Nat.le_refl _)
  replace hb := hb.trans (b2.mono hb.size)
  replace oRowst1 := owns_mono oRowst1 (base' := w1.heap.size) (by simp <;> omega)
  have iRowst1 : InW w1.heap.size w2.heap.size vRowst1 := InW.of_owns oRowst1
  go_wp2_with fail
  refine (CS.out vRowst1 _ hRowst1).mono ?_
  rintro e w3 ⟨rfl, b3⟩
  have z3 : w2.heap.size ≤ w3.heap.size := b3.size
  replace hRows := hRows.below b3 (Nat.le_refl _)
  replace hb := hb.trans (b3.mono hb.size)
  replace hRowst1 := hRowst1.below b3 (Nat.le_refl _)
  replace oRowst1 := owns_below oRowst1 b3 (Nat.le_refl _)
  clear hRowst1 oRowst1
  go_wp2_with fail
  refine (x_to_RowS vRows nRows gRows _ hRows (by omega)).mono ?_
  rintro e w4 ⟨vRowsx, rfl, hRowsx, ⟨xRowsx, oRowsx⟩, b4⟩
  have z4 : w3.heap.size ≤ w4.heap.size := b4.size
  replace hRows := hRows.below b4 (Nat.le_refl _)
  replace hb := hb.trans (b4.mono hb.size)
  replace oRowsx := owns_mono oRowsx (base' := w3.heap.size) (by simp <;> omega)
  have iRowsx : InW w3.heap.size w4.heap.size vRowsx := InW.of_owns oRowsx
  go_wp2_with fail
  refine (CI.out vRowsx _ hRowsx).mono ?_
  rintro e w5 ⟨rfl, b5⟩
  have z5 : w4.heap.size ≤ w5.heap.size := b5.size
  replace hRows := hRows.below b5 (Nat.le_refl _)
  replace hb := hb.trans (b5.mono hb.size)
  replace hRowsx := hRowsx.below b5 (Nat.le_refl _)
  replace oRowsx := owns_below oRowsx b5 (Nat.le_refl _)
  go_wp2_with fail
  refine (x_to_RowS vRows nRows gRows _ hRows (by omega)).mono ?_
  rintro e w6 ⟨vRowst2, rfl, hRowst2, ⟨xRowst2, oRowst2⟩, b6⟩
  have z6 : w5.heap.size ≤ w6.heap.size := b6.size
  replace hRows := hRows.below b6 (Nat.le_refl _)
  replace hb := hb.trans (b6.mono hb.size)
  replace hRowsx := hRowsx.below b6 (Nat.le_refl _)
  replace oRowsx := owns_below oRowsx b6 (Nat.le_refl _)
  replace oRowst2 := owns_mono oRowst2 (base' := w5.heap.size) (by simp <;> omega)
  have iRowst2 : InW w5.heap.size w6.heap.size vRowst2 := InW.of_owns oRowst2
  go_wp2_with fail
  refine (x_eq_RowS vRowsx nRows gRows vRowst2 _ hRowsx hRowst2).mono ?_
  rintro e w7 ⟨rfl, b7⟩
  have z7 : w6.heap.size ≤ w7.heap.size := b7.size
  replace hRows := hRows.below b7 (Nat.le_refl _)
  replace hb := hb.trans (b7.mono hb.size)
  replace hRowsx := hRowsx.below b7 (Nat.le_refl _)
  replace oRowsx := owns_below oRowsx b7 (Nat.le_refl _)
  replace hRowst2 := hRowst2.below b7 (Nat.le_refl _)
  replace oRowst2 := owns_below oRowst2 b7 (Nat.le_refl _)
  clear hRowst2 oRowst2
  go_wp2
  go_ret
  exact ⟨rfl, hb⟩
set_option maxRecDepth 100000 in
theorem lifted (os : Os) (started : os.Started) (H : Type) (enc : TypeId × Value → H) :
    ReturnsInHanded {} Try.checked os 8 .any (Rows.fnExactTotalPlayedSpec.pre6 enc Try.prog Try.f8 Rows.fnExactTotalPlayedRow.domain false) (Rows.fnExactTotalPlayedSpec.post enc Try.prog Try.f8 false true false false) := by
  refine returnsInHanded_of_change (C := Try.checked) own started (by kernel_rfl) Try.func8
    (ChangeSpec.witness6 (enc := enc) (C := Try.checked) false ⟨#[], #[.slice none 0 0], []⟩ 8 (by kernel_rfl) (by kernel_rfl) (by kernel_rfl) (by kernel_rfl)) ?_
  intro W base args ds gs before hval0 hW hcnd _
  have hval : ∀ (j : Nat) t v, Try.f8.params[j]? = some t → args[j]? = some v → Value.okWide Try.prog W .any base t v := hval0
  have hW' := hW
  obtain ⟨p, q, hA0, hV, rfl, hfz, hnd⟩ := hW
  have hA : DataW.TrodAll enc Try.prog W 0 (fun _ => true) true Try.f8.params.toList args.toList ds p := hA0
  rw [Try.params8] at hA hval
  obtain ⟨v0, vs0, d0, ds0, p0, q0, hargs, rfl, rfl, h0, r0⟩ := trodAll_cons hA
  obtain ⟨rfl, rfl, rfl⟩ := trodAll_nil r0
  obtain rfl : args = #[v0] := by cases args; simp_all
  obtain ⟨rfl, rfl⟩ := trodVars_none hV
  have k0 := h0
  have lt0 : ∀ x ∈ p0, x.block < W.heap.size := by obtain ⟨m, hm⟩ := k0; exact DataW.trod_lt m _ _ _ hm
  obtain ⟨a0, len0, cap0, rfl⟩ := okWide_slice Try.underlying66 (hval 0 66 v0 rfl rfl)
  obtain ⟨n0, g0, w0, f0, _⟩ := open_rows Try.underlying66 Try.underlying61 (by kernel_rfl) rfl (by kernel_rfl) Try.underlying3 rfl (by kernel_rfl) Try.underlying3 rfl (by kernel_rfl) Try.underlying3 rfl (by kernel_rfl) Try.underlying3 rfl (by kernel_rfl) Try.underlying3 rfl (by kernel_rfl) Try.underlying3 rfl (by kernel_rfl) Try.underlying3 (by obtain ⟨fuel, hf⟩ := h0; exact ⟨fuel, _, hf⟩)
  clear hA0 hval0
  simp only [List.append_nil] at hW'
  refine (walk (.slice a0 len0 cap0) n0 g0 W w0 f0).mono fun e W' ⟨he, bel⟩ => ?_
  subst he
  exact ⟨_, rfl, _, _, _, [], _, [], hW', trodAll_mk1 (shut_bool Try.underlying4 _), (trodAll_cons_mk (Below.trod laidOut (by kernel_rfl) (of_decide_eq_true (by kernel_rfl)) k0 bel lt0) trodAll_mk0), rfl, bel.frame _, fun h => by cases h⟩

theorem over : Rows.fnExactTotalPlayedRow.holds Try.pinned (OpenSpec.ofChange Rows.fnExactTotalPlayedSpec) :=
  OpenClaim.holds_of_wide 8 Try.f8 rfl rfl rfl rfl rfl rfl rfl ⟨rfl, rfl, rfl, rfl, rfl⟩ rfl rfl rfl rfl rfl (by kernel_rfl) Try.func8 (by kernel_rfl)
    (of_decide_eq_true (by kernel_rfl)) (by unfold Func.isWrapper; first | (rw [if_pos (by decide +kernel)]; kernel_rfl) | (rw [if_neg (by decide +kernel)]; exact ⟨rfl, rfl⟩))
    (fun os started H enc _ => lifted os started H enc)

theorem proved : Rows.FnExactTotalPlayedSaid := over
end Go.Proofs.Ytoingkchjiipgaa.fnExactTotalPlayed
