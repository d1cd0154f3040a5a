/-
  The law FnExactDifferenceOf holds for every argument: the program answers as the model does.
-/
import Derived.Test.YtoingkchjiipgaaRows
import Derived.WalkKit
import Derived.ProofKit
import Derived.OpenShut
import Derived.ShutString
import Derived.ChangeOld
import Derived.Below
import Derived.Lib.Hide
import Derived.Test.YtoingkchjiipgaaLawKit
import Derived.Test.YtoingkchjiipgaaOpenAgg
import Derived.Deep.RegionHeld3
import Derived.Test.YtoingkchjiipgaaTables2
import Derived.Test.YtoingkchjiipgaaTablesImplA
import Derived.Test.YtoingkchjiipgaaTypeRow
namespace Go.Proofs.Ytoingkchjiipgaa.fnExactDifferenceOf
open Go.ChangeShapes Go.WideShapes Go.ChangeAt Go.RowKit
open Go.ChangeMaps (open_string shut_string)
set_option linter.unusedVariables false

theorem own : ownKnob Try.prog.godebug = none := by kernel_rfl
theorem laidOut : laidOutB Try.prog = true := by kernel_rfl

set_option maxHeartbeats 2000000 in
set_option maxRecDepth 100000 in
theorem walk (R_played : Int) (R_wins : Int) (R_draws : Int) (R_losses : Int) (R_scored : Int) (R_against : Int) (R_points : Int) (w : World) (fR_played : IntFit R_played) (fR_wins : IntFit R_wins) (fR_draws : IntFit R_draws) (fR_losses : IntFit R_losses) (fR_scored : IntFit R_scored) (fR_against : IntFit R_against) (fR_points : IntFit R_points) :
    Calls Try.prog 6 #[.agg #[.int .i64 R_played, .int .i64 R_wins, .int .i64 R_draws, .int .i64 R_losses, .int .i64 R_scored, .int .i64 R_against, .int .i64 R_points]] w fun e w' => e = .returned (.bool true) ∧ Below w.heap.size w w' := by
  obtain ⟨ar0, CS, CI⟩ : ∃ (ar0 : Int), Hid (∀ (w1 : World), Calls Try.prog 36 #[.agg #[.int .i64 R_played, .int .i64 R_wins, .int .i64 R_draws, .int .i64 R_losses, .int .i64 R_scored, .int .i64 R_against, .int .i64 R_points]] w1 fun e w' => e = .returned (.int .i64 ar0) ∧ Below w1.heap.size w1 w') ∧ Hid (∀ (w1 : World), Calls Try.prog 16 #[.agg #[.int .i64 R_played, .int .i64 R_wins, .int .i64 R_draws, .int .i64 R_losses, .int .i64 R_scored, .int .i64 R_against, .int .i64 R_points]] w1 fun e w' => e = .returned (.int .i64 ar0) ∧ Below w1.heap.size w1 w') := by
    exact ⟨_, fun w1 => differenceOf_spec ⟨R_played, R_wins, R_draws, R_losses, R_scored, R_against, R_points⟩ w1, fun w1 => differenceOf_impl ⟨R_played, R_wins, R_draws, R_losses, R_scored, R_against, R_points⟩ w1⟩
  have hb : Below w.heap.size w w := Below.refl _ _
  go_enter Try.func6, Try.ntmps6
  go_wp2_with fail
  refine (x_to_Row R_played R_wins R_draws R_losses R_scored R_against R_points _).mono ?_
  rintro e w1 ⟨rfl, b1⟩
  have z1 : w.heap.size + 1 ≤ w1.heap.size := by have := b1.size; simp at this; omega
  have bxR := BoxN.made b1 (B := w.heap.size) (by simp)
  have b1' := below_prev b1
  replace hb := hb.trans (b1'.mono hb.size)
  go_wp2_with fail
  refine (CS.out  _ ).mono ?_
  rintro e w2 ⟨rfl, b2⟩
  have z2 : w1.heap.size ≤ w2.heap.size := b2.size
  replace hb := hb.trans (b2.mono hb.size)
  replace bxR := bxR.below b2
  have cR_0 := bxR.2 0 _ rfl
  have cR_1 := bxR.2 1 _ rfl
  have cR_2 := bxR.2 2 _ rfl
  have cR_3 := bxR.2 3 _ rfl
  have cR_4 := bxR.2 4 _ rfl
  have cR_5 := bxR.2 5 _ rfl
  have cR_6 := bxR.2 6 _ rfl
  have cR_lt := bxR.1
  go_wp2_with fail
  refine (x_to_Row R_played R_wins R_draws R_losses R_scored R_against R_points _).mono ?_
  rintro e w3 ⟨rfl, b3⟩
  clear cR_0 cR_1 cR_2 cR_3 cR_4 cR_5 cR_6 cR_lt
  have z3 : w2.heap.size ≤ w3.heap.size := b3.size
  replace hb := hb.trans (b3.mono hb.size)
  replace bxR := bxR.below b3
  go_wp2_with fail
  refine (CI.out  _ ).mono ?_
  rintro e w4 ⟨rfl, b4⟩
  have z4 : w3.heap.size ≤ w4.heap.size := b4.size
  replace hb := hb.trans (b4.mono hb.size)
  replace bxR := bxR.below b4
  go_wp2
  go_ret
  exact ⟨rfl, hb⟩
set_option maxRecDepth 100000 in
theorem lifted (os : Os) (started : os.Started) (H : Type) (enc : TypeId × Value → H) :
    ReturnsInHanded {} Try.checked os 6 .any (Rows.fnExactDifferenceOfSpec.pre6 enc Try.prog Try.f6 Rows.fnExactDifferenceOfRow.domain false) (Rows.fnExactDifferenceOfSpec.post enc Try.prog Try.f6 false true false false) := by
  refine returnsInHanded_of_change (C := Try.checked) own started (by kernel_rfl) Try.func6
    (ChangeSpec.witness6 (enc := enc) (C := Try.checked) false ⟨#[], #[.agg #[.int .i64 0, .int .i64 0, .int .i64 0, .int .i64 0, .int .i64 0, .int .i64 0, .int .i64 0]], []⟩ 8 (by kernel_rfl) (by kernel_rfl) (by kernel_rfl) (by kernel_rfl)) ?_
  intro W base args ds gs before hval0 hW hcnd _
  have hval : ∀ (j : Nat) t v, Try.f6.params[j]? = some t → args[j]? = some v → Value.okWide Try.prog W .any base t v := hval0
  have hW' := hW
  obtain ⟨p, q, hA0, hV, rfl, hfz, hnd⟩ := hW
  have hA : DataW.TrodAll enc Try.prog W 0 (fun _ => true) true Try.f6.params.toList args.toList ds p := hA0
  rw [Try.params6] at hA hval
  obtain ⟨v0, vs0, d0, ds0, p0, q0, hargs, rfl, rfl, h0, r0⟩ := trodAll_cons hA
  obtain ⟨rfl, rfl, rfl⟩ := trodAll_nil r0
  obtain rfl : args = #[v0] := by cases args; simp_all
  obtain ⟨rfl, rfl⟩ := trodVars_none hV
  have k0 := h0
  have lt0 : ∀ x ∈ p0, x.block < W.heap.size := by obtain ⟨m, hm⟩ := k0; exact DataW.trod_lt m _ _ _ hm
  obtain ⟨s0, rfl, f0⟩ := open_row Try.underlying61 (by kernel_rfl) rfl (by kernel_rfl) Try.underlying3 rfl (by kernel_rfl) Try.underlying3 rfl (by kernel_rfl) Try.underlying3 rfl (by kernel_rfl) Try.underlying3 rfl (by kernel_rfl) Try.underlying3 rfl (by kernel_rfl) Try.underlying3 rfl (by kernel_rfl) Try.underlying3 (hval 0 61 v0 rfl rfl) h0
  clear hA0 hval0
  simp only [List.append_nil] at hW'
  refine (walk s0.played s0.wins s0.draws s0.losses s0.scored s0.against s0.points W f0.1 f0.2.1 f0.2.2.1 f0.2.2.2.1 f0.2.2.2.2.1 f0.2.2.2.2.2.1 f0.2.2.2.2.2.2).mono fun e W' ⟨he, bel⟩ => ?_
  subst he
  exact ⟨_, rfl, _, _, _, [], _, [], hW', trodAll_mk1 (shut_bool Try.underlying4 _), (trodAll_cons_mk (Below.trod laidOut (by kernel_rfl) (of_decide_eq_true (by kernel_rfl)) k0 bel lt0) trodAll_mk0), rfl, bel.frame _, fun h => by cases h⟩

theorem over : Rows.fnExactDifferenceOfRow.holds Try.pinned (OpenSpec.ofChange Rows.fnExactDifferenceOfSpec) :=
  OpenClaim.holds_of_wide 6 Try.f6 rfl rfl rfl rfl rfl rfl rfl ⟨rfl, rfl, rfl, rfl, rfl⟩ rfl rfl rfl rfl rfl (by kernel_rfl) Try.func6 (by kernel_rfl)
    (of_decide_eq_true (by kernel_rfl)) (by unfold Func.isWrapper; first | (rw [if_pos (by decide +kernel)]; kernel_rfl) | (rw [if_neg (by decide +kernel)]; exact ⟨rfl, rfl⟩))
    (fun os started H enc _ => lifted os started H enc)

theorem proved : Rows.FnExactDifferenceOfSaid := over
end Go.Proofs.Ytoingkchjiipgaa.fnExactDifferenceOf
