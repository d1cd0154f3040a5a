/-
  The law FnExactPlayGame holds for every argument: the program answers as the model does.
-/
import Derived.Test.YtccjkchheanjmaaRows
import Derived.WalkKit
import Derived.ProofKit
import Derived.OpenShut
import Derived.ShutString
import Derived.ChangeOld
import Derived.Below
import Derived.Lib.Hide
import Derived.Test.YtccjkchheanjmaaLawKit
import Derived.Test.YtccjkchheanjmaaOpenAgg
import Derived.Deep.RegionHeld3
import Derived.Test.YtccjkchheanjmaaGamesImpl
import Derived.Test.YtccjkchheanjmaaSeason
import Derived.Test.YtccjkchheanjmaaTypeGame
namespace Go.Proofs.Ytccjkchheanjmaa.fnExactPlayGame
open Go.ChangeShapes Go.WideShapes Go.ChangeAt Go.RowKit
open Go.ChangeMaps (open_string shut_string)
set_option linter.unusedVariables false

theorem own : ownKnob Try.prog.godebug = none := by kernel_rfl
theorem laidOut : laidOutB Try.prog = true := by kernel_rfl

set_option maxHeartbeats 2000000 in
set_option maxRecDepth 100000 in
theorem walk (aG_home : Int) (aG_away : Int) (aG_hg : Int) (aG_ag : Int) (aG_st : Int) (aOutcome : Int) (w : World) (fG_home : IntFit aG_home) (fG_away : IntFit aG_away) (fG_hg : IntFit aG_hg) (fG_ag : IntFit aG_ag) (fG_st : IntFit aG_st) (fOutcome : IntFit aOutcome) :
    Calls Try.prog 11 #[.agg #[.int .i64 aG_home, .int .i64 aG_away, .int .i64 aG_hg, .int .i64 aG_ag, .int .i64 aG_st], .int .i64 aOutcome] w fun e w' => e = .returned (.bool true) ∧ Below w.heap.size w w' := by
  obtain ⟨ar0_home, ar0_away, ar0_hg, ar0_ag, ar0_st, CS, CI⟩ : ∃ (ar0_home : Int) (ar0_away : Int) (ar0_hg : Int) (ar0_ag : Int) (ar0_st : Int), Hid (∀ (w1 : World), Calls Try.prog 39 #[.agg #[.int .i64 aG_home, .int .i64 aG_away, .int .i64 aG_hg, .int .i64 aG_ag, .int .i64 aG_st], .int .i64 aOutcome] w1 fun e w' => e = .returned (.agg #[.int .i64 ar0_home, .int .i64 ar0_away, .int .i64 ar0_hg, .int .i64 ar0_ag, .int .i64 ar0_st]) ∧ Below w1.heap.size w1 w') ∧ Hid (∀ (w1 : World), Calls Try.prog 15 #[.agg #[.int .i64 aG_home, .int .i64 aG_away, .int .i64 aG_hg, .int .i64 aG_ag, .int .i64 aG_st], .int .i64 aOutcome] w1 fun e w' => e = .returned (.agg #[.int .i64 ar0_home, .int .i64 ar0_away, .int .i64 ar0_hg, .int .i64 ar0_ag, .int .i64 ar0_st]) ∧ Below w1.heap.size w1 w') := by
    exact ⟨(playD ⟨aG_home, aG_away, aG_hg, aG_ag, aG_st⟩ aOutcome).home, (playD ⟨aG_home, aG_away, aG_hg, aG_ag, aG_st⟩ aOutcome).away, (playD ⟨aG_home, aG_away, aG_hg, aG_ag, aG_st⟩ aOutcome).hg, (playD ⟨aG_home, aG_away, aG_hg, aG_ag, aG_st⟩ aOutcome).ag, (playD ⟨aG_home, aG_away, aG_hg, aG_ag, aG_st⟩ aOutcome).st, fun w1 => playGame_spec aG_home aG_away aG_hg aG_ag aG_st aOutcome w1, fun w1 => playGame_impl aG_home aG_away aG_hg aG_ag aG_st aOutcome w1⟩
  have hb : Below w.heap.size w w := Below.refl _ _
  go_enter Try.func11, Try.ntmps11
  go_wp2_with fail
  refine (x_to_Game aG_home aG_away aG_hg aG_ag aG_st _).mono ?_
  rintro e w1 ⟨rfl, b1⟩
  have z1 : w.heap.size + 1 ≤ w1.heap.size := by have := b1.size; simp at this; omega
  have bxG := BoxN.made b1 (B := w.heap.size) (by simp)
  have b1' := below_prev b1
  replace hb := hb.trans (b1'.mono hb.size)
  go_wp2_with fail
  refine (CS.out  _ ).mono ?_
  rintro e w2 ⟨rfl, b2⟩
  have z2 : w1.heap.size ≤ w2.heap.size := b2.size
  replace hb := hb.trans (b2.mono hb.size)
  replace bxG := bxG.below b2
  have cG_0 := bxG.2 0 _ rfl
  have cG_1 := bxG.2 1 _ rfl
  have cG_2 := bxG.2 2 _ rfl
  have cG_3 := bxG.2 3 _ rfl
  have cG_4 := bxG.2 4 _ rfl
  have cG_lt := bxG.1
  go_wp2_with fail
  refine (x_to_Game aG_home aG_away aG_hg aG_ag aG_st _).mono ?_
  rintro e w3 ⟨rfl, b3⟩
  clear cG_0 cG_1 cG_2 cG_3 cG_4 cG_lt
  have z3 : w2.heap.size + 1 ≤ w3.heap.size := by have := b3.size; simp at this; omega
  have bxr0s := BoxN.made b3 (B := w2.heap.size) (by simp)
  have b3' := below_prev b3
  replace hb := hb.trans (b3'.mono hb.size)
  replace bxG := bxG.below b3'
  go_wp2_with fail
  refine (CI.out  _ ).mono ?_
  rintro e w4 ⟨rfl, b4⟩
  have z4 : w3.heap.size ≤ w4.heap.size := b4.size
  replace hb := hb.trans (b4.mono hb.size)
  replace bxG := bxG.below b4
  replace bxr0s := bxr0s.below b4
  have cr0s_0 := bxr0s.2 0 _ rfl
  have cr0s_1 := bxr0s.2 1 _ rfl
  have cr0s_2 := bxr0s.2 2 _ rfl
  have cr0s_3 := bxr0s.2 3 _ rfl
  have cr0s_4 := bxr0s.2 4 _ rfl
  have cr0s_lt := bxr0s.1
  go_wp2_with fail
  refine (x_eq_Game ar0_home ar0_away ar0_hg ar0_ag ar0_st  _ ).mono ?_
  rintro e w5 ⟨rfl, b5⟩
  clear cr0s_0 cr0s_1 cr0s_2 cr0s_3 cr0s_4 cr0s_lt
  have z5 : w4.heap.size + 1 ≤ w5.heap.size := by have := b5.size; simp at this; omega
  have bxr0i := BoxN.made b5 (B := w4.heap.size) (by simp)
  have b5' := below_prev b5
  replace hb := hb.trans (b5'.mono hb.size)
  replace bxG := bxG.below b5'
  replace bxr0s := bxr0s.below b5'
  go_wp2
  go_ret
  exact ⟨rfl, hb⟩
set_option maxRecDepth 100000 in
theorem lifted (os : Os) (started : os.Started) (H : Type) (enc : TypeId × Value → H) :
    ReturnsInHanded {} Try.checked os 11 .any (Rows.fnExactPlayGameSpec.pre6 enc Try.prog Try.f11 Rows.fnExactPlayGameRow.domain false) (Rows.fnExactPlayGameSpec.post enc Try.prog Try.f11 false true false false) := by
  refine returnsInHanded_of_change (C := Try.checked) own started (by kernel_rfl) Try.func11
    (ChangeSpec.witness6 (enc := enc) (C := Try.checked) false ⟨#[], #[.agg #[.int .i64 0, .int .i64 0, .int .i64 0, .int .i64 0, .int .i64 0], .int .i64 0], []⟩ 8 (by kernel_rfl) (by kernel_rfl) (by kernel_rfl) (by kernel_rfl)) ?_
  intro W base args ds gs before hval0 hW hcnd _
  have hval : ∀ (j : Nat) t v, Try.f11.params[j]? = some t → args[j]? = some v → Value.okWide Try.prog W .any base t v := hval0
  have hW' := hW
  obtain ⟨p, q, hA0, hV, rfl, hfz, hnd⟩ := hW
  have hA : DataW.TrodAll enc Try.prog W 0 (fun _ => true) true Try.f11.params.toList args.toList ds p := hA0
  rw [Try.params11] at hA hval
  obtain ⟨v0, vs0, d0, ds0, p0, q0, hargs, rfl, rfl, h0, r0⟩ := trodAll_cons hA
  obtain ⟨v1, vs1, d1, ds1, p1, q1, rfl, rfl, rfl, h1, r1⟩ := trodAll_cons r0
  obtain ⟨rfl, rfl, rfl⟩ := trodAll_nil r1
  obtain rfl : args = #[v0, v1] := by cases args; simp_all
  obtain ⟨rfl, rfl⟩ := trodVars_none hV
  have k0 := h0
  have lt0 : ∀ x ∈ p0, x.block < W.heap.size := by obtain ⟨m, hm⟩ := k0; exact DataW.trod_lt m _ _ _ hm
  obtain ⟨s0, rfl, f0⟩ := open_game Try.underlying43 (by kernel_rfl) rfl (by kernel_rfl) Try.underlying3 rfl (by kernel_rfl) Try.underlying3 rfl (by kernel_rfl) Try.underlying3 rfl (by kernel_rfl) Try.underlying3 rfl (by kernel_rfl) Try.underlying3 (hval 0 43 v0 rfl rfl) h0
  obtain ⟨a1, rfl, rfl, rfl, w1⟩ := open_int Try.underlying3 (hval 1 3 v1 rfl rfl) h1
  clear hA0 hval0
  simp only [List.append_nil] at hW'
  refine (walk s0.home s0.away s0.hg s0.ag s0.st a1 W f0.1 f0.2.1 f0.2.2.1 f0.2.2.2.1 f0.2.2.2.2 (intFit_of w1)).mono fun e W' ⟨he, bel⟩ => ?_
  subst he
  exact ⟨_, rfl, _, _, _, [], _, [], hW', trodAll_mk1 (shut_bool Try.underlying4 _), (trodAll_cons_mk (Below.trod laidOut (by kernel_rfl) (of_decide_eq_true (by kernel_rfl)) k0 bel lt0) (trodAll_cons_mk (shut_int Try.underlying3 w1) trodAll_mk0)), rfl, bel.frame _, fun h => by cases h⟩

theorem over : Rows.fnExactPlayGameRow.holds Try.pinned (OpenSpec.ofChange Rows.fnExactPlayGameSpec) :=
  OpenClaim.holds_of_wide 11 Try.f11 rfl rfl rfl rfl rfl rfl rfl ⟨rfl, rfl, rfl, rfl, rfl⟩ rfl rfl rfl rfl rfl (by kernel_rfl) Try.func11 (by kernel_rfl)
    (of_decide_eq_true (by kernel_rfl)) (by unfold Func.isWrapper; first | (rw [if_pos (by decide +kernel)]; kernel_rfl) | (rw [if_neg (by decide +kernel)]; exact ⟨rfl, rfl⟩))
    (fun os started H enc _ => lifted os started H enc)

theorem proved : Rows.FnExactPlayGameSaid := over
end Go.Proofs.Ytccjkchheanjmaa.fnExactPlayGame
