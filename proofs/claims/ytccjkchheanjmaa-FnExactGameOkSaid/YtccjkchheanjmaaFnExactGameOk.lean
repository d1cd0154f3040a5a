/-
  The law FnExactGameOk holds for every argument: the program answers as the model does.
-/
import Derived.Test.YtccjkchheanjmaaRows
import Derived.WalkKit
import Derived.ProofKit
import Derived.OpenShut
import Derived.ShutString
import Derived.ChangeOld
import Derived.Below
import Derived.Lib.Hide
import Derived.Test.YtccjkchheanjmaaLawKit
import Derived.Test.YtccjkchheanjmaaOpenAgg
import Derived.Deep.RegionHeld3
import Derived.Test.YtccjkchheanjmaaGamesImpl
import Derived.Test.YtccjkchheanjmaaSeason
import Derived.Test.YtccjkchheanjmaaTypeGame
namespace Go.Proofs.Ytccjkchheanjmaa.fnExactGameOk
open Go.ChangeShapes Go.WideShapes Go.ChangeAt Go.RowKit
open Go.ChangeMaps (open_string shut_string)
set_option linter.unusedVariables false

theorem own : ownKnob Try.prog.godebug = none := by kernel_rfl
theorem laidOut : laidOutB Try.prog = true := by kernel_rfl

set_option maxHeartbeats 2000000 in
set_option maxRecDepth 100000 in
theorem walk (aN : Int) (aG_home : Int) (aG_away : Int) (aG_hg : Int) (aG_ag : Int) (aG_st : Int) (w : World) (fN : IntFit aN) (fG_home : IntFit aG_home) (fG_away : IntFit aG_away) (fG_hg : IntFit aG_hg) (fG_ag : IntFit aG_ag) (fG_st : IntFit aG_st) :
    Calls Try.prog 4 #[.int .i64 aN, .agg #[.int .i64 aG_home, .int .i64 aG_away, .int .i64 aG_hg, .int .i64 aG_ag, .int .i64 aG_st]] w fun e w' => e = .returned (.bool true) ∧ Below w.heap.size w w' := by
  obtain ⟨ar0, CS, CI⟩ : ∃ (ar0 : Bool), Hid (∀ (w1 : World), Calls Try.prog 23 #[.int .i64 aN, .agg #[.int .i64 aG_home, .int .i64 aG_away, .int .i64 aG_hg, .int .i64 aG_ag, .int .i64 aG_st]] w1 fun e w' => e = .returned (.bool ar0) ∧ Below w1.heap.size w1 w') ∧ Hid (∀ (w1 : World), Calls Try.prog 17 #[.int .i64 aN, .agg #[.int .i64 aG_home, .int .i64 aG_away, .int .i64 aG_hg, .int .i64 aG_ag, .int .i64 aG_st]] w1 fun e w' => e = .returned (.bool ar0) ∧ Below w1.heap.size w1 w') := by
    obtain ⟨R, hR⟩ : ∃ R : Bool, R = true ↔ gameP aN ⟨aG_home, aG_away, aG_hg, aG_ag, aG_st⟩ := by
      by_cases h : gameP aN ⟨aG_home, aG_away, aG_hg, aG_ag, aG_st⟩
      · exact ⟨true, fun _ => h, fun _ => rfl⟩
      · exact ⟨false, (fun e => by cases e), fun e => absurd e h⟩
    exact ⟨R, fun w1 => gameOk_spec aN aG_home aG_away aG_hg aG_ag aG_st R w1 hR, fun w1 => gameOk_impl aN aG_home aG_away aG_hg aG_ag aG_st R w1 hR⟩
  have hb : Below w.heap.size w w := Below.refl _ _
  go_enter Try.func4, Try.ntmps4
  go_wp2_with fail
  refine (x_to_Game aG_home aG_away aG_hg aG_ag aG_st _).mono ?_
  rintro e w1 ⟨rfl, b1⟩
  have z1 : w.heap.size + 1 ≤ w1.heap.size := by have := b1.size; simp at this; omega
  have bxG := BoxN.made b1 (B := w.heap.size) (by simp)
  have b1' := below_prev b1
  replace hb := hb.trans (b1'.mono hb.size)
  go_wp2_with fail
  refine (CS.out  _ ).mono ?_
  rintro e w2 ⟨rfl, b2⟩
  have z2 : w1.heap.size ≤ w2.heap.size := b2.size
  replace hb := hb.trans (b2.mono hb.size)
  replace bxG := bxG.below b2
  have cG_0 := bxG.2 0 _ rfl
  have cG_1 := bxG.2 1 _ rfl
  have cG_2 := bxG.2 2 _ rfl
  have cG_3 := bxG.2 3 _ rfl
  have cG_4 := bxG.2 4 _ rfl
  have cG_lt := bxG.1
  go_wp2_with fail
  refine (x_to_Game aG_home aG_away aG_hg aG_ag aG_st _).mono ?_
  rintro e w3 ⟨rfl, b3⟩
  clear cG_0 cG_1 cG_2 cG_3 cG_4 cG_lt
  have z3 : w2.heap.size ≤ w3.heap.size := b3.size
  replace hb := hb.trans (b3.mono hb.size)
  replace bxG := bxG.below b3
  go_wp2_with fail
  refine (CI.out  _ ).mono ?_
  rintro e w4 ⟨rfl, b4⟩
  have z4 : w3.heap.size ≤ w4.heap.size := b4.size
  replace hb := hb.trans (b4.mono hb.size)
  replace bxG := bxG.below b4
  go_wp2
  go_ret
  exact ⟨rfl, hb⟩
set_option maxRecDepth 100000 in
theorem lifted (os : Os) (started : os.Started) (H : Type) (enc : TypeId × Value → H) :
    ReturnsInHanded {} Try.checked os 4 .any (Rows.fnExactGameOkSpec.pre6 enc Try.prog Try.f4 Rows.fnExactGameOkRow.domain false) (Rows.fnExactGameOkSpec.post enc Try.prog Try.f4 false true false false) := by
  refine returnsInHanded_of_change (C := Try.checked) own started (by kernel_rfl) Try.func4
    (ChangeSpec.witness6 (enc := enc) (C := Try.checked) false ⟨#[], #[.int .i64 0, .agg #[.int .i64 0, .int .i64 0, .int .i64 0, .int .i64 0, .int .i64 0]], []⟩ 8 (by kernel_rfl) (by kernel_rfl) (by kernel_rfl) (by kernel_rfl)) ?_
  intro W base args ds gs before hval0 hW hcnd _
  have hval : ∀ (j : Nat) t v, Try.f4.params[j]? = some t → args[j]? = some v → Value.okWide Try.prog W .any base t v := hval0
  have hW' := hW
  obtain ⟨p, q, hA0, hV, rfl, hfz, hnd⟩ := hW
  have hA : DataW.TrodAll enc Try.prog W 0 (fun _ => true) true Try.f4.params.toList args.toList ds p := hA0
  rw [Try.params4] at hA hval
  obtain ⟨v0, vs0, d0, ds0, p0, q0, hargs, rfl, rfl, h0, r0⟩ := trodAll_cons hA
  obtain ⟨v1, vs1, d1, ds1, p1, q1, rfl, rfl, rfl, h1, r1⟩ := trodAll_cons r0
  obtain ⟨rfl, rfl, rfl⟩ := trodAll_nil r1
  obtain rfl : args = #[v0, v1] := by cases args; simp_all
  obtain ⟨rfl, rfl⟩ := trodVars_none hV
  obtain ⟨a0, rfl, rfl, rfl, w0⟩ := open_int Try.underlying3 (hval 0 3 v0 rfl rfl) h0
  have k1 := h1
  have lt1 : ∀ x ∈ p1, x.block < W.heap.size := by obtain ⟨m, hm⟩ := k1; exact DataW.trod_lt m _ _ _ hm
  obtain ⟨s1, rfl, f1⟩ := open_game Try.underlying43 (by kernel_rfl) rfl (by kernel_rfl) Try.underlying3 rfl (by kernel_rfl) Try.underlying3 rfl (by kernel_rfl) Try.underlying3 rfl (by kernel_rfl) Try.underlying3 rfl (by kernel_rfl) Try.underlying3 (hval 1 43 v1 rfl rfl) h1
  clear hA0 hval0
  simp only [List.append_nil] at hW'
  refine (walk a0 s1.home s1.away s1.hg s1.ag s1.st W (intFit_of w0) f1.1 f1.2.1 f1.2.2.1 f1.2.2.2.1 f1.2.2.2.2).mono fun e W' ⟨he, bel⟩ => ?_
  subst he
  exact ⟨_, rfl, _, _, _, [], _, [], hW', trodAll_mk1 (shut_bool Try.underlying4 _), (trodAll_cons_mk (shut_int Try.underlying3 w0) (trodAll_cons_mk (Below.trod laidOut (by kernel_rfl) (of_decide_eq_true (by kernel_rfl)) k1 bel lt1) trodAll_mk0)), rfl, bel.frame _, fun h => by cases h⟩

theorem over : Rows.fnExactGameOkRow.holds Try.pinned (OpenSpec.ofChange Rows.fnExactGameOkSpec) :=
  OpenClaim.holds_of_wide 4 Try.f4 rfl rfl rfl rfl rfl rfl rfl ⟨rfl, rfl, rfl, rfl, rfl⟩ rfl rfl rfl rfl rfl (by kernel_rfl) Try.func4 (by kernel_rfl)
    (of_decide_eq_true (by kernel_rfl)) (by unfold Func.isWrapper; first | (rw [if_pos (by decide +kernel)]; kernel_rfl) | (rw [if_neg (by decide +kernel)]; exact ⟨rfl, rfl⟩))
    (fun os started H enc _ => lifted os started H enc)

theorem proved : Rows.FnExactGameOkSaid := over
end Go.Proofs.Ytccjkchheanjmaa.fnExactGameOk
