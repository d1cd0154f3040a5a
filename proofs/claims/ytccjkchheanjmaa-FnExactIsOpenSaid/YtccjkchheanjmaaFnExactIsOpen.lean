/-
  The law FnExactIsOpen holds for every argument: the program answers as the model does.
-/
import Derived.Test.YtccjkchheanjmaaRows
import Derived.WalkKit
import Derived.ProofKit
import Derived.OpenShut
import Derived.ShutString
import Derived.ChangeOld
import Derived.Below
import Derived.Lib.Hide
import Derived.Test.YtccjkchheanjmaaLawKit
import Derived.Test.YtccjkchheanjmaaOpenAgg
import Derived.Deep.RegionHeld3
import Derived.Test.YtccjkchheanjmaaGamesImpl
import Derived.Test.YtccjkchheanjmaaSeason
import Derived.Test.YtccjkchheanjmaaTypeGame
namespace Go.Proofs.Ytccjkchheanjmaa.fnExactIsOpen
open Go.ChangeShapes Go.WideShapes Go.ChangeAt Go.RowKit
open Go.ChangeMaps (open_string shut_string)
set_option linter.unusedVariables false

theorem own : ownKnob Try.prog.godebug = none := by kernel_rfl
theorem laidOut : laidOutB Try.prog = true := by kernel_rfl

set_option maxHeartbeats 2000000 in
set_option maxRecDepth 100000 in
theorem walk (aG_home : Int) (aG_away : Int) (aG_hg : Int) (aG_ag : Int) (aG_st : Int) (w : World) (fG_home : IntFit aG_home) (fG_away : IntFit aG_away) (fG_hg : IntFit aG_hg) (fG_ag : IntFit aG_ag) (fG_st : IntFit aG_st) :
    Calls Try.prog 8 #[.agg #[.int .i64 aG_home, .int .i64 aG_away, .int .i64 aG_hg, .int .i64 aG_ag, .int .i64 aG_st]] w fun e w' => e = .returned (.bool true) ∧ Below w.heap.size w w' := by
  obtain ⟨ar0, CS, CI⟩ : ∃ (ar0 : Bool), Hid (∀ (w1 : World), Calls Try.prog 32 #[.agg #[.int .i64 aG_home, .int .i64 aG_away, .int .i64 aG_hg, .int .i64 aG_ag, .int .i64 aG_st]] w1 fun e w' => e = .returned (.bool ar0) ∧ Below w1.heap.size w1 w') ∧ Hid (∀ (w1 : World), Calls Try.prog 18 #[.agg #[.int .i64 aG_home, .int .i64 aG_away, .int .i64 aG_hg, .int .i64 aG_ag, .int .i64 aG_st]] w1 fun e w' => e = .returned (.bool ar0) ∧ Below w1.heap.size w1 w') := by
    exact ⟨_, fun w1 => isOpen_spec aG_home aG_away aG_hg aG_ag aG_st w1, fun w1 => isOpen_impl aG_home aG_away aG_hg aG_ag aG_st w1⟩
  have hb : Below w.heap.size w w := Below.refl _ _
  go_enter Try.func8, Try.ntmps8
  go_wp2_with fail
  refine (x_to_Game aG_home aG_away aG_hg aG_ag aG_st _).mono ?_
  rintro e w1 ⟨rfl, b1⟩
  have z1 : w.heap.size + 1 ≤ w1.heap.size := by have := b1.size; simp at this; omega
  have bxG := BoxN.made b1 (B := w.heap.size) (by simp)
  have b1' := below_prev b1
  replace hb := hb.trans (b1'.mono hb.size)
  go_wp2_with fail
  refine (CS.out  _ ).mono ?_
  rintro e w2 ⟨rfl, b2⟩
  have z2 : w1.heap.size ≤ w2.heap.size := b2.size
  replace hb := hb.trans (b2.mono hb.size)
  replace bxG := bxG.below b2
  have cG_0 := bxG.2 0 _ rfl
  have cG_1 := bxG.2 1 _ rfl
  have cG_2 := bxG.2 2 _ rfl
  have cG_3 := bxG.2 3 _ rfl
  have cG_4 := bxG.2 4 _ rfl
  have cG_lt := bxG.1
  go_wp2_with fail
  refine (x_to_Game aG_home aG_away aG_hg aG_ag aG_st _).mono ?_
  rintro e w3 ⟨rfl, b3⟩
  clear cG_0 cG_1 cG_2 cG_3 cG_4 cG_lt
  have z3 : w2.heap.size ≤ w3.heap.size := b3.size
  replace hb := hb.trans (b3.mono hb.size)
  replace bxG := bxG.below b3
  go_wp2_with fail
  refine (CI.out  _ ).mono ?_
  rintro e w4 ⟨rfl, b4⟩
  have z4 : w3.heap.size ≤ w4.heap.size := b4.size
  replace hb := hb.trans (b4.mono hb.size)
  replace bxG := bxG.below b4
  go_wp2
  go_ret
  exact ⟨rfl, hb⟩
set_option maxRecDepth 100000 in
theorem lifted (os : Os) (started : os.Started) (H : Type) (enc : TypeId × Value → H) :
    ReturnsInHanded {} Try.checked os 8 .any (Rows.fnExactIsOpenSpec.pre6 enc Try.prog Try.f8 Rows.fnExactIsOpenRow.domain false) (Rows.fnExactIsOpenSpec.post enc Try.prog Try.f8 false true false false) := by
  refine returnsInHanded_of_change (C := Try.checked) own started (by kernel_rfl) Try.func8
    (ChangeSpec.witness6 (enc := enc) (C := Try.checked) false ⟨#[], #[.agg #[.int .i64 0, .int .i64 0, .int .i64 0, .int .i64 0, .int .i64 0]], []⟩ 8 (by kernel_rfl) (by kernel_rfl) (by kernel_rfl) (by kernel_rfl)) ?_
  intro W base args ds gs before hval0 hW hcnd _
  have hval : ∀ (j : Nat) t v, Try.f8.params[j]? = some t → args[j]? = some v → Value.okWide Try.prog W .any base t v := hval0
  have hW' := hW
  obtain ⟨p, q, hA0, hV, rfl, hfz, hnd⟩ := hW
  have hA : DataW.TrodAll enc Try.prog W 0 (fun _ => true) true Try.f8.params.toList args.toList ds p := hA0
  rw [Try.params8] at hA hval
  obtain ⟨v0, vs0, d0, ds0, p0, q0, hargs, rfl, rfl, h0, r0⟩ := trodAll_cons hA
  obtain ⟨rfl, rfl, rfl⟩ := trodAll_nil r0
  obtain rfl : args = #[v0] := by cases args; simp_all
  obtain ⟨rfl, rfl⟩ := trodVars_none hV
  have k0 := h0
  have lt0 : ∀ x ∈ p0, x.block < W.heap.size := by obtain ⟨m, hm⟩ := k0; exact DataW.trod_lt m _ _ _ hm
  obtain ⟨s0, rfl, f0⟩ := open_game Try.underlying43 (by kernel_rfl) rfl (by kernel_rfl) Try.underlying3 rfl (by kernel_rfl) Try.underlying3 rfl (by kernel_rfl) Try.underlying3 rfl (by kernel_rfl) Try.underlying3 rfl (by kernel_rfl) Try.underlying3 (hval 0 43 v0 rfl rfl) h0
  clear hA0 hval0
  simp only [List.append_nil] at hW'
  refine (walk s0.home s0.away s0.hg s0.ag s0.st W f0.1 f0.2.1 f0.2.2.1 f0.2.2.2.1 f0.2.2.2.2).mono fun e W' ⟨he, bel⟩ => ?_
  subst he
  exact ⟨_, rfl, _, _, _, [], _, [], hW', trodAll_mk1 (shut_bool Try.underlying4 _), (trodAll_cons_mk (Below.trod laidOut (by kernel_rfl) (of_decide_eq_true (by kernel_rfl)) k0 bel lt0) trodAll_mk0), rfl, bel.frame _, fun h => by cases h⟩

theorem over : Rows.fnExactIsOpenRow.holds Try.pinned (OpenSpec.ofChange Rows.fnExactIsOpenSpec) :=
  OpenClaim.holds_of_wide 8 Try.f8 rfl rfl rfl rfl rfl rfl rfl ⟨rfl, rfl, rfl, rfl, rfl⟩ rfl rfl rfl rfl rfl (by kernel_rfl) Try.func8 (by kernel_rfl)
    (of_decide_eq_true (by kernel_rfl)) (by unfold Func.isWrapper; first | (rw [if_pos (by decide +kernel)]; kernel_rfl) | (rw [if_neg (by decide +kernel)]; exact ⟨rfl, rfl⟩))
    (fun os started H enc _ => lifted os started H enc)

theorem proved : Rows.FnExactIsOpenSaid := over
end Go.Proofs.Ytccjkchheanjmaa.fnExactIsOpen
