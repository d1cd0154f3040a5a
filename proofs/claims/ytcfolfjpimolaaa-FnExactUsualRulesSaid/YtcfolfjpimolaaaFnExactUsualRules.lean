/-
  The law FnExactUsualRules holds for every argument: the program answers as the model does.
-/
import Derived.Test.YtcfolfjpimolaaaRows
import Derived.WalkKit
import Derived.ProofKit
import Derived.OpenShut
import Derived.ShutString
import Derived.ChangeOld
import Derived.Below
import Derived.Lib.Hide
import Derived.Test.YtcfolfjpimolaaaLawKit
import Derived.Test.YtcfolfjpimolaaaOpenAgg
import Derived.Deep.RegionHeld3
import Derived.Test.YtcfolfjpimolaaaUsualRules
import Derived.Test.YtcfolfjpimolaaaTypeRules
namespace Go.Proofs.Ytcfolfjpimolaaa.fnExactUsualRules
open Go.ChangeShapes Go.WideShapes Go.ChangeAt Go.RowKit
open Go.ChangeMaps (open_string shut_string)
set_option linter.unusedVariables false

theorem own : ownKnob Try.prog.godebug = none := by kernel_rfl
theorem laidOut : laidOutB Try.prog = true := by kernel_rfl

set_option maxRecDepth 100000 in
theorem walk  (w : World)  :
    Calls Try.prog 10 #[] w fun e w' => e = .returned (.bool true) ∧ Below w.heap.size w w' := by
  obtain ⟨ar0_Win, ar0_Draw, ar0_Loss, nr0_Ladder, gr0_Ladder, ar0_Again, nb0, CS, CI⟩ : ∃ (ar0_Win : Int) (ar0_Draw : Int) (ar0_Loss : Int) (nr0_Ladder : Nat) (gr0_Ladder : Nat → Int) (ar0_Again : Bool), nr0_Ladder ≤ 1000000 ∧ Hid (∀ (w1 : World), Calls Try.prog 30 #[] w1 fun e w' => ∃ vr0_Ladders, e = .returned (.agg #[.int .i64 ar0_Win, .int .i64 ar0_Draw, .int .i64 ar0_Loss, vr0_Ladders, .bool ar0_Again]) ∧ IntRow w' vr0_Ladders nr0_Ladder gr0_Ladder ∧ (∃ xs, w'.ownsRow w1.heap.size 3 1 vr0_Ladders nr0_Ladder xs) ∧ Below w1.heap.size w1 w') ∧ Hid (∀ (w1 : World), Calls Try.prog 16 #[] w1 fun e w' => ∃ vr0_Ladderi, e = .returned (.agg #[.int .i64 ar0_Win, .int .i64 ar0_Draw, .int .i64 ar0_Loss, vr0_Ladderi, .bool ar0_Again]) ∧ IntRow w' vr0_Ladderi nr0_Ladder gr0_Ladder ∧ (∃ xs, w'.ownsRow w1.heap.size 3 1 vr0_Ladderi nr0_Ladder xs) ∧ Below w1.heap.size w1 w') := by
    exact ⟨3, 1, 0, 6, usualG, true, by omega, fun w1 => usualRules_spec w1, fun w1 => usualRules_impl w1⟩
  have hb : Below w.heap.size w w := Below.refl _ _
  go_enter Try.func10, Try.ntmps10
  go_wp2_with fail
  refine (CS.out  _ ).mono ?_
  rintro e w1 ⟨vr0_Ladders, rfl, hr0_Ladders, ⟨xr0_Ladders, or0_Ladders⟩, b1⟩
  obtain ⟨sar0_Ladders, scr0_Ladders, rfl, _⟩ := hr0_Ladders.form
  have z1 : w.heap.size ≤ w1.heap.size := b1.size
  replace hb := hb.trans (b1.mono hb.size)
  replace or0_Ladders := owns_mono or0_Ladders (base' := w.heap.size) (by simp <;> omega)
  have ir0_Ladders : InW w.heap.size w1.heap.size (.slice sar0_Ladders nr0_Ladder scr0_Ladders) := InW.of_owns or0_Ladders
  go_wp2_with fail
  refine (CI.out  _ ).mono ?_
  rintro e w2 ⟨vr0_Ladderi, rfl, hr0_Ladderi, ⟨xr0_Ladderi, or0_Ladderi⟩, b2⟩
  obtain ⟨sar0_Ladderi, scr0_Ladderi, rfl, _⟩ := hr0_Ladderi.form
  have z2 : w1.heap.size + 1 ≤ w2.heap.size := by have := b2.size; simp at this; omega
  have bxr0s := BoxN.made b2 (B := w1.heap.size) (by simp)
  have b2' := below_prev b2
  replace hb := hb.trans (b2'.mono hb.size)
  replace hr0_Ladders := hr0_Ladders.below b2' (Nat.le_refl _)
  replace or0_Ladders := owns_below or0_Ladders b2' (Nat.le_refl _)
  replace or0_Ladderi := owns_mono or0_Ladderi (base' := (w1.heap.size + 1)) (by simp <;> omega)
  have ir0_Ladderi : InW (w1.heap.size + 1) w2.heap.size (.slice sar0_Ladderi nr0_Ladder scr0_Ladderi) := InW.of_owns or0_Ladderi
  have cr0s_0 := bxr0s.2 0 _ rfl
  have cr0s_1 := bxr0s.2 1 _ rfl
  have cr0s_2 := bxr0s.2 2 _ rfl
  have cr0s_3 := bxr0s.2 3 _ rfl
  have cr0s_4 := bxr0s.2 4 _ rfl
  have cr0s_lt := bxr0s.1
  go_wp2_with fail
  refine (x_eq_Rules ar0_Win ar0_Draw ar0_Loss (.slice sar0_Ladderi nr0_Ladder scr0_Ladderi) nr0_Ladder gr0_Ladder ar0_Again (.slice sar0_Ladders nr0_Ladder scr0_Ladders) _ (hr0_Ladderi.below ((Below.refl _ _).alloc (Nat.le_refl _) _) (Nat.le_refl _)) (hr0_Ladders.below ((Below.refl _ _).alloc (Nat.le_refl _) _) (Nat.le_refl _))).mono ?_
  rintro e w3 ⟨rfl, b3⟩
  clear cr0s_0 cr0s_1 cr0s_2 cr0s_3 cr0s_4 cr0s_lt
  have z3 : w2.heap.size + 1 ≤ w3.heap.size := by have := b3.size; simp at this; omega
  have bxr0i := BoxN.made b3 (B := w2.heap.size) (by simp)
  have b3' := below_prev b3
  replace hb := hb.trans (b3'.mono hb.size)
  replace hr0_Ladders := hr0_Ladders.below b3' (Nat.le_refl _)
  replace or0_Ladders := owns_below or0_Ladders b3' (Nat.le_refl _)
  replace bxr0s := bxr0s.below b3'
  replace hr0_Ladderi := hr0_Ladderi.below b3' (Nat.le_refl _)
  replace or0_Ladderi := owns_below or0_Ladderi b3' (Nat.le_refl _)
  have cr0i_0 := bxr0i.2 0 _ rfl
  have cr0i_1 := bxr0i.2 1 _ rfl
  have cr0i_2 := bxr0i.2 2 _ rfl
  have cr0i_3 := bxr0i.2 3 _ rfl
  have cr0i_4 := bxr0i.2 4 _ rfl
  have cr0i_lt := bxr0i.1
  go_wp2_with fail
  refine (x_mk_Rules ar0_Win ar0_Draw ar0_Loss (.slice sar0_Ladderi nr0_Ladder scr0_Ladderi) nr0_Ladder ar0_Again ((1 : Int)) (w1.heap.size + 1) w2.heap.size (w1.heap.size + 1) xr0_Ladderi _ or0_Ladderi ir0_Ladderi (by omega) (by omega)).mono ?_
  rintro e w4 ⟨rfl, hr0_Ladderim, b4⟩
  clear cr0i_0 cr0i_1 cr0i_2 cr0i_3 cr0i_4 cr0i_lt
  have z4 := b4.size
  clear hr0_Ladderi or0_Ladderi
  replace hb := hb.trans (b4.below (by omega) hb.size)
  replace hr0_Ladders := hr0_Ladders.touch b4 (fun _ => ir0_Ladders) (by omega)
  replace or0_Ladders := owns_touch or0_Ladders b4 ir0_Ladders (by omega)
  replace bxr0s := bxr0s.touch b4 (by omega)
  replace bxr0i := bxr0i.touch b4 (by omega)
  have hr0_Ladderi := hr0_Ladderim
  clear hr0_Ladderim
  have qd2452 : decide ((1 : Int) + (nr0_Ladder : Int) < 0) = false := decide_eq_false (by omega)
  have cr0i_0 := bxr0i.2 0 _ rfl
  have cr0i_1 := bxr0i.2 1 _ rfl
  have cr0i_2 := bxr0i.2 2 _ rfl
  have cr0i_3 := bxr0i.2 3 _ rfl
  have cr0i_4 := bxr0i.2 4 _ rfl
  have cr0i_lt := bxr0i.1
  go_wp2_with fail
  refine (x_hd_Rules ar0_Win ar0_Draw ar0_Loss (.slice sar0_Ladderi nr0_Ladder scr0_Ladderi) nr0_Ladder ar0_Again (1 : Int) _ hr0_Ladderi (by omega) (by omega)).mono ?_
  rintro e w5 ⟨rfl, b5⟩
  clear cr0i_0 cr0i_1 cr0i_2 cr0i_3 cr0i_4 cr0i_lt
  have z5 : w4.heap.size ≤ w5.heap.size := b5.size
  replace hb := hb.trans (b5.mono hb.size)
  replace hr0_Ladders := hr0_Ladders.below b5 (Nat.le_refl _)
  replace or0_Ladders := owns_below or0_Ladders b5 (Nat.le_refl _)
  replace bxr0s := bxr0s.below b5
  replace bxr0i := bxr0i.below b5
  replace hr0_Ladderi := hr0_Ladderi.below b5 (Nat.le_refl _)
  go_wp2_with fail
  refine (CI.out  _ ).mono ?_
  rintro e w6 ⟨vr0_Ladderj, rfl, hr0_Ladderj, ⟨xr0_Ladderj, or0_Ladderj⟩, b6⟩
  obtain ⟨sar0_Ladderj, scr0_Ladderj, rfl, _⟩ := hr0_Ladderj.form
  have z6 : w5.heap.size ≤ w6.heap.size := b6.size
  replace hb := hb.trans (b6.mono hb.size)
  replace hr0_Ladders := hr0_Ladders.below b6 (Nat.le_refl _)
  replace or0_Ladders := owns_below or0_Ladders b6 (Nat.le_refl _)
  replace bxr0s := bxr0s.below b6
  replace bxr0i := bxr0i.below b6
  replace hr0_Ladderi := hr0_Ladderi.below b6 (Nat.le_refl _)
  replace or0_Ladderj := owns_mono or0_Ladderj (base' := w5.heap.size) (by simp <;> omega)
  have ir0_Ladderj : InW w5.heap.size w6.heap.size (.slice sar0_Ladderj nr0_Ladder scr0_Ladderj) := InW.of_owns or0_Ladderj
  have cr0s_0 := bxr0s.2 0 _ rfl
  have cr0s_1 := bxr0s.2 1 _ rfl
  have cr0s_2 := bxr0s.2 2 _ rfl
  have cr0s_3 := bxr0s.2 3 _ rfl
  have cr0s_4 := bxr0s.2 4 _ rfl
  have cr0s_lt := bxr0s.1
  go_wp2_with fail
  refine (x_eq_Rules ar0_Win ar0_Draw ar0_Loss (.slice sar0_Ladderj nr0_Ladder scr0_Ladderj) nr0_Ladder gr0_Ladder ar0_Again (.slice sar0_Ladders nr0_Ladder scr0_Ladders) _ (hr0_Ladderj.below ((Below.refl _ _).alloc (Nat.le_refl _) _) (Nat.le_refl _)) (hr0_Ladders.below ((Below.refl _ _).alloc (Nat.le_refl _) _) (Nat.le_refl _))).mono ?_
  rintro e w7 ⟨rfl, b7⟩
  clear cr0s_0 cr0s_1 cr0s_2 cr0s_3 cr0s_4 cr0s_lt
  have z7 : w6.heap.size + 1 ≤ w7.heap.size := by have := b7.size; simp at this; omega
  have bxr0j := BoxN.made b7 (B := w6.heap.size) (by simp)
  have b7' := below_prev b7
  replace hb := hb.trans (b7'.mono hb.size)
  replace hr0_Ladders := hr0_Ladders.below b7' (Nat.le_refl _)
  replace or0_Ladders := owns_below or0_Ladders b7' (Nat.le_refl _)
  replace bxr0s := bxr0s.below b7'
  replace bxr0i := bxr0i.below b7'
  replace hr0_Ladderi := hr0_Ladderi.below b7' (Nat.le_refl _)
  replace hr0_Ladderj := hr0_Ladderj.below b7' (Nat.le_refl _)
  replace or0_Ladderj := owns_below or0_Ladderj b7' (Nat.le_refl _)
  have qd2464 : decide ((1 : Int) + (nr0_Ladder : Int) < 0) = false := decide_eq_false (by omega)
  have cr0i_0 := bxr0i.2 0 _ rfl
  have cr0i_1 := bxr0i.2 1 _ rfl
  have cr0i_2 := bxr0i.2 2 _ rfl
  have cr0i_3 := bxr0i.2 3 _ rfl
  have cr0i_4 := bxr0i.2 4 _ rfl
  have cr0i_lt := bxr0i.1
  go_wp2_with fail
  refine (x_hd_Rules ar0_Win ar0_Draw ar0_Loss (.slice sar0_Ladderi nr0_Ladder scr0_Ladderi) nr0_Ladder ar0_Again (1 : Int) _ hr0_Ladderi (by omega) (by omega)).mono ?_
  rintro e w8 ⟨rfl, b8⟩
  clear cr0i_0 cr0i_1 cr0i_2 cr0i_3 cr0i_4 cr0i_lt
  have z8 : w7.heap.size ≤ w8.heap.size := b8.size
  replace hb := hb.trans (b8.mono hb.size)
  replace hr0_Ladders := hr0_Ladders.below b8 (Nat.le_refl _)
  replace or0_Ladders := owns_below or0_Ladders b8 (Nat.le_refl _)
  replace bxr0s := bxr0s.below b8
  replace bxr0i := bxr0i.below b8
  replace hr0_Ladderi := hr0_Ladderi.below b8 (Nat.le_refl _)
  replace hr0_Ladderj := hr0_Ladderj.below b8 (Nat.le_refl _)
  replace or0_Ladderj := owns_below or0_Ladderj b8 (Nat.le_refl _)
  replace bxr0j := bxr0j.below b8
  go_wp2
  go_ret
  exact ⟨rfl, hb⟩
set_option maxRecDepth 100000 in
theorem lifted (os : Os) (started : os.Started) (H : Type) (enc : TypeId × Value → H) :
    ReturnsInHanded {} Try.checked os 10 .any (Rows.fnExactUsualRulesSpec.pre6 enc Try.prog Try.f10 Rows.fnExactUsualRulesRow.domain false) (Rows.fnExactUsualRulesSpec.post enc Try.prog Try.f10 false true false false) := by
  refine returnsInHanded_of_change (C := Try.checked) own started (by kernel_rfl) Try.func10
    (ChangeSpec.witness6 (enc := enc) (C := Try.checked) false ⟨#[], #[], []⟩ 8 (by kernel_rfl) (by kernel_rfl) (by kernel_rfl) (by kernel_rfl)) ?_
  intro W base args ds gs before hval0 hW hcnd _
  have hval : ∀ (j : Nat) t v, Try.f10.params[j]? = some t → args[j]? = some v → Value.okWide Try.prog W .any base t v := hval0
  have hW' := hW
  obtain ⟨p, q, hA0, hV, rfl, hfz, hnd⟩ := hW
  have hA : DataW.TrodAll enc Try.prog W 0 (fun _ => true) true Try.f10.params.toList args.toList ds p := hA0
  rw [Try.params10] at hA hval
  obtain ⟨hargs, rfl, rfl⟩ := trodAll_nil hA
  obtain rfl : args = #[] := by cases args; simp_all
  obtain ⟨rfl, rfl⟩ := trodVars_none hV
  clear hA0 hval0
  refine (walk  W ).mono fun e W' ⟨he, bel⟩ => ?_
  subst he
  exact ⟨_, rfl, _, _, _, [], _, [], hW', trodAll_mk1 (shut_bool Try.underlying4 _), trodAll_mk0, rfl, bel.frame _, fun h => by cases h⟩

theorem over : Rows.fnExactUsualRulesRow.holds Try.pinned (OpenSpec.ofChange Rows.fnExactUsualRulesSpec) :=
  OpenClaim.holds_of_wide 10 Try.f10 rfl rfl rfl rfl rfl rfl rfl ⟨rfl, rfl, rfl, rfl, rfl⟩ rfl rfl rfl rfl rfl (by kernel_rfl) Try.func10 (by kernel_rfl)
    (of_decide_eq_true (by kernel_rfl)) (by unfold Func.isWrapper; first | (rw [if_pos (by decide +kernel)]; kernel_rfl) | (rw [if_neg (by decide +kernel)]; exact ⟨rfl, rfl⟩))
    (fun os started H enc _ => lifted os started H enc)

theorem proved : Rows.FnExactUsualRulesSaid := over
end Go.Proofs.Ytcfolfjpimolaaa.fnExactUsualRules
