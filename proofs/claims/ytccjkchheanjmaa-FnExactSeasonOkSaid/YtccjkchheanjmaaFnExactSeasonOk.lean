/-
  The law FnExactSeasonOk holds for every argument: the program answers as the model does.
-/
import Derived.Test.YtccjkchheanjmaaRows
import Derived.WalkKit
import Derived.ProofKit
import Derived.OpenShut
import Derived.ShutString
import Derived.ChangeOld
import Derived.Below
import Derived.Lib.Hide
import Derived.Test.YtccjkchheanjmaaLawKit
import Derived.Test.YtccjkchheanjmaaOpenAgg
import Derived.Deep.RegionHeld3
import Derived.Test.YtccjkchheanjmaaGamesImpl
import Derived.Test.YtccjkchheanjmaaSeason
import Derived.Test.YtccjkchheanjmaaTypeGame
namespace Go.Proofs.Ytccjkchheanjmaa.fnExactSeasonOk
open Go.ChangeShapes Go.WideShapes Go.ChangeAt Go.RowKit
open Go.ChangeMaps (open_string shut_string)
set_option linter.unusedVariables false

theorem own : ownKnob Try.prog.godebug = none := by kernel_rfl
theorem laidOut : laidOutB Try.prog = true := by kernel_rfl

set_option maxHeartbeats 2000000 in
set_option maxRecDepth 100000 in
theorem walk (aN : Int) (vGames : Value) (nGames : Nat) (gGames : Nat → GameD) (w : World) (fN : IntFit aN) (hGames : GameRow w vGames nGames gGames) (fGames : ∀ i, (gGames i).fit) :
    Calls Try.prog 5 #[.int .i64 aN, vGames] w fun e w' => e = .returned (.bool true) ∧ Below w.heap.size w w' := by
  obtain ⟨ar0, CS, CI⟩ : ∃ (ar0 : Bool), Hid (∀ (vGames : Value) (w1 : World), GameRow w1 vGames nGames gGames → Calls Try.prog 26 #[.int .i64 aN, vGames] w1 fun e w' => e = .returned (.bool ar0) ∧ Below w1.heap.size w1 w') ∧ Hid (∀ (vGames : Value) (w1 : World), GameRow w1 vGames nGames gGames → Calls Try.prog 14 #[.int .i64 aN, vGames] w1 fun e w' => e = .returned (.bool ar0) ∧ Below w1.heap.size w1 w') := by
    obtain ⟨R, hR⟩ : ∃ R : Bool, R = true ↔ seasonP aN nGames gGames := by
      by_cases h : seasonP aN nGames gGames
      · exact ⟨true, fun _ => h, fun _ => rfl⟩
      · exact ⟨false, (fun e => by cases e), fun e => absurd e h⟩
    exact ⟨R, fun v w1 h => seasonOk_spec aN v nGames gGames R w1 hR h, fun v w1 h => seasonOk_impl aN v nGames gGames R w1 hR h⟩
  have hb : Below w.heap.size w w := Below.refl _ _
  have iGames : 0 < nGames → InW 0 w.heap.size vGames := fun h0 => InW.gameRow hGames h0 (Nat.le_refl _)
  go_enter Try.func5, Try.ntmps5
  go_wp2_with fail
  refine (x_sz_GameS vGames nGames gGames (1048576) _ (by omega) (by omega) hGames).mono ?_
  rintro e w1 ⟨⟨r1, rfl, hr1⟩, b1⟩
  have z1 : w.heap.size ≤ w1.heap.size := b1.size
  replace hGames := hGames.below b1 (Nat.le_refl _)
  replace hb := hb.trans (b1.mono hb.size)
  by_cases hn1 : r1 < 0
  · have g2 : decide (r1 < 0) = true := decide_eq_true hn1
    clear hr1
    go_wp2
    go_ret
    exact ⟨rfl, hb⟩
  have g1 : decide (r1 < 0) = false := decide_eq_false hn1
  have hle1 : r1 ≤ 1048576 := by omega
  have smGames : nGames ≤ 1048576 := by omega
  replace hn1 : 0 ≤ r1 := by omega
  clear hr1
  go_wp2_with fail
  refine (x_to_GameS vGames nGames gGames _ hGames (by omega)).mono ?_
  rintro e w2 ⟨vGamest1, rfl, hGamest1, ⟨xGamest1, oGamest1⟩, b2⟩
  have z2 : w1.heap.size ≤ w2.heap.size := b2.size
  replace hGames := hGames.below b2 (Nat.le_refl _)
  replace hb := hb.trans (b2.mono hb.size)
  replace oGamest1 := owns_mono oGamest1 (base' := w1.heap.size) (by simp <;> omega)
  have iGamest1 : InW w1.heap.size w2.heap.size vGamest1 := InW.of_owns oGamest1
  go_wp2_with fail
  refine (CS.out vGamest1 _ hGamest1).mono ?_
  rintro e w3 ⟨rfl, b3⟩
  have z3 : w2.heap.size ≤ w3.heap.size := b3.size
  replace hGames := hGames.below b3 (Nat.le_refl _)
  replace hb := hb.trans (b3.mono hb.size)
  replace hGamest1 := hGamest1.below b3 (Nat.le_refl _)
  replace oGamest1 := owns_below oGamest1 b3 (Nat.le_refl _)
  clear hGamest1 oGamest1
  go_wp2_with fail
  refine (x_to_GameS vGames nGames gGames _ hGames (by omega)).mono ?_
  rintro e w4 ⟨vGamesx, rfl, hGamesx, ⟨xGamesx, oGamesx⟩, b4⟩
  have z4 : w3.heap.size ≤ w4.heap.size := b4.size
  replace hGames := hGames.below b4 (Nat.le_refl _)
  replace hb := hb.trans (b4.mono hb.size)
  replace oGamesx := owns_mono oGamesx (base' := w3.heap.size) (by simp <;> omega)
  have iGamesx : InW w3.heap.size w4.heap.size vGamesx := InW.of_owns oGamesx
  go_wp2_with fail
  refine (CI.out vGamesx _ hGamesx).mono ?_
  rintro e w5 ⟨rfl, b5⟩
  have z5 : w4.heap.size ≤ w5.heap.size := b5.size
  replace hGames := hGames.below b5 (Nat.le_refl _)
  replace hb := hb.trans (b5.mono hb.size)
  replace hGamesx := hGamesx.below b5 (Nat.le_refl _)
  replace oGamesx := owns_below oGamesx b5 (Nat.le_refl _)
  go_wp2_with fail
  refine (x_to_GameS vGames nGames gGames _ hGames (by omega)).mono ?_
  rintro e w6 ⟨vGamest2, rfl, hGamest2, ⟨xGamest2, oGamest2⟩, b6⟩
  have z6 : w5.heap.size ≤ w6.heap.size := b6.size
  replace hGames := hGames.below b6 (Nat.le_refl _)
  replace hb := hb.trans (b6.mono hb.size)
  replace hGamesx := hGamesx.below b6 (Nat.le_refl _)
  replace oGamesx := owns_below oGamesx b6 (Nat.le_refl _)
  replace oGamest2 := owns_mono oGamest2 (base' := w5.heap.size) (by simp <;> omega)
  have iGamest2 : InW w5.heap.size w6.heap.size vGamest2 := InW.of_owns oGamest2
  go_wp2_with fail
  refine (x_eq_GameS vGamesx nGames gGames vGamest2 _ hGamesx hGamest2).mono ?_
  rintro e w7 ⟨rfl, b7⟩
  have z7 : w6.heap.size ≤ w7.heap.size := b7.size
  replace hGames := hGames.below b7 (Nat.le_refl _)
  replace hb := hb.trans (b7.mono hb.size)
  replace hGamesx := hGamesx.below b7 (Nat.le_refl _)
  replace oGamesx := owns_below oGamesx b7 (Nat.le_refl _)
  replace hGamest2 := hGamest2.below b7 (Nat.le_refl _)
  replace oGamest2 := owns_below oGamest2 b7 (Nat.le_refl _)
  clear hGamest2 oGamest2
  go_wp2
  go_ret
  exact ⟨rfl, hb⟩
set_option maxRecDepth 100000 in
theorem lifted (os : Os) (started : os.Started) (H : Type) (enc : TypeId × Value → H) :
    ReturnsInHanded {} Try.checked os 5 .any (Rows.fnExactSeasonOkSpec.pre6 enc Try.prog Try.f5 Rows.fnExactSeasonOkRow.domain false) (Rows.fnExactSeasonOkSpec.post enc Try.prog Try.f5 false true false false) := by
  refine returnsInHanded_of_change (C := Try.checked) own started (by kernel_rfl) Try.func5
    (ChangeSpec.witness6 (enc := enc) (C := Try.checked) false ⟨#[], #[.int .i64 0, .slice none 0 0], []⟩ 8 (by kernel_rfl) (by kernel_rfl) (by kernel_rfl) (by kernel_rfl)) ?_
  intro W base args ds gs before hval0 hW hcnd _
  have hval : ∀ (j : Nat) t v, Try.f5.params[j]? = some t → args[j]? = some v → Value.okWide Try.prog W .any base t v := hval0
  have hW' := hW
  obtain ⟨p, q, hA0, hV, rfl, hfz, hnd⟩ := hW
  have hA : DataW.TrodAll enc Try.prog W 0 (fun _ => true) true Try.f5.params.toList args.toList ds p := hA0
  rw [Try.params5] at hA hval
  obtain ⟨v0, vs0, d0, ds0, p0, q0, hargs, rfl, rfl, h0, r0⟩ := trodAll_cons hA
  obtain ⟨v1, vs1, d1, ds1, p1, q1, rfl, rfl, rfl, h1, r1⟩ := trodAll_cons r0
  obtain ⟨rfl, rfl, rfl⟩ := trodAll_nil r1
  obtain rfl : args = #[v0, v1] := by cases args; simp_all
  obtain ⟨rfl, rfl⟩ := trodVars_none hV
  obtain ⟨a0, rfl, rfl, rfl, w0⟩ := open_int Try.underlying3 (hval 0 3 v0 rfl rfl) h0
  have k1 := h1
  have lt1 : ∀ x ∈ p1, x.block < W.heap.size := by obtain ⟨m, hm⟩ := k1; exact DataW.trod_lt m _ _ _ hm
  obtain ⟨a1, len1, cap1, rfl⟩ := okWide_slice Try.underlying46 (hval 1 46 v1 rfl rfl)
  obtain ⟨n1, g1, w1, f1, _⟩ := open_games Try.underlying46 Try.underlying43 (by kernel_rfl) rfl (by kernel_rfl) Try.underlying3 rfl (by kernel_rfl) Try.underlying3 rfl (by kernel_rfl) Try.underlying3 rfl (by kernel_rfl) Try.underlying3 rfl (by kernel_rfl) Try.underlying3 (by obtain ⟨fuel, hf⟩ := h1; exact ⟨fuel, _, hf⟩)
  clear hA0 hval0
  simp only [List.append_nil] at hW'
  refine (walk a0 (.slice a1 len1 cap1) n1 g1 W (intFit_of w0) w1 f1).mono fun e W' ⟨he, bel⟩ => ?_
  subst he
  exact ⟨_, rfl, _, _, _, [], _, [], hW', trodAll_mk1 (shut_bool Try.underlying4 _), (trodAll_cons_mk (shut_int Try.underlying3 w0) (trodAll_cons_mk (Below.trod laidOut (by kernel_rfl) (of_decide_eq_true (by kernel_rfl)) k1 bel lt1) trodAll_mk0)), rfl, bel.frame _, fun h => by cases h⟩

theorem over : Rows.fnExactSeasonOkRow.holds Try.pinned (OpenSpec.ofChange Rows.fnExactSeasonOkSpec) :=
  OpenClaim.holds_of_wide 5 Try.f5 rfl rfl rfl rfl rfl rfl rfl ⟨rfl, rfl, rfl, rfl, rfl⟩ rfl rfl rfl rfl rfl (by kernel_rfl) Try.func5 (by kernel_rfl)
    (of_decide_eq_true (by kernel_rfl)) (by unfold Func.isWrapper; first | (rw [if_pos (by decide +kernel)]; kernel_rfl) | (rw [if_neg (by decide +kernel)]; exact ⟨rfl, rfl⟩))
    (fun os started H enc _ => lifted os started H enc)

theorem proved : Rows.FnExactSeasonOkSaid := over
end Go.Proofs.Ytccjkchheanjmaa.fnExactSeasonOk
