/-
  The law FnExactSplitLines holds for every argument: the program answers as the model does.
-/
import Derived.Test.YtgdahjcngkokfaaRows
import Derived.WalkKit
import Derived.ProofKit
import Derived.OpenShut
import Derived.ShutString
import Derived.ChangeOld
import Derived.Below
import Derived.Lib.Hide
import Derived.Test.YtgdahjcngkokfaaLines
namespace Go.Proofs.Ytgdahjcngkokfaa.fnExactSplitLines
open Go.ChangeShapes Go.WideShapes Go.ChangeAt Go.RowKit
open Go.ChangeMaps (open_string shut_string)
set_option linter.unusedVariables false

theorem own : ownKnob Try.prog.godebug = none := by kernel_rfl
theorem laidOut : laidOutB Try.prog = true := by kernel_rfl

theorem walk (s : ByteArray) (w : World) (hs0 : s.size ≤ maxLen) :
    Calls Try.prog 6 #[.string s] w fun e w' => e = .returned (.bool true) ∧ Below w.heap.size w w' := by
  unfold maxLen at hs0
  by_cases hl : 1048576 < s.size
  · have g0 : decide ((1048576 : Int) < (s.size : Int)) = true := decide_eq_true (by omega)
    go_enter Try.func6, Try.ntmps6
    go_wp2
    go_ret
    exact ⟨rfl, Below.refl _ _⟩
  have g0 : decide ((1048576 : Int) < (s.size : Int)) = false := decide_eq_false (by omega)
  have hlen := lns_len s
  have C1 := splitLines_spec s w (by omega)
  have C2 := fun w => splitLines_impl s w (by omega)
  generalize lns s = L at C1 C2 hlen
  have hn : L.length ≤ 999999999999 := by omega
  have HC1 : Hid (Calls Try.prog 18 #[.string s] w (StrsMade w L.length (getS L))) := StrsMade.of C1 hn
  have HC2 : Hid (∀ w, Calls Try.prog 19 #[.string s] w (StrsMade w L.length (getS L))) := fun w => StrsMade.of (C2 w) hn
  clear C1 C2
  generalize getS L = G at HC1 HC2
  generalize L.length = n at *
  go_enter Try.func6, Try.ntmps6
  go_wp2_with fail
  refine HC1.out.mono ?_
  rintro e w1 ⟨v1, rfl, r1, o1, b1⟩
  clear o1
  go_wp2_with fail
  refine (HC2.out w1).mono ?_
  rintro e w2 ⟨v2, rfl, r2, o2, b2⟩
  have hs1 := b1.size
  have hs2 := b2.size
  go_wp2_with fail
  refine (eqStringS_same _ _ n G _ r2 (r1.below b2 (Nat.le_refl _))).mono ?_
  rintro e w3 ⟨rfl, q3, rfl⟩
  obtain ⟨xs, o2⟩ := o2
  go_wp2_with fail
  refine (markStringS_one _ n _ xs _ (owns_drewN o2) hs2 hn).mono ?_
  rintro e w3 ⟨rfl, m3, b3⟩
  replace b3 := (below_drewN b2 q3).trans b3
  clear o2 r2
  go_wp2_with fail
  refine (heldStringS_one _ n _ m3 hn).mono ?_
  rintro e w4 ⟨rfl, b4⟩
  have hs3 := b3.size
  have hs4 := b4.size
  have m4 := m3.below b4 (Nat.le_refl _)
  replace b4 := b3.trans (b4.mono hs3)
  clear m3 b3
  go_wp2_with fail
  refine (HC2.out w4).mono ?_
  rintro e w5 ⟨v5, rfl, r5, o5, b5⟩
  clear o5
  have hs5 := b5.size
  have m5 := m4.below b5 (Nat.le_refl _)
  replace b5 := b4.trans (b5.mono (by omega))
  clear m4 b4
  go_wp2_with fail
  refine (eqStringS_same _ _ n G _ r5 (r1.below b5 (Nat.le_refl _))).mono ?_
  rintro e w6 ⟨rfl, q6, rfl⟩
  replace b5 := b1.trans ((below_drewN b5 q6).mono hs1)
  clear r1 r5
  go_wp2_with fail
  refine (heldStringS_one _ n _ m5.drewN hn).mono ?_
  rintro e w7 ⟨rfl, b7⟩
  have hs7 := b7.size
  replace b7 := b5.trans (b7.mono (by have := b5.size; omega))
  clear m5 b5
  go_wp2
  go_ret
  exact ⟨rfl, b7⟩

set_option maxRecDepth 100000 in
theorem lifted (os : Os) (started : os.Started) (H : Type) (enc : TypeId × Value → H) :
    ReturnsInHanded {} Try.checked os 6 .any (Rows.fnExactSplitLinesSpec.pre6 enc Try.prog Try.f6 Rows.fnExactSplitLinesRow.domain false) (Rows.fnExactSplitLinesSpec.post enc Try.prog Try.f6 false true false false) := by
  refine returnsInHanded_of_change (C := Try.checked) own started (by kernel_rfl) Try.func6
    (ChangeSpec.witness6 (enc := enc) (C := Try.checked) false ⟨#[], #[.string ByteArray.empty], []⟩ 8 (by kernel_rfl) (by kernel_rfl) (by kernel_rfl) (by kernel_rfl)) ?_
  intro W base args ds gs before hval0 hW hcnd _
  have hval : ∀ (j : Nat) t v, Try.f6.params[j]? = some t → args[j]? = some v → Value.okWide Try.prog W .any base t v := hval0
  have hW' := hW
  obtain ⟨p, q, hA0, hV, rfl, hfz, hnd⟩ := hW
  have hA : DataW.TrodAll enc Try.prog W 0 (fun _ => true) true Try.f6.params.toList args.toList ds p := hA0
  rw [Try.params6] at hA hval
  obtain ⟨v0, vs0, d0, ds0, p0, q0, hargs, rfl, rfl, h0, r0⟩ := trodAll_cons hA
  obtain ⟨rfl, rfl, rfl⟩ := trodAll_nil r0
  obtain rfl : args = #[v0] := by cases args; simp_all
  obtain ⟨rfl, rfl⟩ := trodVars_none hV
  obtain ⟨a0, rfl, rfl, rfl, w0⟩ := open_string Try.underlying9 (hval 0 9 v0 rfl rfl) h0
  clear hA0 hval0
  simp only [List.append_nil] at hW'
  refine (walk a0 W w0).mono fun e W' ⟨he, bel⟩ => ?_
  subst he
  exact ⟨_, rfl, _, _, _, [], _, [], hW', trodAll_mk1 (shut_bool Try.underlying4 _), (trodAll_cons_mk (shut_string Try.underlying9 w0) trodAll_mk0), rfl, bel.frame _, fun h => by cases h⟩

theorem over : Rows.fnExactSplitLinesRow.holds Try.pinned (OpenSpec.ofChange Rows.fnExactSplitLinesSpec) :=
  OpenClaim.holds_of_wide 6 Try.f6 rfl rfl rfl rfl rfl rfl rfl ⟨rfl, rfl, rfl, rfl, rfl⟩ rfl rfl rfl rfl rfl (by kernel_rfl) Try.func6 (by kernel_rfl)
    (of_decide_eq_true (by kernel_rfl)) (by unfold Func.isWrapper; first | (rw [if_pos (by decide +kernel)]; kernel_rfl) | (rw [if_neg (by decide +kernel)]; exact ⟨rfl, rfl⟩))
    (fun os started H enc _ => lifted os started H enc)

theorem proved : Rows.FnExactSplitLinesSaid := over
end Go.Proofs.Ytgdahjcngkokfaa.fnExactSplitLines
