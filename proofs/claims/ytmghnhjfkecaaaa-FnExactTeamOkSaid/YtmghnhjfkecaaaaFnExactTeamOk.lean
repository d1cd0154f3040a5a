/-
  The law FnExactTeamOk holds for every argument: the program answers as the model does.
-/
import Derived.Test.YtmghnhjfkecaaaaRows
import Derived.WalkKit
import Derived.ProofKit
import Derived.OpenShut
import Derived.ShutString
import Derived.ChangeOld
import Derived.Below
import Derived.Lib.Hide
import Derived.Test.YtmghnhjfkecaaaaField
import Derived.Test.YtmghnhjfkecaaaaOpenTeams
import Derived.Test.YtmghnhjfkecaaaaFieldImpl
namespace Go.Proofs.Ytmghnhjfkecaaaa.fnExactTeamOk
open Go.ChangeShapes Go.WideShapes Go.ChangeAt Go.RowKit
open Go.ChangeMaps (open_string shut_string)
set_option linter.unusedVariables false

theorem own : ownKnob Try.prog.godebug = none := by kernel_rfl
theorem laidOut : laidOutB Try.prog = true := by kernel_rfl

theorem walk (t : TeamD) (w : World) (hs : t.nm.size ≤ maxLen) :
    Calls Try.prog 4 #[.agg #[.string t.nm, .int .i64 t.club, .int .i64 t.seed]] w fun e w' => e = .returned (.bool true) ∧ Below w.heap.size w w' := by
  have hs9 : t.nm.size ≤ 9223372036854775807 := hs
  have CS := Lib.hid (fun w1 => szTeam_any t 1048576 w1 hs9 (by omega) (by omega))
  obtain ⟨R, HS, HI⟩ : ∃ R : Bool, Hid (∀ w1, Calls Try.prog 21 #[.agg #[.string t.nm, .int .i64 t.club, .int .i64 t.seed]] w1 fun e w' => e = .returned (.bool R) ∧ Below w1.heap.size w1 w') ∧
      Hid (∀ w1, Calls Try.prog 23 #[.agg #[.string t.nm, .int .i64 t.club, .int .i64 t.seed]] w1 fun e w' => e = .returned (.bool R) ∧ Below w1.heap.size w1 w') := by
    by_cases hp : teamP t
    · exact ⟨true, fun w1 => teamOk_yes t w1 hs hp, fun w1 => teamOkI_yes t w1 hs hp⟩
    · exact ⟨false, fun w1 => teamOk_no t w1 hs hp, fun w1 => teamOkI_no t w1 hs hp⟩
  have CT := Lib.hid (fun w1 => toTeam_any t w1)
  clear hs hs9
  obtain ⟨nm, club, seed⟩ := t
  simp only at CS HS HI CT
  go_enter Try.func4, Try.ntmps4
  go_wp2_with fail
  refine (CS.out _).mono ?_
  rintro e w1 ⟨⟨r, rfl, hr⟩, b1⟩
  obtain ⟨k0, k1, k2⟩ := var3 b1
  replace b1 := ((Below.refl w.heap.size w).alloc (Nat.le_refl _) _).trans (b1.mono (by simp))
  rcases hr with ⟨_, hr⟩ | ⟨hr, _⟩
  · have g2 : decide (r < 0) = true := decide_eq_true hr
    go_wp2
    go_ret
    exact ⟨rfl, b1⟩
  have g2 : decide (r < 0) = false := decide_eq_false (by omega)
  go_wp2_with fail
  refine (CT.out _).mono ?_
  rintro e w2 ⟨rfl, b2⟩
  obtain ⟨m0, m1, m2⟩ := var3_below k0 k1 k2 b2
  replace b2 := b1.trans (b2.mono b1.size)
  clear k0 k1 k2
  go_wp2_with fail
  refine (HS.out _).mono ?_
  rintro e w3 ⟨rfl, b3⟩
  obtain ⟨k0, k1, k2⟩ := var3_below m0 m1 m2 b3
  replace b3 := b2.trans (b3.mono b2.size)
  clear m0 m1 m2
  go_wp2_with fail
  refine (CT.out _).mono ?_
  rintro e w4 ⟨rfl, b4⟩
  replace b4 := b3.trans (b4.mono b3.size)
  clear k0 k1 k2
  go_wp2_with fail
  refine (HI.out _).mono ?_
  rintro e w5 ⟨rfl, b5⟩
  replace b5 := b4.trans (b5.mono b4.size)
  go_wp2
  go_ret
  exact ⟨rfl, b5⟩

set_option maxRecDepth 100000 in
theorem lifted (os : Os) (started : os.Started) (H : Type) (enc : TypeId × Value → H) :
    ReturnsInHanded {} Try.checked os 4 .any (Rows.fnExactTeamOkSpec.pre6 enc Try.prog Try.f4 Rows.fnExactTeamOkRow.domain false) (Rows.fnExactTeamOkSpec.post enc Try.prog Try.f4 false true false false) := by
  refine returnsInHanded_of_change (C := Try.checked) own started (by kernel_rfl) Try.func4
    (ChangeSpec.witness6 (enc := enc) (C := Try.checked) false ⟨#[], #[.agg #[.string ByteArray.empty, .int .i64 0, .int .i64 0]], []⟩ 8 (by kernel_rfl) (by kernel_rfl) (by kernel_rfl) (by kernel_rfl)) ?_
  intro W base args ds gs before hval0 hW hcnd _
  have hval : ∀ (j : Nat) t v, Try.f4.params[j]? = some t → args[j]? = some v → Value.okWide Try.prog W .any base t v := hval0
  have hW' := hW
  obtain ⟨p, q, hA0, hV, rfl, hfz, hnd⟩ := hW
  have hA : DataW.TrodAll enc Try.prog W 0 (fun _ => true) true Try.f4.params.toList args.toList ds p := hA0
  rw [Try.params4] at hA hval
  obtain ⟨v0, vs0, d0, ds0, p0, q0, hargs, rfl, rfl, h0, r0⟩ := trodAll_cons hA
  obtain ⟨rfl, rfl, rfl⟩ := trodAll_nil r0
  obtain rfl : args = #[v0] := by cases args; simp_all
  obtain ⟨rfl, rfl⟩ := trodVars_none hV
  have k0 := h0
  have lt0 : ∀ x ∈ p0, x.block < W.heap.size := by obtain ⟨m, hm⟩ := k0; exact DataW.trod_lt m _ _ _ hm
  obtain ⟨u00, u01, u02, y00, y01, y02, n0, rfl, rfl, rfl, t00, t01, t02⟩ := Go.Joins.open_agg3 Try.underlying36 (by kernel_rfl) (by kernel_rfl) (hval 0 36 v0 rfl rfl) h0
  obtain ⟨a0, e00, _, w0⟩ := DataW.trod_string Try.underlying9 t00
  obtain ⟨b0, e01, _, _⟩ := DataW.trod_int Try.underlying3 t01
  obtain ⟨c0, e02, _, _⟩ := DataW.trod_int Try.underlying3 t02
  simp only [List.cons.injEq, and_true] at e00 e01 e02
  subst e00; subst e01; subst e02
  clear hA0 hval0
  simp only [List.append_nil] at hW'
  refine (walk ⟨a0, b0, c0⟩ W w0).mono fun e W' ⟨he, bel⟩ => ?_
  subst he
  exact ⟨_, rfl, _, _, _, [], _, [], hW', trodAll_mk1 (shut_bool Try.underlying4 _), (trodAll_cons_mk (Below.trod laidOut (by kernel_rfl) (of_decide_eq_true (by kernel_rfl)) k0 bel lt0) trodAll_mk0), rfl, bel.frame _, fun h => by cases h⟩

theorem over : Rows.fnExactTeamOkRow.holds Try.pinned (OpenSpec.ofChange Rows.fnExactTeamOkSpec) :=
  OpenClaim.holds_of_wide 4 Try.f4 rfl rfl rfl rfl rfl rfl rfl ⟨rfl, rfl, rfl, rfl, rfl⟩ rfl rfl rfl rfl rfl (by kernel_rfl) Try.func4 (by kernel_rfl)
    (of_decide_eq_true (by kernel_rfl)) (by unfold Func.isWrapper; first | (rw [if_pos (by decide +kernel)]; kernel_rfl) | (rw [if_neg (by decide +kernel)]; exact ⟨rfl, rfl⟩))
    (fun os started H enc _ => lifted os started H enc)

theorem proved : Rows.FnExactTeamOkSaid := over
end Go.Proofs.Ytmghnhjfkecaaaa.fnExactTeamOk
