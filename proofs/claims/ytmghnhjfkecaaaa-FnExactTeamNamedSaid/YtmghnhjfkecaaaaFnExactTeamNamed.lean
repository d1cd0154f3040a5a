/-
  The law FnExactTeamNamed holds for every argument: the program answers as the model does.
-/
import Derived.Test.YtmghnhjfkecaaaaRows
import Derived.WalkKit
import Derived.ProofKit
import Derived.OpenShut
import Derived.ShutString
import Derived.ChangeOld
import Derived.Below
import Derived.Lib.Hide
import Derived.Test.YtmghnhjfkecaaaaNamedImpl
import Derived.Test.YtmghnhjfkecaaaaListsImpl
namespace Go.Proofs.Ytmghnhjfkecaaaa.fnExactTeamNamed
open Go.ChangeShapes Go.WideShapes Go.ChangeAt Go.RowKit
open Go.ChangeMaps (open_string shut_string)
set_option linter.unusedVariables false

theorem own : ownKnob Try.prog.godebug = none := by kernel_rfl
theorem laidOut : laidOutB Try.prog = true := by kernel_rfl

theorem walk (a : Option Addr) (len cap : Nat) (G : Nat → TeamD) (x : ByteArray) (w : World) (r0 : TeamRow w (.slice a len cap) len G) (hs : ∀ i, (G i).nm.size ≤ maxLen) (hf : ∀ i, TeamFit (G i)) (hx : x.size ≤ maxLen) :
    Calls Try.prog 6 #[.slice a len cap, .string x] w fun e w' => e = .returned (.bool true) ∧ Below w.heap.size w w' := by
  unfold maxLen at hx
  by_cases hm : 1048576 < x.size
  · have g1 : decide ((1048576 : Int) < (x.size : Int)) = true := decide_eq_true (by omega)
    clear hs r0 hf
    go_enter Try.func6, Try.ntmps6
    go_wp2
    go_ret
    exact ⟨rfl, Below.refl _ _⟩
  have g1 : decide ((1048576 : Int) < (x.size : Int)) = false := decide_eq_false (by omega)
  have hs9 : ∀ i, (G i).nm.size ≤ 9223372036854775807 := hs
  have SZ := Lib.hid (szTeamS_any _ len 1048576 G w r0 hs9 (by omega))
  obtain ⟨R, CS, CI⟩ : ∃ R : Int, Hid (∀ v w1, TeamRow w1 v len G → Calls Try.prog 28 #[v, .string x] w1 fun e w' => e = .returned (.int .i64 R) ∧ Below w1.heap.size w1 w') ∧
      Hid (∀ v w1, TeamRow w1 v len G → len ≤ 1048576 → Calls Try.prog 18 #[v, .string x] w1 fun e w' => e = .returned (.int .i64 R) ∧ Below w1.heap.size w1 w') := by
    exact ⟨_, fun v w1 r => teamNamed_spec v len G x w1 r, fun v w1 r hn => teamNamed_impl v len G x w1 r hf hn⟩
  have CT := Lib.hid (fun w1 r (hn : len ≤ 1048576) => toTeamS_any (.slice a len cap) len G w1 r hn)
  have R0 := Lib.hid r0
  clear r0 hs hs9 hf
  go_enter Try.func6, Try.ntmps6
  go_wp2_with fail
  refine SZ.out.mono ?_
  rintro e w0 ⟨⟨r, rfl, hr⟩, b0⟩
  rcases hr with hr | ⟨hr, hsum⟩
  · have g2 : decide (r < 0) = true := decide_eq_true hr
    go_wp2
    go_ret
    exact ⟨rfl, b0⟩
  have g2 : decide (r < 0) = false := decide_eq_false (by omega)
  have hn : len ≤ 1048576 := by omega
  clear hsum
  have R1 := R0.out.below b0 (Nat.le_refl _)
  go_wp2_with fail
  refine (CT.out _ R1 hn).mono ?_
  rintro e w1 ⟨v1, rfl, r1, o1, b1⟩
  replace b1 := b0.trans (b1.mono b0.size)
  clear o1 R1 b0
  go_wp2_with fail
  refine (CS.out v1 _ r1).mono ?_
  rintro e w2 ⟨rfl, b2⟩
  replace b2 := b1.trans (b2.mono b1.size)
  clear r1 b1
  have R2 := R0.out.below b2 (Nat.le_refl _)
  go_wp2_with fail
  refine (CT.out _ R2 hn).mono ?_
  rintro e w3 ⟨v3, rfl, r3, o3, b3⟩
  replace b3 := b2.trans (b3.mono b2.size)
  clear o3 R2 b2
  go_wp2_with fail
  refine (CI.out v3 _ r3 hn).mono ?_
  rintro e w4 ⟨rfl, b4⟩
  have R4 := r3.below b4 (Nat.le_refl _)
  replace b4 := b3.trans (b4.mono b3.size)
  clear r3 b3
  have R5 := R0.out.below b4 (Nat.le_refl _)
  go_wp2_with fail
  refine (CT.out _ R5 hn).mono ?_
  rintro e w5 ⟨v5, rfl, r5, o5, b5⟩
  have R6 := R4.below b5 (Nat.le_refl _)
  replace b5 := b4.trans (b5.mono b4.size)
  clear o5 R5 b4 R4
  go_wp2_with fail
  refine (eqTeamS_same _ _ len G _ R6 r5).mono ?_
  rintro e w6 ⟨rfl, b6⟩
  replace b6 := b5.trans (b6.mono b5.size)
  clear R6 r5 b5
  go_wp2
  go_ret
  exact ⟨rfl, b6⟩

set_option maxRecDepth 100000 in
theorem lifted (os : Os) (started : os.Started) (H : Type) (enc : TypeId × Value → H) :
    ReturnsInHanded {} Try.checked os 6 .any (Rows.fnExactTeamNamedSpec.pre6 enc Try.prog Try.f6 Rows.fnExactTeamNamedRow.domain false) (Rows.fnExactTeamNamedSpec.post enc Try.prog Try.f6 false true false false) := by
  refine returnsInHanded_of_change (C := Try.checked) own started (by kernel_rfl) Try.func6
    (ChangeSpec.witness6 (enc := enc) (C := Try.checked) false ⟨#[], #[.slice none 0 0, .string ByteArray.empty], []⟩ 8 (by kernel_rfl) (by kernel_rfl) (by kernel_rfl) (by kernel_rfl)) ?_
  intro W base args ds gs before hval0 hW hcnd _
  have hval : ∀ (j : Nat) t v, Try.f6.params[j]? = some t → args[j]? = some v → Value.okWide Try.prog W .any base t v := hval0
  have hW' := hW
  obtain ⟨p, q, hA0, hV, rfl, hfz, hnd⟩ := hW
  have hA : DataW.TrodAll enc Try.prog W 0 (fun _ => true) true Try.f6.params.toList args.toList ds p := hA0
  rw [Try.params6] at hA hval
  obtain ⟨v0, vs0, d0, ds0, p0, q0, hargs, rfl, rfl, h0, r0⟩ := trodAll_cons hA
  obtain ⟨v1, vs1, d1, ds1, p1, q1, rfl, rfl, rfl, h1, r1⟩ := trodAll_cons r0
  obtain ⟨rfl, rfl, rfl⟩ := trodAll_nil r1
  obtain rfl : args = #[v0, v1] := by cases args; simp_all
  obtain ⟨rfl, rfl⟩ := trodVars_none hV
  have k0 := h0
  have lt0 : ∀ x ∈ p0, x.block < W.heap.size := by obtain ⟨m, hm⟩ := k0; exact DataW.trod_lt m _ _ _ hm
  obtain ⟨a0, len0, cap0, rfl⟩ := okWide_slice Try.underlying41 (hval 0 41 v0 rfl rfl)
  obtain ⟨z0, w0, s0, f0⟩ : ∃ g, TeamRow W (.slice a0 len0 cap0) len0 g ∧ (∀ i, (g i).nm.size ≤ maxLen) ∧ ∀ i, TeamFit (g i) := by
    obtain ⟨fuel, hf⟩ := h0
    exact teamRow_of_open rfl (by simpa [Value.cells] using open_teams Try.underlying41 Try.underlying36 (by kernel_rfl) rfl rfl rfl (by kernel_rfl) (by kernel_rfl) (by kernel_rfl) Try.underlying9 Try.underlying3 Try.underlying3 hf)
  obtain ⟨a1, rfl, rfl, rfl, w1⟩ := open_string Try.underlying9 (hval 1 9 v1 rfl rfl) h1
  clear hA0 hval0
  simp only [List.append_nil] at hW'
  refine (walk a0 len0 cap0 z0 a1 W w0 s0 f0 w1).mono fun e W' ⟨he, bel⟩ => ?_
  subst he
  exact ⟨_, rfl, _, _, _, [], _, [], hW', trodAll_mk1 (shut_bool Try.underlying4 _), (trodAll_cons_mk (Below.trod laidOut (by kernel_rfl) (of_decide_eq_true (by kernel_rfl)) k0 bel lt0) (trodAll_cons_mk (shut_string Try.underlying9 w1) trodAll_mk0)), rfl, bel.frame _, fun h => by cases h⟩

theorem over : Rows.fnExactTeamNamedRow.holds Try.pinned (OpenSpec.ofChange Rows.fnExactTeamNamedSpec) :=
  OpenClaim.holds_of_wide 6 Try.f6 rfl rfl rfl rfl rfl rfl rfl ⟨rfl, rfl, rfl, rfl, rfl⟩ rfl rfl rfl rfl rfl (by kernel_rfl) Try.func6 (by kernel_rfl)
    (of_decide_eq_true (by kernel_rfl)) (by unfold Func.isWrapper; first | (rw [if_pos (by decide +kernel)]; kernel_rfl) | (rw [if_neg (by decide +kernel)]; exact ⟨rfl, rfl⟩))
    (fun os started H enc _ => lifted os started H enc)

theorem proved : Rows.FnExactTeamNamedSaid := over
end Go.Proofs.Ytmghnhjfkecaaaa.fnExactTeamNamed
