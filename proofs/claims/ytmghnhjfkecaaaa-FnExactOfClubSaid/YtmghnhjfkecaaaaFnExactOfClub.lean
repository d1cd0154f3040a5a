/-
  The law FnExactOfClub holds for every argument: the program answers as the model does.
-/
import Derived.Test.YtmghnhjfkecaaaaRows
import Derived.WalkKit
import Derived.ProofKit
import Derived.OpenShut
import Derived.ShutString
import Derived.ChangeOld
import Derived.Below
import Derived.Lib.Hide
import Derived.Test.YtmghnhjfkecaaaaListsImpl
import Derived.Test.YtmghnhjfkecaaaaOpenTeams
namespace Go.Proofs.Ytmghnhjfkecaaaa.fnExactOfClub
open Go.ChangeShapes Go.WideShapes Go.ChangeAt Go.RowKit
open Go.ChangeMaps (open_string shut_string)
set_option linter.unusedVariables false

theorem own : ownKnob Try.prog.godebug = none := by kernel_rfl
theorem laidOut : laidOutB Try.prog = true := by kernel_rfl

theorem walk (a : Option Addr) (len cap : Nat) (G : Nat → TeamD) (c : Int) (w : World) (r0 : TeamRow w (.slice a len cap) len G) (hs : ∀ i, (G i).nm.size ≤ maxLen) (hf : ∀ i, TeamFit (G i)) (hc : (Lit.int .i64 c).wf = true) :
    Calls Try.prog 8 #[.slice a len cap, .int .i64 c] w fun e w' => e = .returned (.bool true) ∧ Below w.heap.size w w' := by
  clear hc
  have hs9 : ∀ i, (G i).nm.size ≤ 9223372036854775807 := hs
  have SZ := Lib.hid (szTeamS_any _ len 1048576 G w r0 hs9 (by omega))
  obtain ⟨L, hL, CS, CI⟩ : ∃ L : List Int, L.length ≤ 64 ∧ Hid (∀ v w1, TeamRow w1 v len G → Calls Try.prog 34 #[v, .int .i64 c] w1 (NumsMade w1 L)) ∧
      Hid (∀ v w1, TeamRow w1 v len G → Calls Try.prog 16 #[v, .int .i64 c] w1 (NumsMade w1 L)) := by
    by_cases hp : fieldP len G
    · exact ⟨_, by have := selL_len (fun i => (G i).club) c len; have := hp.1; omega, fun v w1 r => ofClub_yes v len G c w1 r hs hp, fun v w1 r => ofClubI_yes v len G c w1 r hs hp⟩
    · exact ⟨[], Nat.zero_le _, fun v w1 r => ofClub_no v len G c w1 r hs hp, fun v w1 r => ofClubI_no v len G c w1 r hs hp⟩
  have CT := Lib.hid (fun w1 r (hn : len ≤ 1048576) => toTeamS_any (.slice a len cap) len G w1 r hn)
  have R0 := Lib.hid r0
  clear r0 hs hs9 hf
  go_enter Try.func8, Try.ntmps8
  go_wp2_with fail
  refine SZ.out.mono ?_
  rintro e w0 ⟨⟨r, rfl, hr⟩, b0⟩
  rcases hr with hr | ⟨hr, hsum⟩
  · have g2 : decide (r < 0) = true := decide_eq_true hr
    go_wp2
    go_ret
    exact ⟨rfl, b0⟩
  have g2 : decide (r < 0) = false := decide_eq_false (by omega)
  have hn : len ≤ 1048576 := by omega
  clear hsum
  have R1 := R0.out.below b0 (Nat.le_refl _)
  go_wp2_with fail
  refine (CT.out _ R1 hn).mono ?_
  rintro e w1 ⟨v1, rfl, r1, o1, b1⟩
  replace b1 := b0.trans (b1.mono b0.size)
  clear o1 R1 b0
  go_wp2_with fail
  refine (CS.out v1 _ r1).mono ?_
  rintro e w2 ⟨v2, rfl, o2, b2⟩
  have q2 := IntRow.of_list o2 (by omega)
  replace b2 := b1.trans (b2.mono b1.size)
  clear r1 b1 o2
  have R2 := R0.out.below b2 (Nat.le_refl _)
  go_wp2_with fail
  refine (CT.out _ R2 hn).mono ?_
  rintro e w3 ⟨v3, rfl, r3, ⟨x3, o3⟩, d3⟩
  replace b3 := b2.trans (d3.mono b2.size)
  clear R2
  have hs23 := d3.size
  have HL3 := Lib.hid o3.lt
  go_wp2_with fail
  refine (CI.out v3 _ r3).mono ?_
  rintro e w4 ⟨v4, rfl, o4, c4⟩
  have HL4 := Lib.hid o4.lt
  have r4 := r3.below c4 (Nat.le_refl _)
  replace o3 := owns_below o3 c4 (Nat.le_refl _)
  have d4 := d3.trans (c4.mono hs23)
  have b4 := b3.trans (c4.mono b3.size)
  have hs34 := c4.size
  clear r3 d3 b3 c4
  have e4 := IntRow.of_list o4 (by omega)
  go_wp2_with fail
  refine (eqIntS_same _ _ L.length (getI L) _ e4 (q2.below d4 (Nat.le_refl _))).mono ?_
  rintro e w5 ⟨rfl, q5, rfl⟩
  replace r4 := r4.drewN (q := q5)
  replace o3 := owns_drewN (q := q5) o3
  replace o4 := owns_drewN (q := q5) o4
  replace d4 := below_drewN d4 q5
  replace b4 := below_drewN b4 q5
  clear e4
  have R5 := R0.out.below b4 (Nat.le_refl _)
  have hs35 : w3.heap.size ≤ (w4.drewN q5).heap.size := hs34
  generalize w4.drewN q5 = w5 at *
  go_wp2_with fail
  refine (CT.out _ R5 hn).mono ?_
  rintro e w6 ⟨v6, rfl, r6, o6, c6⟩
  have r46 := r4.below c6 (Nat.le_refl _)
  replace o3 := owns_below o3 c6 (Nat.le_refl _)
  replace o4 := owns_below o4 c6 (Nat.le_refl _)
  have d6 := d4.trans (c6.mono d4.size)
  have b6 := b4.trans (c6.mono b4.size)
  have hs36 := Nat.le_trans hs35 c6.size
  clear o6 R5 d4 b4 c6 r4
  go_wp2_with fail
  refine (eqTeamS_same _ _ len G _ r46 r6).mono ?_
  rintro e w7 ⟨rfl, c7⟩
  replace o3 := owns_below o3 c7 (Nat.le_refl _)
  replace o4 := owns_below o4 c7 (Nat.le_refl _)
  have d7 := d6.trans (c7.mono d6.size)
  have b7 := b6.trans (c7.mono b6.size)
  have hs37 := Nat.le_trans hs36 c7.size
  clear r46 r6 d6 b6 c7
  go_wp2_with fail
  refine (markTeamS_grown v3 len w2.heap.size x3 w7 o3 d7.size hn).mono ?_
  rintro e w8 ⟨rfl, c8, g8⟩
  have k8 : decide ((1 : Int) + 3 * (len : Int) < 0) = false := decide_eq_false (by omega)
  replace o4 := o4.kept g8 (by
    cases h4 : v4.ownBlock with
    | none => exact .inl rfl
    | some k4 =>
      refine .inr fun h => ?_
      have h1 := (HL4.out k4 h4).1
      have h2 := (HL3.out k4 h.symm).2
      omega)
  have d8 := d7.trans c8
  have b8 := b7.trans (c8.mono b2.size)
  have hs38 := Nat.le_trans hs37 c8.size
  clear o3 d7 b7 c8 g8
  have e8 := IntRow.of_list o4 (by omega)
  go_wp2_with fail
  refine (eqIntS_same _ _ L.length (getI L) _ e8 (q2.below d8 (Nat.le_refl _))).mono ?_
  rintro e w9 ⟨rfl, q9, rfl⟩
  replace o4 := owns_drewN (q := q9) o4
  replace d8 := below_drewN d8 q9
  replace b8 := below_drewN b8 q9
  have hs39 : w3.heap.size ≤ (w8.drewN q9).heap.size := hs38
  clear e8
  generalize w8.drewN q9 = w9 at *
  go_wp2_with fail
  refine (markIntS_one v4 L.length w3.heap.size _ w9 o4 hs39 (by omega)).mono ?_
  rintro e w10 ⟨rfl, m10, c10⟩
  have d10 := d8.trans (c10.mono hs23)
  have b10 := b8.trans (c10.mono (Nat.le_trans b2.size hs23))
  clear o4 d8 b8
  have k10 : decide ((1 : Int) + (L.length : Int) < 0) = false := decide_eq_false (by omega)
  go_wp2_with fail
  refine (heldIntS_one v4 L.length _ m10 (by omega)).mono ?_
  rintro e w' ⟨rfl, rfl⟩
  have R10 := R0.out.below b10 (Nat.le_refl _)
  go_wp2_with fail
  refine (CT.out _ R10 hn).mono ?_
  rintro e w11 ⟨v11, rfl, r11, o11, c11⟩
  have m11 := m10.below c11 (Nat.le_refl _)
  have d11 := d10.trans (c11.mono d10.size)
  have b11 := b10.trans (c11.mono b10.size)
  clear o11 R10 d10 b10 m10 c10 c11
  go_wp2_with fail
  refine (CI.out v11 _ r11).mono ?_
  rintro e w12 ⟨v12, rfl, o12, c12⟩
  have m12 := m11.below c12 (Nat.le_refl _)
  have d12 := d11.trans (c12.mono d11.size)
  have b12 := b11.trans (c12.mono b11.size)
  clear r11 d11 b11 m11 c12
  have e12 := IntRow.of_list o12 (by omega)
  go_wp2_with fail
  refine (eqIntS_same _ _ L.length (getI L) _ e12 (q2.below d12 (Nat.le_refl _))).mono ?_
  rintro e w13 ⟨rfl, q13, rfl⟩
  have b13 := below_drewN b12 q13
  have m13 := m12.drewN (q := q13)
  clear e12 o12 d12 b12 m12
  generalize w12.drewN q13 = w13 at *
  go_wp2_with fail
  refine (heldIntS_one v4 L.length _ m13 (by omega)).mono ?_
  rintro e w' ⟨rfl, rfl⟩
  go_wp2
  go_ret
  exact ⟨rfl, b13⟩

set_option maxRecDepth 100000 in
theorem lifted (os : Os) (started : os.Started) (H : Type) (enc : TypeId × Value → H) :
    ReturnsInHanded {} Try.checked os 8 .any (Rows.fnExactOfClubSpec.pre6 enc Try.prog Try.f8 Rows.fnExactOfClubRow.domain false) (Rows.fnExactOfClubSpec.post enc Try.prog Try.f8 false true false false) := by
  refine returnsInHanded_of_change (C := Try.checked) own started (by kernel_rfl) Try.func8
    (ChangeSpec.witness6 (enc := enc) (C := Try.checked) false ⟨#[], #[.slice none 0 0, .int .i64 0], []⟩ 8 (by kernel_rfl) (by kernel_rfl) (by kernel_rfl) (by kernel_rfl)) ?_
  intro W base args ds gs before hval0 hW hcnd _
  have hval : ∀ (j : Nat) t v, Try.f8.params[j]? = some t → args[j]? = some v → Value.okWide Try.prog W .any base t v := hval0
  have hW' := hW
  obtain ⟨p, q, hA0, hV, rfl, hfz, hnd⟩ := hW
  have hA : DataW.TrodAll enc Try.prog W 0 (fun _ => true) true Try.f8.params.toList args.toList ds p := hA0
  rw [Try.params8] at hA hval
  obtain ⟨v0, vs0, d0, ds0, p0, q0, hargs, rfl, rfl, h0, r0⟩ := trodAll_cons hA
  obtain ⟨v1, vs1, d1, ds1, p1, q1, rfl, rfl, rfl, h1, r1⟩ := trodAll_cons r0
  obtain ⟨rfl, rfl, rfl⟩ := trodAll_nil r1
  obtain rfl : args = #[v0, v1] := by cases args; simp_all
  obtain ⟨rfl, rfl⟩ := trodVars_none hV
  have k0 := h0
  have lt0 : ∀ x ∈ p0, x.block < W.heap.size := by obtain ⟨m, hm⟩ := k0; exact DataW.trod_lt m _ _ _ hm
  obtain ⟨a0, len0, cap0, rfl⟩ := okWide_slice Try.underlying41 (hval 0 41 v0 rfl rfl)
  obtain ⟨z0, w0, s0, f0⟩ : ∃ g, TeamRow W (.slice a0 len0 cap0) len0 g ∧ (∀ i, (g i).nm.size ≤ maxLen) ∧ ∀ i, TeamFit (g i) := by
    obtain ⟨fuel, hf⟩ := h0
    exact teamRow_of_open rfl (by simpa [Value.cells] using open_teams Try.underlying41 Try.underlying36 (by kernel_rfl) rfl rfl rfl (by kernel_rfl) (by kernel_rfl) (by kernel_rfl) Try.underlying9 Try.underlying3 Try.underlying3 hf)
  obtain ⟨a1, rfl, rfl, rfl, w1⟩ := open_int Try.underlying3 (hval 1 3 v1 rfl rfl) h1
  clear hA0 hval0
  simp only [List.append_nil] at hW'
  refine (walk a0 len0 cap0 z0 a1 W w0 s0 f0 w1).mono fun e W' ⟨he, bel⟩ => ?_
  subst he
  exact ⟨_, rfl, _, _, _, [], _, [], hW', trodAll_mk1 (shut_bool Try.underlying4 _), (trodAll_cons_mk (Below.trod laidOut (by kernel_rfl) (of_decide_eq_true (by kernel_rfl)) k0 bel lt0) (trodAll_cons_mk (shut_int Try.underlying3 w1) trodAll_mk0)), rfl, bel.frame _, fun h => by cases h⟩

theorem over : Rows.fnExactOfClubRow.holds Try.pinned (OpenSpec.ofChange Rows.fnExactOfClubSpec) :=
  OpenClaim.holds_of_wide 8 Try.f8 rfl rfl rfl rfl rfl rfl rfl ⟨rfl, rfl, rfl, rfl, rfl⟩ rfl rfl rfl rfl rfl (by kernel_rfl) Try.func8 (by kernel_rfl)
    (of_decide_eq_true (by kernel_rfl)) (by unfold Func.isWrapper; first | (rw [if_pos (by decide +kernel)]; kernel_rfl) | (rw [if_neg (by decide +kernel)]; exact ⟨rfl, rfl⟩))
    (fun os started H enc _ => lifted os started H enc)

theorem proved : Rows.FnExactOfClubSaid := over
end Go.Proofs.Ytmghnhjfkecaaaa.fnExactOfClub
