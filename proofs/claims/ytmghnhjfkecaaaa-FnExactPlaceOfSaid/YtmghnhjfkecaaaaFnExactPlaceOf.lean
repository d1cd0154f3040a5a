/-
  The law FnExactPlaceOf holds for every argument: the program answers as the model does.
-/
import Derived.Test.YtmghnhjfkecaaaaRows
import Derived.WalkKit
import Derived.ProofKit
import Derived.OpenShut
import Derived.ShutString
import Derived.ChangeOld
import Derived.Below
import Derived.Lib.Hide
import Derived.Test.YtmghnhjfkecaaaaOrdersImpl
namespace Go.Proofs.Ytmghnhjfkecaaaa.fnExactPlaceOf
open Go.ChangeShapes Go.WideShapes Go.ChangeAt Go.RowKit
open Go.ChangeMaps (open_string shut_string)
set_option linter.unusedVariables false

theorem own : ownKnob Try.prog.godebug = none := by kernel_rfl
theorem laidOut : laidOutB Try.prog = true := by kernel_rfl

theorem walk (a : Option Addr) (len cap : Nat) (zs : List Int) (x : Int) (w : World) (h : IsRow .i64 w a len cap zs) (hx : (Lit.int .i64 x).wf = true) :
    Calls Try.prog 11 #[.slice a len cap, .int .i64 x] w fun e w' => e = .returned (.bool true) ∧ Below w.heap.size w w' := by
  obtain ⟨r0, hl⟩ := h.ints
  clear h hx
  generalize getI zs = G at *
  by_cases hm : 1048576 < len
  · have g1 : decide ((1048576 : Int) < (len : Int)) = true := decide_eq_true (by omega)
    clear r0
    go_enter Try.func11, Try.ntmps11
    go_wp2
    go_ret
    exact ⟨rfl, Below.refl _ _⟩
  have g1 : decide ((1048576 : Int) < (len : Int)) = false := decide_eq_false (by omega)
  have hn : len ≤ 1048576 := by omega
  have R0 := Lib.hid r0
  have CS := Lib.hid (fun v w1 r => placeOf_spec v len G x w1 r)
  have CI := Lib.hid (fun v w1 r => placeOf_impl v len G x w1 r)
  generalize placeI G x len 0 = z at CS CI
  clear r0 hm
  go_enter Try.func11, Try.ntmps11
  go_wp2_with fail
  refine (toIntS_any _ len G _ R0.out hn).mono ?_
  rintro e w1 ⟨v1, rfl, r1, o1, b1⟩
  clear o1
  go_wp2_with fail
  refine (CS.out v1 _ r1).mono ?_
  rintro e w' ⟨rfl, rfl⟩
  have R1 := R0.out.below b1 (Nat.le_refl _)
  have hs1 := b1.size
  go_wp2_with fail
  refine (toIntS_any _ len G _ R1 hn).mono ?_
  rintro e w2 ⟨v2, rfl, r2, o2, b2⟩
  clear o2
  replace b2 := b1.trans (b2.mono hs1)
  have hs2 := b2.size
  clear r1 R1 b1
  go_wp2_with fail
  refine (CI.out v2 _ r2).mono ?_
  rintro e w' ⟨rfl, rfl⟩
  have R2 := R0.out.below b2 (Nat.le_refl _)
  go_wp2_with fail
  refine (toIntS_any _ len G _ R2 hn).mono ?_
  rintro e w3 ⟨v3, rfl, r3, o3, b3⟩
  clear o3
  have R3 := r2.below b3 (Nat.le_refl _)
  replace b3 := b2.trans (b3.mono hs2)
  clear R2 b2 r2
  go_wp2_with fail
  refine (eqIntS_same _ _ len G _ R3 r3).mono ?_
  rintro e w4 ⟨rfl, q4, rfl⟩
  have b4 := below_drewN b3 q4
  clear R3 r3 b3
  go_wp2
  go_ret
  exact ⟨rfl, b4⟩

set_option maxRecDepth 100000 in
theorem lifted (os : Os) (started : os.Started) (H : Type) (enc : TypeId × Value → H) :
    ReturnsInHanded {} Try.checked os 11 .any (Rows.fnExactPlaceOfSpec.pre6 enc Try.prog Try.f11 Rows.fnExactPlaceOfRow.domain false) (Rows.fnExactPlaceOfSpec.post enc Try.prog Try.f11 false true false false) := by
  refine returnsInHanded_of_change (C := Try.checked) own started (by kernel_rfl) Try.func11
    (ChangeSpec.witness6 (enc := enc) (C := Try.checked) false ⟨#[], #[.slice none 0 0, .int .i64 0], []⟩ 8 (by kernel_rfl) (by kernel_rfl) (by kernel_rfl) (by kernel_rfl)) ?_
  intro W base args ds gs before hval0 hW hcnd _
  have hval : ∀ (j : Nat) t v, Try.f11.params[j]? = some t → args[j]? = some v → Value.okWide Try.prog W .any base t v := hval0
  have hW' := hW
  obtain ⟨p, q, hA0, hV, rfl, hfz, hnd⟩ := hW
  have hA : DataW.TrodAll enc Try.prog W 0 (fun _ => true) true Try.f11.params.toList args.toList ds p := hA0
  rw [Try.params11] at hA hval
  obtain ⟨v0, vs0, d0, ds0, p0, q0, hargs, rfl, rfl, h0, r0⟩ := trodAll_cons hA
  obtain ⟨v1, vs1, d1, ds1, p1, q1, rfl, rfl, rfl, h1, r1⟩ := trodAll_cons r0
  obtain ⟨rfl, rfl, rfl⟩ := trodAll_nil r1
  obtain rfl : args = #[v0, v1] := by cases args; simp_all
  obtain ⟨rfl, rfl⟩ := trodVars_none hV
  have k0 := h0
  have lt0 : ∀ x ∈ p0, x.block < W.heap.size := by obtain ⟨m, hm⟩ := k0; exact DataW.trod_lt m _ _ _ hm
  obtain ⟨a0, len0, cap0, rfl⟩ := okWide_slice Try.underlying25 (hval 0 25 v0 rfl rfl)
  obtain ⟨z0, w0⟩ : ∃ zs, IsRow .i64 W a0 len0 cap0 zs := by
    obtain ⟨fuel, hf⟩ := h0
    rcases open_ints Try.underlying25 Try.underlying3 (by kernel_rfl) hf with ⟨hcs, _⟩ | ⟨x, l, c, zs, hcs, _, hl, hm, hz, _, hcell, hwz⟩
    · simp [Value.cells] at hcs
      obtain ⟨rfl, rfl, rfl⟩ := hcs
      exact ⟨[], .inl ⟨rfl, rfl, rfl, rfl⟩⟩
    · simp [Value.cells] at hcs
      obtain ⟨rfl, rfl, rfl⟩ := hcs
      exact ⟨zs, .inr ⟨_, rfl, hl, hm, by simpa using hz, hcell, hwz⟩⟩
  obtain ⟨a1, rfl, rfl, rfl, w1⟩ := open_int Try.underlying3 (hval 1 3 v1 rfl rfl) h1
  clear hA0 hval0
  simp only [List.append_nil] at hW'
  refine (walk a0 len0 cap0 z0 a1 W w0 w1).mono fun e W' ⟨he, bel⟩ => ?_
  subst he
  exact ⟨_, rfl, _, _, _, [], _, [], hW', trodAll_mk1 (shut_bool Try.underlying4 _), (trodAll_cons_mk (Below.trod laidOut (by kernel_rfl) (of_decide_eq_true (by kernel_rfl)) k0 bel lt0) (trodAll_cons_mk (shut_int Try.underlying3 w1) trodAll_mk0)), rfl, bel.frame _, fun h => by cases h⟩

theorem over : Rows.fnExactPlaceOfRow.holds Try.pinned (OpenSpec.ofChange Rows.fnExactPlaceOfSpec) :=
  OpenClaim.holds_of_wide 11 Try.f11 rfl rfl rfl rfl rfl rfl rfl ⟨rfl, rfl, rfl, rfl, rfl⟩ rfl rfl rfl rfl rfl (by kernel_rfl) Try.func11 (by kernel_rfl)
    (of_decide_eq_true (by kernel_rfl)) (by unfold Func.isWrapper; first | (rw [if_pos (by decide +kernel)]; kernel_rfl) | (rw [if_neg (by decide +kernel)]; exact ⟨rfl, rfl⟩))
    (fun os started H enc _ => lifted os started H enc)

theorem proved : Rows.FnExactPlaceOfSaid := over
end Go.Proofs.Ytmghnhjfkecaaaa.fnExactPlaceOf
