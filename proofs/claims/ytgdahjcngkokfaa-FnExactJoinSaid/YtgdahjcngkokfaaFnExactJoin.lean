/-
  The law FnExactJoin holds for every argument: the program answers as the model does.
-/
import Derived.Test.YtgdahjcngkokfaaRows
import Derived.WalkKit
import Derived.ProofKit
import Derived.OpenShut
import Derived.ShutString
import Derived.ChangeOld
import Derived.Below
import Derived.Lib.Hide
import Derived.Test.YtgdahjcngkokfaaJoin
namespace Go.Proofs.Ytgdahjcngkokfaa.fnExactJoin
open Go.ChangeShapes Go.WideShapes Go.ChangeAt Go.RowKit
open Go.ChangeMaps (open_string shut_string)
set_option linter.unusedVariables false

theorem own : ownKnob Try.prog.godebug = none := by kernel_rfl
theorem laidOut : laidOutB Try.prog = true := by kernel_rfl

theorem walk (a : Option Addr) (len cap : Nat) (zs : List ByteArray) (y : ByteArray) (w : World) (h : IsStrs w a len cap zs) (hy0 : y.size ≤ maxLen) :
    Calls Try.prog 7 #[.slice a len cap, .string y] w fun e w' => e = .returned (.bool true) ∧ Below w.heap.size w w' := by
  unfold maxLen at hy0
  have r0 := h.row
  have hsm := h.small
  clear h
  generalize getS zs = G at *
  by_cases hm : 1048576 < y.size
  · have g1 : decide ((1048576 : Int) < (y.size : Int)) = true := decide_eq_true (by omega)
    clear hsm
    go_enter Try.func7, Try.ntmps7
    go_wp2
    go_ret
    exact ⟨rfl, Below.refl _ _⟩
  have g1 : decide ((1048576 : Int) < (y.size : Int)) = false := decide_eq_false (by omega)
  have SZ := Lib.hid (szStringS_any _ len 1048576 G w r0 hsm (by omega))
  have R0 := Lib.hid r0
  clear r0 hsm
  go_enter Try.func7, Try.ntmps7
  go_wp2_with fail
  refine SZ.out.mono ?_
  rintro e w' ⟨r, rfl, hr, rfl⟩
  rcases hr with hr | ⟨hr, hsum⟩
  · have g2 : decide (r < 0) = true := decide_eq_true hr
    go_wp2
    go_ret
    exact ⟨rfl, Below.refl _ _⟩
  have g2 : decide (r < 0) = false := decide_eq_false (by omega)
  have hn : len ≤ 1048576 := by omega
  have ht : tot G len ≤ 1048576 := by omega
  have Ht := Lib.hid ht
  clear hsum ht
  have hy : y.size ≤ 1048576 := by omega
  go_wp2_with fail
  refine (toStringS_any _ len G _ R0.out hn).mono ?_
  rintro e w1 ⟨v1, rfl, r1, o1, b1⟩
  clear o1
  go_wp2_with fail
  refine (join_spec v1 len G y _ r1 hn Ht.out hy).mono ?_
  rintro e w' ⟨rfl, rfl⟩
  have R1 := R0.out.below b1 (Nat.le_refl _)
  go_wp2_with fail
  refine (toStringS_any _ len G _ R1 hn).mono ?_
  rintro e w2 ⟨v2, rfl, r2, o2, b2⟩
  clear o2
  have hs1 := b1.size
  replace b2 := b1.trans (b2.mono hs1)
  go_wp2_with fail
  refine (join_impl v2 len G y _ r2 hn Ht.out hy).mono ?_
  rintro e w3 ⟨rfl, b3⟩
  have hs2 := b2.size
  have R3 := r2.below b3 (Nat.le_refl _)
  replace b3 := b2.trans (b3.mono hs2)
  have R0' := R0.out.below b3 (Nat.le_refl _)
  have hs3 := b3.size
  clear r1 r2 b1 b2 R1
  generalize jn y G len = z
  go_wp2_with fail
  refine (toStringS_any _ len G _ R0' hn).mono ?_
  rintro e w4 ⟨v4, rfl, r4, o4, b4⟩
  clear o4
  have R4 := R3.below b4 (Nat.le_refl _)
  replace b4 := b3.trans (b4.mono hs3)
  clear R3 R0' b3
  go_wp2_with fail
  refine (eqStringS_same _ _ len G _ R4 r4).mono ?_
  rintro e w5 ⟨rfl, q5, rfl⟩
  have b5 := below_drewN b4 q5
  clear R4 r4 b4
  go_wp2
  go_ret
  exact ⟨rfl, b5⟩

set_option maxRecDepth 100000 in
theorem lifted (os : Os) (started : os.Started) (H : Type) (enc : TypeId × Value → H) :
    ReturnsInHanded {} Try.checked os 7 .any (Rows.fnExactJoinSpec.pre6 enc Try.prog Try.f7 Rows.fnExactJoinRow.domain false) (Rows.fnExactJoinSpec.post enc Try.prog Try.f7 false true false false) := by
  refine returnsInHanded_of_change (C := Try.checked) own started (by kernel_rfl) Try.func7
    (ChangeSpec.witness6 (enc := enc) (C := Try.checked) false ⟨#[], #[.slice none 0 0, .string ByteArray.empty], []⟩ 8 (by kernel_rfl) (by kernel_rfl) (by kernel_rfl) (by kernel_rfl)) ?_
  intro W base args ds gs before hval0 hW hcnd _
  have hval : ∀ (j : Nat) t v, Try.f7.params[j]? = some t → args[j]? = some v → Value.okWide Try.prog W .any base t v := hval0
  have hW' := hW
  obtain ⟨p, q, hA0, hV, rfl, hfz, hnd⟩ := hW
  have hA : DataW.TrodAll enc Try.prog W 0 (fun _ => true) true Try.f7.params.toList args.toList ds p := hA0
  rw [Try.params7] at hA hval
  obtain ⟨v0, vs0, d0, ds0, p0, q0, hargs, rfl, rfl, h0, r0⟩ := trodAll_cons hA
  obtain ⟨v1, vs1, d1, ds1, p1, q1, rfl, rfl, rfl, h1, r1⟩ := trodAll_cons r0
  obtain ⟨rfl, rfl, rfl⟩ := trodAll_nil r1
  obtain rfl : args = #[v0, v1] := by cases args; simp_all
  obtain ⟨rfl, rfl⟩ := trodVars_none hV
  have k0 := h0
  have lt0 : ∀ x ∈ p0, x.block < W.heap.size := by obtain ⟨m, hm⟩ := k0; exact DataW.trod_lt m _ _ _ hm
  obtain ⟨a0, len0, cap0, rfl⟩ := okWide_slice Try.underlying23 (hval 0 23 v0 rfl rfl)
  obtain ⟨z0, w0⟩ : ∃ ss, IsStrs W a0 len0 cap0 ss := by
    obtain ⟨fuel, hf⟩ := h0
    rcases open_strings Try.underlying23 Try.underlying9 (by kernel_rfl) hf with ⟨hcs, _⟩ | ⟨x, l, c, zs, hcs, _, hl, hm, hz, _, hcell, hwz⟩
    · simp [Value.cells] at hcs
      obtain ⟨rfl, rfl, rfl⟩ := hcs
      exact ⟨[], .inl ⟨rfl, rfl, rfl, rfl⟩⟩
    · simp [Value.cells] at hcs
      obtain ⟨rfl, rfl, rfl⟩ := hcs
      exact ⟨zs, .inr ⟨_, rfl, hl, hm, by simpa using hz, hcell, hwz⟩⟩
  obtain ⟨a1, rfl, rfl, rfl, w1⟩ := open_string Try.underlying9 (hval 1 9 v1 rfl rfl) h1
  clear hA0 hval0
  simp only [List.append_nil] at hW'
  refine (walk a0 len0 cap0 z0 a1 W w0 w1).mono fun e W' ⟨he, bel⟩ => ?_
  subst he
  exact ⟨_, rfl, _, _, _, [], _, [], hW', trodAll_mk1 (shut_bool Try.underlying4 _), (trodAll_cons_mk (Below.trod laidOut (by kernel_rfl) (of_decide_eq_true (by kernel_rfl)) k0 bel lt0) (trodAll_cons_mk (shut_string Try.underlying9 w1) trodAll_mk0)), rfl, bel.frame _, fun h => by cases h⟩

theorem over : Rows.fnExactJoinRow.holds Try.pinned (OpenSpec.ofChange Rows.fnExactJoinSpec) :=
  OpenClaim.holds_of_wide 7 Try.f7 rfl rfl rfl rfl rfl rfl rfl ⟨rfl, rfl, rfl, rfl, rfl⟩ rfl rfl rfl rfl rfl (by kernel_rfl) Try.func7 (by kernel_rfl)
    (of_decide_eq_true (by kernel_rfl)) (by unfold Func.isWrapper; first | (rw [if_pos (by decide +kernel)]; kernel_rfl) | (rw [if_neg (by decide +kernel)]; exact ⟨rfl, rfl⟩))
    (fun os started H enc _ => lifted os started H enc)

theorem proved : Rows.FnExactJoinSaid := over
end Go.Proofs.Ytgdahjcngkokfaa.fnExactJoin
