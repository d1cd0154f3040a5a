/-
  The law FnExactSameNotes holds for every argument: the program answers as the model does.
-/
import Derived.Test.YtlahjaakegdigaaRows
import Derived.WalkKit
import Derived.ProofKit
import Derived.OpenShut
import Derived.ShutString
import Derived.ChangeOld
import Derived.Below
import Derived.Lib.Hide
import Derived.Test.YtlahjaakegdigaaLawKit
import Derived.Test.YtlahjaakegdigaaOpenAgg
import Derived.Deep.RegionHeld3
import Derived.Test.YtlahjaakegdigaaCanon
import Derived.Test.YtlahjaakegdigaaRecordsImpl
import Derived.Test.YtlahjaakegdigaaTypeNote
namespace Go.Proofs.Ytlahjaakegdigaa.fnExactSameNotes
open Go.ChangeShapes Go.WideShapes Go.ChangeAt Go.RowKit
open Go.ChangeMaps (open_string shut_string)
set_option linter.unusedVariables false

theorem own : ownKnob Try.prog.godebug = none := by kernel_rfl
theorem laidOut : laidOutB Try.prog = true := by kernel_rfl

set_option maxHeartbeats 2000000 in
set_option maxRecDepth 100000 in
theorem walk (vA : Value) (nA : Nat) (gA : Nat → NoteD) (vB : Value) (nB : Nat) (gB : Nat → NoteD) (w : World) (hA : NoteRow w vA nA gA) (fA : ∀ i, (gA i).fit) (hB : NoteRow w vB nB gB) (fB : ∀ i, (gB i).fit) :
    Calls Try.prog 10 #[vA, vB] w fun e w' => e = .returned (.bool true) ∧ Below w.heap.size w w' := by
  obtain ⟨ar0, CS, CI⟩ : ∃ (ar0 : Bool), Hid (∀ (vA : Value) (vB : Value) (w1 : World), NoteRow w1 vA nA gA → NoteRow w1 vB nB gB → Calls Try.prog 36 #[vA, vB] w1 fun e w' => e = .returned (.bool ar0) ∧ Below w1.heap.size w1 w') ∧ Hid (∀ (vA : Value) (vB : Value) (w1 : World), NoteRow w1 vA nA gA → NoteRow w1 vB nB gB → Calls Try.prog 37 #[vA, vB] w1 fun e w' => e = .returned (.bool ar0) ∧ Below w1.heap.size w1 w') := by
    obtain ⟨R, hR⟩ : ∃ R : Bool, R = true ↔ nA = nB ∧ ∀ i, i < nA → gA i = gB i := by
      by_cases h : nA = nB ∧ ∀ i, i < nA → gA i = gB i
      · exact ⟨true, fun _ => h, fun _ => rfl⟩
      · exact ⟨false, (fun e => by cases e), fun e => absurd e h⟩
    exact ⟨R, fun v v2 w1 h h2 => sameNotes_spec v v2 nA nB gA gB R w1 hR h h2, fun v v2 w1 h h2 => sameNotes_impl v v2 nA nB gA gB R w1 hR h h2⟩
  have hb : Below w.heap.size w w := Below.refl _ _
  have iA : 0 < nA → InW 0 w.heap.size vA := fun h0 => InW.noteRow hA h0 (Nat.le_refl _)
  have iB : 0 < nB → InW 0 w.heap.size vB := fun h0 => InW.noteRow hB h0 (Nat.le_refl _)
  go_enter Try.func10, Try.ntmps10
  go_wp2_with fail
  refine (x_sz_NoteS vA nA gA (1048576) _ (by omega) (by omega) hA).mono ?_
  rintro e w1 ⟨⟨r1, rfl, hr1⟩, b1⟩
  have z1 : w.heap.size ≤ w1.heap.size := b1.size
  replace hA := hA.below b1 (Nat.le_refl _)
  replace hB := hB.below b1 (Nat.le_refl _)
  replace hb := hb.trans (b1.mono hb.size)
  by_cases hn1 : r1 < 0
  · have g2 : decide (r1 < 0) = true := decide_eq_true hn1
    clear hr1
    go_wp2
    go_ret
    exact ⟨rfl, hb⟩
  have g1 : decide (r1 < 0) = false := decide_eq_false hn1
  have hle1 : r1 ≤ 1048576 := by omega
  have smA : nA ≤ 1048576 := by omega
  replace hn1 : 0 ≤ r1 := by omega
  clear hr1
  go_wp2_with fail
  refine (x_sz_NoteS vB nB gB (r1) _ (by omega) (by omega) hB).mono ?_
  rintro e w2 ⟨⟨r2, rfl, hr2⟩, b2⟩
  have z2 : w1.heap.size ≤ w2.heap.size := b2.size
  replace hA := hA.below b2 (Nat.le_refl _)
  replace hB := hB.below b2 (Nat.le_refl _)
  replace hb := hb.trans (b2.mono hb.size)
  by_cases hn2 : r2 < 0
  · have g2 : decide (r2 < 0) = true := decide_eq_true hn2
    clear hr2
    go_wp2
    go_ret
    exact ⟨rfl, hb⟩
  have g2 : decide (r2 < 0) = false := decide_eq_false hn2
  have hle2 : r2 ≤ 1048576 := by omega
  have smB : nB ≤ 1048576 := by omega
  replace hn2 : 0 ≤ r2 := by omega
  clear hr2
  go_wp2_with fail
  refine (x_to_NoteS vA nA gA _ hA (by omega)).mono ?_
  rintro e w3 ⟨vAt1, rfl, hAt1, ⟨xAt1, oAt1⟩, b3⟩
  have z3 : w2.heap.size ≤ w3.heap.size := b3.size
  replace hA := hA.below b3 (Nat.le_refl _)
  replace hB := hB.below b3 (Nat.le_refl _)
  replace hb := hb.trans (b3.mono hb.size)
  replace oAt1 := owns_mono oAt1 (base' := w2.heap.size) (by simp <;> omega)
  have iAt1 : InW w2.heap.size w3.heap.size vAt1 := InW.of_owns oAt1
  go_wp2_with fail
  refine (x_to_NoteS vB nB gB _ hB (by omega)).mono ?_
  rintro e w4 ⟨vBt2, rfl, hBt2, ⟨xBt2, oBt2⟩, b4⟩
  have z4 : w3.heap.size ≤ w4.heap.size := b4.size
  replace hA := hA.below b4 (Nat.le_refl _)
  replace hB := hB.below b4 (Nat.le_refl _)
  replace hb := hb.trans (b4.mono hb.size)
  replace hAt1 := hAt1.below b4 (Nat.le_refl _)
  replace oAt1 := owns_below oAt1 b4 (Nat.le_refl _)
  replace oBt2 := owns_mono oBt2 (base' := w3.heap.size) (by simp <;> omega)
  have iBt2 : InW w3.heap.size w4.heap.size vBt2 := InW.of_owns oBt2
  go_wp2_with fail
  refine (CS.out vAt1 vBt2 _ hAt1 hBt2).mono ?_
  rintro e w5 ⟨rfl, b5⟩
  have z5 : w4.heap.size ≤ w5.heap.size := b5.size
  replace hA := hA.below b5 (Nat.le_refl _)
  replace hB := hB.below b5 (Nat.le_refl _)
  replace hb := hb.trans (b5.mono hb.size)
  replace hAt1 := hAt1.below b5 (Nat.le_refl _)
  replace oAt1 := owns_below oAt1 b5 (Nat.le_refl _)
  replace hBt2 := hBt2.below b5 (Nat.le_refl _)
  replace oBt2 := owns_below oBt2 b5 (Nat.le_refl _)
  clear hAt1 oAt1
  clear hBt2 oBt2
  go_wp2_with fail
  refine (x_to_NoteS vA nA gA _ hA (by omega)).mono ?_
  rintro e w6 ⟨vAx, rfl, hAx, ⟨xAx, oAx⟩, b6⟩
  have z6 : w5.heap.size ≤ w6.heap.size := b6.size
  replace hA := hA.below b6 (Nat.le_refl _)
  replace hB := hB.below b6 (Nat.le_refl _)
  replace hb := hb.trans (b6.mono hb.size)
  replace oAx := owns_mono oAx (base' := w5.heap.size) (by simp <;> omega)
  have iAx : InW w5.heap.size w6.heap.size vAx := InW.of_owns oAx
  go_wp2_with fail
  refine (x_to_NoteS vB nB gB _ hB (by omega)).mono ?_
  rintro e w7 ⟨vBx, rfl, hBx, ⟨xBx, oBx⟩, b7⟩
  have z7 : w6.heap.size ≤ w7.heap.size := b7.size
  replace hA := hA.below b7 (Nat.le_refl _)
  replace hB := hB.below b7 (Nat.le_refl _)
  replace hb := hb.trans (b7.mono hb.size)
  replace hAx := hAx.below b7 (Nat.le_refl _)
  replace oAx := owns_below oAx b7 (Nat.le_refl _)
  replace oBx := owns_mono oBx (base' := w6.heap.size) (by simp <;> omega)
  have iBx : InW w6.heap.size w7.heap.size vBx := InW.of_owns oBx
  go_wp2_with fail
  refine (CI.out vAx vBx _ hAx hBx).mono ?_
  rintro e w8 ⟨rfl, b8⟩
  have z8 : w7.heap.size ≤ w8.heap.size := b8.size
  replace hA := hA.below b8 (Nat.le_refl _)
  replace hB := hB.below b8 (Nat.le_refl _)
  replace hb := hb.trans (b8.mono hb.size)
  replace hAx := hAx.below b8 (Nat.le_refl _)
  replace oAx := owns_below oAx b8 (Nat.le_refl _)
  replace hBx := hBx.below b8 (Nat.le_refl _)
  replace oBx := owns_below oBx b8 (Nat.le_refl _)
  go_wp2_with fail
  refine (x_to_NoteS vA nA gA _ hA (by omega)).mono ?_
  rintro e w9 ⟨vAt3, rfl, hAt3, ⟨xAt3, oAt3⟩, b9⟩
  have z9 : w8.heap.size ≤ w9.heap.size := b9.size
  replace hA := hA.below b9 (Nat.le_refl _)
  replace hB := hB.below b9 (Nat.le_refl _)
  replace hb := hb.trans (b9.mono hb.size)
  replace hAx := hAx.below b9 (Nat.le_refl _)
  replace oAx := owns_below oAx b9 (Nat.le_refl _)
  replace hBx := hBx.below b9 (Nat.le_refl _)
  replace oBx := owns_below oBx b9 (Nat.le_refl _)
  replace oAt3 := owns_mono oAt3 (base' := w8.heap.size) (by simp <;> omega)
  have iAt3 : InW w8.heap.size w9.heap.size vAt3 := InW.of_owns oAt3
  go_wp2_with fail
  refine (x_eq_NoteS vAx nA gA vAt3 _ hAx hAt3).mono ?_
  rintro e w10 ⟨rfl, b10⟩
  have z10 : w9.heap.size ≤ w10.heap.size := b10.size
  replace hA := hA.below b10 (Nat.le_refl _)
  replace hB := hB.below b10 (Nat.le_refl _)
  replace hb := hb.trans (b10.mono hb.size)
  replace hAx := hAx.below b10 (Nat.le_refl _)
  replace oAx := owns_below oAx b10 (Nat.le_refl _)
  replace hBx := hBx.below b10 (Nat.le_refl _)
  replace oBx := owns_below oBx b10 (Nat.le_refl _)
  replace hAt3 := hAt3.below b10 (Nat.le_refl _)
  replace oAt3 := owns_below oAt3 b10 (Nat.le_refl _)
  clear hAt3 oAt3
  go_wp2_with fail
  refine (x_to_NoteS vB nB gB _ hB (by omega)).mono ?_
  rintro e w11 ⟨vBt4, rfl, hBt4, ⟨xBt4, oBt4⟩, b11⟩
  have z11 : w10.heap.size ≤ w11.heap.size := b11.size
  replace hA := hA.below b11 (Nat.le_refl _)
  replace hB := hB.below b11 (Nat.le_refl _)
  replace hb := hb.trans (b11.mono hb.size)
  replace hAx := hAx.below b11 (Nat.le_refl _)
  replace oAx := owns_below oAx b11 (Nat.le_refl _)
  replace hBx := hBx.below b11 (Nat.le_refl _)
  replace oBx := owns_below oBx b11 (Nat.le_refl _)
  replace oBt4 := owns_mono oBt4 (base' := w10.heap.size) (by simp <;> omega)
  have iBt4 : InW w10.heap.size w11.heap.size vBt4 := InW.of_owns oBt4
  go_wp2_with fail
  refine (x_eq_NoteS vBx nB gB vBt4 _ hBx hBt4).mono ?_
  rintro e w12 ⟨rfl, b12⟩
  have z12 : w11.heap.size ≤ w12.heap.size := b12.size
  replace hA := hA.below b12 (Nat.le_refl _)
  replace hB := hB.below b12 (Nat.le_refl _)
  replace hb := hb.trans (b12.mono hb.size)
  replace hAx := hAx.below b12 (Nat.le_refl _)
  replace oAx := owns_below oAx b12 (Nat.le_refl _)
  replace hBx := hBx.below b12 (Nat.le_refl _)
  replace oBx := owns_below oBx b12 (Nat.le_refl _)
  replace hBt4 := hBt4.below b12 (Nat.le_refl _)
  replace oBt4 := owns_below oBt4 b12 (Nat.le_refl _)
  clear hBt4 oBt4
  go_wp2
  go_ret
  exact ⟨rfl, hb⟩
set_option maxRecDepth 100000 in
theorem lifted (os : Os) (started : os.Started) (H : Type) (enc : TypeId × Value → H) :
    ReturnsInHanded {} Try.checked os 10 .any (Rows.fnExactSameNotesSpec.pre6 enc Try.prog Try.f10 Rows.fnExactSameNotesRow.domain false) (Rows.fnExactSameNotesSpec.post enc Try.prog Try.f10 false true false false) := by
  refine returnsInHanded_of_change (C := Try.checked) own started (by kernel_rfl) Try.func10
    (ChangeSpec.witness6 (enc := enc) (C := Try.checked) false ⟨#[], #[.slice none 0 0, .slice none 0 0], []⟩ 8 (by kernel_rfl) (by kernel_rfl) (by kernel_rfl) (by kernel_rfl)) ?_
  intro W base args ds gs before hval0 hW hcnd _
  have hval : ∀ (j : Nat) t v, Try.f10.params[j]? = some t → args[j]? = some v → Value.okWide Try.prog W .any base t v := hval0
  have hW' := hW
  obtain ⟨p, q, hA0, hV, rfl, hfz, hnd⟩ := hW
  have hA : DataW.TrodAll enc Try.prog W 0 (fun _ => true) true Try.f10.params.toList args.toList ds p := hA0
  rw [Try.params10] at hA hval
  obtain ⟨v0, vs0, d0, ds0, p0, q0, hargs, rfl, rfl, h0, r0⟩ := trodAll_cons hA
  obtain ⟨v1, vs1, d1, ds1, p1, q1, rfl, rfl, rfl, h1, r1⟩ := trodAll_cons r0
  obtain ⟨rfl, rfl, rfl⟩ := trodAll_nil r1
  obtain rfl : args = #[v0, v1] := by cases args; simp_all
  obtain ⟨rfl, rfl⟩ := trodVars_none hV
  have k0 := h0
  have lt0 : ∀ x ∈ p0, x.block < W.heap.size := by obtain ⟨m, hm⟩ := k0; exact DataW.trod_lt m _ _ _ hm
  obtain ⟨a0, len0, cap0, rfl⟩ := okWide_slice Try.underlying37 (hval 0 37 v0 rfl rfl)
  obtain ⟨n0, g0, w0, f0, _⟩ := open_notes Try.underlying37 Try.underlying26 (by kernel_rfl) rfl (by kernel_rfl) Try.underlying3 rfl (by kernel_rfl) Try.underlying3 rfl (by kernel_rfl) Try.underlying24 rfl (by kernel_rfl) Try.underlying3 rfl (by kernel_rfl) Try.underlying3 rfl (by kernel_rfl) Try.underlying3 rfl (by kernel_rfl) Try.underlying3 rfl (by kernel_rfl) Try.underlying3 (by obtain ⟨fuel, hf⟩ := h0; exact ⟨fuel, _, hf⟩)
  have k1 := h1
  have lt1 : ∀ x ∈ p1, x.block < W.heap.size := by obtain ⟨m, hm⟩ := k1; exact DataW.trod_lt m _ _ _ hm
  obtain ⟨a1, len1, cap1, rfl⟩ := okWide_slice Try.underlying37 (hval 1 37 v1 rfl rfl)
  obtain ⟨n1, g1, w1, f1, _⟩ := open_notes Try.underlying37 Try.underlying26 (by kernel_rfl) rfl (by kernel_rfl) Try.underlying3 rfl (by kernel_rfl) Try.underlying3 rfl (by kernel_rfl) Try.underlying24 rfl (by kernel_rfl) Try.underlying3 rfl (by kernel_rfl) Try.underlying3 rfl (by kernel_rfl) Try.underlying3 rfl (by kernel_rfl) Try.underlying3 rfl (by kernel_rfl) Try.underlying3 (by obtain ⟨fuel, hf⟩ := h1; exact ⟨fuel, _, hf⟩)
  clear hA0 hval0
  simp only [List.append_nil] at hW'
  refine (walk (.slice a0 len0 cap0) n0 g0 (.slice a1 len1 cap1) n1 g1 W w0 f0 w1 f1).mono fun e W' ⟨he, bel⟩ => ?_
  subst he
  exact ⟨_, rfl, _, _, _, [], _, [], hW', trodAll_mk1 (shut_bool Try.underlying4 _), (trodAll_cons_mk (Below.trod laidOut (by kernel_rfl) (of_decide_eq_true (by kernel_rfl)) k0 bel lt0) (trodAll_cons_mk (Below.trod laidOut (by kernel_rfl) (of_decide_eq_true (by kernel_rfl)) k1 bel lt1) trodAll_mk0)), rfl, bel.frame _, fun h => by cases h⟩

theorem over : Rows.fnExactSameNotesRow.holds Try.pinned (OpenSpec.ofChange Rows.fnExactSameNotesSpec) :=
  OpenClaim.holds_of_wide 10 Try.f10 rfl rfl rfl rfl rfl rfl rfl ⟨rfl, rfl, rfl, rfl, rfl⟩ rfl rfl rfl rfl rfl (by kernel_rfl) Try.func10 (by kernel_rfl)
    (of_decide_eq_true (by kernel_rfl)) (by unfold Func.isWrapper; first | (rw [if_pos (by decide +kernel)]; kernel_rfl) | (rw [if_neg (by decide +kernel)]; exact ⟨rfl, rfl⟩))
    (fun os started H enc _ => lifted os started H enc)

theorem proved : Rows.FnExactSameNotesSaid := over
end Go.Proofs.Ytlahjaakegdigaa.fnExactSameNotes
