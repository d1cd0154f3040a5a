/-
  The law FnExactSerialOf holds for every argument: the program answers as the model does.
-/
import Derived.Test.YtlahjaakegdigaaRows
import Derived.WalkKit
import Derived.ProofKit
import Derived.OpenShut
import Derived.ShutString
import Derived.ChangeOld
import Derived.Below
import Derived.Lib.Hide
import Derived.Test.YtlahjaakegdigaaLawKit
import Derived.Test.YtlahjaakegdigaaOpenAgg
import Derived.Deep.RegionHeld3
import Derived.Test.YtlahjaakegdigaaCanon
import Derived.Test.YtlahjaakegdigaaRecordsImpl
import Derived.Test.YtlahjaakegdigaaTypeNote
namespace Go.Proofs.Ytlahjaakegdigaa.fnExactSerialOf
open Go.ChangeShapes Go.WideShapes Go.ChangeAt Go.RowKit
open Go.ChangeMaps (open_string shut_string)
set_option linter.unusedVariables false

theorem own : ownKnob Try.prog.godebug = none := by kernel_rfl
theorem laidOut : laidOutB Try.prog = true := by kernel_rfl

set_option maxHeartbeats 2000000 in
set_option maxRecDepth 100000 in
theorem walk (vNotes : Value) (nNotes : Nat) (gNotes : Nat → NoteD) (aGame : Int) (w : World) (hNotes : NoteRow w vNotes nNotes gNotes) (fNotes : ∀ i, (gNotes i).fit) (fGame : IntFit aGame) :
    Calls Try.prog 7 #[vNotes, .int .i64 aGame] w fun e w' => e = .returned (.bool true) ∧ Below w.heap.size w w' := by
  obtain ⟨ar0, CS, CI⟩ : ∃ (ar0 : Int), Hid (∀ (vNotes : Value) (w1 : World), NoteRow w1 vNotes nNotes gNotes → Calls Try.prog 30 #[vNotes, .int .i64 aGame] w1 fun e w' => e = .returned (.int .i64 ar0) ∧ Below w1.heap.size w1 w') ∧ Hid (∀ (vNotes : Value) (w1 : World), NoteRow w1 vNotes nNotes gNotes → Calls Try.prog 31 #[vNotes, .int .i64 aGame] w1 fun e w' => e = .returned (.int .i64 ar0) ∧ Below w1.heap.size w1 w') := by
    exact ⟨_, fun v w1 h => serialOf_spec v nNotes gNotes aGame w1 h, fun v w1 h => serialOf_impl v nNotes gNotes aGame w1 h⟩
  have hb : Below w.heap.size w w := Below.refl _ _
  have iNotes : 0 < nNotes → InW 0 w.heap.size vNotes := fun h0 => InW.noteRow hNotes h0 (Nat.le_refl _)
  go_enter Try.func7, Try.ntmps7
  go_wp2_with fail
  refine (x_sz_NoteS vNotes nNotes gNotes (1048576) _ (by omega) (by omega) hNotes).mono ?_
  rintro e w1 ⟨⟨r1, rfl, hr1⟩, b1⟩
  have z1 : w.heap.size ≤ w1.heap.size := b1.size
  replace hNotes := hNotes.below b1 (Nat.le_refl _)
  replace hb := hb.trans (b1.mono hb.size)
  by_cases hn1 : r1 < 0
  · have g2 : decide (r1 < 0) = true := decide_eq_true hn1
    clear hr1
    go_wp2
    go_ret
    exact ⟨rfl, hb⟩
  have g1 : decide (r1 < 0) = false := decide_eq_false hn1
  have hle1 : r1 ≤ 1048576 := by omega
  have smNotes : nNotes ≤ 1048576 := by omega
  replace hn1 : 0 ≤ r1 := by omega
  clear hr1
  go_wp2_with fail
  refine (x_to_NoteS vNotes nNotes gNotes _ hNotes (by omega)).mono ?_
  rintro e w2 ⟨vNotest1, rfl, hNotest1, ⟨xNotest1, oNotest1⟩, b2⟩
  have z2 : w1.heap.size ≤ w2.heap.size := b2.size
  replace hNotes := hNotes.below b2 (Nat.le_refl _)
  replace hb := hb.trans (b2.mono hb.size)
  replace oNotest1 := owns_mono oNotest1 (base' := w1.heap.size) (by simp <;> omega)
  have iNotest1 : InW w1.heap.size w2.heap.size vNotest1 := InW.of_owns oNotest1
  go_wp2_with fail
  refine (CS.out vNotest1 _ hNotest1).mono ?_
  rintro e w3 ⟨rfl, b3⟩
  have z3 : w2.heap.size ≤ w3.heap.size := b3.size
  replace hNotes := hNotes.below b3 (Nat.le_refl _)
  replace hb := hb.trans (b3.mono hb.size)
  replace hNotest1 := hNotest1.below b3 (Nat.le_refl _)
  replace oNotest1 := owns_below oNotest1 b3 (Nat.le_refl _)
  clear hNotest1 oNotest1
  go_wp2_with fail
  refine (x_to_NoteS vNotes nNotes gNotes _ hNotes (by omega)).mono ?_
  rintro e w4 ⟨vNotesx, rfl, hNotesx, ⟨xNotesx, oNotesx⟩, b4⟩
  have z4 : w3.heap.size ≤ w4.heap.size := b4.size
  replace hNotes := hNotes.below b4 (Nat.le_refl _)
  replace hb := hb.trans (b4.mono hb.size)
  replace oNotesx := owns_mono oNotesx (base' := w3.heap.size) (by simp <;> omega)
  have iNotesx : InW w3.heap.size w4.heap.size vNotesx := InW.of_owns oNotesx
  go_wp2_with fail
  refine (CI.out vNotesx _ hNotesx).mono ?_
  rintro e w5 ⟨rfl, b5⟩
  have z5 : w4.heap.size ≤ w5.heap.size := b5.size
  replace hNotes := hNotes.below b5 (Nat.le_refl _)
  replace hb := hb.trans (b5.mono hb.size)
  replace hNotesx := hNotesx.below b5 (Nat.le_refl _)
  replace oNotesx := owns_below oNotesx b5 (Nat.le_refl _)
  go_wp2_with fail
  refine (x_to_NoteS vNotes nNotes gNotes _ hNotes (by omega)).mono ?_
  rintro e w6 ⟨vNotest2, rfl, hNotest2, ⟨xNotest2, oNotest2⟩, b6⟩
  have z6 : w5.heap.size ≤ w6.heap.size := b6.size
  replace hNotes := hNotes.below b6 (Nat.le_refl _)
  replace hb := hb.trans (b6.mono hb.size)
  replace hNotesx := hNotesx.below b6 (Nat.le_refl _)
  replace oNotesx := owns_below oNotesx b6 (Nat.le_refl _)
  replace oNotest2 := owns_mono oNotest2 (base' := w5.heap.size) (by simp <;> omega)
  have iNotest2 : InW w5.heap.size w6.heap.size vNotest2 := InW.of_owns oNotest2
  go_wp2_with fail
  refine (x_eq_NoteS vNotesx nNotes gNotes vNotest2 _ hNotesx hNotest2).mono ?_
  rintro e w7 ⟨rfl, b7⟩
  have z7 : w6.heap.size ≤ w7.heap.size := b7.size
  replace hNotes := hNotes.below b7 (Nat.le_refl _)
  replace hb := hb.trans (b7.mono hb.size)
  replace hNotesx := hNotesx.below b7 (Nat.le_refl _)
  replace oNotesx := owns_below oNotesx b7 (Nat.le_refl _)
  replace hNotest2 := hNotest2.below b7 (Nat.le_refl _)
  replace oNotest2 := owns_below oNotest2 b7 (Nat.le_refl _)
  clear hNotest2 oNotest2
  go_wp2
  go_ret
  exact ⟨rfl, hb⟩
set_option maxRecDepth 100000 in
theorem lifted (os : Os) (started : os.Started) (H : Type) (enc : TypeId × Value → H) :
    ReturnsInHanded {} Try.checked os 7 .any (Rows.fnExactSerialOfSpec.pre6 enc Try.prog Try.f7 Rows.fnExactSerialOfRow.domain false) (Rows.fnExactSerialOfSpec.post enc Try.prog Try.f7 false true false false) := by
  refine returnsInHanded_of_change (C := Try.checked) own started (by kernel_rfl) Try.func7
    (ChangeSpec.witness6 (enc := enc) (C := Try.checked) false ⟨#[], #[.slice none 0 0, .int .i64 0], []⟩ 8 (by kernel_rfl) (by kernel_rfl) (by kernel_rfl) (by kernel_rfl)) ?_
  intro W base args ds gs before hval0 hW hcnd _
  have hval : ∀ (j : Nat) t v, Try.f7.params[j]? = some t → args[j]? = some v → Value.okWide Try.prog W .any base t v := hval0
  have hW' := hW
  obtain ⟨p, q, hA0, hV, rfl, hfz, hnd⟩ := hW
  have hA : DataW.TrodAll enc Try.prog W 0 (fun _ => true) true Try.f7.params.toList args.toList ds p := hA0
  rw [Try.params7] at hA hval
  obtain ⟨v0, vs0, d0, ds0, p0, q0, hargs, rfl, rfl, h0, r0⟩ := trodAll_cons hA
  obtain ⟨v1, vs1, d1, ds1, p1, q1, rfl, rfl, rfl, h1, r1⟩ := trodAll_cons r0
  obtain ⟨rfl, rfl, rfl⟩ := trodAll_nil r1
  obtain rfl : args = #[v0, v1] := by cases args; simp_all
  obtain ⟨rfl, rfl⟩ := trodVars_none hV
  have k0 := h0
  have lt0 : ∀ x ∈ p0, x.block < W.heap.size := by obtain ⟨m, hm⟩ := k0; exact DataW.trod_lt m _ _ _ hm
  obtain ⟨a0, len0, cap0, rfl⟩ := okWide_slice Try.underlying37 (hval 0 37 v0 rfl rfl)
  obtain ⟨n0, g0, w0, f0, _⟩ := open_notes Try.underlying37 Try.underlying26 (by kernel_rfl) rfl (by kernel_rfl) Try.underlying3 rfl (by kernel_rfl) Try.underlying3 rfl (by kernel_rfl) Try.underlying24 rfl (by kernel_rfl) Try.underlying3 rfl (by kernel_rfl) Try.underlying3 rfl (by kernel_rfl) Try.underlying3 rfl (by kernel_rfl) Try.underlying3 rfl (by kernel_rfl) Try.underlying3 (by obtain ⟨fuel, hf⟩ := h0; exact ⟨fuel, _, hf⟩)
  obtain ⟨a1, rfl, rfl, rfl, w1⟩ := open_int Try.underlying3 (hval 1 3 v1 rfl rfl) h1
  clear hA0 hval0
  simp only [List.append_nil] at hW'
  refine (walk (.slice a0 len0 cap0) n0 g0 a1 W w0 f0 (intFit_of w1)).mono fun e W' ⟨he, bel⟩ => ?_
  subst he
  exact ⟨_, rfl, _, _, _, [], _, [], hW', trodAll_mk1 (shut_bool Try.underlying4 _), (trodAll_cons_mk (Below.trod laidOut (by kernel_rfl) (of_decide_eq_true (by kernel_rfl)) k0 bel lt0) (trodAll_cons_mk (shut_int Try.underlying3 w1) trodAll_mk0)), rfl, bel.frame _, fun h => by cases h⟩

theorem over : Rows.fnExactSerialOfRow.holds Try.pinned (OpenSpec.ofChange Rows.fnExactSerialOfSpec) :=
  OpenClaim.holds_of_wide 7 Try.f7 rfl rfl rfl rfl rfl rfl rfl ⟨rfl, rfl, rfl, rfl, rfl⟩ rfl rfl rfl rfl rfl (by kernel_rfl) Try.func7 (by kernel_rfl)
    (of_decide_eq_true (by kernel_rfl)) (by unfold Func.isWrapper; first | (rw [if_pos (by decide +kernel)]; kernel_rfl) | (rw [if_neg (by decide +kernel)]; exact ⟨rfl, rfl⟩))
    (fun os started H enc _ => lifted os started H enc)

theorem proved : Rows.FnExactSerialOfSaid := over
end Go.Proofs.Ytlahjaakegdigaa.fnExactSerialOf
