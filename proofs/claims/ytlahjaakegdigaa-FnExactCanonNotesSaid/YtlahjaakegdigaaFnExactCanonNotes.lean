/-
  The law FnExactCanonNotes holds for every argument: the program answers as the model does.
-/
import Derived.Test.YtlahjaakegdigaaRows
import Derived.WalkKit
import Derived.ProofKit
import Derived.OpenShut
import Derived.ShutString
import Derived.ChangeOld
import Derived.Below
import Derived.Lib.Hide
import Derived.Test.YtlahjaakegdigaaLawKit
import Derived.Test.YtlahjaakegdigaaOpenAgg
import Derived.Deep.RegionHeld3
import Derived.Test.YtlahjaakegdigaaCanon
import Derived.Test.YtlahjaakegdigaaRecordsImpl
import Derived.Test.YtlahjaakegdigaaTypeNote
namespace Go.Proofs.Ytlahjaakegdigaa.fnExactCanonNotes
open Go.ChangeShapes Go.WideShapes Go.ChangeAt Go.RowKit
open Go.ChangeMaps (open_string shut_string)
set_option linter.unusedVariables false

theorem own : ownKnob Try.prog.godebug = none := by kernel_rfl
theorem laidOut : laidOutB Try.prog = true := by kernel_rfl

set_option maxHeartbeats 2000000 in
set_option maxRecDepth 100000 in
theorem walk (vNotes : Value) (nNotes : Nat) (gNotes : Nat → NoteD) (w : World) (hNotes : NoteRow w vNotes nNotes gNotes) (fNotes : ∀ i, (gNotes i).fit) :
    Calls Try.prog 5 #[vNotes] w fun e w' => e = .returned (.bool true) ∧ Below w.heap.size w w' := by
  obtain ⟨nr0, gr0, nb0, CS, CI⟩ : ∃ (nr0 : Nat) (gr0 : Nat → NoteD), (nNotes ≤ 1048576 → nr0 ≤ 1048576) ∧ Hid (∀ (vNotes : Value) (w1 : World), NoteRow w1 vNotes nNotes gNotes → nNotes ≤ 1048576 → Calls Try.prog 22 #[vNotes] w1 fun e w' => ∃ vr0s, e = .returned (vr0s) ∧ NoteRow w' vr0s nr0 gr0 ∧ (∃ xs, w'.ownsRow w1.heap.size 33 7 vr0s nr0 xs) ∧ Below w1.heap.size w1 w') ∧ Hid (∀ (vNotes : Value) (w1 : World), NoteRow w1 vNotes nNotes gNotes → nNotes ≤ 1048576 → Calls Try.prog 23 #[vNotes] w1 fun e w' => ∃ vr0i, e = .returned (vr0i) ∧ NoteRow w' vr0i nr0 gr0 ∧ (∃ xs, w'.ownsRow w1.heap.size 33 7 vr0i nr0 xs) ∧ Below w1.heap.size w1 w') := by
    refine ⟨(canonL gNotes nNotes).length, getN' (canonL gNotes nNotes), fun hbig => ?_, fun v w1 h hbig => ?_, fun v w1 h hbig => ?_⟩
    · have := canon_len gNotes nNotes; omega
    · exact (canonNotes_spec v nNotes gNotes w1 h hbig).mono fun _ _ h => NotesL.made h (by have := canon_len gNotes nNotes; omega)
    · exact (canonNotes_impl v nNotes gNotes w1 fNotes h hbig).mono fun _ _ h => NotesL.made h (by have := canon_len gNotes nNotes; omega)
  have hb : Below w.heap.size w w := Below.refl _ _
  have iNotes : 0 < nNotes → InW 0 w.heap.size vNotes := fun h0 => InW.noteRow hNotes h0 (Nat.le_refl _)
  go_enter Try.func5, Try.ntmps5
  go_wp2_with fail
  refine (x_sz_NoteS vNotes nNotes gNotes (1048576) _ (by omega) (by omega) hNotes).mono ?_
  rintro e w1 ⟨⟨r1, rfl, hr1⟩, b1⟩
  have z1 : w.heap.size ≤ w1.heap.size := b1.size
  replace hNotes := hNotes.below b1 (Nat.le_refl _)
  replace hb := hb.trans (b1.mono hb.size)
  by_cases hn1 : r1 < 0
  · have g2 : decide (r1 < 0) = true := decide_eq_true hn1
    clear hr1
    go_wp2
    go_ret
    exact ⟨rfl, hb⟩
  have g1 : decide (r1 < 0) = false := decide_eq_false hn1
  have hle1 : r1 ≤ 1048576 := by omega
  have smNotes : nNotes ≤ 1048576 := by omega
  replace hn1 : 0 ≤ r1 := by omega
  clear hr1
  replace nb0 := nb0 smNotes
  go_wp2_with fail
  refine (x_to_NoteS vNotes nNotes gNotes _ hNotes (by omega)).mono ?_
  rintro e w2 ⟨vNotest1, rfl, hNotest1, ⟨xNotest1, oNotest1⟩, b2⟩
  have z2 : w1.heap.size ≤ w2.heap.size := b2.size
  replace hNotes := hNotes.below b2 (Nat.le_refl _)
  replace hb := hb.trans (b2.mono hb.size)
  replace oNotest1 := owns_mono oNotest1 (base' := w1.heap.size) (by simp <;> omega)
  have iNotest1 : InW w1.heap.size w2.heap.size vNotest1 := InW.of_owns oNotest1
  go_wp2_with fail
  refine (CS.out vNotest1 _ hNotest1 smNotes).mono ?_
  rintro e w3 ⟨vr0s, rfl, hr0s, ⟨xr0s, or0s⟩, b3⟩
  have z3 : w2.heap.size ≤ w3.heap.size := b3.size
  replace hNotes := hNotes.below b3 (Nat.le_refl _)
  replace hb := hb.trans (b3.mono hb.size)
  replace hNotest1 := hNotest1.below b3 (Nat.le_refl _)
  replace oNotest1 := owns_below oNotest1 b3 (Nat.le_refl _)
  replace or0s := owns_mono or0s (base' := w2.heap.size) (by simp <;> omega)
  have ir0s : InW w2.heap.size w3.heap.size vr0s := InW.of_owns or0s
  clear hNotest1 oNotest1
  go_wp2_with fail
  refine (x_to_NoteS vNotes nNotes gNotes _ hNotes (by omega)).mono ?_
  rintro e w4 ⟨vNotesx, rfl, hNotesx, ⟨xNotesx, oNotesx⟩, b4⟩
  have z4 : w3.heap.size ≤ w4.heap.size := b4.size
  replace hNotes := hNotes.below b4 (Nat.le_refl _)
  replace hb := hb.trans (b4.mono hb.size)
  replace hr0s := hr0s.below b4 (Nat.le_refl _)
  replace or0s := owns_below or0s b4 (Nat.le_refl _)
  replace oNotesx := owns_mono oNotesx (base' := w3.heap.size) (by simp <;> omega)
  have iNotesx : InW w3.heap.size w4.heap.size vNotesx := InW.of_owns oNotesx
  go_wp2_with fail
  refine (CI.out vNotesx _ hNotesx smNotes).mono ?_
  rintro e w5 ⟨vr0i, rfl, hr0i, ⟨xr0i, or0i⟩, b5⟩
  have z5 : w4.heap.size ≤ w5.heap.size := b5.size
  replace hNotes := hNotes.below b5 (Nat.le_refl _)
  replace hb := hb.trans (b5.mono hb.size)
  replace hr0s := hr0s.below b5 (Nat.le_refl _)
  replace or0s := owns_below or0s b5 (Nat.le_refl _)
  replace hNotesx := hNotesx.below b5 (Nat.le_refl _)
  replace oNotesx := owns_below oNotesx b5 (Nat.le_refl _)
  replace or0i := owns_mono or0i (base' := w4.heap.size) (by simp <;> omega)
  have ir0i : InW w4.heap.size w5.heap.size vr0i := InW.of_owns or0i
  go_wp2_with fail
  refine (x_eq_NoteS vr0i nr0 gr0 vr0s _ hr0i hr0s).mono ?_
  rintro e w6 ⟨rfl, b6⟩
  have z6 : w5.heap.size ≤ w6.heap.size := b6.size
  replace hNotes := hNotes.below b6 (Nat.le_refl _)
  replace hb := hb.trans (b6.mono hb.size)
  replace hr0s := hr0s.below b6 (Nat.le_refl _)
  replace or0s := owns_below or0s b6 (Nat.le_refl _)
  replace hNotesx := hNotesx.below b6 (Nat.le_refl _)
  replace oNotesx := owns_below oNotesx b6 (Nat.le_refl _)
  replace hr0i := hr0i.below b6 (Nat.le_refl _)
  replace or0i := owns_below or0i b6 (Nat.le_refl _)
  go_wp2_with fail
  refine (x_to_NoteS vNotes nNotes gNotes _ hNotes (by omega)).mono ?_
  rintro e w7 ⟨vNotest2, rfl, hNotest2, ⟨xNotest2, oNotest2⟩, b7⟩
  have z7 : w6.heap.size ≤ w7.heap.size := b7.size
  replace hNotes := hNotes.below b7 (Nat.le_refl _)
  replace hb := hb.trans (b7.mono hb.size)
  replace hr0s := hr0s.below b7 (Nat.le_refl _)
  replace or0s := owns_below or0s b7 (Nat.le_refl _)
  replace hNotesx := hNotesx.below b7 (Nat.le_refl _)
  replace oNotesx := owns_below oNotesx b7 (Nat.le_refl _)
  replace hr0i := hr0i.below b7 (Nat.le_refl _)
  replace or0i := owns_below or0i b7 (Nat.le_refl _)
  replace oNotest2 := owns_mono oNotest2 (base' := w6.heap.size) (by simp <;> omega)
  have iNotest2 : InW w6.heap.size w7.heap.size vNotest2 := InW.of_owns oNotest2
  go_wp2_with fail
  refine (x_eq_NoteS vNotesx nNotes gNotes vNotest2 _ hNotesx hNotest2).mono ?_
  rintro e w8 ⟨rfl, b8⟩
  have z8 : w7.heap.size ≤ w8.heap.size := b8.size
  replace hNotes := hNotes.below b8 (Nat.le_refl _)
  replace hb := hb.trans (b8.mono hb.size)
  replace hr0s := hr0s.below b8 (Nat.le_refl _)
  replace or0s := owns_below or0s b8 (Nat.le_refl _)
  replace hNotesx := hNotesx.below b8 (Nat.le_refl _)
  replace oNotesx := owns_below oNotesx b8 (Nat.le_refl _)
  replace hr0i := hr0i.below b8 (Nat.le_refl _)
  replace or0i := owns_below or0i b8 (Nat.le_refl _)
  replace hNotest2 := hNotest2.below b8 (Nat.le_refl _)
  replace oNotest2 := owns_below oNotest2 b8 (Nat.le_refl _)
  clear hNotest2 oNotest2
  go_wp2_with fail
  refine (x_mk_NoteS vNotesx nNotes ((1 : Int)) w3.heap.size w4.heap.size w3.heap.size xNotesx _ oNotesx iNotesx (by omega) (by omega)).mono ?_
  rintro e w9 ⟨rfl, hNotesxm, b9⟩
  have z9 := b9.size
  clear hNotesx oNotesx
  replace hNotes := hNotes.touch b9 iNotes (by omega)
  replace hb := hb.trans (b9.below (by omega) hb.size)
  replace hr0s := hr0s.touch b9 (fun _ => ir0s) (by omega)
  replace or0s := owns_touch or0s b9 ir0s (by omega)
  replace hr0i := hr0i.touch b9 (fun _ => ir0i) (by omega)
  replace or0i := owns_touch or0i b9 ir0i (by omega)
  clear hNotesxm
  have kd2745 : decide ((1 : Int) + 7 * (nNotes : Int) < 0) = false := decide_eq_false (by omega)
  go_wp2_with fail
  refine (x_eq_NoteS vr0i nr0 gr0 vr0s _ hr0i hr0s).mono ?_
  rintro e w10 ⟨rfl, b10⟩
  have z10 : w9.heap.size ≤ w10.heap.size := b10.size
  replace hNotes := hNotes.below b10 (Nat.le_refl _)
  replace hb := hb.trans (b10.mono hb.size)
  replace hr0s := hr0s.below b10 (Nat.le_refl _)
  replace or0s := owns_below or0s b10 (Nat.le_refl _)
  replace hr0i := hr0i.below b10 (Nat.le_refl _)
  replace or0i := owns_below or0i b10 (Nat.le_refl _)
  go_wp2_with fail
  refine (x_mk_NoteS vr0i nr0 ((1 : Int)) w4.heap.size w5.heap.size w4.heap.size xr0i _ or0i ir0i (by omega) (by omega)).mono ?_
  rintro e w11 ⟨rfl, hr0im, b11⟩
  have z11 := b11.size
  clear hr0i or0i
  replace hNotes := hNotes.touch b11 iNotes (by omega)
  replace hb := hb.trans (b11.below (by omega) hb.size)
  replace hr0s := hr0s.touch b11 (fun _ => ir0s) (by omega)
  replace or0s := owns_touch or0s b11 ir0s (by omega)
  have hr0i := hr0im
  clear hr0im
  have qd2751 : decide ((1 : Int) + 7 * (nr0 : Int) < 0) = false := decide_eq_false (by omega)
  go_wp2_with fail
  refine (x_hd_NoteS vr0i nr0 (1 : Int) _ hr0i (by omega) (by omega)).mono ?_
  rintro e w12 ⟨rfl, b12⟩
  have z12 : w11.heap.size ≤ w12.heap.size := b12.size
  replace hNotes := hNotes.below b12 (Nat.le_refl _)
  replace hb := hb.trans (b12.mono hb.size)
  replace hr0s := hr0s.below b12 (Nat.le_refl _)
  replace or0s := owns_below or0s b12 (Nat.le_refl _)
  replace hr0i := hr0i.below b12 (Nat.le_refl _)
  go_wp2_with fail
  refine (x_to_NoteS vNotes nNotes gNotes _ hNotes (by omega)).mono ?_
  rintro e w13 ⟨vNotest3, rfl, hNotest3, ⟨xNotest3, oNotest3⟩, b13⟩
  have z13 : w12.heap.size ≤ w13.heap.size := b13.size
  replace hNotes := hNotes.below b13 (Nat.le_refl _)
  replace hb := hb.trans (b13.mono hb.size)
  replace hr0s := hr0s.below b13 (Nat.le_refl _)
  replace or0s := owns_below or0s b13 (Nat.le_refl _)
  replace hr0i := hr0i.below b13 (Nat.le_refl _)
  replace oNotest3 := owns_mono oNotest3 (base' := w12.heap.size) (by simp <;> omega)
  have iNotest3 : InW w12.heap.size w13.heap.size vNotest3 := InW.of_owns oNotest3
  go_wp2_with fail
  refine (CI.out vNotest3 _ hNotest3 smNotes).mono ?_
  rintro e w14 ⟨vr0j, rfl, hr0j, ⟨xr0j, or0j⟩, b14⟩
  have z14 : w13.heap.size ≤ w14.heap.size := b14.size
  replace hNotes := hNotes.below b14 (Nat.le_refl _)
  replace hb := hb.trans (b14.mono hb.size)
  replace hr0s := hr0s.below b14 (Nat.le_refl _)
  replace or0s := owns_below or0s b14 (Nat.le_refl _)
  replace hr0i := hr0i.below b14 (Nat.le_refl _)
  replace hNotest3 := hNotest3.below b14 (Nat.le_refl _)
  replace oNotest3 := owns_below oNotest3 b14 (Nat.le_refl _)
  replace or0j := owns_mono or0j (base' := w13.heap.size) (by simp <;> omega)
  have ir0j : InW w13.heap.size w14.heap.size vr0j := InW.of_owns or0j
  clear hNotest3 oNotest3
  go_wp2_with fail
  refine (x_eq_NoteS vr0j nr0 gr0 vr0s _ hr0j hr0s).mono ?_
  rintro e w15 ⟨rfl, b15⟩
  have z15 : w14.heap.size ≤ w15.heap.size := b15.size
  replace hNotes := hNotes.below b15 (Nat.le_refl _)
  replace hb := hb.trans (b15.mono hb.size)
  replace hr0s := hr0s.below b15 (Nat.le_refl _)
  replace or0s := owns_below or0s b15 (Nat.le_refl _)
  replace hr0i := hr0i.below b15 (Nat.le_refl _)
  replace hr0j := hr0j.below b15 (Nat.le_refl _)
  replace or0j := owns_below or0j b15 (Nat.le_refl _)
  have qd2763 : decide ((1 : Int) + 7 * (nr0 : Int) < 0) = false := decide_eq_false (by omega)
  go_wp2_with fail
  refine (x_hd_NoteS vr0i nr0 (1 : Int) _ hr0i (by omega) (by omega)).mono ?_
  rintro e w16 ⟨rfl, b16⟩
  have z16 : w15.heap.size ≤ w16.heap.size := b16.size
  replace hNotes := hNotes.below b16 (Nat.le_refl _)
  replace hb := hb.trans (b16.mono hb.size)
  replace hr0s := hr0s.below b16 (Nat.le_refl _)
  replace or0s := owns_below or0s b16 (Nat.le_refl _)
  replace hr0i := hr0i.below b16 (Nat.le_refl _)
  replace hr0j := hr0j.below b16 (Nat.le_refl _)
  replace or0j := owns_below or0j b16 (Nat.le_refl _)
  go_wp2
  go_ret
  exact ⟨rfl, hb⟩
set_option maxRecDepth 100000 in
theorem lifted (os : Os) (started : os.Started) (H : Type) (enc : TypeId × Value → H) :
    ReturnsInHanded {} Try.checked os 5 .any (Rows.fnExactCanonNotesSpec.pre6 enc Try.prog Try.f5 Rows.fnExactCanonNotesRow.domain false) (Rows.fnExactCanonNotesSpec.post enc Try.prog Try.f5 false true false false) := by
  refine returnsInHanded_of_change (C := Try.checked) own started (by kernel_rfl) Try.func5
    (ChangeSpec.witness6 (enc := enc) (C := Try.checked) false ⟨#[], #[.slice none 0 0], []⟩ 8 (by kernel_rfl) (by kernel_rfl) (by kernel_rfl) (by kernel_rfl)) ?_
  intro W base args ds gs before hval0 hW hcnd _
  have hval : ∀ (j : Nat) t v, Try.f5.params[j]? = some t → args[j]? = some v → Value.okWide Try.prog W .any base t v := hval0
  have hW' := hW
  obtain ⟨p, q, hA0, hV, rfl, hfz, hnd⟩ := hW
  have hA : DataW.TrodAll enc Try.prog W 0 (fun _ => true) true Try.f5.params.toList args.toList ds p := hA0
  rw [Try.params5] at hA hval
  obtain ⟨v0, vs0, d0, ds0, p0, q0, hargs, rfl, rfl, h0, r0⟩ := trodAll_cons hA
  obtain ⟨rfl, rfl, rfl⟩ := trodAll_nil r0
  obtain rfl : args = #[v0] := by cases args; simp_all
  obtain ⟨rfl, rfl⟩ := trodVars_none hV
  have k0 := h0
  have lt0 : ∀ x ∈ p0, x.block < W.heap.size := by obtain ⟨m, hm⟩ := k0; exact DataW.trod_lt m _ _ _ hm
  obtain ⟨a0, len0, cap0, rfl⟩ := okWide_slice Try.underlying37 (hval 0 37 v0 rfl rfl)
  obtain ⟨n0, g0, w0, f0, _⟩ := open_notes Try.underlying37 Try.underlying26 (by kernel_rfl) rfl (by kernel_rfl) Try.underlying3 rfl (by kernel_rfl) Try.underlying3 rfl (by kernel_rfl) Try.underlying24 rfl (by kernel_rfl) Try.underlying3 rfl (by kernel_rfl) Try.underlying3 rfl (by kernel_rfl) Try.underlying3 rfl (by kernel_rfl) Try.underlying3 rfl (by kernel_rfl) Try.underlying3 (by obtain ⟨fuel, hf⟩ := h0; exact ⟨fuel, _, hf⟩)
  clear hA0 hval0
  simp only [List.append_nil] at hW'
  refine (walk (.slice a0 len0 cap0) n0 g0 W w0 f0).mono fun e W' ⟨he, bel⟩ => ?_
  subst he
  exact ⟨_, rfl, _, _, _, [], _, [], hW', trodAll_mk1 (shut_bool Try.underlying4 _), (trodAll_cons_mk (Below.trod laidOut (by kernel_rfl) (of_decide_eq_true (by kernel_rfl)) k0 bel lt0) trodAll_mk0), rfl, bel.frame _, fun h => by cases h⟩

theorem over : Rows.fnExactCanonNotesRow.holds Try.pinned (OpenSpec.ofChange Rows.fnExactCanonNotesSpec) :=
  OpenClaim.holds_of_wide 5 Try.f5 rfl rfl rfl rfl rfl rfl rfl ⟨rfl, rfl, rfl, rfl, rfl⟩ rfl rfl rfl rfl rfl (by kernel_rfl) Try.func5 (by kernel_rfl)
    (of_decide_eq_true (by kernel_rfl)) (by unfold Func.isWrapper; first | (rw [if_pos (by decide +kernel)]; kernel_rfl) | (rw [if_neg (by decide +kernel)]; exact ⟨rfl, rfl⟩))
    (fun os started H enc _ => lifted os started H enc)

theorem proved : Rows.FnExactCanonNotesSaid := over
end Go.Proofs.Ytlahjaakegdigaa.fnExactCanonNotes
