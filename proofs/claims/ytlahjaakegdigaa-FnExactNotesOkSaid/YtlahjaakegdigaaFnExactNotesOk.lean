/-
  The law FnExactNotesOk holds for every argument: the program answers as the model does.
-/
import Derived.Test.YtlahjaakegdigaaRows
import Derived.WalkKit
import Derived.ProofKit
import Derived.OpenShut
import Derived.ShutString
import Derived.ChangeOld
import Derived.Below
import Derived.Lib.Hide
import Derived.Test.YtlahjaakegdigaaLawKit
import Derived.Test.YtlahjaakegdigaaOpenAgg
import Derived.Deep.RegionHeld3
import Derived.Test.YtlahjaakegdigaaCanon
import Derived.Test.YtlahjaakegdigaaRecordsImpl
import Derived.Test.YtlahjaakegdigaaTypeGame
import Derived.Test.YtlahjaakegdigaaTypeNote
namespace Go.Proofs.Ytlahjaakegdigaa.fnExactNotesOk
open Go.ChangeShapes Go.WideShapes Go.ChangeAt Go.RowKit
open Go.ChangeMaps (open_string shut_string)
set_option linter.unusedVariables false

theorem own : ownKnob Try.prog.godebug = none := by kernel_rfl
theorem laidOut : laidOutB Try.prog = true := by kernel_rfl

set_option maxHeartbeats 2000000 in
set_option maxRecDepth 100000 in
theorem walk (aN : Int) (vGames : Value) (nGames : Nat) (gGames : Nat → GameD) (vNotes : Value) (nNotes : Nat) (gNotes : Nat → NoteD) (w : World) (fN : IntFit aN) (hGames : GameRow w vGames nGames gGames) (fGames : ∀ i, (gGames i).fit) (hNotes : NoteRow w vNotes nNotes gNotes) (fNotes : ∀ i, (gNotes i).fit) :
    Calls Try.prog 4 #[.int .i64 aN, vGames, vNotes] w fun e w' => e = .returned (.bool true) ∧ Below w.heap.size w w' := by
  obtain ⟨ar0, CS, CI⟩ : ∃ (ar0 : Bool), Hid (∀ (vGames : Value) (vNotes : Value) (w1 : World), GameRow w1 vGames nGames gGames → NoteRow w1 vNotes nNotes gNotes → Calls Try.prog 18 #[.int .i64 aN, vGames, vNotes] w1 fun e w' => e = .returned (.bool ar0) ∧ Below w1.heap.size w1 w') ∧ Hid (∀ (vGames : Value) (vNotes : Value) (w1 : World), GameRow w1 vGames nGames gGames → NoteRow w1 vNotes nNotes gNotes → Calls Try.prog 20 #[.int .i64 aN, vGames, vNotes] w1 fun e w' => e = .returned (.bool ar0) ∧ Below w1.heap.size w1 w') := by
    obtain ⟨R, hR⟩ : ∃ R : Bool, R = true ↔ notesP aN nGames gGames nNotes gNotes := by
      by_cases h : notesP aN nGames gGames nNotes gNotes
      · exact ⟨true, fun _ => h, fun _ => rfl⟩
      · exact ⟨false, (fun e => by cases e), fun e => absurd e h⟩
    exact ⟨R, fun v v2 w1 h h2 => notesOk_spec aN v nGames gGames v2 nNotes gNotes R w1 hR h h2, fun v v2 w1 h h2 => notesOk_impl aN v nGames gGames v2 nNotes gNotes R w1 fNotes hR h h2⟩
  have hb : Below w.heap.size w w := Below.refl _ _
  have iGames : 0 < nGames → InW 0 w.heap.size vGames := fun h0 => InW.gameRow hGames h0 (Nat.le_refl _)
  have iNotes : 0 < nNotes → InW 0 w.heap.size vNotes := fun h0 => InW.noteRow hNotes h0 (Nat.le_refl _)
  go_enter Try.func4, Try.ntmps4
  go_wp2_with fail
  refine (x_sz_GameS vGames nGames gGames (1048576) _ (by omega) (by omega) hGames).mono ?_
  rintro e w1 ⟨⟨r1, rfl, hr1⟩, b1⟩
  have z1 : w.heap.size ≤ w1.heap.size := b1.size
  replace hGames := hGames.below b1 (Nat.le_refl _)
  replace hNotes := hNotes.below b1 (Nat.le_refl _)
  replace hb := hb.trans (b1.mono hb.size)
  by_cases hn1 : r1 < 0
  · have g2 : decide (r1 < 0) = true := decide_eq_true hn1
    clear hr1
    go_wp2
    go_ret
    exact ⟨rfl, hb⟩
  have g1 : decide (r1 < 0) = false := decide_eq_false hn1
  have hle1 : r1 ≤ 1048576 := by omega
  have smGames : nGames ≤ 1048576 := by omega
  replace hn1 : 0 ≤ r1 := by omega
  clear hr1
  go_wp2_with fail
  refine (x_sz_NoteS vNotes nNotes gNotes (r1) _ (by omega) (by omega) hNotes).mono ?_
  rintro e w2 ⟨⟨r2, rfl, hr2⟩, b2⟩
  have z2 : w1.heap.size ≤ w2.heap.size := b2.size
  replace hGames := hGames.below b2 (Nat.le_refl _)
  replace hNotes := hNotes.below b2 (Nat.le_refl _)
  replace hb := hb.trans (b2.mono hb.size)
  by_cases hn2 : r2 < 0
  · have g2 : decide (r2 < 0) = true := decide_eq_true hn2
    clear hr2
    go_wp2
    go_ret
    exact ⟨rfl, hb⟩
  have g2 : decide (r2 < 0) = false := decide_eq_false hn2
  have hle2 : r2 ≤ 1048576 := by omega
  have smNotes : nNotes ≤ 1048576 := by omega
  replace hn2 : 0 ≤ r2 := by omega
  clear hr2
  go_wp2_with fail
  refine (x_to_GameS vGames nGames gGames _ hGames (by omega)).mono ?_
  rintro e w3 ⟨vGamest1, rfl, hGamest1, ⟨xGamest1, oGamest1⟩, b3⟩
  have z3 : w2.heap.size ≤ w3.heap.size := b3.size
  replace hGames := hGames.below b3 (Nat.le_refl _)
  replace hNotes := hNotes.below b3 (Nat.le_refl _)
  replace hb := hb.trans (b3.mono hb.size)
  replace oGamest1 := owns_mono oGamest1 (base' := w2.heap.size) (by simp <;> omega)
  have iGamest1 : InW w2.heap.size w3.heap.size vGamest1 := InW.of_owns oGamest1
  go_wp2_with fail
  refine (x_to_NoteS vNotes nNotes gNotes _ hNotes (by omega)).mono ?_
  rintro e w4 ⟨vNotest2, rfl, hNotest2, ⟨xNotest2, oNotest2⟩, b4⟩
  have z4 : w3.heap.size ≤ w4.heap.size := b4.size
  replace hGames := hGames.below b4 (Nat.le_refl _)
  replace hNotes := hNotes.below b4 (Nat.le_refl _)
  replace hb := hb.trans (b4.mono hb.size)
  replace hGamest1 := hGamest1.below b4 (Nat.le_refl _)
  replace oGamest1 := owns_below oGamest1 b4 (Nat.le_refl _)
  replace oNotest2 := owns_mono oNotest2 (base' := w3.heap.size) (by simp <;> omega)
  have iNotest2 : InW w3.heap.size w4.heap.size vNotest2 := InW.of_owns oNotest2
  go_wp2_with fail
  refine (CS.out vGamest1 vNotest2 _ hGamest1 hNotest2).mono ?_
  rintro e w5 ⟨rfl, b5⟩
  have z5 : w4.heap.size ≤ w5.heap.size := b5.size
  replace hGames := hGames.below b5 (Nat.le_refl _)
  replace hNotes := hNotes.below b5 (Nat.le_refl _)
  replace hb := hb.trans (b5.mono hb.size)
  replace hGamest1 := hGamest1.below b5 (Nat.le_refl _)
  replace oGamest1 := owns_below oGamest1 b5 (Nat.le_refl _)
  replace hNotest2 := hNotest2.below b5 (Nat.le_refl _)
  replace oNotest2 := owns_below oNotest2 b5 (Nat.le_refl _)
  clear hGamest1 oGamest1
  clear hNotest2 oNotest2
  go_wp2_with fail
  refine (x_to_GameS vGames nGames gGames _ hGames (by omega)).mono ?_
  rintro e w6 ⟨vGamesx, rfl, hGamesx, ⟨xGamesx, oGamesx⟩, b6⟩
  have z6 : w5.heap.size ≤ w6.heap.size := b6.size
  replace hGames := hGames.below b6 (Nat.le_refl _)
  replace hNotes := hNotes.below b6 (Nat.le_refl _)
  replace hb := hb.trans (b6.mono hb.size)
  replace oGamesx := owns_mono oGamesx (base' := w5.heap.size) (by simp <;> omega)
  have iGamesx : InW w5.heap.size w6.heap.size vGamesx := InW.of_owns oGamesx
  go_wp2_with fail
  refine (x_to_NoteS vNotes nNotes gNotes _ hNotes (by omega)).mono ?_
  rintro e w7 ⟨vNotesx, rfl, hNotesx, ⟨xNotesx, oNotesx⟩, b7⟩
  have z7 : w6.heap.size ≤ w7.heap.size := b7.size
  replace hGames := hGames.below b7 (Nat.le_refl _)
  replace hNotes := hNotes.below b7 (Nat.le_refl _)
  replace hb := hb.trans (b7.mono hb.size)
  replace hGamesx := hGamesx.below b7 (Nat.le_refl _)
  replace oGamesx := owns_below oGamesx b7 (Nat.le_refl _)
  replace oNotesx := owns_mono oNotesx (base' := w6.heap.size) (by simp <;> omega)
  have iNotesx : InW w6.heap.size w7.heap.size vNotesx := InW.of_owns oNotesx
  go_wp2_with fail
  refine (CI.out vGamesx vNotesx _ hGamesx hNotesx).mono ?_
  rintro e w8 ⟨rfl, b8⟩
  have z8 : w7.heap.size ≤ w8.heap.size := b8.size
  replace hGames := hGames.below b8 (Nat.le_refl _)
  replace hNotes := hNotes.below b8 (Nat.le_refl _)
  replace hb := hb.trans (b8.mono hb.size)
  replace hGamesx := hGamesx.below b8 (Nat.le_refl _)
  replace oGamesx := owns_below oGamesx b8 (Nat.le_refl _)
  replace hNotesx := hNotesx.below b8 (Nat.le_refl _)
  replace oNotesx := owns_below oNotesx b8 (Nat.le_refl _)
  go_wp2_with fail
  refine (x_to_GameS vGames nGames gGames _ hGames (by omega)).mono ?_
  rintro e w9 ⟨vGamest3, rfl, hGamest3, ⟨xGamest3, oGamest3⟩, b9⟩
  have z9 : w8.heap.size ≤ w9.heap.size := b9.size
  replace hGames := hGames.below b9 (Nat.le_refl _)
  replace hNotes := hNotes.below b9 (Nat.le_refl _)
  replace hb := hb.trans (b9.mono hb.size)
  replace hGamesx := hGamesx.below b9 (Nat.le_refl _)
  replace oGamesx := owns_below oGamesx b9 (Nat.le_refl _)
  replace hNotesx := hNotesx.below b9 (Nat.le_refl _)
  replace oNotesx := owns_below oNotesx b9 (Nat.le_refl _)
  replace oGamest3 := owns_mono oGamest3 (base' := w8.heap.size) (by simp <;> omega)
  have iGamest3 : InW w8.heap.size w9.heap.size vGamest3 := InW.of_owns oGamest3
  go_wp2_with fail
  refine (x_eq_GameS vGamesx nGames gGames vGamest3 _ hGamesx hGamest3).mono ?_
  rintro e w10 ⟨rfl, b10⟩
  have z10 : w9.heap.size ≤ w10.heap.size := b10.size
  replace hGames := hGames.below b10 (Nat.le_refl _)
  replace hNotes := hNotes.below b10 (Nat.le_refl _)
  replace hb := hb.trans (b10.mono hb.size)
  replace hGamesx := hGamesx.below b10 (Nat.le_refl _)
  replace oGamesx := owns_below oGamesx b10 (Nat.le_refl _)
  replace hNotesx := hNotesx.below b10 (Nat.le_refl _)
  replace oNotesx := owns_below oNotesx b10 (Nat.le_refl _)
  replace hGamest3 := hGamest3.below b10 (Nat.le_refl _)
  replace oGamest3 := owns_below oGamest3 b10 (Nat.le_refl _)
  clear hGamest3 oGamest3
  go_wp2_with fail
  refine (x_to_NoteS vNotes nNotes gNotes _ hNotes (by omega)).mono ?_
  rintro e w11 ⟨vNotest4, rfl, hNotest4, ⟨xNotest4, oNotest4⟩, b11⟩
  have z11 : w10.heap.size ≤ w11.heap.size := b11.size
  replace hGames := hGames.below b11 (Nat.le_refl _)
  replace hNotes := hNotes.below b11 (Nat.le_refl _)
  replace hb := hb.trans (b11.mono hb.size)
  replace hGamesx := hGamesx.below b11 (Nat.le_refl _)
  replace oGamesx := owns_below oGamesx b11 (Nat.le_refl _)
  replace hNotesx := hNotesx.below b11 (Nat.le_refl _)
  replace oNotesx := owns_below oNotesx b11 (Nat.le_refl _)
  replace oNotest4 := owns_mono oNotest4 (base' := w10.heap.size) (by simp <;> omega)
  have iNotest4 : InW w10.heap.size w11.heap.size vNotest4 := InW.of_owns oNotest4
  go_wp2_with fail
  refine (x_eq_NoteS vNotesx nNotes gNotes vNotest4 _ hNotesx hNotest4).mono ?_
  rintro e w12 ⟨rfl, b12⟩
  have z12 : w11.heap.size ≤ w12.heap.size := b12.size
  replace hGames := hGames.below b12 (Nat.le_refl _)
  replace hNotes := hNotes.below b12 (Nat.le_refl _)
  replace hb := hb.trans (b12.mono hb.size)
  replace hGamesx := hGamesx.below b12 (Nat.le_refl _)
  replace oGamesx := owns_below oGamesx b12 (Nat.le_refl _)
  replace hNotesx := hNotesx.below b12 (Nat.le_refl _)
  replace oNotesx := owns_below oNotesx b12 (Nat.le_refl _)
  replace hNotest4 := hNotest4.below b12 (Nat.le_refl _)
  replace oNotest4 := owns_below oNotest4 b12 (Nat.le_refl _)
  clear hNotest4 oNotest4
  go_wp2
  go_ret
  exact ⟨rfl, hb⟩
set_option maxRecDepth 100000 in
theorem lifted (os : Os) (started : os.Started) (H : Type) (enc : TypeId × Value → H) :
    ReturnsInHanded {} Try.checked os 4 .any (Rows.fnExactNotesOkSpec.pre6 enc Try.prog Try.f4 Rows.fnExactNotesOkRow.domain false) (Rows.fnExactNotesOkSpec.post enc Try.prog Try.f4 false true false false) := by
  refine returnsInHanded_of_change (C := Try.checked) own started (by kernel_rfl) Try.func4
    (ChangeSpec.witness6 (enc := enc) (C := Try.checked) false ⟨#[], #[.int .i64 0, .slice none 0 0, .slice none 0 0], []⟩ 8 (by kernel_rfl) (by kernel_rfl) (by kernel_rfl) (by kernel_rfl)) ?_
  intro W base args ds gs before hval0 hW hcnd _
  have hval : ∀ (j : Nat) t v, Try.f4.params[j]? = some t → args[j]? = some v → Value.okWide Try.prog W .any base t v := hval0
  have hW' := hW
  obtain ⟨p, q, hA0, hV, rfl, hfz, hnd⟩ := hW
  have hA : DataW.TrodAll enc Try.prog W 0 (fun _ => true) true Try.f4.params.toList args.toList ds p := hA0
  rw [Try.params4] at hA hval
  obtain ⟨v0, vs0, d0, ds0, p0, q0, hargs, rfl, rfl, h0, r0⟩ := trodAll_cons hA
  obtain ⟨v1, vs1, d1, ds1, p1, q1, rfl, rfl, rfl, h1, r1⟩ := trodAll_cons r0
  obtain ⟨v2, vs2, d2, ds2, p2, q2, rfl, rfl, rfl, h2, r2⟩ := trodAll_cons r1
  obtain ⟨rfl, rfl, rfl⟩ := trodAll_nil r2
  obtain rfl : args = #[v0, v1, v2] := by cases args; simp_all
  obtain ⟨rfl, rfl⟩ := trodVars_none hV
  obtain ⟨a0, rfl, rfl, rfl, w0⟩ := open_int Try.underlying3 (hval 0 3 v0 rfl rfl) h0
  have k1 := h1
  have lt1 : ∀ x ∈ p1, x.block < W.heap.size := by obtain ⟨m, hm⟩ := k1; exact DataW.trod_lt m _ _ _ hm
  obtain ⟨a1, len1, cap1, rfl⟩ := okWide_slice Try.underlying22 (hval 1 22 v1 rfl rfl)
  obtain ⟨n1, g1, w1, f1, _⟩ := open_games Try.underlying22 Try.underlying24 (by kernel_rfl) rfl (by kernel_rfl) Try.underlying3 rfl (by kernel_rfl) Try.underlying3 rfl (by kernel_rfl) Try.underlying3 rfl (by kernel_rfl) Try.underlying3 rfl (by kernel_rfl) Try.underlying3 (by obtain ⟨fuel, hf⟩ := h1; exact ⟨fuel, _, hf⟩)
  have k2 := h2
  have lt2 : ∀ x ∈ p2, x.block < W.heap.size := by obtain ⟨m, hm⟩ := k2; exact DataW.trod_lt m _ _ _ hm
  obtain ⟨a2, len2, cap2, rfl⟩ := okWide_slice Try.underlying37 (hval 2 37 v2 rfl rfl)
  obtain ⟨n2, g2, w2, f2, _⟩ := open_notes Try.underlying37 Try.underlying26 (by kernel_rfl) rfl (by kernel_rfl) Try.underlying3 rfl (by kernel_rfl) Try.underlying3 rfl (by kernel_rfl) Try.underlying24 rfl (by kernel_rfl) Try.underlying3 rfl (by kernel_rfl) Try.underlying3 rfl (by kernel_rfl) Try.underlying3 rfl (by kernel_rfl) Try.underlying3 rfl (by kernel_rfl) Try.underlying3 (by obtain ⟨fuel, hf⟩ := h2; exact ⟨fuel, _, hf⟩)
  clear hA0 hval0
  simp only [List.append_nil] at hW'
  refine (walk a0 (.slice a1 len1 cap1) n1 g1 (.slice a2 len2 cap2) n2 g2 W (intFit_of w0) w1 f1 w2 f2).mono fun e W' ⟨he, bel⟩ => ?_
  subst he
  exact ⟨_, rfl, _, _, _, [], _, [], hW', trodAll_mk1 (shut_bool Try.underlying4 _), (trodAll_cons_mk (shut_int Try.underlying3 w0) (trodAll_cons_mk (Below.trod laidOut (by kernel_rfl) (of_decide_eq_true (by kernel_rfl)) k1 bel lt1) (trodAll_cons_mk (Below.trod laidOut (by kernel_rfl) (of_decide_eq_true (by kernel_rfl)) k2 bel lt2) trodAll_mk0))), rfl, bel.frame _, fun h => by cases h⟩

theorem over : Rows.fnExactNotesOkRow.holds Try.pinned (OpenSpec.ofChange Rows.fnExactNotesOkSpec) :=
  OpenClaim.holds_of_wide 4 Try.f4 rfl rfl rfl rfl rfl rfl rfl ⟨rfl, rfl, rfl, rfl, rfl⟩ rfl rfl rfl rfl rfl (by kernel_rfl) Try.func4 (by kernel_rfl)
    (of_decide_eq_true (by kernel_rfl)) (by unfold Func.isWrapper; first | (rw [if_pos (by decide +kernel)]; kernel_rfl) | (rw [if_neg (by decide +kernel)]; exact ⟨rfl, rfl⟩))
    (fun os started H enc _ => lifted os started H enc)

theorem proved : Rows.FnExactNotesOkSaid := over
end Go.Proofs.Ytlahjaakegdigaa.fnExactNotesOk
