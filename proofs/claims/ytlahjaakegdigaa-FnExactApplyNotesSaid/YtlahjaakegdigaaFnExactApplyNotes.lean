/-
  The law FnExactApplyNotes holds for every argument: the program answers as the model does.
-/
import Derived.Test.YtlahjaakegdigaaRows
import Derived.WalkKit
import Derived.ProofKit
import Derived.OpenShut
import Derived.ShutString
import Derived.ChangeOld
import Derived.Below
import Derived.Lib.Hide
import Derived.Test.YtlahjaakegdigaaLawKit
import Derived.Test.YtlahjaakegdigaaOpenAgg
import Derived.Deep.RegionHeld3
import Derived.Test.YtlahjaakegdigaaApply
import Derived.Test.YtlahjaakegdigaaRecordsImpl
import Derived.Test.YtlahjaakegdigaaTypeGame
import Derived.Test.YtlahjaakegdigaaTypeNote
namespace Go.Proofs.Ytlahjaakegdigaa.fnExactApplyNotes
open Go.ChangeShapes Go.WideShapes Go.ChangeAt Go.RowKit
open Go.ChangeMaps (open_string shut_string)
set_option linter.unusedVariables false

theorem own : ownKnob Try.prog.godebug = none := by kernel_rfl
theorem laidOut : laidOutB Try.prog = true := by kernel_rfl
theorem apply_made {n : Int} {m k : Nat} {g : Nat → GameD} {ns : Nat → NoteD} {R : Bool} {w w' : World} {e : Ending} (hR : R = true ↔ notesP n m g k ns)
    (h : (R = false ∧ e = .returned (.tuple #[.slice none 0 0, .bool false]) ∧ Below w.heap.size w w') ∨
      (R = true ∧ ∃ vv xs, e = .returned (.tuple #[vv, .bool true]) ∧ w'.ownsRow w.heap.size 31 5 vv m xs ∧ RecCells 5 m xs (fun i => (applyN g (canonL ns k) (canonL ns k).length i).cells) ∧ Below w.heap.size w w')) :
    ∃ vv, e = .returned (.tuple #[vv, .bool R]) ∧ GameRow w' vv (if R = true then m else 0) (applyN g (canonL ns k) (canonL ns k).length) ∧ (∃ xs, w'.ownsRow w.heap.size 31 5 vv (if R = true then m else 0) xs) ∧ Below w.heap.size w w' := by
  rcases h with ⟨rfl, rfl, b⟩ | ⟨rfl, vv, xs, rfl, ho, hc, b⟩
  · exact ⟨_, rfl, .inl ⟨_, _, rfl, rfl⟩, ⟨_, World.ownsRow_nil _ _ _ _⟩, b⟩
  · have := (hR.1 rfl).1.1
    rw [if_pos rfl]
    exact ⟨_, rfl, RecRow.of_owns ho (by omega) hc (fun _ _ => Nat.le_refl _), ⟨_, ho⟩, b⟩

set_option maxHeartbeats 2000000 in
set_option maxRecDepth 100000 in
theorem walk (aN : Int) (vGames : Value) (nGames : Nat) (gGames : Nat → GameD) (vNotes : Value) (nNotes : Nat) (gNotes : Nat → NoteD) (w : World) (fN : IntFit aN) (hGames : GameRow w vGames nGames gGames) (fGames : ∀ i, (gGames i).fit) (hNotes : NoteRow w vNotes nNotes gNotes) (fNotes : ∀ i, (gNotes i).fit) :
    Calls Try.prog 6 #[.int .i64 aN, vGames, vNotes] w fun e w' => e = .returned (.bool true) ∧ Below w.heap.size w w' := by
  obtain ⟨nr0, gr0, ar1, nb0, CS, CI⟩ : ∃ (nr0 : Nat) (gr0 : Nat → GameD) (ar1 : Bool), (nr0 ≤ 1000000) ∧ Hid (∀ (vGames : Value) (vNotes : Value) (w1 : World), GameRow w1 vGames nGames gGames → NoteRow w1 vNotes nNotes gNotes → Calls Try.prog 26 #[.int .i64 aN, vGames, vNotes] w1 fun e w' => ∃ vr0s, e = .returned (.tuple #[vr0s, .bool ar1]) ∧ GameRow w' vr0s nr0 gr0 ∧ (∃ xs, w'.ownsRow w1.heap.size 31 5 vr0s nr0 xs) ∧ Below w1.heap.size w1 w') ∧ Hid (∀ (vGames : Value) (vNotes : Value) (w1 : World), GameRow w1 vGames nGames gGames → NoteRow w1 vNotes nNotes gNotes → Calls Try.prog 27 #[.int .i64 aN, vGames, vNotes] w1 fun e w' => ∃ vr0i, e = .returned (.tuple #[vr0i, .bool ar1]) ∧ GameRow w' vr0i nr0 gr0 ∧ (∃ xs, w'.ownsRow w1.heap.size 31 5 vr0i nr0 xs) ∧ Below w1.heap.size w1 w') := by
    obtain ⟨R, hR⟩ : ∃ R : Bool, R = true ↔ notesP aN nGames gGames nNotes gNotes := by
      by_cases h : notesP aN nGames gGames nNotes gNotes
      · exact ⟨true, fun _ => h, fun _ => rfl⟩
      · exact ⟨false, (fun e => by cases e), fun e => absurd e h⟩
    have hb : (if R = true then nGames else 0) ≤ 60 := by
      split
      · rename_i h; have := (hR.1 h).1.1; omega
      · omega
    exact ⟨if R = true then nGames else 0, applyN gGames (canonL gNotes nNotes) (canonL gNotes nNotes).length, R, by omega, fun v v2 w1 h h2 => (applyNotes_spec aN v nGames gGames v2 nNotes gNotes R w1 hR h h2).mono fun _ _ h => apply_made hR h, fun v v2 w1 h h2 => (applyNotes_impl aN v nGames gGames v2 nNotes gNotes R w1 fNotes hR h h2).mono fun _ _ h => apply_made hR h⟩
  have hb : Below w.heap.size w w := Below.refl _ _
  have iGames : 0 < nGames → InW 0 w.heap.size vGames := fun h0 => InW.gameRow hGames h0 (Nat.le_refl _)
  have iNotes : 0 < nNotes → InW 0 w.heap.size vNotes := fun h0 => InW.noteRow hNotes h0 (Nat.le_refl _)
  go_enter Try.func6, Try.ntmps6
  go_wp2_with fail
  refine (x_sz_GameS vGames nGames gGames (1048576) _ (by omega) (by omega) hGames).mono ?_
  rintro e w1 ⟨⟨r1, rfl, hr1⟩, b1⟩
  have z1 : w.heap.size ≤ w1.heap.size := b1.size
  replace hGames := hGames.below b1 (Nat.le_refl _)
  replace hNotes := hNotes.below b1 (Nat.le_refl _)
  replace hb := hb.trans (b1.mono hb.size)
  by_cases hn1 : r1 < 0
  · have g2 : decide (r1 < 0) = true := decide_eq_true hn1
    clear hr1
    go_wp2
    go_ret
    exact ⟨rfl, hb⟩
  have g1 : decide (r1 < 0) = false := decide_eq_false hn1
  have hle1 : r1 ≤ 1048576 := by omega
  have smGames : nGames ≤ 1048576 := by omega
  replace hn1 : 0 ≤ r1 := by omega
  clear hr1
  go_wp2_with fail
  refine (x_sz_NoteS vNotes nNotes gNotes (r1) _ (by omega) (by omega) hNotes).mono ?_
  rintro e w2 ⟨⟨r2, rfl, hr2⟩, b2⟩
  have z2 : w1.heap.size ≤ w2.heap.size := b2.size
  replace hGames := hGames.below b2 (Nat.le_refl _)
  replace hNotes := hNotes.below b2 (Nat.le_refl _)
  replace hb := hb.trans (b2.mono hb.size)
  by_cases hn2 : r2 < 0
  · have g2 : decide (r2 < 0) = true := decide_eq_true hn2
    clear hr2
    go_wp2
    go_ret
    exact ⟨rfl, hb⟩
  have g2 : decide (r2 < 0) = false := decide_eq_false hn2
  have hle2 : r2 ≤ 1048576 := by omega
  have smNotes : nNotes ≤ 1048576 := by omega
  replace hn2 : 0 ≤ r2 := by omega
  clear hr2
  go_wp2_with fail
  refine (x_to_GameS vGames nGames gGames _ hGames (by omega)).mono ?_
  rintro e w3 ⟨vGamest1, rfl, hGamest1, ⟨xGamest1, oGamest1⟩, b3⟩
  have z3 : w2.heap.size ≤ w3.heap.size := b3.size
  replace hGames := hGames.below b3 (Nat.le_refl _)
  replace hNotes := hNotes.below b3 (Nat.le_refl _)
  replace hb := hb.trans (b3.mono hb.size)
  replace oGamest1 := owns_mono oGamest1 (base' := w2.heap.size) (by simp <;> omega)
  have iGamest1 : InW w2.heap.size w3.heap.size vGamest1 := InW.of_owns oGamest1
  go_wp2_with fail
  refine (x_to_NoteS vNotes nNotes gNotes _ hNotes (by omega)).mono ?_
  rintro e w4 ⟨vNotest2, rfl, hNotest2, ⟨xNotest2, oNotest2⟩, b4⟩
  have z4 : w3.heap.size ≤ w4.heap.size := b4.size
  replace hGames := hGames.below b4 (Nat.le_refl _)
  replace hNotes := hNotes.below b4 (Nat.le_refl _)
  replace hb := hb.trans (b4.mono hb.size)
  replace hGamest1 := hGamest1.below b4 (Nat.le_refl _)
  replace oGamest1 := owns_below oGamest1 b4 (Nat.le_refl _)
  replace oNotest2 := owns_mono oNotest2 (base' := w3.heap.size) (by simp <;> omega)
  have iNotest2 : InW w3.heap.size w4.heap.size vNotest2 := InW.of_owns oNotest2
  go_wp2_with fail
  refine (CS.out vGamest1 vNotest2 _ hGamest1 hNotest2).mono ?_
  rintro e w5 ⟨vr0s, rfl, hr0s, ⟨xr0s, or0s⟩, b5⟩
  have z5 : w4.heap.size ≤ w5.heap.size := b5.size
  replace hGames := hGames.below b5 (Nat.le_refl _)
  replace hNotes := hNotes.below b5 (Nat.le_refl _)
  replace hb := hb.trans (b5.mono hb.size)
  replace hGamest1 := hGamest1.below b5 (Nat.le_refl _)
  replace oGamest1 := owns_below oGamest1 b5 (Nat.le_refl _)
  replace hNotest2 := hNotest2.below b5 (Nat.le_refl _)
  replace oNotest2 := owns_below oNotest2 b5 (Nat.le_refl _)
  replace or0s := owns_mono or0s (base' := w4.heap.size) (by simp <;> omega)
  have ir0s : InW w4.heap.size w5.heap.size vr0s := InW.of_owns or0s
  clear hGamest1 oGamest1
  clear hNotest2 oNotest2
  go_wp2_with fail
  refine (x_to_GameS vGames nGames gGames _ hGames (by omega)).mono ?_
  rintro e w6 ⟨vGamesx, rfl, hGamesx, ⟨xGamesx, oGamesx⟩, b6⟩
  have z6 : w5.heap.size ≤ w6.heap.size := b6.size
  replace hGames := hGames.below b6 (Nat.le_refl _)
  replace hNotes := hNotes.below b6 (Nat.le_refl _)
  replace hb := hb.trans (b6.mono hb.size)
  replace hr0s := hr0s.below b6 (Nat.le_refl _)
  replace or0s := owns_below or0s b6 (Nat.le_refl _)
  replace oGamesx := owns_mono oGamesx (base' := w5.heap.size) (by simp <;> omega)
  have iGamesx : InW w5.heap.size w6.heap.size vGamesx := InW.of_owns oGamesx
  go_wp2_with fail
  refine (x_to_NoteS vNotes nNotes gNotes _ hNotes (by omega)).mono ?_
  rintro e w7 ⟨vNotesx, rfl, hNotesx, ⟨xNotesx, oNotesx⟩, b7⟩
  have z7 : w6.heap.size ≤ w7.heap.size := b7.size
  replace hGames := hGames.below b7 (Nat.le_refl _)
  replace hNotes := hNotes.below b7 (Nat.le_refl _)
  replace hb := hb.trans (b7.mono hb.size)
  replace hr0s := hr0s.below b7 (Nat.le_refl _)
  replace or0s := owns_below or0s b7 (Nat.le_refl _)
  replace hGamesx := hGamesx.below b7 (Nat.le_refl _)
  replace oGamesx := owns_below oGamesx b7 (Nat.le_refl _)
  replace oNotesx := owns_mono oNotesx (base' := w6.heap.size) (by simp <;> omega)
  have iNotesx : InW w6.heap.size w7.heap.size vNotesx := InW.of_owns oNotesx
  go_wp2_with fail
  refine (CI.out vGamesx vNotesx _ hGamesx hNotesx).mono ?_
  rintro e w8 ⟨vr0i, rfl, hr0i, ⟨xr0i, or0i⟩, b8⟩
  have z8 : w7.heap.size ≤ w8.heap.size := b8.size
  replace hGames := hGames.below b8 (Nat.le_refl _)
  replace hNotes := hNotes.below b8 (Nat.le_refl _)
  replace hb := hb.trans (b8.mono hb.size)
  replace hr0s := hr0s.below b8 (Nat.le_refl _)
  replace or0s := owns_below or0s b8 (Nat.le_refl _)
  replace hGamesx := hGamesx.below b8 (Nat.le_refl _)
  replace oGamesx := owns_below oGamesx b8 (Nat.le_refl _)
  replace hNotesx := hNotesx.below b8 (Nat.le_refl _)
  replace oNotesx := owns_below oNotesx b8 (Nat.le_refl _)
  replace or0i := owns_mono or0i (base' := w7.heap.size) (by simp <;> omega)
  have ir0i : InW w7.heap.size w8.heap.size vr0i := InW.of_owns or0i
  go_wp2_with fail
  refine (x_eq_GameS vr0i nr0 gr0 vr0s _ hr0i hr0s).mono ?_
  rintro e w9 ⟨rfl, b9⟩
  have z9 : w8.heap.size ≤ w9.heap.size := b9.size
  replace hGames := hGames.below b9 (Nat.le_refl _)
  replace hNotes := hNotes.below b9 (Nat.le_refl _)
  replace hb := hb.trans (b9.mono hb.size)
  replace hr0s := hr0s.below b9 (Nat.le_refl _)
  replace or0s := owns_below or0s b9 (Nat.le_refl _)
  replace hGamesx := hGamesx.below b9 (Nat.le_refl _)
  replace oGamesx := owns_below oGamesx b9 (Nat.le_refl _)
  replace hNotesx := hNotesx.below b9 (Nat.le_refl _)
  replace oNotesx := owns_below oNotesx b9 (Nat.le_refl _)
  replace hr0i := hr0i.below b9 (Nat.le_refl _)
  replace or0i := owns_below or0i b9 (Nat.le_refl _)
  go_wp2_with fail
  refine (x_to_GameS vGames nGames gGames _ hGames (by omega)).mono ?_
  rintro e w10 ⟨vGamest3, rfl, hGamest3, ⟨xGamest3, oGamest3⟩, b10⟩
  have z10 : w9.heap.size ≤ w10.heap.size := b10.size
  replace hGames := hGames.below b10 (Nat.le_refl _)
  replace hNotes := hNotes.below b10 (Nat.le_refl _)
  replace hb := hb.trans (b10.mono hb.size)
  replace hr0s := hr0s.below b10 (Nat.le_refl _)
  replace or0s := owns_below or0s b10 (Nat.le_refl _)
  replace hGamesx := hGamesx.below b10 (Nat.le_refl _)
  replace oGamesx := owns_below oGamesx b10 (Nat.le_refl _)
  replace hNotesx := hNotesx.below b10 (Nat.le_refl _)
  replace oNotesx := owns_below oNotesx b10 (Nat.le_refl _)
  replace hr0i := hr0i.below b10 (Nat.le_refl _)
  replace or0i := owns_below or0i b10 (Nat.le_refl _)
  replace oGamest3 := owns_mono oGamest3 (base' := w9.heap.size) (by simp <;> omega)
  have iGamest3 : InW w9.heap.size w10.heap.size vGamest3 := InW.of_owns oGamest3
  go_wp2_with fail
  refine (x_eq_GameS vGamesx nGames gGames vGamest3 _ hGamesx hGamest3).mono ?_
  rintro e w11 ⟨rfl, b11⟩
  have z11 : w10.heap.size ≤ w11.heap.size := b11.size
  replace hGames := hGames.below b11 (Nat.le_refl _)
  replace hNotes := hNotes.below b11 (Nat.le_refl _)
  replace hb := hb.trans (b11.mono hb.size)
  replace hr0s := hr0s.below b11 (Nat.le_refl _)
  replace or0s := owns_below or0s b11 (Nat.le_refl _)
  replace hGamesx := hGamesx.below b11 (Nat.le_refl _)
  replace oGamesx := owns_below oGamesx b11 (Nat.le_refl _)
  replace hNotesx := hNotesx.below b11 (Nat.le_refl _)
  replace oNotesx := owns_below oNotesx b11 (Nat.le_refl _)
  replace hr0i := hr0i.below b11 (Nat.le_refl _)
  replace or0i := owns_below or0i b11 (Nat.le_refl _)
  replace hGamest3 := hGamest3.below b11 (Nat.le_refl _)
  replace oGamest3 := owns_below oGamest3 b11 (Nat.le_refl _)
  clear hGamest3 oGamest3
  go_wp2_with fail
  refine (x_to_NoteS vNotes nNotes gNotes _ hNotes (by omega)).mono ?_
  rintro e w12 ⟨vNotest4, rfl, hNotest4, ⟨xNotest4, oNotest4⟩, b12⟩
  have z12 : w11.heap.size ≤ w12.heap.size := b12.size
  replace hGames := hGames.below b12 (Nat.le_refl _)
  replace hNotes := hNotes.below b12 (Nat.le_refl _)
  replace hb := hb.trans (b12.mono hb.size)
  replace hr0s := hr0s.below b12 (Nat.le_refl _)
  replace or0s := owns_below or0s b12 (Nat.le_refl _)
  replace hGamesx := hGamesx.below b12 (Nat.le_refl _)
  replace oGamesx := owns_below oGamesx b12 (Nat.le_refl _)
  replace hNotesx := hNotesx.below b12 (Nat.le_refl _)
  replace oNotesx := owns_below oNotesx b12 (Nat.le_refl _)
  replace hr0i := hr0i.below b12 (Nat.le_refl _)
  replace or0i := owns_below or0i b12 (Nat.le_refl _)
  replace oNotest4 := owns_mono oNotest4 (base' := w11.heap.size) (by simp <;> omega)
  have iNotest4 : InW w11.heap.size w12.heap.size vNotest4 := InW.of_owns oNotest4
  go_wp2_with fail
  refine (x_eq_NoteS vNotesx nNotes gNotes vNotest4 _ hNotesx hNotest4).mono ?_
  rintro e w13 ⟨rfl, b13⟩
  have z13 : w12.heap.size ≤ w13.heap.size := b13.size
  replace hGames := hGames.below b13 (Nat.le_refl _)
  replace hNotes := hNotes.below b13 (Nat.le_refl _)
  replace hb := hb.trans (b13.mono hb.size)
  replace hr0s := hr0s.below b13 (Nat.le_refl _)
  replace or0s := owns_below or0s b13 (Nat.le_refl _)
  replace hGamesx := hGamesx.below b13 (Nat.le_refl _)
  replace oGamesx := owns_below oGamesx b13 (Nat.le_refl _)
  replace hNotesx := hNotesx.below b13 (Nat.le_refl _)
  replace oNotesx := owns_below oNotesx b13 (Nat.le_refl _)
  replace hr0i := hr0i.below b13 (Nat.le_refl _)
  replace or0i := owns_below or0i b13 (Nat.le_refl _)
  replace hNotest4 := hNotest4.below b13 (Nat.le_refl _)
  replace oNotest4 := owns_below oNotest4 b13 (Nat.le_refl _)
  clear hNotest4 oNotest4
  go_wp2_with fail
  refine (x_mk_GameS vGamesx nGames ((1 : Int)) w5.heap.size w6.heap.size w5.heap.size xGamesx _ oGamesx iGamesx (by omega) (by omega)).mono ?_
  rintro e w14 ⟨rfl, hGamesxm, b14⟩
  have z14 := b14.size
  clear hGamesx oGamesx
  replace hGames := hGames.touch b14 iGames (by omega)
  replace hNotes := hNotes.touch b14 iNotes (by omega)
  replace hb := hb.trans (b14.below (by omega) hb.size)
  replace hr0s := hr0s.touch b14 (fun _ => ir0s) (by omega)
  replace or0s := owns_touch or0s b14 ir0s (by omega)
  replace hNotesx := hNotesx.touch b14 (fun _ => iNotesx) (by omega)
  replace oNotesx := owns_touch oNotesx b14 iNotesx (by omega)
  replace hr0i := hr0i.touch b14 (fun _ => ir0i) (by omega)
  replace or0i := owns_touch or0i b14 ir0i (by omega)
  clear hGamesxm
  go_wp2_with fail
  refine (x_mk_NoteS vNotesx nNotes ((1 : Int) + 5 * (nGames : Int)) w6.heap.size w7.heap.size w6.heap.size xNotesx _ oNotesx iNotesx (by omega) (by omega)).mono ?_
  rintro e w15 ⟨rfl, hNotesxm, b15⟩
  have z15 := b15.size
  clear hNotesx oNotesx
  replace hGames := hGames.touch b15 iGames (by omega)
  replace hNotes := hNotes.touch b15 iNotes (by omega)
  replace hb := hb.trans (b15.below (by omega) hb.size)
  replace hr0s := hr0s.touch b15 (fun _ => ir0s) (by omega)
  replace or0s := owns_touch or0s b15 ir0s (by omega)
  replace hr0i := hr0i.touch b15 (fun _ => ir0i) (by omega)
  replace or0i := owns_touch or0i b15 ir0i (by omega)
  clear hNotesxm
  have kd2800 : decide ((1 : Int) + 5 * (nGames : Int) + 7 * (nNotes : Int) < 0) = false := decide_eq_false (by omega)
  go_wp2_with fail
  refine (x_eq_GameS vr0i nr0 gr0 vr0s _ hr0i hr0s).mono ?_
  rintro e w16 ⟨rfl, b16⟩
  have z16 : w15.heap.size ≤ w16.heap.size := b16.size
  replace hGames := hGames.below b16 (Nat.le_refl _)
  replace hNotes := hNotes.below b16 (Nat.le_refl _)
  replace hb := hb.trans (b16.mono hb.size)
  replace hr0s := hr0s.below b16 (Nat.le_refl _)
  replace or0s := owns_below or0s b16 (Nat.le_refl _)
  replace hr0i := hr0i.below b16 (Nat.le_refl _)
  replace or0i := owns_below or0i b16 (Nat.le_refl _)
  go_wp2_with fail
  refine (x_mk_GameS vr0i nr0 ((1 : Int)) w7.heap.size w8.heap.size w7.heap.size xr0i _ or0i ir0i (by omega) (by omega)).mono ?_
  rintro e w17 ⟨rfl, hr0im, b17⟩
  have z17 := b17.size
  clear hr0i or0i
  replace hGames := hGames.touch b17 iGames (by omega)
  replace hNotes := hNotes.touch b17 iNotes (by omega)
  replace hb := hb.trans (b17.below (by omega) hb.size)
  replace hr0s := hr0s.touch b17 (fun _ => ir0s) (by omega)
  replace or0s := owns_touch or0s b17 ir0s (by omega)
  have hr0i := hr0im
  clear hr0im
  have qd2806 : decide ((1 : Int) + 5 * (nr0 : Int) < 0) = false := decide_eq_false (by omega)
  go_wp2_with fail
  refine (x_hd_GameS vr0i nr0 (1 : Int) _ hr0i (by omega) (by omega)).mono ?_
  rintro e w18 ⟨rfl, b18⟩
  have z18 : w17.heap.size ≤ w18.heap.size := b18.size
  replace hGames := hGames.below b18 (Nat.le_refl _)
  replace hNotes := hNotes.below b18 (Nat.le_refl _)
  replace hb := hb.trans (b18.mono hb.size)
  replace hr0s := hr0s.below b18 (Nat.le_refl _)
  replace or0s := owns_below or0s b18 (Nat.le_refl _)
  replace hr0i := hr0i.below b18 (Nat.le_refl _)
  go_wp2_with fail
  refine (x_to_GameS vGames nGames gGames _ hGames (by omega)).mono ?_
  rintro e w19 ⟨vGamest5, rfl, hGamest5, ⟨xGamest5, oGamest5⟩, b19⟩
  have z19 : w18.heap.size ≤ w19.heap.size := b19.size
  replace hGames := hGames.below b19 (Nat.le_refl _)
  replace hNotes := hNotes.below b19 (Nat.le_refl _)
  replace hb := hb.trans (b19.mono hb.size)
  replace hr0s := hr0s.below b19 (Nat.le_refl _)
  replace or0s := owns_below or0s b19 (Nat.le_refl _)
  replace hr0i := hr0i.below b19 (Nat.le_refl _)
  replace oGamest5 := owns_mono oGamest5 (base' := w18.heap.size) (by simp <;> omega)
  have iGamest5 : InW w18.heap.size w19.heap.size vGamest5 := InW.of_owns oGamest5
  go_wp2_with fail
  refine (x_to_NoteS vNotes nNotes gNotes _ hNotes (by omega)).mono ?_
  rintro e w20 ⟨vNotest6, rfl, hNotest6, ⟨xNotest6, oNotest6⟩, b20⟩
  have z20 : w19.heap.size ≤ w20.heap.size := b20.size
  replace hGames := hGames.below b20 (Nat.le_refl _)
  replace hNotes := hNotes.below b20 (Nat.le_refl _)
  replace hb := hb.trans (b20.mono hb.size)
  replace hr0s := hr0s.below b20 (Nat.le_refl _)
  replace or0s := owns_below or0s b20 (Nat.le_refl _)
  replace hr0i := hr0i.below b20 (Nat.le_refl _)
  replace hGamest5 := hGamest5.below b20 (Nat.le_refl _)
  replace oGamest5 := owns_below oGamest5 b20 (Nat.le_refl _)
  replace oNotest6 := owns_mono oNotest6 (base' := w19.heap.size) (by simp <;> omega)
  have iNotest6 : InW w19.heap.size w20.heap.size vNotest6 := InW.of_owns oNotest6
  go_wp2_with fail
  refine (CI.out vGamest5 vNotest6 _ hGamest5 hNotest6).mono ?_
  rintro e w21 ⟨vr0j, rfl, hr0j, ⟨xr0j, or0j⟩, b21⟩
  have z21 : w20.heap.size ≤ w21.heap.size := b21.size
  replace hGames := hGames.below b21 (Nat.le_refl _)
  replace hNotes := hNotes.below b21 (Nat.le_refl _)
  replace hb := hb.trans (b21.mono hb.size)
  replace hr0s := hr0s.below b21 (Nat.le_refl _)
  replace or0s := owns_below or0s b21 (Nat.le_refl _)
  replace hr0i := hr0i.below b21 (Nat.le_refl _)
  replace hGamest5 := hGamest5.below b21 (Nat.le_refl _)
  replace oGamest5 := owns_below oGamest5 b21 (Nat.le_refl _)
  replace hNotest6 := hNotest6.below b21 (Nat.le_refl _)
  replace oNotest6 := owns_below oNotest6 b21 (Nat.le_refl _)
  replace or0j := owns_mono or0j (base' := w20.heap.size) (by simp <;> omega)
  have ir0j : InW w20.heap.size w21.heap.size vr0j := InW.of_owns or0j
  clear hGamest5 oGamest5
  clear hNotest6 oNotest6
  go_wp2_with fail
  refine (x_eq_GameS vr0j nr0 gr0 vr0s _ hr0j hr0s).mono ?_
  rintro e w22 ⟨rfl, b22⟩
  have z22 : w21.heap.size ≤ w22.heap.size := b22.size
  replace hGames := hGames.below b22 (Nat.le_refl _)
  replace hNotes := hNotes.below b22 (Nat.le_refl _)
  replace hb := hb.trans (b22.mono hb.size)
  replace hr0s := hr0s.below b22 (Nat.le_refl _)
  replace or0s := owns_below or0s b22 (Nat.le_refl _)
  replace hr0i := hr0i.below b22 (Nat.le_refl _)
  replace hr0j := hr0j.below b22 (Nat.le_refl _)
  replace or0j := owns_below or0j b22 (Nat.le_refl _)
  have qd2818 : decide ((1 : Int) + 5 * (nr0 : Int) < 0) = false := decide_eq_false (by omega)
  go_wp2_with fail
  refine (x_hd_GameS vr0i nr0 (1 : Int) _ hr0i (by omega) (by omega)).mono ?_
  rintro e w23 ⟨rfl, b23⟩
  have z23 : w22.heap.size ≤ w23.heap.size := b23.size
  replace hGames := hGames.below b23 (Nat.le_refl _)
  replace hNotes := hNotes.below b23 (Nat.le_refl _)
  replace hb := hb.trans (b23.mono hb.size)
  replace hr0s := hr0s.below b23 (Nat.le_refl _)
  replace or0s := owns_below or0s b23 (Nat.le_refl _)
  replace hr0i := hr0i.below b23 (Nat.le_refl _)
  replace hr0j := hr0j.below b23 (Nat.le_refl _)
  replace or0j := owns_below or0j b23 (Nat.le_refl _)
  go_wp2
  go_ret
  exact ⟨rfl, hb⟩
set_option maxRecDepth 100000 in
theorem lifted (os : Os) (started : os.Started) (H : Type) (enc : TypeId × Value → H) :
    ReturnsInHanded {} Try.checked os 6 .any (Rows.fnExactApplyNotesSpec.pre6 enc Try.prog Try.f6 Rows.fnExactApplyNotesRow.domain false) (Rows.fnExactApplyNotesSpec.post enc Try.prog Try.f6 false true false false) := by
  refine returnsInHanded_of_change (C := Try.checked) own started (by kernel_rfl) Try.func6
    (ChangeSpec.witness6 (enc := enc) (C := Try.checked) false ⟨#[], #[.int .i64 0, .slice none 0 0, .slice none 0 0], []⟩ 8 (by kernel_rfl) (by kernel_rfl) (by kernel_rfl) (by kernel_rfl)) ?_
  intro W base args ds gs before hval0 hW hcnd _
  have hval : ∀ (j : Nat) t v, Try.f6.params[j]? = some t → args[j]? = some v → Value.okWide Try.prog W .any base t v := hval0
  have hW' := hW
  obtain ⟨p, q, hA0, hV, rfl, hfz, hnd⟩ := hW
  have hA : DataW.TrodAll enc Try.prog W 0 (fun _ => true) true Try.f6.params.toList args.toList ds p := hA0
  rw [Try.params6] at hA hval
  obtain ⟨v0, vs0, d0, ds0, p0, q0, hargs, rfl, rfl, h0, r0⟩ := trodAll_cons hA
  obtain ⟨v1, vs1, d1, ds1, p1, q1, rfl, rfl, rfl, h1, r1⟩ := trodAll_cons r0
  obtain ⟨v2, vs2, d2, ds2, p2, q2, rfl, rfl, rfl, h2, r2⟩ := trodAll_cons r1
  obtain ⟨rfl, rfl, rfl⟩ := trodAll_nil r2
  obtain rfl : args = #[v0, v1, v2] := by cases args; simp_all
  obtain ⟨rfl, rfl⟩ := trodVars_none hV
  obtain ⟨a0, rfl, rfl, rfl, w0⟩ := open_int Try.underlying3 (hval 0 3 v0 rfl rfl) h0
  have k1 := h1
  have lt1 : ∀ x ∈ p1, x.block < W.heap.size := by obtain ⟨m, hm⟩ := k1; exact DataW.trod_lt m _ _ _ hm
  obtain ⟨a1, len1, cap1, rfl⟩ := okWide_slice Try.underlying22 (hval 1 22 v1 rfl rfl)
  obtain ⟨n1, g1, w1, f1, _⟩ := open_games Try.underlying22 Try.underlying24 (by kernel_rfl) rfl (by kernel_rfl) Try.underlying3 rfl (by kernel_rfl) Try.underlying3 rfl (by kernel_rfl) Try.underlying3 rfl (by kernel_rfl) Try.underlying3 rfl (by kernel_rfl) Try.underlying3 (by obtain ⟨fuel, hf⟩ := h1; exact ⟨fuel, _, hf⟩)
  have k2 := h2
  have lt2 : ∀ x ∈ p2, x.block < W.heap.size := by obtain ⟨m, hm⟩ := k2; exact DataW.trod_lt m _ _ _ hm
  obtain ⟨a2, len2, cap2, rfl⟩ := okWide_slice Try.underlying37 (hval 2 37 v2 rfl rfl)
  obtain ⟨n2, g2, w2, f2, _⟩ := open_notes Try.underlying37 Try.underlying26 (by kernel_rfl) rfl (by kernel_rfl) Try.underlying3 rfl (by kernel_rfl) Try.underlying3 rfl (by kernel_rfl) Try.underlying24 rfl (by kernel_rfl) Try.underlying3 rfl (by kernel_rfl) Try.underlying3 rfl (by kernel_rfl) Try.underlying3 rfl (by kernel_rfl) Try.underlying3 rfl (by kernel_rfl) Try.underlying3 (by obtain ⟨fuel, hf⟩ := h2; exact ⟨fuel, _, hf⟩)
  clear hA0 hval0
  simp only [List.append_nil] at hW'
  refine (walk a0 (.slice a1 len1 cap1) n1 g1 (.slice a2 len2 cap2) n2 g2 W (intFit_of w0) w1 f1 w2 f2).mono fun e W' ⟨he, bel⟩ => ?_
  subst he
  exact ⟨_, rfl, _, _, _, [], _, [], hW', trodAll_mk1 (shut_bool Try.underlying4 _), (trodAll_cons_mk (shut_int Try.underlying3 w0) (trodAll_cons_mk (Below.trod laidOut (by kernel_rfl) (of_decide_eq_true (by kernel_rfl)) k1 bel lt1) (trodAll_cons_mk (Below.trod laidOut (by kernel_rfl) (of_decide_eq_true (by kernel_rfl)) k2 bel lt2) trodAll_mk0))), rfl, bel.frame _, fun h => by cases h⟩

theorem over : Rows.fnExactApplyNotesRow.holds Try.pinned (OpenSpec.ofChange Rows.fnExactApplyNotesSpec) :=
  OpenClaim.holds_of_wide 6 Try.f6 rfl rfl rfl rfl rfl rfl rfl ⟨rfl, rfl, rfl, rfl, rfl⟩ rfl rfl rfl rfl rfl (by kernel_rfl) Try.func6 (by kernel_rfl)
    (of_decide_eq_true (by kernel_rfl)) (by unfold Func.isWrapper; first | (rw [if_pos (by decide +kernel)]; kernel_rfl) | (rw [if_neg (by decide +kernel)]; exact ⟨rfl, rfl⟩))
    (fun os started H enc _ => lifted os started H enc)

theorem proved : Rows.FnExactApplyNotesSaid := over
end Go.Proofs.Ytlahjaakegdigaa.fnExactApplyNotes
