/-
  The law FnExactStepsOf holds for every argument: the program answers as the model does.
-/
import Derived.Test.YteciobkjfmddcaaGreatRows
import Derived.WalkKit
import Derived.ProofKit
import Derived.OpenShut
import Derived.ShutString
import Derived.ChangeOld
import Derived.Below
import Derived.Lib.Hide
import Derived.Deep.RegionHeld3
import Derived.Test.YteciobkjfmddcaaGreatQ1
import Derived.Test.YteciobkjfmddcaaGreatQ2
import Derived.Test.YteciobkjfmddcaaGreatQ17
import Derived.Test.YteciobkjfmddcaaGreatQ21
import Derived.Test.YteciobkjfmddcaaGreatQ22
import Derived.Test.YteciobkjfmddcaaGreatQ23
namespace Go.Proofs.YteciobkjfmddcaaGreat.fnExactStepsOf
open Go.ChangeShapes Go.WideShapes Go.ChangeAt Go.RowKit
open Go.ChangeMaps (open_string shut_string)
set_option linter.unusedVariables false

theorem own : ownKnob Tryz.prog.godebug = none := by kernel_rfl
theorem laidOut : laidOutB Tryz.prog = true := by kernel_rfl

set_option maxHeartbeats 4000000 in
set_option maxRecDepth 100000 in
theorem walk (vaB_Field : Value) (aB_Rules_Win : Int) (aB_Rules_Draw : Int) (aB_Rules_Loss : Int) (vaB_Rules_Ladder : Value) (aB_Rules_Again : Bool) (vaB_Games : Value) (vaB_Fair : Value) (vaB_Taken : Value) (d_aB : tBook.D) (aTeam : Int) (w : World) (h_aB : RdA tBook w [vaB_Field, .int .i64 aB_Rules_Win, .int .i64 aB_Rules_Draw, .int .i64 aB_Rules_Loss, vaB_Rules_Ladder, .bool aB_Rules_Again, vaB_Games, vaB_Fair, vaB_Taken] d_aB) (f_aB : tBook.fit d_aB) (f_aTeam : IntFit aTeam) :
    Calls Tryz.prog 6 #[.agg #[vaB_Field, .int .i64 aB_Rules_Win, .int .i64 aB_Rules_Draw, .int .i64 aB_Rules_Loss, vaB_Rules_Ladder, .bool aB_Rules_Again, vaB_Games, vaB_Fair, vaB_Taken], .int .i64 aTeam] w fun e w' => e = .returned (.bool true) ∧ Below w.heap.size w w' := by
  obtain ⟨d_r0, nb0, CS, CI⟩ : ∃ (d_r0 : tIntS.D), (tBook.wt d_aB ≤ 1048576 → tIntS.mks d_r0 ≤ 100000000000) ∧ Hid (∀ (vaB_Field : Value) (vaB_Rules_Ladder : Value) (vaB_Games : Value) (vaB_Fair : Value) (vaB_Taken : Value) (w1 : World), RdA tBook w1 [vaB_Field, .int .i64 aB_Rules_Win, .int .i64 aB_Rules_Draw, .int .i64 aB_Rules_Loss, vaB_Rules_Ladder, .bool aB_Rules_Again, vaB_Games, vaB_Fair, vaB_Taken] d_aB → tBook.wt d_aB ≤ 1048576 → Calls Tryz.prog 24 #[.agg #[vaB_Field, .int .i64 aB_Rules_Win, .int .i64 aB_Rules_Draw, .int .i64 aB_Rules_Loss, vaB_Rules_Ladder, .bool aB_Rules_Again, vaB_Games, vaB_Fair, vaB_Taken], .int .i64 aTeam] w1 fun e w' => ∃ vr0 : Value, e = .returned (vr0) ∧ OwN tIntS w' w1.heap.size w'.heap.size [vr0] d_r0 ∧ Below w1.heap.size w1 w') ∧ Hid (∀ (vaB_Field : Value) (vaB_Rules_Ladder : Value) (vaB_Games : Value) (vaB_Fair : Value) (vaB_Taken : Value) (w1 : World), RdA tBook w1 [vaB_Field, .int .i64 aB_Rules_Win, .int .i64 aB_Rules_Draw, .int .i64 aB_Rules_Loss, vaB_Rules_Ladder, .bool aB_Rules_Again, vaB_Games, vaB_Fair, vaB_Taken] d_aB → tBook.wt d_aB ≤ 1048576 → Calls Tryz.prog 11 #[.agg #[vaB_Field, .int .i64 aB_Rules_Win, .int .i64 aB_Rules_Draw, .int .i64 aB_Rules_Loss, vaB_Rules_Ladder, .bool aB_Rules_Again, vaB_Games, vaB_Fair, vaB_Taken], .int .i64 aTeam] w1 fun e w' => ∃ vr0 : Value, e = .returned (vr0) ∧ OwN tIntS w' w1.heap.size w'.heap.size [vr0] d_r0 ∧ Below w1.heap.size w1 w') := by
    obtain ⟨R, hR⟩ := boolEx (bookP (bookOf aB_Rules_Win aB_Rules_Draw aB_Rules_Loss aB_Rules_Again d_aB) ∧ (0 ≤ aTeam ∧ aTeam ≤ (BookD.nf (bookOf aB_Rules_Win aB_Rules_Draw aB_Rules_Loss aB_Rules_Again d_aB) : Int) - 1))
    exact ⟨_, fun s => marks_steps _ (fun h => (hR.1 h).1) _, fun v0 v1 v2 v3 v4 w1 h s => (stepsOf_spec v0 v1 v2 v3 v4 (bookOf aB_Rules_Win aB_Rules_Draw aB_Rules_Loss aB_Rules_Again d_aB) aTeam R w1 hR (bookRow h) (bookNames f_aB) (book_nf s)).mono fun e w' h => h.owN, fun v0 v1 v2 v3 v4 w1 h s => (stepsOf_impl v0 v1 v2 v3 v4 (bookOf aB_Rules_Win aB_Rules_Draw aB_Rules_Loss aB_Rules_Again d_aB) aTeam R w1 hR (bookRow h) (bookNames f_aB) (book_nf s)).mono fun e w' h => h.owN⟩
  have HB : Hid (Below w.heap.size w w) := Below.refl _ _
  have HNB0 := Lib.hid nb0
  clear nb0
  have HA_aB := Lib.hid h_aB
  have HF_aB := Lib.hid f_aB
  clear h_aB f_aB
  have hsp := HA_aB.out
  obtain ⟨avaB_Field, nvaB_Field, kvaB_Field, hvaB_Field⟩ := rd_slice (rd_splitB hsp).1
  replace hsp := (rd_splitB hsp).2
  have hsq := (rd_splitB hsp).1
  replace hsq := (rd_splitB hsq).2
  replace hsq := (rd_splitB hsq).2
  replace hsq := (rd_splitB hsq).2
  obtain ⟨avaB_Rules_Ladder, nvaB_Rules_Ladder, kvaB_Rules_Ladder, hvaB_Rules_Ladder⟩ := rd_slice (rd_splitB hsq).1
  replace hsq := (rd_splitB hsq).2
  clear hsq
  replace hsp := (rd_splitB hsp).2
  obtain ⟨avaB_Games, nvaB_Games, kvaB_Games, hvaB_Games⟩ := rd_slice (rd_splitB hsp).1
  replace hsp := (rd_splitB hsp).2
  obtain ⟨avaB_Fair, nvaB_Fair, kvaB_Fair, hvaB_Fair⟩ := rd_slice (rd_splitB hsp).1
  replace hsp := (rd_splitB hsp).2
  obtain ⟨avaB_Taken, nvaB_Taken, kvaB_Taken, hvaB_Taken⟩ := rd_slice hsp
  clear hsp
  subst hvaB_Field
  subst hvaB_Rules_Ladder
  subst hvaB_Games
  subst hvaB_Fair
  subst hvaB_Taken
  replace HB := Lib.hid (HB.out.trans (((Below.refl w.heap.size w).alloc (Nat.le_refl _) (.cells #[.slice avaB_Field nvaB_Field kvaB_Field, .int .i64 aB_Rules_Win, .int .i64 aB_Rules_Draw, .int .i64 aB_Rules_Loss, .slice avaB_Rules_Ladder nvaB_Rules_Ladder kvaB_Rules_Ladder, .bool aB_Rules_Again, .slice avaB_Games nvaB_Games kvaB_Games, .slice avaB_Fair nvaB_Fair kvaB_Fair, .slice avaB_Taken nvaB_Taken kvaB_Taken] 42)).mono HB.out.size))
  have BX_aB : Hid (BoxN (w.alloc (.cells #[.slice avaB_Field nvaB_Field kvaB_Field, .int .i64 aB_Rules_Win, .int .i64 aB_Rules_Draw, .int .i64 aB_Rules_Loss, .slice avaB_Rules_Ladder nvaB_Rules_Ladder kvaB_Rules_Ladder, .bool aB_Rules_Again, .slice avaB_Games nvaB_Games kvaB_Games, .slice avaB_Fair nvaB_Fair kvaB_Fair, .slice avaB_Taken nvaB_Taken kvaB_Taken] 42)) (w.heap.size) [.slice avaB_Field nvaB_Field kvaB_Field, .int .i64 aB_Rules_Win, .int .i64 aB_Rules_Draw, .int .i64 aB_Rules_Loss, .slice avaB_Rules_Ladder nvaB_Rules_Ladder kvaB_Rules_Ladder, .bool aB_Rules_Again, .slice avaB_Games nvaB_Games kvaB_Games, .slice avaB_Fair nvaB_Fair kvaB_Fair, .slice avaB_Taken nvaB_Taken kvaB_Taken]) := BoxN.made (Below.refl _ _) (by first | rfl | simp | (simp; done))
  go_enter Tryz.func6, Tryz.ntmps6
  have caB_0 := BX_aB.out.2 0 _ rfl
  have caB_1 := BX_aB.out.2 1 _ rfl
  have caB_2 := BX_aB.out.2 2 _ rfl
  have caB_3 := BX_aB.out.2 3 _ rfl
  have caB_4 := BX_aB.out.2 4 _ rfl
  have caB_5 := BX_aB.out.2 5 _ rfl
  have caB_6 := BX_aB.out.2 6 _ rfl
  have caB_7 := BX_aB.out.2 7 _ rfl
  have caB_8 := BX_aB.out.2 8 _ rfl
  have caB_lt := BX_aB.out.1
  go_wp2_with fail
  refine (y_sz_Book (.slice avaB_Field nvaB_Field kvaB_Field) aB_Rules_Win aB_Rules_Draw aB_Rules_Loss (.slice avaB_Rules_Ladder nvaB_Rules_Ladder kvaB_Rules_Ladder) aB_Rules_Again (.slice avaB_Games nvaB_Games kvaB_Games) (.slice avaB_Fair nvaB_Fair kvaB_Fair) (.slice avaB_Taken nvaB_Taken kvaB_Taken) d_aB (1048576) _ (by omega) (by omega) (RdA.below HA_aB.out HB.out) HF_aB.out).mono ?_
  rintro e w1 ⟨⟨r1, rfl, hr1⟩, b1⟩
  clear caB_0 caB_1 caB_2 caB_3 caB_4 caB_5 caB_6 caB_7 caB_8 caB_lt
  have Z1 : Hid (w.heap.size + 1 ≤ w1.heap.size) := (by have := b1.size; simp at this; show _ ≤ _; omega)
  replace HB := Lib.hid (HB.out.trans (b1.mono HB.out.size))
  replace BX_aB := Lib.hid (BX_aB.out.below b1)
  by_cases hn1 : r1 < 0
  · have g2 : decide (r1 < 0) = true := decide_eq_true hn1
    clear hr1
    go_wp2
    go_ret
    exact ⟨rfl, HB.out⟩
  have g1 : decide (r1 < 0) = false := decide_eq_false hn1
  have SM_aB : Hid (tBook.wt d_aB ≤ 1048576) := (by show _ ≤ _; omega)
  replace hn1 : 0 ≤ r1 ∧ r1 ≤ 1048576 := by omega
  clear hr1
  have caB_0 := BX_aB.out.2 0 _ rfl
  have caB_1 := BX_aB.out.2 1 _ rfl
  have caB_2 := BX_aB.out.2 2 _ rfl
  have caB_3 := BX_aB.out.2 3 _ rfl
  have caB_4 := BX_aB.out.2 4 _ rfl
  have caB_5 := BX_aB.out.2 5 _ rfl
  have caB_6 := BX_aB.out.2 6 _ rfl
  have caB_7 := BX_aB.out.2 7 _ rfl
  have caB_8 := BX_aB.out.2 8 _ rfl
  have caB_lt := BX_aB.out.1
  go_wp2_with fail
  refine (y_to_Book (.slice avaB_Field nvaB_Field kvaB_Field) aB_Rules_Win aB_Rules_Draw aB_Rules_Loss (.slice avaB_Rules_Ladder nvaB_Rules_Ladder kvaB_Rules_Ladder) aB_Rules_Again (.slice avaB_Games nvaB_Games kvaB_Games) (.slice avaB_Fair nvaB_Fair kvaB_Fair) (.slice avaB_Taken nvaB_Taken kvaB_Taken) d_aB _ (RdA.below HA_aB.out HB.out) SM_aB.out).mono ?_
  rintro e w2 ⟨vaB_Fieldt1, vaB_Rules_Laddert1, vaB_Gamest1, vaB_Fairt1, vaB_Takent1, rfl, ho, b2⟩
  clear caB_0 caB_1 caB_2 caB_3 caB_4 caB_5 caB_6 caB_7 caB_8 caB_lt
  have Z2 : Hid (w1.heap.size ≤ w2.heap.size) := (by have := b2.size; show _ ≤ _; omega)
  replace HB := Lib.hid (HB.out.trans (b2.mono HB.out.size))
  replace BX_aB := Lib.hid (BX_aB.out.below b2)
  have OW_aBt1 := Lib.hid (ho.mono (lo' := w1.heap.size) (hi' := w2.heap.size) (by have := Z1.out; have := Z2.out; (try simp only [World.alloc, Array.size_push]); omega) (Nat.le_refl _) (Nat.le_refl _))
  clear ho
  go_wp2_with fail
  refine (CS.out (vaB_Fieldt1) (vaB_Rules_Laddert1) (vaB_Gamest1) (vaB_Fairt1) (vaB_Takent1) _ OW_aBt1.out.rdA SM_aB.out).mono ?_
  rintro e w3 ⟨vr0s, rfl, ho, b3⟩
  have Z3 : Hid (w2.heap.size ≤ w3.heap.size) := (by have := b3.size; show _ ≤ _; omega)
  replace HB := Lib.hid (HB.out.trans (b3.mono HB.out.size))
  replace BX_aB := Lib.hid (BX_aB.out.below b3)
  replace OW_aBt1 := Lib.hid (OW_aBt1.out.below b3)
  clear OW_aBt1
  have OW_r0s := Lib.hid (ho.mono (lo' := w1.heap.size) (hi' := w3.heap.size) (by have := Z1.out; have := Z2.out; have := Z3.out; (try simp only [World.alloc, Array.size_push]); omega) (Nat.le_refl _) (Nat.le_refl _))
  clear ho
  have caB_0 := BX_aB.out.2 0 _ rfl
  have caB_1 := BX_aB.out.2 1 _ rfl
  have caB_2 := BX_aB.out.2 2 _ rfl
  have caB_3 := BX_aB.out.2 3 _ rfl
  have caB_4 := BX_aB.out.2 4 _ rfl
  have caB_5 := BX_aB.out.2 5 _ rfl
  have caB_6 := BX_aB.out.2 6 _ rfl
  have caB_7 := BX_aB.out.2 7 _ rfl
  have caB_8 := BX_aB.out.2 8 _ rfl
  have caB_lt := BX_aB.out.1
  go_wp2_with fail
  refine (y_to_Book (.slice avaB_Field nvaB_Field kvaB_Field) aB_Rules_Win aB_Rules_Draw aB_Rules_Loss (.slice avaB_Rules_Ladder nvaB_Rules_Ladder kvaB_Rules_Ladder) aB_Rules_Again (.slice avaB_Games nvaB_Games kvaB_Games) (.slice avaB_Fair nvaB_Fair kvaB_Fair) (.slice avaB_Taken nvaB_Taken kvaB_Taken) d_aB _ (RdA.below HA_aB.out HB.out) SM_aB.out).mono ?_
  rintro e w4 ⟨vaB_Fieldx, vaB_Rules_Ladderx, vaB_Gamesx, vaB_Fairx, vaB_Takenx, rfl, ho, b4⟩
  clear caB_0 caB_1 caB_2 caB_3 caB_4 caB_5 caB_6 caB_7 caB_8 caB_lt
  have Z4 : Hid (w3.heap.size ≤ w4.heap.size) := (by have := b4.size; show _ ≤ _; omega)
  replace HB := Lib.hid (HB.out.trans (b4.mono HB.out.size))
  replace BX_aB := Lib.hid (BX_aB.out.below b4)
  replace OW_r0s := Lib.hid (OW_r0s.out.below b4)
  have OW_aBx := Lib.hid (ho.mono (lo' := w3.heap.size) (hi' := w4.heap.size) (by have := Z1.out; have := Z2.out; have := Z3.out; have := Z4.out; (try simp only [World.alloc, Array.size_push]); omega) (Nat.le_refl _) (Nat.le_refl _))
  clear ho
  have hsp := OW_aBx.out.rd
  obtain ⟨avaB_Fieldx, nvaB_Fieldx, kvaB_Fieldx, hvaB_Fieldx⟩ := rd_slice (rd_splitB hsp).1
  replace hsp := (rd_splitB hsp).2
  have hsq := (rd_splitB hsp).1
  replace hsq := (rd_splitB hsq).2
  replace hsq := (rd_splitB hsq).2
  replace hsq := (rd_splitB hsq).2
  obtain ⟨avaB_Rules_Ladderx, nvaB_Rules_Ladderx, kvaB_Rules_Ladderx, hvaB_Rules_Ladderx⟩ := rd_slice (rd_splitB hsq).1
  replace hsq := (rd_splitB hsq).2
  clear hsq
  replace hsp := (rd_splitB hsp).2
  obtain ⟨avaB_Gamesx, nvaB_Gamesx, kvaB_Gamesx, hvaB_Gamesx⟩ := rd_slice (rd_splitB hsp).1
  replace hsp := (rd_splitB hsp).2
  obtain ⟨avaB_Fairx, nvaB_Fairx, kvaB_Fairx, hvaB_Fairx⟩ := rd_slice (rd_splitB hsp).1
  replace hsp := (rd_splitB hsp).2
  obtain ⟨avaB_Takenx, nvaB_Takenx, kvaB_Takenx, hvaB_Takenx⟩ := rd_slice hsp
  clear hsp
  subst hvaB_Fieldx
  subst hvaB_Rules_Ladderx
  subst hvaB_Gamesx
  subst hvaB_Fairx
  subst hvaB_Takenx
  replace HB := Lib.hid (HB.out.trans (((Below.refl w4.heap.size w4).alloc (Nat.le_refl _) (.cells #[.slice avaB_Fieldx nvaB_Fieldx kvaB_Fieldx, .int .i64 aB_Rules_Win, .int .i64 aB_Rules_Draw, .int .i64 aB_Rules_Loss, .slice avaB_Rules_Ladderx nvaB_Rules_Ladderx kvaB_Rules_Ladderx, .bool aB_Rules_Again, .slice avaB_Gamesx nvaB_Gamesx kvaB_Gamesx, .slice avaB_Fairx nvaB_Fairx kvaB_Fairx, .slice avaB_Takenx nvaB_Takenx kvaB_Takenx] 29)).mono HB.out.size))
  replace BX_aB := Lib.hid (BX_aB.out.below ((Below.refl w4.heap.size w4).alloc (Nat.le_refl _) (.cells #[.slice avaB_Fieldx nvaB_Fieldx kvaB_Fieldx, .int .i64 aB_Rules_Win, .int .i64 aB_Rules_Draw, .int .i64 aB_Rules_Loss, .slice avaB_Rules_Ladderx nvaB_Rules_Ladderx kvaB_Rules_Ladderx, .bool aB_Rules_Again, .slice avaB_Gamesx nvaB_Gamesx kvaB_Gamesx, .slice avaB_Fairx nvaB_Fairx kvaB_Fairx, .slice avaB_Takenx nvaB_Takenx kvaB_Takenx] 29)))
  replace OW_r0s := Lib.hid (OW_r0s.out.below ((Below.refl w4.heap.size w4).alloc (Nat.le_refl _) (.cells #[.slice avaB_Fieldx nvaB_Fieldx kvaB_Fieldx, .int .i64 aB_Rules_Win, .int .i64 aB_Rules_Draw, .int .i64 aB_Rules_Loss, .slice avaB_Rules_Ladderx nvaB_Rules_Ladderx kvaB_Rules_Ladderx, .bool aB_Rules_Again, .slice avaB_Gamesx nvaB_Gamesx kvaB_Gamesx, .slice avaB_Fairx nvaB_Fairx kvaB_Fairx, .slice avaB_Takenx nvaB_Takenx kvaB_Takenx] 29)))
  replace OW_aBx := Lib.hid (OW_aBx.out.below ((Below.refl w4.heap.size w4).alloc (Nat.le_refl _) (.cells #[.slice avaB_Fieldx nvaB_Fieldx kvaB_Fieldx, .int .i64 aB_Rules_Win, .int .i64 aB_Rules_Draw, .int .i64 aB_Rules_Loss, .slice avaB_Rules_Ladderx nvaB_Rules_Ladderx kvaB_Rules_Ladderx, .bool aB_Rules_Again, .slice avaB_Gamesx nvaB_Gamesx kvaB_Gamesx, .slice avaB_Fairx nvaB_Fairx kvaB_Fairx, .slice avaB_Takenx nvaB_Takenx kvaB_Takenx] 29)))
  have BX_aBx : Hid (BoxN (w4.alloc (.cells #[.slice avaB_Fieldx nvaB_Fieldx kvaB_Fieldx, .int .i64 aB_Rules_Win, .int .i64 aB_Rules_Draw, .int .i64 aB_Rules_Loss, .slice avaB_Rules_Ladderx nvaB_Rules_Ladderx kvaB_Rules_Ladderx, .bool aB_Rules_Again, .slice avaB_Gamesx nvaB_Gamesx kvaB_Gamesx, .slice avaB_Fairx nvaB_Fairx kvaB_Fairx, .slice avaB_Takenx nvaB_Takenx kvaB_Takenx] 29)) (w4.heap.size) [.slice avaB_Fieldx nvaB_Fieldx kvaB_Fieldx, .int .i64 aB_Rules_Win, .int .i64 aB_Rules_Draw, .int .i64 aB_Rules_Loss, .slice avaB_Rules_Ladderx nvaB_Rules_Ladderx kvaB_Rules_Ladderx, .bool aB_Rules_Again, .slice avaB_Gamesx nvaB_Gamesx kvaB_Gamesx, .slice avaB_Fairx nvaB_Fairx kvaB_Fairx, .slice avaB_Takenx nvaB_Takenx kvaB_Takenx]) := BoxN.made (Below.refl _ _) (by first | rfl | simp | (simp; done))
  have caBx_0 := BX_aBx.out.2 0 _ rfl
  have caBx_1 := BX_aBx.out.2 1 _ rfl
  have caBx_2 := BX_aBx.out.2 2 _ rfl
  have caBx_3 := BX_aBx.out.2 3 _ rfl
  have caBx_4 := BX_aBx.out.2 4 _ rfl
  have caBx_5 := BX_aBx.out.2 5 _ rfl
  have caBx_6 := BX_aBx.out.2 6 _ rfl
  have caBx_7 := BX_aBx.out.2 7 _ rfl
  have caBx_8 := BX_aBx.out.2 8 _ rfl
  have caBx_lt := BX_aBx.out.1
  go_wp2_with fail
  refine (CI.out (.slice avaB_Fieldx nvaB_Fieldx kvaB_Fieldx) (.slice avaB_Rules_Ladderx nvaB_Rules_Ladderx kvaB_Rules_Ladderx) (.slice avaB_Gamesx nvaB_Gamesx kvaB_Gamesx) (.slice avaB_Fairx nvaB_Fairx kvaB_Fairx) (.slice avaB_Takenx nvaB_Takenx kvaB_Takenx) _ OW_aBx.out.rdA SM_aB.out).mono ?_
  rintro e w5 ⟨vr0i, rfl, ho, b5⟩
  clear caBx_0 caBx_1 caBx_2 caBx_3 caBx_4 caBx_5 caBx_6 caBx_7 caBx_8 caBx_lt
  have Z5 : Hid (w4.heap.size + 1 ≤ w5.heap.size) := (by have := b5.size; simp at this; show _ ≤ _; omega)
  replace HB := Lib.hid (HB.out.trans (b5.mono HB.out.size))
  replace BX_aB := Lib.hid (BX_aB.out.below b5)
  replace OW_r0s := Lib.hid (OW_r0s.out.below b5)
  replace OW_aBx := Lib.hid (OW_aBx.out.below b5)
  replace BX_aBx := Lib.hid (BX_aBx.out.below b5)
  have OW_r0i := Lib.hid (ho.mono (lo' := w4.heap.size + 1) (hi' := w5.heap.size) (by have := Z1.out; have := Z2.out; have := Z3.out; have := Z4.out; have := Z5.out; (try simp only [World.alloc, Array.size_push]); omega) (Nat.le_refl _) (Nat.le_refl _))
  clear ho
  go_wp2_with fail
  refine (y_eq_IntS (vr0i) (vr0s) d_r0 _ OW_r0i.out.rdA OW_r0s.out.rdA).mono ?_
  rintro e w6 ⟨rfl, b6⟩
  have Z6 : Hid (w5.heap.size ≤ w6.heap.size) := (by have := b6.size; show _ ≤ _; omega)
  replace HB := Lib.hid (HB.out.trans (b6.mono HB.out.size))
  replace BX_aB := Lib.hid (BX_aB.out.below b6)
  replace OW_r0s := Lib.hid (OW_r0s.out.below b6)
  replace OW_aBx := Lib.hid (OW_aBx.out.below b6)
  replace BX_aBx := Lib.hid (BX_aBx.out.below b6)
  replace OW_r0i := Lib.hid (OW_r0i.out.below b6)
  have LE : Hid (w6.heap.size ≤ w6.heap.size) := (by show _ ≤ _; first | exact Nat.le_refl _ | simp)
  obtain ⟨S, HSd⟩ : ∃ S : World → Prop, S = fun w' => Below w.heap.size w w' ∧ BoxN w' (w.heap.size) [.slice avaB_Field nvaB_Field kvaB_Field, .int .i64 aB_Rules_Win, .int .i64 aB_Rules_Draw, .int .i64 aB_Rules_Loss, .slice avaB_Rules_Ladder nvaB_Rules_Ladder kvaB_Rules_Ladder, .bool aB_Rules_Again, .slice avaB_Games nvaB_Games kvaB_Games, .slice avaB_Fair nvaB_Fair kvaB_Fair, .slice avaB_Taken nvaB_Taken kvaB_Taken] ∧ OwN tIntS w' (w1.heap.size) (w3.heap.size) [vr0s] d_r0 ∧ OwN tBook w' (w3.heap.size) (w4.heap.size) [.slice avaB_Fieldx nvaB_Fieldx kvaB_Fieldx, .int .i64 aB_Rules_Win, .int .i64 aB_Rules_Draw, .int .i64 aB_Rules_Loss, .slice avaB_Rules_Ladderx nvaB_Rules_Ladderx kvaB_Rules_Ladderx, .bool aB_Rules_Again, .slice avaB_Gamesx nvaB_Gamesx kvaB_Gamesx, .slice avaB_Fairx nvaB_Fairx kvaB_Fairx, .slice avaB_Takenx nvaB_Takenx kvaB_Takenx] d_aB ∧ BoxN w' (w4.heap.size) [.slice avaB_Fieldx nvaB_Fieldx kvaB_Fieldx, .int .i64 aB_Rules_Win, .int .i64 aB_Rules_Draw, .int .i64 aB_Rules_Loss, .slice avaB_Rules_Ladderx nvaB_Rules_Ladderx kvaB_Rules_Ladderx, .bool aB_Rules_Again, .slice avaB_Gamesx nvaB_Gamesx kvaB_Gamesx, .slice avaB_Fairx nvaB_Fairx kvaB_Fairx, .slice avaB_Takenx nvaB_Takenx kvaB_Takenx] ∧ OwN tIntS w' (w4.heap.size + 1) (w5.heap.size) [vr0i] d_r0 ∧ w6.heap.size ≤ w'.heap.size := ⟨_, rfl⟩
  have KS : Hid (∀ wa wb, S wa → Below wa.heap.size wa wb → S wb) := by subst HSd; exact fun wa wb h b => ⟨h.1.trans (b.mono h.1.size), h.2.1.below b, h.2.2.1.below b, h.2.2.2.1.below b, h.2.2.2.2.1.below b, h.2.2.2.2.2.1.below b, Nat.le_trans h.2.2.2.2.2.2 b.size⟩
  have OS : Hid (∀ wa, S wa → Below w.heap.size w wa ∧ BoxN wa (w.heap.size) [.slice avaB_Field nvaB_Field kvaB_Field, .int .i64 aB_Rules_Win, .int .i64 aB_Rules_Draw, .int .i64 aB_Rules_Loss, .slice avaB_Rules_Ladder nvaB_Rules_Ladder kvaB_Rules_Ladder, .bool aB_Rules_Again, .slice avaB_Games nvaB_Games kvaB_Games, .slice avaB_Fair nvaB_Fair kvaB_Fair, .slice avaB_Taken nvaB_Taken kvaB_Taken] ∧ OwN tIntS wa (w1.heap.size) (w3.heap.size) [vr0s] d_r0 ∧ OwN tBook wa (w3.heap.size) (w4.heap.size) [.slice avaB_Fieldx nvaB_Fieldx kvaB_Fieldx, .int .i64 aB_Rules_Win, .int .i64 aB_Rules_Draw, .int .i64 aB_Rules_Loss, .slice avaB_Rules_Ladderx nvaB_Rules_Ladderx kvaB_Rules_Ladderx, .bool aB_Rules_Again, .slice avaB_Gamesx nvaB_Gamesx kvaB_Gamesx, .slice avaB_Fairx nvaB_Fairx kvaB_Fairx, .slice avaB_Takenx nvaB_Takenx kvaB_Takenx] d_aB ∧ BoxN wa (w4.heap.size) [.slice avaB_Fieldx nvaB_Fieldx kvaB_Fieldx, .int .i64 aB_Rules_Win, .int .i64 aB_Rules_Draw, .int .i64 aB_Rules_Loss, .slice avaB_Rules_Ladderx nvaB_Rules_Ladderx kvaB_Rules_Ladderx, .bool aB_Rules_Again, .slice avaB_Gamesx nvaB_Gamesx kvaB_Gamesx, .slice avaB_Fairx nvaB_Fairx kvaB_Fairx, .slice avaB_Takenx nvaB_Takenx kvaB_Takenx] ∧ OwN tIntS wa (w4.heap.size + 1) (w5.heap.size) [vr0i] d_r0 ∧ w6.heap.size ≤ wa.heap.size) := by subst HSd; exact fun wa h => h
  have IS : Hid (∀ wa, Below w.heap.size w wa ∧ BoxN wa (w.heap.size) [.slice avaB_Field nvaB_Field kvaB_Field, .int .i64 aB_Rules_Win, .int .i64 aB_Rules_Draw, .int .i64 aB_Rules_Loss, .slice avaB_Rules_Ladder nvaB_Rules_Ladder kvaB_Rules_Ladder, .bool aB_Rules_Again, .slice avaB_Games nvaB_Games kvaB_Games, .slice avaB_Fair nvaB_Fair kvaB_Fair, .slice avaB_Taken nvaB_Taken kvaB_Taken] ∧ OwN tIntS wa (w1.heap.size) (w3.heap.size) [vr0s] d_r0 ∧ OwN tBook wa (w3.heap.size) (w4.heap.size) [.slice avaB_Fieldx nvaB_Fieldx kvaB_Fieldx, .int .i64 aB_Rules_Win, .int .i64 aB_Rules_Draw, .int .i64 aB_Rules_Loss, .slice avaB_Rules_Ladderx nvaB_Rules_Ladderx kvaB_Rules_Ladderx, .bool aB_Rules_Again, .slice avaB_Gamesx nvaB_Gamesx kvaB_Gamesx, .slice avaB_Fairx nvaB_Fairx kvaB_Fairx, .slice avaB_Takenx nvaB_Takenx kvaB_Takenx] d_aB ∧ BoxN wa (w4.heap.size) [.slice avaB_Fieldx nvaB_Fieldx kvaB_Fieldx, .int .i64 aB_Rules_Win, .int .i64 aB_Rules_Draw, .int .i64 aB_Rules_Loss, .slice avaB_Rules_Ladderx nvaB_Rules_Ladderx kvaB_Rules_Ladderx, .bool aB_Rules_Again, .slice avaB_Gamesx nvaB_Gamesx kvaB_Gamesx, .slice avaB_Fairx nvaB_Fairx kvaB_Fairx, .slice avaB_Takenx nvaB_Takenx kvaB_Takenx] ∧ OwN tIntS wa (w4.heap.size + 1) (w5.heap.size) [vr0i] d_r0 ∧ w6.heap.size ≤ wa.heap.size → S wa) := by subst HSd; exact fun wa h => h
  clear HSd
  go_wp2_with fail
  refine wp_region_held_drew (S := S) (by kernel_rfl) ?_ (fun hHeld => ?_)
  · exact IS.out _ ((fun (b : Below w6.heap.size w6 _) => ⟨HB.out.trans (b.mono HB.out.size), BX_aB.out.below b, OW_r0s.out.below b, OW_aBx.out.below b, BX_aBx.out.below b, OW_r0i.out.below b, Nat.le_trans LE.out b.size⟩) (Below.refl _ _).drew)
  refine wpAnyH_take (i := 0) (v := ?_) rfl (by kernel_rfl) (by kernel_rfl) (by kernel_rfl) (fun _ _ _ h => h) (Or.inl ⟨by rfl, ?_⟩) hHeld ?_
  rotate_left
  · (intro wa hSw; have K := OS.out _ hSw; have caBx_0 := (K.2.2.2.2.1).2 0 _ rfl; have caBx_1 := (K.2.2.2.2.1).2 1 _ rfl; have caBx_2 := (K.2.2.2.2.1).2 2 _ rfl; have caBx_3 := (K.2.2.2.2.1).2 3 _ rfl; have caBx_4 := (K.2.2.2.2.1).2 4 _ rfl; have caBx_5 := (K.2.2.2.2.1).2 5 _ rfl; have caBx_6 := (K.2.2.2.2.1).2 6 _ rfl; have caBx_7 := (K.2.2.2.2.1).2 7 _ rfl; have caBx_8 := (K.2.2.2.2.1).2 8 _ rfl; have caB_0 := (K.2.1).2 0 _ rfl; have caB_1 := (K.2.1).2 1 _ rfl; have caB_2 := (K.2.1).2 2 _ rfl; have caB_3 := (K.2.1).2 3 _ rfl; have caB_4 := (K.2.1).2 4 _ rfl; have caB_5 := (K.2.1).2 5 _ rfl; have caB_6 := (K.2.1).2 6 _ rfl; have caB_7 := (K.2.1).2 7 _ rfl; have caB_8 := (K.2.1).2 8 _ rfl; go_simp; try with_reducible rfl)
  simp only [Act.put, List.getElem_toArray, List.getElem_cons_zero, List.setIfInBounds_toArray, List.set_cons_zero, List.set_cons_succ]
  refine wpAnyH_take (i := 1) (v := ?_) rfl (by kernel_rfl) (by kernel_rfl) (by kernel_rfl) (fun _ _ _ h => h) (Or.inl ⟨by rfl, ?_⟩) hHeld ?_
  rotate_left
  · (intro wa hSw; have K := OS.out _ hSw; have caBx_0 := (K.2.2.2.2.1).2 0 _ rfl; have caBx_1 := (K.2.2.2.2.1).2 1 _ rfl; have caBx_2 := (K.2.2.2.2.1).2 2 _ rfl; have caBx_3 := (K.2.2.2.2.1).2 3 _ rfl; have caBx_4 := (K.2.2.2.2.1).2 4 _ rfl; have caBx_5 := (K.2.2.2.2.1).2 5 _ rfl; have caBx_6 := (K.2.2.2.2.1).2 6 _ rfl; have caBx_7 := (K.2.2.2.2.1).2 7 _ rfl; have caBx_8 := (K.2.2.2.2.1).2 8 _ rfl; have caB_0 := (K.2.1).2 0 _ rfl; have caB_1 := (K.2.1).2 1 _ rfl; have caB_2 := (K.2.1).2 2 _ rfl; have caB_3 := (K.2.1).2 3 _ rfl; have caB_4 := (K.2.1).2 4 _ rfl; have caB_5 := (K.2.1).2 5 _ rfl; have caB_6 := (K.2.1).2 6 _ rfl; have caB_7 := (K.2.1).2 7 _ rfl; have caB_8 := (K.2.1).2 8 _ rfl; go_simp; try with_reducible rfl)
  simp only [Act.put, List.getElem_toArray, List.getElem_cons_zero, List.getElem_cons_succ, List.setIfInBounds_toArray, List.set_cons_zero, List.set_cons_succ]
  refine wpAnyH_ready (rs := [2]) (by kernel_rfl) (by simp) ?_
  refine AllReadyH.cons (o := _) rfl (fun K hK => ?_) AllReadyH.nil
  go_simp
  have KK := OS.out _ hHeld
  refine (y_to_Book (.slice avaB_Field nvaB_Field kvaB_Field) aB_Rules_Win aB_Rules_Draw aB_Rules_Loss (.slice avaB_Rules_Ladder nvaB_Rules_Ladder kvaB_Rules_Ladder) aB_Rules_Again (.slice avaB_Games nvaB_Games kvaB_Games) (.slice avaB_Fair nvaB_Fair kvaB_Fair) (.slice avaB_Taken nvaB_Taken kvaB_Taken) d_aB _ (RdA.below HA_aB.out (KK.1)) SM_aB.out).mono ?_
  rintro e w107 ⟨vaB_Fieldt2, vaB_Rules_Laddert2, vaB_Gamest2, vaB_Fairt2, vaB_Takent2, rfl, ho, b107⟩
  have HT_aBt2 := Lib.hid ho.rdA
  clear ho
  clear KK
  (try go_wp2_with fail)
  refine hK.out _ _ ?_ (fun hHeld107 => ?_)
  · exact KS.out _ _ hHeld b107
  clear hK K
  refine wpAnyH_ready (rs := [3]) (by kernel_rfl) (by simp) ?_
  refine AllReadyH.cons (o := _) rfl (fun K hK => ?_) AllReadyH.nil
  go_simp
  have KK := OS.out _ hHeld107
  refine (y_eq_Book (.slice avaB_Fieldx nvaB_Fieldx kvaB_Fieldx) aB_Rules_Win aB_Rules_Draw aB_Rules_Loss (.slice avaB_Rules_Ladderx nvaB_Rules_Ladderx kvaB_Rules_Ladderx) aB_Rules_Again (.slice avaB_Gamesx nvaB_Gamesx kvaB_Gamesx) (.slice avaB_Fairx nvaB_Fairx kvaB_Fairx) (.slice avaB_Takenx nvaB_Takenx kvaB_Takenx) (vaB_Fieldt2) (vaB_Rules_Laddert2) (vaB_Gamest2) (vaB_Fairt2) (vaB_Takent2) d_aB _ (KK.2.2.2.1).rdA HT_aBt2.out).mono ?_
  rintro e w108 ⟨rfl, b108⟩
  clear HT_aBt2
  clear KK
  (try go_wp2_with fail)
  refine hK.out _ _ ?_ (fun hHeld108 => ?_)
  · exact KS.out _ _ hHeld107 b108
  clear hK K
  clear hHeld107
  refine wpAnyH_take (i := 4) (v := ?_) rfl (by kernel_rfl) (by kernel_rfl) (by kernel_rfl) (fun _ _ _ h => h) (Or.inl ⟨by rfl, ?_⟩) hHeld108 ?_
  rotate_left
  · (intro wa hSw; go_simp; try with_reducible rfl)
  simp only [Act.put, List.getElem_toArray, List.getElem_cons_zero, List.getElem_cons_succ, List.setIfInBounds_toArray, List.set_cons_zero, List.set_cons_succ]
  refine wpAnyH_done (by kernel_rfl) ?_ _
  have KE := Lib.hid (OS.out _ hHeld108)
  clear KS OS IS hHeld hHeld108
  have Z108 := Lib.hid (KE.out.2.2.2.2.2.2)
  replace HB := Lib.hid (KE.out.1)
  replace BX_aB := Lib.hid (KE.out.2.1)
  replace OW_r0s := Lib.hid (KE.out.2.2.1)
  replace OW_aBx := Lib.hid (KE.out.2.2.2.1)
  replace BX_aBx := Lib.hid (KE.out.2.2.2.2.1)
  replace OW_r0i := Lib.hid (KE.out.2.2.2.2.2.1)
  clear KE LE
  obtain ⟨M_aBx, hM⟩ : ∃ z, cnt_Book d_aB = z := ⟨_, rfl⟩
  have HM_aBx := Lib.hid hM
  have hM2_aBx : M_aBx ≤ 100000000000 := (by have h7 : cnt_Book d_aB ≤ 2000000000 := (Nat.le_trans (cntle_Book d_aB) (Bnd.le ((bnd_two (bnd_sl (bnd_two bnd_str (bnd_two bnd_int bnd_int))) (bnd_two (bnd_two bnd_int (bnd_two bnd_int (bnd_two bnd_int (bnd_two (bnd_sl bnd_int) bnd_bool)))) (bnd_two (bnd_sl (bnd_two bnd_int (bnd_two bnd_int (bnd_two bnd_int (bnd_two bnd_int bnd_int))))) (bnd_two (bnd_sl bnd_int) (bnd_sl bnd_int))))) : Bnd tBook 15) SM_aB.out (by decide))); rw [hM] at h7; omega)
  clear hM
  have caBx_0 := BX_aBx.out.2 0 _ rfl
  have caBx_1 := BX_aBx.out.2 1 _ rfl
  have caBx_2 := BX_aBx.out.2 2 _ rfl
  have caBx_3 := BX_aBx.out.2 3 _ rfl
  have caBx_4 := BX_aBx.out.2 4 _ rfl
  have caBx_5 := BX_aBx.out.2 5 _ rfl
  have caBx_6 := BX_aBx.out.2 6 _ rfl
  have caBx_7 := BX_aBx.out.2 7 _ rfl
  have caBx_8 := BX_aBx.out.2 8 _ rfl
  have caBx_lt := BX_aBx.out.1
  go_wp2_with fail
  refine (mark_windowC OW_aBx.out fun bs ho hnd => yb_mk_Book (.slice avaB_Fieldx nvaB_Fieldx kvaB_Fieldx) aB_Rules_Win aB_Rules_Draw aB_Rules_Loss (.slice avaB_Rules_Ladderx nvaB_Rules_Ladderx kvaB_Rules_Ladderx) aB_Rules_Again (.slice avaB_Gamesx nvaB_Gamesx kvaB_Gamesx) (.slice avaB_Fairx nvaB_Fairx kvaB_Fairx) (.slice avaB_Takenx nvaB_Takenx kvaB_Takenx) d_aB ((1 : Int)) _ bs _ ho hnd (by omega) (by have := HM_aBx.out; omega)).mono ?_
  rintro e w109 ⟨rfl, hr, b109⟩
  clear caBx_0 caBx_1 caBx_2 caBx_3 caBx_4 caBx_5 caBx_6 caBx_7 caBx_8 caBx_lt
  rw [HM_aBx.out]
  clear OW_aBx
  clear hr
  have Z109 : Hid (w108.heap.size ≤ w109.heap.size) := (by have := b109.size; show _ ≤ _; omega)
  replace HB := Lib.hid (HB.out.trans (b109.below (by have := Z1.out; have := Z2.out; have := Z3.out; have := Z4.out; have := Z5.out; have := Z6.out; have := Z108.out; omega) HB.out.size))
  replace BX_aB := Lib.hid (BX_aB.out.touch b109 (by have := Z1.out; have := Z2.out; have := Z3.out; have := Z4.out; have := Z5.out; have := Z6.out; have := Z108.out; omega))
  replace OW_r0s := Lib.hid (OW_r0s.out.touch b109 (by have := Z1.out; have := Z2.out; have := Z3.out; have := Z4.out; have := Z5.out; have := Z6.out; have := Z108.out; omega))
  replace BX_aBx := Lib.hid (BX_aBx.out.touch b109 (by have := Z1.out; have := Z2.out; have := Z3.out; have := Z4.out; have := Z5.out; have := Z6.out; have := Z108.out; omega))
  replace OW_r0i := Lib.hid (OW_r0i.out.touch b109 (by have := Z1.out; have := Z2.out; have := Z3.out; have := Z4.out; have := Z5.out; have := Z6.out; have := Z108.out; omega))
  have kd3508 : decide ((1 : Int) + (M_aBx : Int) < 0) = false := decide_eq_false (by omega)
  go_wp2_with fail
  refine (y_eq_IntS (vr0i) (vr0s) d_r0 _ OW_r0i.out.rdA OW_r0s.out.rdA).mono ?_
  rintro e w110 ⟨rfl, b110⟩
  have Z110 : Hid (w109.heap.size ≤ w110.heap.size) := (by have := b110.size; show _ ≤ _; omega)
  replace HB := Lib.hid (HB.out.trans (b110.mono HB.out.size))
  replace BX_aB := Lib.hid (BX_aB.out.below b110)
  replace OW_r0s := Lib.hid (OW_r0s.out.below b110)
  replace BX_aBx := Lib.hid (BX_aBx.out.below b110)
  replace OW_r0i := Lib.hid (OW_r0i.out.below b110)
  obtain ⟨M_r0i, hM⟩ : ∃ z, tIntS.mks d_r0 = z := ⟨_, rfl⟩
  have HM_r0i := Lib.hid hM
  have hM2_r0i : M_r0i ≤ 100000000000 := (by have h7 : tIntS.mks d_r0 ≤ 100000000000 := (HNB0.out SM_aB.out); rw [hM] at h7; omega)
  clear hM
  go_wp2_with fail
  refine (mark_windowC OW_r0i.out fun bs ho hnd => yb_mk_IntS (vr0i) d_r0 ((1 : Int)) _ bs _ ho hnd (by omega) (by have := HM_r0i.out; omega)).mono ?_
  rintro e w111 ⟨rfl, hr, b111⟩
  rw [HM_r0i.out]
  clear OW_r0i
  have Z111 : Hid (w110.heap.size ≤ w111.heap.size) := (by have := b111.size; show _ ≤ _; omega)
  replace HB := Lib.hid (HB.out.trans (b111.below (by have := Z1.out; have := Z2.out; have := Z3.out; have := Z4.out; have := Z5.out; have := Z6.out; have := Z108.out; have := Z109.out; have := Z110.out; omega) HB.out.size))
  replace BX_aB := Lib.hid (BX_aB.out.touch b111 (by have := Z1.out; have := Z2.out; have := Z3.out; have := Z4.out; have := Z5.out; have := Z6.out; have := Z108.out; have := Z109.out; have := Z110.out; omega))
  replace OW_r0s := Lib.hid (OW_r0s.out.touch b111 (by have := Z1.out; have := Z2.out; have := Z3.out; have := Z4.out; have := Z5.out; have := Z6.out; have := Z108.out; have := Z109.out; have := Z110.out; omega))
  replace BX_aBx := Lib.hid (BX_aBx.out.touch b111 (by have := Z1.out; have := Z2.out; have := Z3.out; have := Z4.out; have := Z5.out; have := Z6.out; have := Z108.out; have := Z109.out; have := Z110.out; omega))
  have RN_r0i := Lib.hid hr
  clear hr
  have qd3514 : decide ((1 : Int) + (M_r0i : Int) < 0) = false := decide_eq_false (by omega)
  go_wp2_with fail
  refine (y_hd_IntS (vr0i) d_r0 (1 : Int) _ (RN_r0i.out.all (by have := Z1.out; have := Z2.out; have := Z3.out; have := Z4.out; have := Z5.out; have := Z6.out; have := Z108.out; have := Z109.out; have := Z110.out; have := Z111.out; (try simp only [World.alloc, Array.size_push]); omega)) (by omega) (by have := HM_r0i.out; omega)).mono ?_
  rintro e w112 ⟨rfl, b112⟩
  rw [HM_r0i.out]
  have Z112 : Hid (w111.heap.size ≤ w112.heap.size) := (by have := b112.size; show _ ≤ _; omega)
  replace HB := Lib.hid (HB.out.trans (b112.mono HB.out.size))
  replace BX_aB := Lib.hid (BX_aB.out.below b112)
  replace OW_r0s := Lib.hid (OW_r0s.out.below b112)
  replace BX_aBx := Lib.hid (BX_aBx.out.below b112)
  replace RN_r0i := Lib.hid (RN_r0i.out.below b112)
  have caB_0 := BX_aB.out.2 0 _ rfl
  have caB_1 := BX_aB.out.2 1 _ rfl
  have caB_2 := BX_aB.out.2 2 _ rfl
  have caB_3 := BX_aB.out.2 3 _ rfl
  have caB_4 := BX_aB.out.2 4 _ rfl
  have caB_5 := BX_aB.out.2 5 _ rfl
  have caB_6 := BX_aB.out.2 6 _ rfl
  have caB_7 := BX_aB.out.2 7 _ rfl
  have caB_8 := BX_aB.out.2 8 _ rfl
  have caB_lt := BX_aB.out.1
  go_wp2_with fail
  refine (y_to_Book (.slice avaB_Field nvaB_Field kvaB_Field) aB_Rules_Win aB_Rules_Draw aB_Rules_Loss (.slice avaB_Rules_Ladder nvaB_Rules_Ladder kvaB_Rules_Ladder) aB_Rules_Again (.slice avaB_Games nvaB_Games kvaB_Games) (.slice avaB_Fair nvaB_Fair kvaB_Fair) (.slice avaB_Taken nvaB_Taken kvaB_Taken) d_aB _ (RdA.below HA_aB.out HB.out) SM_aB.out).mono ?_
  rintro e w113 ⟨vaB_Fieldt3, vaB_Rules_Laddert3, vaB_Gamest3, vaB_Fairt3, vaB_Takent3, rfl, ho, b113⟩
  clear caB_0 caB_1 caB_2 caB_3 caB_4 caB_5 caB_6 caB_7 caB_8 caB_lt
  have Z113 : Hid (w112.heap.size ≤ w113.heap.size) := (by have := b113.size; show _ ≤ _; omega)
  replace HB := Lib.hid (HB.out.trans (b113.mono HB.out.size))
  replace BX_aB := Lib.hid (BX_aB.out.below b113)
  replace OW_r0s := Lib.hid (OW_r0s.out.below b113)
  replace BX_aBx := Lib.hid (BX_aBx.out.below b113)
  replace RN_r0i := Lib.hid (RN_r0i.out.below b113)
  have OW_aBt3 := Lib.hid (ho.mono (lo' := w112.heap.size) (hi' := w113.heap.size) (by have := Z1.out; have := Z2.out; have := Z3.out; have := Z4.out; have := Z5.out; have := Z6.out; have := Z108.out; have := Z109.out; have := Z110.out; have := Z111.out; have := Z112.out; have := Z113.out; (try simp only [World.alloc, Array.size_push]); omega) (Nat.le_refl _) (Nat.le_refl _))
  clear ho
  go_wp2_with fail
  refine (CI.out (vaB_Fieldt3) (vaB_Rules_Laddert3) (vaB_Gamest3) (vaB_Fairt3) (vaB_Takent3) _ OW_aBt3.out.rdA SM_aB.out).mono ?_
  rintro e w114 ⟨vr0j, rfl, ho, b114⟩
  have Z114 : Hid (w113.heap.size ≤ w114.heap.size) := (by have := b114.size; show _ ≤ _; omega)
  replace HB := Lib.hid (HB.out.trans (b114.mono HB.out.size))
  replace BX_aB := Lib.hid (BX_aB.out.below b114)
  replace OW_r0s := Lib.hid (OW_r0s.out.below b114)
  replace BX_aBx := Lib.hid (BX_aBx.out.below b114)
  replace RN_r0i := Lib.hid (RN_r0i.out.below b114)
  replace OW_aBt3 := Lib.hid (OW_aBt3.out.below b114)
  clear OW_aBt3
  have OW_r0j := Lib.hid (ho.mono (lo' := w112.heap.size) (hi' := w114.heap.size) (by have := Z1.out; have := Z2.out; have := Z3.out; have := Z4.out; have := Z5.out; have := Z6.out; have := Z108.out; have := Z109.out; have := Z110.out; have := Z111.out; have := Z112.out; have := Z113.out; have := Z114.out; (try simp only [World.alloc, Array.size_push]); omega) (Nat.le_refl _) (Nat.le_refl _))
  clear ho
  go_wp2_with fail
  refine (y_eq_IntS (vr0j) (vr0s) d_r0 _ OW_r0j.out.rdA OW_r0s.out.rdA).mono ?_
  rintro e w115 ⟨rfl, b115⟩
  have Z115 : Hid (w114.heap.size ≤ w115.heap.size) := (by have := b115.size; show _ ≤ _; omega)
  replace HB := Lib.hid (HB.out.trans (b115.mono HB.out.size))
  replace BX_aB := Lib.hid (BX_aB.out.below b115)
  replace OW_r0s := Lib.hid (OW_r0s.out.below b115)
  replace BX_aBx := Lib.hid (BX_aBx.out.below b115)
  replace RN_r0i := Lib.hid (RN_r0i.out.below b115)
  replace OW_r0j := Lib.hid (OW_r0j.out.below b115)
  have qd3526 : decide ((1 : Int) + (M_r0i : Int) < 0) = false := decide_eq_false (by omega)
  go_wp2_with fail
  refine (y_hd_IntS (vr0i) d_r0 (1 : Int) _ (RN_r0i.out.all (by have := Z1.out; have := Z2.out; have := Z3.out; have := Z4.out; have := Z5.out; have := Z6.out; have := Z108.out; have := Z109.out; have := Z110.out; have := Z111.out; have := Z112.out; have := Z113.out; have := Z114.out; have := Z115.out; (try simp only [World.alloc, Array.size_push]); omega)) (by omega) (by have := HM_r0i.out; omega)).mono ?_
  rintro e w116 ⟨rfl, b116⟩
  rw [HM_r0i.out]
  have Z116 : Hid (w115.heap.size ≤ w116.heap.size) := (by have := b116.size; show _ ≤ _; omega)
  replace HB := Lib.hid (HB.out.trans (b116.mono HB.out.size))
  replace BX_aB := Lib.hid (BX_aB.out.below b116)
  replace OW_r0s := Lib.hid (OW_r0s.out.below b116)
  replace BX_aBx := Lib.hid (BX_aBx.out.below b116)
  replace RN_r0i := Lib.hid (RN_r0i.out.below b116)
  replace OW_r0j := Lib.hid (OW_r0j.out.below b116)
  go_wp2
  go_ret
  exact ⟨rfl, HB.out⟩
set_option maxRecDepth 100000 in
theorem lifted (os : Os) (started : os.Started) (H : Type) (enc : TypeId × Value → H) :
    ReturnsInHanded {} Tryz.checked os 6 .any (Rows.fnExactStepsOfSpec.pre6 enc Tryz.prog Tryz.f6 Rows.fnExactStepsOfRow.domain false) (Rows.fnExactStepsOfSpec.post enc Tryz.prog Tryz.f6 false true false false) := by
  refine returnsInHanded_of_change (C := Tryz.checked) own started (by kernel_rfl) Tryz.func6
    (ChangeSpec.witness6 (enc := enc) (C := Tryz.checked) false ⟨#[], #[.agg #[.slice none 0 0, .int .i64 0, .int .i64 0, .int .i64 0, .slice none 0 0, .bool false, .slice none 0 0, .slice none 0 0, .slice none 0 0], .int .i64 0], []⟩ 8 (by kernel_rfl) (by kernel_rfl) (by kernel_rfl) (by kernel_rfl)) ?_
  intro W base args ds gs before hval0 hW hcnd _
  have hval : ∀ (j : Nat) t v, Tryz.f6.params[j]? = some t → args[j]? = some v → Value.okWide Tryz.prog W .any base t v := hval0
  have hW' := hW
  obtain ⟨p, q, hA0, hV, rfl, hfz, hnd⟩ := hW
  have hA : DataW.TrodAll enc Tryz.prog W 0 (fun _ => true) true Tryz.f6.params.toList args.toList ds p := hA0
  rw [Tryz.params6] at hA hval
  obtain ⟨v0, vs0, d0, ds0, p0, q0, hargs, rfl, rfl, h0, r0⟩ := trodAll_cons hA
  obtain ⟨v1, vs1, d1, ds1, p1, q1, rfl, rfl, rfl, h1, r1⟩ := trodAll_cons r0
  obtain ⟨rfl, rfl, rfl⟩ := trodAll_nil r1
  obtain rfl : args = #[v0, v1] := by cases args; simp_all
  obtain ⟨rfl, rfl⟩ := trodVars_none hV
  have k0 := h0
  have lt0 : ∀ x ∈ p0, x.block < W.heap.size := by obtain ⟨m, hm⟩ := k0; exact DataW.trod_lt m _ _ _ hm
  obtain ⟨cs0, rfl, x0, y0, f0⟩ := open_arg opens_Book Tryz.underlying42 (hval 0 42 v0 rfl rfl) h0
  obtain ⟨vz0_Field, z0_Rules_Win, z0_Rules_Draw, z0_Rules_Loss, vz0_Rules_Ladder, z0_Rules_Again, vz0_Games, vz0_Fair, vz0_Taken, e0⟩ := form_Book y0
  obtain rfl : cs0 = #[vz0_Field, .int .i64 z0_Rules_Win, .int .i64 z0_Rules_Draw, .int .i64 z0_Rules_Loss, vz0_Rules_Ladder, .bool z0_Rules_Again, vz0_Games, vz0_Fair, vz0_Taken] := Array.toList_inj.1 e0
  obtain ⟨a1, rfl, rfl, rfl, w1⟩ := open_int Tryz.underlying3 (hval 1 3 v1 rfl rfl) h1
  clear hA0 hval0
  simp only [List.append_nil] at hW'
  refine (walk vz0_Field z0_Rules_Win z0_Rules_Draw z0_Rules_Loss vz0_Rules_Ladder z0_Rules_Again vz0_Games vz0_Fair vz0_Taken x0 a1 W y0 f0 (intFit_of w1)).mono fun e W' ⟨he, bel⟩ => ?_
  subst he
  exact ⟨_, rfl, _, _, _, [], _, [], hW', trodAll_mk1 (shut_bool Tryz.underlying4 _), (trodAll_cons_mk (Below.trod laidOut (by kernel_rfl) (of_decide_eq_true (by kernel_rfl)) k0 bel lt0) (trodAll_cons_mk (shut_int Tryz.underlying3 w1) trodAll_mk0)), rfl, bel.frame _, fun h => by cases h⟩

theorem over : Rows.fnExactStepsOfRow.holds Tryz.pinned (OpenSpec.ofChange Rows.fnExactStepsOfSpec) :=
  OpenClaim.holds_of_wide 6 Tryz.f6 rfl rfl rfl rfl rfl rfl rfl ⟨rfl, rfl, rfl, rfl, rfl⟩ rfl rfl rfl rfl rfl (by kernel_rfl) Tryz.func6 (by kernel_rfl)
    (of_decide_eq_true (by kernel_rfl)) (by unfold Func.isWrapper; first | (rw [if_pos (by decide +kernel)]; kernel_rfl) | (rw [if_neg (by decide +kernel)]; exact ⟨rfl, rfl⟩))
    (fun os started H enc _ => lifted os started H enc)

theorem proved : Rows.FnExactStepsOfSaid := over
end Go.Proofs.YteciobkjfmddcaaGreat.fnExactStepsOf
