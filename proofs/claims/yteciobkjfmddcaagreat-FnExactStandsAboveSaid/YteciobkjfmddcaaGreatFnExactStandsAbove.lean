/-
  The law FnExactStandsAbove holds for every argument: the program answers as the model does.
-/
import Derived.Test.YteciobkjfmddcaaGreatRows
import Derived.WalkKit
import Derived.ProofKit
import Derived.OpenShut
import Derived.ShutString
import Derived.ChangeOld
import Derived.Below
import Derived.Lib.Hide
import Derived.Deep.RegionHeld3
import Derived.Test.YteciobkjfmddcaaGreatQ1
import Derived.Test.YteciobkjfmddcaaGreatQ2
import Derived.Test.YteciobkjfmddcaaGreatQ20
import Derived.Test.YteciobkjfmddcaaGreatQ22
import Derived.Test.YteciobkjfmddcaaGreatQ23
namespace Go.Proofs.YteciobkjfmddcaaGreat.fnExactStandsAbove
open Go.ChangeShapes Go.WideShapes Go.ChangeAt Go.RowKit
open Go.ChangeMaps (open_string shut_string)
set_option linter.unusedVariables false

theorem own : ownKnob Tryz.prog.godebug = none := by kernel_rfl
theorem laidOut : laidOutB Tryz.prog = true := by kernel_rfl

set_option maxHeartbeats 4000000 in
set_option maxRecDepth 100000 in
theorem walk (vaB_Field : Value) (aB_Rules_Win : Int) (aB_Rules_Draw : Int) (aB_Rules_Loss : Int) (vaB_Rules_Ladder : Value) (aB_Rules_Again : Bool) (vaB_Games : Value) (vaB_Fair : Value) (vaB_Taken : Value) (d_aB : tBook.D) (aX : Int) (aY : Int) (w : World) (h_aB : RdA tBook w [vaB_Field, .int .i64 aB_Rules_Win, .int .i64 aB_Rules_Draw, .int .i64 aB_Rules_Loss, vaB_Rules_Ladder, .bool aB_Rules_Again, vaB_Games, vaB_Fair, vaB_Taken] d_aB) (f_aB : tBook.fit d_aB) (f_aX : IntFit aX) (f_aY : IntFit aY) :
    Calls Tryz.prog 5 #[.agg #[vaB_Field, .int .i64 aB_Rules_Win, .int .i64 aB_Rules_Draw, .int .i64 aB_Rules_Loss, vaB_Rules_Ladder, .bool aB_Rules_Again, vaB_Games, vaB_Fair, vaB_Taken], .int .i64 aX, .int .i64 aY] w fun e w' => e = .returned (.bool true) ∧ Below w.heap.size w w' := by
  obtain ⟨r0, CS, CI⟩ : ∃ (r0 : Bool), Hid (∀ (vaB_Field : Value) (vaB_Rules_Ladder : Value) (vaB_Games : Value) (vaB_Fair : Value) (vaB_Taken : Value) (w1 : World), RdA tBook w1 [vaB_Field, .int .i64 aB_Rules_Win, .int .i64 aB_Rules_Draw, .int .i64 aB_Rules_Loss, vaB_Rules_Ladder, .bool aB_Rules_Again, vaB_Games, vaB_Fair, vaB_Taken] d_aB → tBook.wt d_aB ≤ 1048576 → Calls Tryz.prog 22 #[.agg #[vaB_Field, .int .i64 aB_Rules_Win, .int .i64 aB_Rules_Draw, .int .i64 aB_Rules_Loss, vaB_Rules_Ladder, .bool aB_Rules_Again, vaB_Games, vaB_Fair, vaB_Taken], .int .i64 aX, .int .i64 aY] w1 fun e w' => e = .returned (.bool r0) ∧ Below w1.heap.size w1 w') ∧ Hid (∀ (vaB_Field : Value) (vaB_Rules_Ladder : Value) (vaB_Games : Value) (vaB_Fair : Value) (vaB_Taken : Value) (w1 : World), RdA tBook w1 [vaB_Field, .int .i64 aB_Rules_Win, .int .i64 aB_Rules_Draw, .int .i64 aB_Rules_Loss, vaB_Rules_Ladder, .bool aB_Rules_Again, vaB_Games, vaB_Fair, vaB_Taken] d_aB → tBook.wt d_aB ≤ 1048576 → Calls Tryz.prog 23 #[.agg #[vaB_Field, .int .i64 aB_Rules_Win, .int .i64 aB_Rules_Draw, .int .i64 aB_Rules_Loss, vaB_Rules_Ladder, .bool aB_Rules_Again, vaB_Games, vaB_Fair, vaB_Taken], .int .i64 aX, .int .i64 aY] w1 fun e w' => e = .returned (.bool r0) ∧ Below w1.heap.size w1 w') := by
    obtain ⟨R, hR⟩ := boolEx (pairP (bookOf aB_Rules_Win aB_Rules_Draw aB_Rules_Loss aB_Rules_Again d_aB) aX aY)
    exact ⟨_, fun v0 v1 v2 v3 v4 w1 h s => standsAbove_spec v0 v1 v2 v3 v4 (bookOf aB_Rules_Win aB_Rules_Draw aB_Rules_Loss aB_Rules_Again d_aB) aX aY R w1 hR (bookRow h) (bookNames f_aB) (book_nf s), fun v0 v1 v2 v3 v4 w1 h s => standsAbove_impl v0 v1 v2 v3 v4 (bookOf aB_Rules_Win aB_Rules_Draw aB_Rules_Loss aB_Rules_Again d_aB) aX aY R w1 hR (bookRow h) (bookNames f_aB) (book_nf s)⟩
  have HB : Hid (Below w.heap.size w w) := Below.refl _ _
  have HA_aB := Lib.hid h_aB
  have HF_aB := Lib.hid f_aB
  clear h_aB f_aB
  have hsp := HA_aB.out
  obtain ⟨avaB_Field, nvaB_Field, kvaB_Field, hvaB_Field⟩ := rd_slice (rd_splitB hsp).1
  replace hsp := (rd_splitB hsp).2
  have hsq := (rd_splitB hsp).1
  replace hsq := (rd_splitB hsq).2
  replace hsq := (rd_splitB hsq).2
  replace hsq := (rd_splitB hsq).2
  obtain ⟨avaB_Rules_Ladder, nvaB_Rules_Ladder, kvaB_Rules_Ladder, hvaB_Rules_Ladder⟩ := rd_slice (rd_splitB hsq).1
  replace hsq := (rd_splitB hsq).2
  clear hsq
  replace hsp := (rd_splitB hsp).2
  obtain ⟨avaB_Games, nvaB_Games, kvaB_Games, hvaB_Games⟩ := rd_slice (rd_splitB hsp).1
  replace hsp := (rd_splitB hsp).2
  obtain ⟨avaB_Fair, nvaB_Fair, kvaB_Fair, hvaB_Fair⟩ := rd_slice (rd_splitB hsp).1
  replace hsp := (rd_splitB hsp).2
  obtain ⟨avaB_Taken, nvaB_Taken, kvaB_Taken, hvaB_Taken⟩ := rd_slice hsp
  clear hsp
  subst hvaB_Field
  subst hvaB_Rules_Ladder
  subst hvaB_Games
  subst hvaB_Fair
  subst hvaB_Taken
  replace HB := Lib.hid (HB.out.trans (((Below.refl w.heap.size w).alloc (Nat.le_refl _) (.cells #[.slice avaB_Field nvaB_Field kvaB_Field, .int .i64 aB_Rules_Win, .int .i64 aB_Rules_Draw, .int .i64 aB_Rules_Loss, .slice avaB_Rules_Ladder nvaB_Rules_Ladder kvaB_Rules_Ladder, .bool aB_Rules_Again, .slice avaB_Games nvaB_Games kvaB_Games, .slice avaB_Fair nvaB_Fair kvaB_Fair, .slice avaB_Taken nvaB_Taken kvaB_Taken] 42)).mono HB.out.size))
  have BX_aB : Hid (BoxN (w.alloc (.cells #[.slice avaB_Field nvaB_Field kvaB_Field, .int .i64 aB_Rules_Win, .int .i64 aB_Rules_Draw, .int .i64 aB_Rules_Loss, .slice avaB_Rules_Ladder nvaB_Rules_Ladder kvaB_Rules_Ladder, .bool aB_Rules_Again, .slice avaB_Games nvaB_Games kvaB_Games, .slice avaB_Fair nvaB_Fair kvaB_Fair, .slice avaB_Taken nvaB_Taken kvaB_Taken] 42)) (w.heap.size) [.slice avaB_Field nvaB_Field kvaB_Field, .int .i64 aB_Rules_Win, .int .i64 aB_Rules_Draw, .int .i64 aB_Rules_Loss, .slice avaB_Rules_Ladder nvaB_Rules_Ladder kvaB_Rules_Ladder, .bool aB_Rules_Again, .slice avaB_Games nvaB_Games kvaB_Games, .slice avaB_Fair nvaB_Fair kvaB_Fair, .slice avaB_Taken nvaB_Taken kvaB_Taken]) := BoxN.made (Below.refl _ _) (by first | rfl | simp | (simp; done))
  go_enter Tryz.func5, Tryz.ntmps5
  have caB_0 := BX_aB.out.2 0 _ rfl
  have caB_1 := BX_aB.out.2 1 _ rfl
  have caB_2 := BX_aB.out.2 2 _ rfl
  have caB_3 := BX_aB.out.2 3 _ rfl
  have caB_4 := BX_aB.out.2 4 _ rfl
  have caB_5 := BX_aB.out.2 5 _ rfl
  have caB_6 := BX_aB.out.2 6 _ rfl
  have caB_7 := BX_aB.out.2 7 _ rfl
  have caB_8 := BX_aB.out.2 8 _ rfl
  have caB_lt := BX_aB.out.1
  go_wp2_with fail
  refine (y_sz_Book (.slice avaB_Field nvaB_Field kvaB_Field) aB_Rules_Win aB_Rules_Draw aB_Rules_Loss (.slice avaB_Rules_Ladder nvaB_Rules_Ladder kvaB_Rules_Ladder) aB_Rules_Again (.slice avaB_Games nvaB_Games kvaB_Games) (.slice avaB_Fair nvaB_Fair kvaB_Fair) (.slice avaB_Taken nvaB_Taken kvaB_Taken) d_aB (1048576) _ (by omega) (by omega) (RdA.below HA_aB.out HB.out) HF_aB.out).mono ?_
  rintro e w1 ⟨⟨r1, rfl, hr1⟩, b1⟩
  clear caB_0 caB_1 caB_2 caB_3 caB_4 caB_5 caB_6 caB_7 caB_8 caB_lt
  have Z1 : Hid (w.heap.size + 1 ≤ w1.heap.size) := (by have := b1.size; simp at this; show _ ≤ _; omega)
  replace HB := Lib.hid (HB.out.trans (b1.mono HB.out.size))
  replace BX_aB := Lib.hid (BX_aB.out.below b1)
  by_cases hn1 : r1 < 0
  · have g2 : decide (r1 < 0) = true := decide_eq_true hn1
    clear hr1
    go_wp2
    go_ret
    exact ⟨rfl, HB.out⟩
  have g1 : decide (r1 < 0) = false := decide_eq_false hn1
  have SM_aB : Hid (tBook.wt d_aB ≤ 1048576) := (by show _ ≤ _; omega)
  replace hn1 : 0 ≤ r1 ∧ r1 ≤ 1048576 := by omega
  clear hr1
  have caB_0 := BX_aB.out.2 0 _ rfl
  have caB_1 := BX_aB.out.2 1 _ rfl
  have caB_2 := BX_aB.out.2 2 _ rfl
  have caB_3 := BX_aB.out.2 3 _ rfl
  have caB_4 := BX_aB.out.2 4 _ rfl
  have caB_5 := BX_aB.out.2 5 _ rfl
  have caB_6 := BX_aB.out.2 6 _ rfl
  have caB_7 := BX_aB.out.2 7 _ rfl
  have caB_8 := BX_aB.out.2 8 _ rfl
  have caB_lt := BX_aB.out.1
  go_wp2_with fail
  refine (y_to_Book (.slice avaB_Field nvaB_Field kvaB_Field) aB_Rules_Win aB_Rules_Draw aB_Rules_Loss (.slice avaB_Rules_Ladder nvaB_Rules_Ladder kvaB_Rules_Ladder) aB_Rules_Again (.slice avaB_Games nvaB_Games kvaB_Games) (.slice avaB_Fair nvaB_Fair kvaB_Fair) (.slice avaB_Taken nvaB_Taken kvaB_Taken) d_aB _ (RdA.below HA_aB.out HB.out) SM_aB.out).mono ?_
  rintro e w2 ⟨vaB_Fieldt1, vaB_Rules_Laddert1, vaB_Gamest1, vaB_Fairt1, vaB_Takent1, rfl, ho, b2⟩
  clear caB_0 caB_1 caB_2 caB_3 caB_4 caB_5 caB_6 caB_7 caB_8 caB_lt
  have Z2 : Hid (w1.heap.size ≤ w2.heap.size) := (by have := b2.size; show _ ≤ _; omega)
  replace HB := Lib.hid (HB.out.trans (b2.mono HB.out.size))
  replace BX_aB := Lib.hid (BX_aB.out.below b2)
  have OW_aBt1 := Lib.hid (ho.mono (lo' := w1.heap.size) (hi' := w2.heap.size) (by have := Z1.out; have := Z2.out; (try simp only [World.alloc, Array.size_push]); omega) (Nat.le_refl _) (Nat.le_refl _))
  clear ho
  go_wp2_with fail
  refine (CS.out (vaB_Fieldt1) (vaB_Rules_Laddert1) (vaB_Gamest1) (vaB_Fairt1) (vaB_Takent1) _ OW_aBt1.out.rdA SM_aB.out).mono ?_
  rintro e w3 ⟨rfl, b3⟩
  have Z3 : Hid (w2.heap.size ≤ w3.heap.size) := (by have := b3.size; show _ ≤ _; omega)
  replace HB := Lib.hid (HB.out.trans (b3.mono HB.out.size))
  replace BX_aB := Lib.hid (BX_aB.out.below b3)
  replace OW_aBt1 := Lib.hid (OW_aBt1.out.below b3)
  clear OW_aBt1
  have caB_0 := BX_aB.out.2 0 _ rfl
  have caB_1 := BX_aB.out.2 1 _ rfl
  have caB_2 := BX_aB.out.2 2 _ rfl
  have caB_3 := BX_aB.out.2 3 _ rfl
  have caB_4 := BX_aB.out.2 4 _ rfl
  have caB_5 := BX_aB.out.2 5 _ rfl
  have caB_6 := BX_aB.out.2 6 _ rfl
  have caB_7 := BX_aB.out.2 7 _ rfl
  have caB_8 := BX_aB.out.2 8 _ rfl
  have caB_lt := BX_aB.out.1
  go_wp2_with fail
  refine (y_to_Book (.slice avaB_Field nvaB_Field kvaB_Field) aB_Rules_Win aB_Rules_Draw aB_Rules_Loss (.slice avaB_Rules_Ladder nvaB_Rules_Ladder kvaB_Rules_Ladder) aB_Rules_Again (.slice avaB_Games nvaB_Games kvaB_Games) (.slice avaB_Fair nvaB_Fair kvaB_Fair) (.slice avaB_Taken nvaB_Taken kvaB_Taken) d_aB _ (RdA.below HA_aB.out HB.out) SM_aB.out).mono ?_
  rintro e w4 ⟨vaB_Fieldx, vaB_Rules_Ladderx, vaB_Gamesx, vaB_Fairx, vaB_Takenx, rfl, ho, b4⟩
  clear caB_0 caB_1 caB_2 caB_3 caB_4 caB_5 caB_6 caB_7 caB_8 caB_lt
  have Z4 : Hid (w3.heap.size ≤ w4.heap.size) := (by have := b4.size; show _ ≤ _; omega)
  replace HB := Lib.hid (HB.out.trans (b4.mono HB.out.size))
  replace BX_aB := Lib.hid (BX_aB.out.below b4)
  have OW_aBx := Lib.hid (ho.mono (lo' := w3.heap.size) (hi' := w4.heap.size) (by have := Z1.out; have := Z2.out; have := Z3.out; have := Z4.out; (try simp only [World.alloc, Array.size_push]); omega) (Nat.le_refl _) (Nat.le_refl _))
  clear ho
  have hsp := OW_aBx.out.rd
  obtain ⟨avaB_Fieldx, nvaB_Fieldx, kvaB_Fieldx, hvaB_Fieldx⟩ := rd_slice (rd_splitB hsp).1
  replace hsp := (rd_splitB hsp).2
  have hsq := (rd_splitB hsp).1
  replace hsq := (rd_splitB hsq).2
  replace hsq := (rd_splitB hsq).2
  replace hsq := (rd_splitB hsq).2
  obtain ⟨avaB_Rules_Ladderx, nvaB_Rules_Ladderx, kvaB_Rules_Ladderx, hvaB_Rules_Ladderx⟩ := rd_slice (rd_splitB hsq).1
  replace hsq := (rd_splitB hsq).2
  clear hsq
  replace hsp := (rd_splitB hsp).2
  obtain ⟨avaB_Gamesx, nvaB_Gamesx, kvaB_Gamesx, hvaB_Gamesx⟩ := rd_slice (rd_splitB hsp).1
  replace hsp := (rd_splitB hsp).2
  obtain ⟨avaB_Fairx, nvaB_Fairx, kvaB_Fairx, hvaB_Fairx⟩ := rd_slice (rd_splitB hsp).1
  replace hsp := (rd_splitB hsp).2
  obtain ⟨avaB_Takenx, nvaB_Takenx, kvaB_Takenx, hvaB_Takenx⟩ := rd_slice hsp
  clear hsp
  subst hvaB_Fieldx
  subst hvaB_Rules_Ladderx
  subst hvaB_Gamesx
  subst hvaB_Fairx
  subst hvaB_Takenx
  replace HB := Lib.hid (HB.out.trans (((Below.refl w4.heap.size w4).alloc (Nat.le_refl _) (.cells #[.slice avaB_Fieldx nvaB_Fieldx kvaB_Fieldx, .int .i64 aB_Rules_Win, .int .i64 aB_Rules_Draw, .int .i64 aB_Rules_Loss, .slice avaB_Rules_Ladderx nvaB_Rules_Ladderx kvaB_Rules_Ladderx, .bool aB_Rules_Again, .slice avaB_Gamesx nvaB_Gamesx kvaB_Gamesx, .slice avaB_Fairx nvaB_Fairx kvaB_Fairx, .slice avaB_Takenx nvaB_Takenx kvaB_Takenx] 29)).mono HB.out.size))
  replace BX_aB := Lib.hid (BX_aB.out.below ((Below.refl w4.heap.size w4).alloc (Nat.le_refl _) (.cells #[.slice avaB_Fieldx nvaB_Fieldx kvaB_Fieldx, .int .i64 aB_Rules_Win, .int .i64 aB_Rules_Draw, .int .i64 aB_Rules_Loss, .slice avaB_Rules_Ladderx nvaB_Rules_Ladderx kvaB_Rules_Ladderx, .bool aB_Rules_Again, .slice avaB_Gamesx nvaB_Gamesx kvaB_Gamesx, .slice avaB_Fairx nvaB_Fairx kvaB_Fairx, .slice avaB_Takenx nvaB_Takenx kvaB_Takenx] 29)))
  replace OW_aBx := Lib.hid (OW_aBx.out.below ((Below.refl w4.heap.size w4).alloc (Nat.le_refl _) (.cells #[.slice avaB_Fieldx nvaB_Fieldx kvaB_Fieldx, .int .i64 aB_Rules_Win, .int .i64 aB_Rules_Draw, .int .i64 aB_Rules_Loss, .slice avaB_Rules_Ladderx nvaB_Rules_Ladderx kvaB_Rules_Ladderx, .bool aB_Rules_Again, .slice avaB_Gamesx nvaB_Gamesx kvaB_Gamesx, .slice avaB_Fairx nvaB_Fairx kvaB_Fairx, .slice avaB_Takenx nvaB_Takenx kvaB_Takenx] 29)))
  have BX_aBx : Hid (BoxN (w4.alloc (.cells #[.slice avaB_Fieldx nvaB_Fieldx kvaB_Fieldx, .int .i64 aB_Rules_Win, .int .i64 aB_Rules_Draw, .int .i64 aB_Rules_Loss, .slice avaB_Rules_Ladderx nvaB_Rules_Ladderx kvaB_Rules_Ladderx, .bool aB_Rules_Again, .slice avaB_Gamesx nvaB_Gamesx kvaB_Gamesx, .slice avaB_Fairx nvaB_Fairx kvaB_Fairx, .slice avaB_Takenx nvaB_Takenx kvaB_Takenx] 29)) (w4.heap.size) [.slice avaB_Fieldx nvaB_Fieldx kvaB_Fieldx, .int .i64 aB_Rules_Win, .int .i64 aB_Rules_Draw, .int .i64 aB_Rules_Loss, .slice avaB_Rules_Ladderx nvaB_Rules_Ladderx kvaB_Rules_Ladderx, .bool aB_Rules_Again, .slice avaB_Gamesx nvaB_Gamesx kvaB_Gamesx, .slice avaB_Fairx nvaB_Fairx kvaB_Fairx, .slice avaB_Takenx nvaB_Takenx kvaB_Takenx]) := BoxN.made (Below.refl _ _) (by first | rfl | simp | (simp; done))
  have caBx_0 := BX_aBx.out.2 0 _ rfl
  have caBx_1 := BX_aBx.out.2 1 _ rfl
  have caBx_2 := BX_aBx.out.2 2 _ rfl
  have caBx_3 := BX_aBx.out.2 3 _ rfl
  have caBx_4 := BX_aBx.out.2 4 _ rfl
  have caBx_5 := BX_aBx.out.2 5 _ rfl
  have caBx_6 := BX_aBx.out.2 6 _ rfl
  have caBx_7 := BX_aBx.out.2 7 _ rfl
  have caBx_8 := BX_aBx.out.2 8 _ rfl
  have caBx_lt := BX_aBx.out.1
  go_wp2_with fail
  refine (CI.out (.slice avaB_Fieldx nvaB_Fieldx kvaB_Fieldx) (.slice avaB_Rules_Ladderx nvaB_Rules_Ladderx kvaB_Rules_Ladderx) (.slice avaB_Gamesx nvaB_Gamesx kvaB_Gamesx) (.slice avaB_Fairx nvaB_Fairx kvaB_Fairx) (.slice avaB_Takenx nvaB_Takenx kvaB_Takenx) _ OW_aBx.out.rdA SM_aB.out).mono ?_
  rintro e w5 ⟨rfl, b5⟩
  clear caBx_0 caBx_1 caBx_2 caBx_3 caBx_4 caBx_5 caBx_6 caBx_7 caBx_8 caBx_lt
  have Z5 : Hid (w4.heap.size + 1 ≤ w5.heap.size) := (by have := b5.size; simp at this; show _ ≤ _; omega)
  replace HB := Lib.hid (HB.out.trans (b5.mono HB.out.size))
  replace BX_aB := Lib.hid (BX_aB.out.below b5)
  replace OW_aBx := Lib.hid (OW_aBx.out.below b5)
  replace BX_aBx := Lib.hid (BX_aBx.out.below b5)
  have LE : Hid (w5.heap.size ≤ w5.heap.size) := (by show _ ≤ _; first | exact Nat.le_refl _ | simp)
  obtain ⟨S, HSd⟩ : ∃ S : World → Prop, S = fun w' => Below w.heap.size w w' ∧ BoxN w' (w.heap.size) [.slice avaB_Field nvaB_Field kvaB_Field, .int .i64 aB_Rules_Win, .int .i64 aB_Rules_Draw, .int .i64 aB_Rules_Loss, .slice avaB_Rules_Ladder nvaB_Rules_Ladder kvaB_Rules_Ladder, .bool aB_Rules_Again, .slice avaB_Games nvaB_Games kvaB_Games, .slice avaB_Fair nvaB_Fair kvaB_Fair, .slice avaB_Taken nvaB_Taken kvaB_Taken] ∧ OwN tBook w' (w3.heap.size) (w4.heap.size) [.slice avaB_Fieldx nvaB_Fieldx kvaB_Fieldx, .int .i64 aB_Rules_Win, .int .i64 aB_Rules_Draw, .int .i64 aB_Rules_Loss, .slice avaB_Rules_Ladderx nvaB_Rules_Ladderx kvaB_Rules_Ladderx, .bool aB_Rules_Again, .slice avaB_Gamesx nvaB_Gamesx kvaB_Gamesx, .slice avaB_Fairx nvaB_Fairx kvaB_Fairx, .slice avaB_Takenx nvaB_Takenx kvaB_Takenx] d_aB ∧ BoxN w' (w4.heap.size) [.slice avaB_Fieldx nvaB_Fieldx kvaB_Fieldx, .int .i64 aB_Rules_Win, .int .i64 aB_Rules_Draw, .int .i64 aB_Rules_Loss, .slice avaB_Rules_Ladderx nvaB_Rules_Ladderx kvaB_Rules_Ladderx, .bool aB_Rules_Again, .slice avaB_Gamesx nvaB_Gamesx kvaB_Gamesx, .slice avaB_Fairx nvaB_Fairx kvaB_Fairx, .slice avaB_Takenx nvaB_Takenx kvaB_Takenx] ∧ w5.heap.size ≤ w'.heap.size := ⟨_, rfl⟩
  have KS : Hid (∀ wa wb, S wa → Below wa.heap.size wa wb → S wb) := by subst HSd; exact fun wa wb h b => ⟨h.1.trans (b.mono h.1.size), h.2.1.below b, h.2.2.1.below b, h.2.2.2.1.below b, Nat.le_trans h.2.2.2.2 b.size⟩
  have OS : Hid (∀ wa, S wa → Below w.heap.size w wa ∧ BoxN wa (w.heap.size) [.slice avaB_Field nvaB_Field kvaB_Field, .int .i64 aB_Rules_Win, .int .i64 aB_Rules_Draw, .int .i64 aB_Rules_Loss, .slice avaB_Rules_Ladder nvaB_Rules_Ladder kvaB_Rules_Ladder, .bool aB_Rules_Again, .slice avaB_Games nvaB_Games kvaB_Games, .slice avaB_Fair nvaB_Fair kvaB_Fair, .slice avaB_Taken nvaB_Taken kvaB_Taken] ∧ OwN tBook wa (w3.heap.size) (w4.heap.size) [.slice avaB_Fieldx nvaB_Fieldx kvaB_Fieldx, .int .i64 aB_Rules_Win, .int .i64 aB_Rules_Draw, .int .i64 aB_Rules_Loss, .slice avaB_Rules_Ladderx nvaB_Rules_Ladderx kvaB_Rules_Ladderx, .bool aB_Rules_Again, .slice avaB_Gamesx nvaB_Gamesx kvaB_Gamesx, .slice avaB_Fairx nvaB_Fairx kvaB_Fairx, .slice avaB_Takenx nvaB_Takenx kvaB_Takenx] d_aB ∧ BoxN wa (w4.heap.size) [.slice avaB_Fieldx nvaB_Fieldx kvaB_Fieldx, .int .i64 aB_Rules_Win, .int .i64 aB_Rules_Draw, .int .i64 aB_Rules_Loss, .slice avaB_Rules_Ladderx nvaB_Rules_Ladderx kvaB_Rules_Ladderx, .bool aB_Rules_Again, .slice avaB_Gamesx nvaB_Gamesx kvaB_Gamesx, .slice avaB_Fairx nvaB_Fairx kvaB_Fairx, .slice avaB_Takenx nvaB_Takenx kvaB_Takenx] ∧ w5.heap.size ≤ wa.heap.size) := by subst HSd; exact fun wa h => h
  have IS : Hid (∀ wa, Below w.heap.size w wa ∧ BoxN wa (w.heap.size) [.slice avaB_Field nvaB_Field kvaB_Field, .int .i64 aB_Rules_Win, .int .i64 aB_Rules_Draw, .int .i64 aB_Rules_Loss, .slice avaB_Rules_Ladder nvaB_Rules_Ladder kvaB_Rules_Ladder, .bool aB_Rules_Again, .slice avaB_Games nvaB_Games kvaB_Games, .slice avaB_Fair nvaB_Fair kvaB_Fair, .slice avaB_Taken nvaB_Taken kvaB_Taken] ∧ OwN tBook wa (w3.heap.size) (w4.heap.size) [.slice avaB_Fieldx nvaB_Fieldx kvaB_Fieldx, .int .i64 aB_Rules_Win, .int .i64 aB_Rules_Draw, .int .i64 aB_Rules_Loss, .slice avaB_Rules_Ladderx nvaB_Rules_Ladderx kvaB_Rules_Ladderx, .bool aB_Rules_Again, .slice avaB_Gamesx nvaB_Gamesx kvaB_Gamesx, .slice avaB_Fairx nvaB_Fairx kvaB_Fairx, .slice avaB_Takenx nvaB_Takenx kvaB_Takenx] d_aB ∧ BoxN wa (w4.heap.size) [.slice avaB_Fieldx nvaB_Fieldx kvaB_Fieldx, .int .i64 aB_Rules_Win, .int .i64 aB_Rules_Draw, .int .i64 aB_Rules_Loss, .slice avaB_Rules_Ladderx nvaB_Rules_Ladderx kvaB_Rules_Ladderx, .bool aB_Rules_Again, .slice avaB_Gamesx nvaB_Gamesx kvaB_Gamesx, .slice avaB_Fairx nvaB_Fairx kvaB_Fairx, .slice avaB_Takenx nvaB_Takenx kvaB_Takenx] ∧ w5.heap.size ≤ wa.heap.size → S wa) := by subst HSd; exact fun wa h => h
  clear HSd
  go_wp2_with fail
  refine wp_region_held_drew (S := S) (by kernel_rfl) ?_ (fun hHeld => ?_)
  · exact IS.out _ ((fun (b : Below w5.heap.size w5 _) => ⟨HB.out.trans (b.mono HB.out.size), BX_aB.out.below b, OW_aBx.out.below b, BX_aBx.out.below b, Nat.le_trans LE.out b.size⟩) (Below.refl _ _).drew)
  refine wpAnyH_take (i := 0) (v := ?_) rfl (by kernel_rfl) (by kernel_rfl) (by kernel_rfl) (fun _ _ _ h => h) (Or.inl ⟨by rfl, ?_⟩) hHeld ?_
  rotate_left
  · (intro wa hSw; have K := OS.out _ hSw; have caBx_0 := (K.2.2.2.1).2 0 _ rfl; have caBx_1 := (K.2.2.2.1).2 1 _ rfl; have caBx_2 := (K.2.2.2.1).2 2 _ rfl; have caBx_3 := (K.2.2.2.1).2 3 _ rfl; have caBx_4 := (K.2.2.2.1).2 4 _ rfl; have caBx_5 := (K.2.2.2.1).2 5 _ rfl; have caBx_6 := (K.2.2.2.1).2 6 _ rfl; have caBx_7 := (K.2.2.2.1).2 7 _ rfl; have caBx_8 := (K.2.2.2.1).2 8 _ rfl; have caB_0 := (K.2.1).2 0 _ rfl; have caB_1 := (K.2.1).2 1 _ rfl; have caB_2 := (K.2.1).2 2 _ rfl; have caB_3 := (K.2.1).2 3 _ rfl; have caB_4 := (K.2.1).2 4 _ rfl; have caB_5 := (K.2.1).2 5 _ rfl; have caB_6 := (K.2.1).2 6 _ rfl; have caB_7 := (K.2.1).2 7 _ rfl; have caB_8 := (K.2.1).2 8 _ rfl; go_simp; try with_reducible rfl)
  simp only [Act.put, List.getElem_toArray, List.getElem_cons_zero, List.setIfInBounds_toArray, List.set_cons_zero, List.set_cons_succ]
  refine wpAnyH_take (i := 1) (v := ?_) rfl (by kernel_rfl) (by kernel_rfl) (by kernel_rfl) (fun _ _ _ h => h) (Or.inl ⟨by rfl, ?_⟩) hHeld ?_
  rotate_left
  · (intro wa hSw; have K := OS.out _ hSw; have caBx_0 := (K.2.2.2.1).2 0 _ rfl; have caBx_1 := (K.2.2.2.1).2 1 _ rfl; have caBx_2 := (K.2.2.2.1).2 2 _ rfl; have caBx_3 := (K.2.2.2.1).2 3 _ rfl; have caBx_4 := (K.2.2.2.1).2 4 _ rfl; have caBx_5 := (K.2.2.2.1).2 5 _ rfl; have caBx_6 := (K.2.2.2.1).2 6 _ rfl; have caBx_7 := (K.2.2.2.1).2 7 _ rfl; have caBx_8 := (K.2.2.2.1).2 8 _ rfl; have caB_0 := (K.2.1).2 0 _ rfl; have caB_1 := (K.2.1).2 1 _ rfl; have caB_2 := (K.2.1).2 2 _ rfl; have caB_3 := (K.2.1).2 3 _ rfl; have caB_4 := (K.2.1).2 4 _ rfl; have caB_5 := (K.2.1).2 5 _ rfl; have caB_6 := (K.2.1).2 6 _ rfl; have caB_7 := (K.2.1).2 7 _ rfl; have caB_8 := (K.2.1).2 8 _ rfl; go_simp; try with_reducible rfl)
  simp only [Act.put, List.getElem_toArray, List.getElem_cons_zero, List.getElem_cons_succ, List.setIfInBounds_toArray, List.set_cons_zero, List.set_cons_succ]
  refine wpAnyH_ready (rs := [2]) (by kernel_rfl) (by simp) ?_
  refine AllReadyH.cons (o := _) rfl (fun K hK => ?_) AllReadyH.nil
  go_simp
  have KK := OS.out _ hHeld
  refine (y_to_Book (.slice avaB_Field nvaB_Field kvaB_Field) aB_Rules_Win aB_Rules_Draw aB_Rules_Loss (.slice avaB_Rules_Ladder nvaB_Rules_Ladder kvaB_Rules_Ladder) aB_Rules_Again (.slice avaB_Games nvaB_Games kvaB_Games) (.slice avaB_Fair nvaB_Fair kvaB_Fair) (.slice avaB_Taken nvaB_Taken kvaB_Taken) d_aB _ (RdA.below HA_aB.out (KK.1)) SM_aB.out).mono ?_
  rintro e w106 ⟨vaB_Fieldt2, vaB_Rules_Laddert2, vaB_Gamest2, vaB_Fairt2, vaB_Takent2, rfl, ho, b106⟩
  have HT_aBt2 := Lib.hid ho.rdA
  clear ho
  clear KK
  (try go_wp2_with fail)
  refine hK.out _ _ ?_ (fun hHeld106 => ?_)
  · exact KS.out _ _ hHeld b106
  clear hK K
  refine wpAnyH_ready (rs := [3]) (by kernel_rfl) (by simp) ?_
  refine AllReadyH.cons (o := _) rfl (fun K hK => ?_) AllReadyH.nil
  go_simp
  have KK := OS.out _ hHeld106
  refine (y_eq_Book (.slice avaB_Fieldx nvaB_Fieldx kvaB_Fieldx) aB_Rules_Win aB_Rules_Draw aB_Rules_Loss (.slice avaB_Rules_Ladderx nvaB_Rules_Ladderx kvaB_Rules_Ladderx) aB_Rules_Again (.slice avaB_Gamesx nvaB_Gamesx kvaB_Gamesx) (.slice avaB_Fairx nvaB_Fairx kvaB_Fairx) (.slice avaB_Takenx nvaB_Takenx kvaB_Takenx) (vaB_Fieldt2) (vaB_Rules_Laddert2) (vaB_Gamest2) (vaB_Fairt2) (vaB_Takent2) d_aB _ (KK.2.2.1).rdA HT_aBt2.out).mono ?_
  rintro e w107 ⟨rfl, b107⟩
  clear HT_aBt2
  clear KK
  (try go_wp2_with fail)
  refine hK.out _ _ ?_ (fun hHeld107 => ?_)
  · exact KS.out _ _ hHeld106 b107
  clear hK K
  clear hHeld106
  refine wpAnyH_take (i := 4) (v := ?_) rfl (by kernel_rfl) (by kernel_rfl) (by kernel_rfl) (fun _ _ _ h => h) (Or.inl ⟨by rfl, ?_⟩) hHeld107 ?_
  rotate_left
  · (intro wa hSw; go_simp; try with_reducible rfl)
  simp only [Act.put, List.getElem_toArray, List.getElem_cons_zero, List.getElem_cons_succ, List.setIfInBounds_toArray, List.set_cons_zero, List.set_cons_succ]
  refine wpAnyH_done (by kernel_rfl) ?_ _
  have KE := Lib.hid (OS.out _ hHeld107)
  clear KS OS IS hHeld hHeld107
  have Z107 := Lib.hid (KE.out.2.2.2.2)
  replace HB := Lib.hid (KE.out.1)
  replace BX_aB := Lib.hid (KE.out.2.1)
  replace OW_aBx := Lib.hid (KE.out.2.2.1)
  replace BX_aBx := Lib.hid (KE.out.2.2.2.1)
  clear KE LE
  go_wp2
  go_ret
  exact ⟨rfl, HB.out⟩
set_option maxRecDepth 100000 in
theorem lifted (os : Os) (started : os.Started) (H : Type) (enc : TypeId × Value → H) :
    ReturnsInHanded {} Tryz.checked os 5 .any (Rows.fnExactStandsAboveSpec.pre6 enc Tryz.prog Tryz.f5 Rows.fnExactStandsAboveRow.domain false) (Rows.fnExactStandsAboveSpec.post enc Tryz.prog Tryz.f5 false true false false) := by
  refine returnsInHanded_of_change (C := Tryz.checked) own started (by kernel_rfl) Tryz.func5
    (ChangeSpec.witness6 (enc := enc) (C := Tryz.checked) false ⟨#[], #[.agg #[.slice none 0 0, .int .i64 0, .int .i64 0, .int .i64 0, .slice none 0 0, .bool false, .slice none 0 0, .slice none 0 0, .slice none 0 0], .int .i64 0, .int .i64 0], []⟩ 8 (by kernel_rfl) (by kernel_rfl) (by kernel_rfl) (by kernel_rfl)) ?_
  intro W base args ds gs before hval0 hW hcnd _
  have hval : ∀ (j : Nat) t v, Tryz.f5.params[j]? = some t → args[j]? = some v → Value.okWide Tryz.prog W .any base t v := hval0
  have hW' := hW
  obtain ⟨p, q, hA0, hV, rfl, hfz, hnd⟩ := hW
  have hA : DataW.TrodAll enc Tryz.prog W 0 (fun _ => true) true Tryz.f5.params.toList args.toList ds p := hA0
  rw [Tryz.params5] at hA hval
  obtain ⟨v0, vs0, d0, ds0, p0, q0, hargs, rfl, rfl, h0, r0⟩ := trodAll_cons hA
  obtain ⟨v1, vs1, d1, ds1, p1, q1, rfl, rfl, rfl, h1, r1⟩ := trodAll_cons r0
  obtain ⟨v2, vs2, d2, ds2, p2, q2, rfl, rfl, rfl, h2, r2⟩ := trodAll_cons r1
  obtain ⟨rfl, rfl, rfl⟩ := trodAll_nil r2
  obtain rfl : args = #[v0, v1, v2] := by cases args; simp_all
  obtain ⟨rfl, rfl⟩ := trodVars_none hV
  have k0 := h0
  have lt0 : ∀ x ∈ p0, x.block < W.heap.size := by obtain ⟨m, hm⟩ := k0; exact DataW.trod_lt m _ _ _ hm
  obtain ⟨cs0, rfl, x0, y0, f0⟩ := open_arg opens_Book Tryz.underlying42 (hval 0 42 v0 rfl rfl) h0
  obtain ⟨vz0_Field, z0_Rules_Win, z0_Rules_Draw, z0_Rules_Loss, vz0_Rules_Ladder, z0_Rules_Again, vz0_Games, vz0_Fair, vz0_Taken, e0⟩ := form_Book y0
  obtain rfl : cs0 = #[vz0_Field, .int .i64 z0_Rules_Win, .int .i64 z0_Rules_Draw, .int .i64 z0_Rules_Loss, vz0_Rules_Ladder, .bool z0_Rules_Again, vz0_Games, vz0_Fair, vz0_Taken] := Array.toList_inj.1 e0
  obtain ⟨a1, rfl, rfl, rfl, w1⟩ := open_int Tryz.underlying3 (hval 1 3 v1 rfl rfl) h1
  obtain ⟨a2, rfl, rfl, rfl, w2⟩ := open_int Tryz.underlying3 (hval 2 3 v2 rfl rfl) h2
  clear hA0 hval0
  simp only [List.append_nil] at hW'
  refine (walk vz0_Field z0_Rules_Win z0_Rules_Draw z0_Rules_Loss vz0_Rules_Ladder z0_Rules_Again vz0_Games vz0_Fair vz0_Taken x0 a1 a2 W y0 f0 (intFit_of w1) (intFit_of w2)).mono fun e W' ⟨he, bel⟩ => ?_
  subst he
  exact ⟨_, rfl, _, _, _, [], _, [], hW', trodAll_mk1 (shut_bool Tryz.underlying4 _), (trodAll_cons_mk (Below.trod laidOut (by kernel_rfl) (of_decide_eq_true (by kernel_rfl)) k0 bel lt0) (trodAll_cons_mk (shut_int Tryz.underlying3 w1) (trodAll_cons_mk (shut_int Tryz.underlying3 w2) trodAll_mk0))), rfl, bel.frame _, fun h => by cases h⟩

theorem over : Rows.fnExactStandsAboveRow.holds Tryz.pinned (OpenSpec.ofChange Rows.fnExactStandsAboveSpec) :=
  OpenClaim.holds_of_wide 5 Tryz.f5 rfl rfl rfl rfl rfl rfl rfl ⟨rfl, rfl, rfl, rfl, rfl⟩ rfl rfl rfl rfl rfl (by kernel_rfl) Tryz.func5 (by kernel_rfl)
    (of_decide_eq_true (by kernel_rfl)) (by unfold Func.isWrapper; first | (rw [if_pos (by decide +kernel)]; kernel_rfl) | (rw [if_neg (by decide +kernel)]; exact ⟨rfl, rfl⟩))
    (fun os started H enc _ => lifted os started H enc)

theorem proved : Rows.FnExactStandsAboveSaid := over
end Go.Proofs.YteciobkjfmddcaaGreat.fnExactStandsAbove
