/-
  The law FnExactRankFrom holds for every argument: the program answers as the model does.
-/
import Derived.Test.YtakbolkdbpehoaaGreatRows
import Derived.WalkKit
import Derived.ProofKit
import Derived.OpenShut
import Derived.ShutString
import Derived.ChangeOld
import Derived.Below
import Derived.Lib.Hide
import Derived.Deep.RegionHeld3
import Derived.Test.YtakbolkdbpehoaaGreatQ1
import Derived.Test.YtakbolkdbpehoaaGreatQ18
import Derived.Test.YtakbolkdbpehoaaGreatQ19
import Derived.Test.YtakbolkdbpehoaaGreatQ20
import Derived.Test.YtakbolkdbpehoaaGreatQ21
import Derived.Test.YtakbolkdbpehoaaGreatQ22
namespace Go.Proofs.YtakbolkdbpehoaaGreat.fnExactRankFrom
open Go.ChangeShapes Go.WideShapes Go.ChangeAt Go.RowKit
open Go.ChangeMaps (open_string shut_string)
set_option linter.unusedVariables false

theorem own : ownKnob Tryz.prog.godebug = none := by kernel_rfl
theorem laidOut : laidOutB Tryz.prog = true := by kernel_rfl

set_option maxHeartbeats 4000000 in
set_option maxRecDepth 100000 in
theorem walk (vaB_Field : Value) (aB_Rules_Win : Int) (aB_Rules_Draw : Int) (aB_Rules_Loss : Int) (vaB_Rules_Ladder : Value) (aB_Rules_Again : Bool) (vaB_Games : Value) (vaB_Fair : Value) (vaB_Taken : Value) (d_aB : tBook.D) (vaGroup : Value) (d_aGroup : tIntS.D) (aStep : Int) (w : World) (h_aB : RdA tBook w [vaB_Field, .int .i64 aB_Rules_Win, .int .i64 aB_Rules_Draw, .int .i64 aB_Rules_Loss, vaB_Rules_Ladder, .bool aB_Rules_Again, vaB_Games, vaB_Fair, vaB_Taken] d_aB) (f_aB : tBook.fit d_aB) (h_aGroup : RdA tIntS w [vaGroup] d_aGroup) (f_aGroup : tIntS.fit d_aGroup) (f_aStep : IntFit aStep) :
    Calls Tryz.prog 5 #[.agg #[vaB_Field, .int .i64 aB_Rules_Win, .int .i64 aB_Rules_Draw, .int .i64 aB_Rules_Loss, vaB_Rules_Ladder, .bool aB_Rules_Again, vaB_Games, vaB_Fair, vaB_Taken], vaGroup, .int .i64 aStep] w fun e w' => e = .returned (.bool true) ∧ Below w.heap.size w w' := by
  obtain ⟨d_r0, nb0, CS, CI⟩ : ∃ (d_r0 : tIntSS.D), (tBook.wt d_aB ≤ 1048576 → tIntS.wt d_aGroup ≤ 1048576 → tIntSS.mks d_r0 ≤ 100000000000) ∧ Hid (∀ (vaB_Field : Value) (vaB_Rules_Ladder : Value) (vaB_Games : Value) (vaB_Fair : Value) (vaB_Taken : Value) (vaGroup : Value) (w1 : World), RdA tBook w1 [vaB_Field, .int .i64 aB_Rules_Win, .int .i64 aB_Rules_Draw, .int .i64 aB_Rules_Loss, vaB_Rules_Ladder, .bool aB_Rules_Again, vaB_Games, vaB_Fair, vaB_Taken] d_aB → RdA tIntS w1 [vaGroup] d_aGroup → tBook.wt d_aB ≤ 1048576 → tIntS.wt d_aGroup ≤ 1048576 → Calls Tryz.prog 29 #[.agg #[vaB_Field, .int .i64 aB_Rules_Win, .int .i64 aB_Rules_Draw, .int .i64 aB_Rules_Loss, vaB_Rules_Ladder, .bool aB_Rules_Again, vaB_Games, vaB_Fair, vaB_Taken], vaGroup, .int .i64 aStep] w1 fun e w' => ∃ vr0 : Value, e = .returned (vr0) ∧ OwN tIntSS w' w1.heap.size w'.heap.size [vr0] d_r0 ∧ Below w1.heap.size w1 w') ∧ Hid (∀ (vaB_Field : Value) (vaB_Rules_Ladder : Value) (vaB_Games : Value) (vaB_Fair : Value) (vaB_Taken : Value) (vaGroup : Value) (w1 : World), RdA tBook w1 [vaB_Field, .int .i64 aB_Rules_Win, .int .i64 aB_Rules_Draw, .int .i64 aB_Rules_Loss, vaB_Rules_Ladder, .bool aB_Rules_Again, vaB_Games, vaB_Fair, vaB_Taken] d_aB → RdA tIntS w1 [vaGroup] d_aGroup → tBook.wt d_aB ≤ 1048576 → tIntS.wt d_aGroup ≤ 1048576 → Calls Tryz.prog 30 #[.agg #[vaB_Field, .int .i64 aB_Rules_Win, .int .i64 aB_Rules_Draw, .int .i64 aB_Rules_Loss, vaB_Rules_Ladder, .bool aB_Rules_Again, vaB_Games, vaB_Fair, vaB_Taken], vaGroup, .int .i64 aStep] w1 fun e w' => ∃ vr0 : Value, e = .returned (vr0) ∧ OwN tIntSS w' w1.heap.size w'.heap.size [vr0] d_r0 ∧ Below w1.heap.size w1 w') := by
    obtain ⟨R, hR⟩ := boolEx (fromP (bookOf aB_Rules_Win aB_Rules_Draw aB_Rules_Loss aB_Rules_Again d_aB) (List.length (α := Int) d_aGroup) (getI d_aGroup) aStep)
    exact ⟨_, fun _ hg => marks_if (rank_flat _ _ _) (ints_n hg), fun v0 v1 v2 v3 v4 gv w1 h hg _ s => (rankFrom_spec v0 v1 v2 v3 v4 (bookOf aB_Rules_Win aB_Rules_Draw aB_Rules_Loss aB_Rules_Again d_aB) d_aGroup aStep gv R w1 hR (bookRow h) (bookNames f_aB) (ints_of hg) (ints_n s) (step_fit f_aStep)).mono fun e w' h => h.owN,
      fun v0 v1 v2 v3 v4 gv w1 h hg _ s => (rankFrom_impl v0 v1 v2 v3 v4 (bookOf aB_Rules_Win aB_Rules_Draw aB_Rules_Loss aB_Rules_Again d_aB) d_aGroup aStep gv R w1 hR (bookRow h) (bookNames f_aB) (ints_of hg) (ints_n s) (step_fit f_aStep)).mono fun e w' h => h.owN⟩
  have HB : Hid (Below w.heap.size w w) := Below.refl _ _
  have HNB0 := Lib.hid nb0
  clear nb0
  have HA_aB := Lib.hid h_aB
  have HF_aB := Lib.hid f_aB
  clear h_aB f_aB
  have hsp := HA_aB.out
  obtain ⟨avaB_Field, nvaB_Field, kvaB_Field, hvaB_Field⟩ := rd_slice (rd_splitB hsp).1
  replace hsp := (rd_splitB hsp).2
  have hsq := (rd_splitB hsp).1
  replace hsq := (rd_splitB hsq).2
  replace hsq := (rd_splitB hsq).2
  replace hsq := (rd_splitB hsq).2
  obtain ⟨avaB_Rules_Ladder, nvaB_Rules_Ladder, kvaB_Rules_Ladder, hvaB_Rules_Ladder⟩ := rd_slice (rd_splitB hsq).1
  replace hsq := (rd_splitB hsq).2
  clear hsq
  replace hsp := (rd_splitB hsp).2
  obtain ⟨avaB_Games, nvaB_Games, kvaB_Games, hvaB_Games⟩ := rd_slice (rd_splitB hsp).1
  replace hsp := (rd_splitB hsp).2
  obtain ⟨avaB_Fair, nvaB_Fair, kvaB_Fair, hvaB_Fair⟩ := rd_slice (rd_splitB hsp).1
  replace hsp := (rd_splitB hsp).2
  obtain ⟨avaB_Taken, nvaB_Taken, kvaB_Taken, hvaB_Taken⟩ := rd_slice hsp
  clear hsp
  subst hvaB_Field
  subst hvaB_Rules_Ladder
  subst hvaB_Games
  subst hvaB_Fair
  subst hvaB_Taken
  obtain ⟨sa_aGroup, sc_aGroup, hv_aGroup, hm_aGroup⟩ := rd_row_form h_aGroup
  obtain ⟨n_aGroup, hn_aGroup⟩ : ∃ n, List.length d_aGroup = n := ⟨_, rfl⟩
  rw [hn_aGroup] at hv_aGroup hm_aGroup
  subst hv_aGroup
  have HN_aGroup := Lib.hid hn_aGroup
  clear hn_aGroup
  have HA_aGroup := Lib.hid h_aGroup
  have HF_aGroup := Lib.hid f_aGroup
  clear h_aGroup f_aGroup
  replace HB := Lib.hid (HB.out.trans (((Below.refl w.heap.size w).alloc (Nat.le_refl _) (.cells #[.slice avaB_Field nvaB_Field kvaB_Field, .int .i64 aB_Rules_Win, .int .i64 aB_Rules_Draw, .int .i64 aB_Rules_Loss, .slice avaB_Rules_Ladder nvaB_Rules_Ladder kvaB_Rules_Ladder, .bool aB_Rules_Again, .slice avaB_Games nvaB_Games kvaB_Games, .slice avaB_Fair nvaB_Fair kvaB_Fair, .slice avaB_Taken nvaB_Taken kvaB_Taken] 46)).mono HB.out.size))
  have BX_aB : Hid (BoxN (w.alloc (.cells #[.slice avaB_Field nvaB_Field kvaB_Field, .int .i64 aB_Rules_Win, .int .i64 aB_Rules_Draw, .int .i64 aB_Rules_Loss, .slice avaB_Rules_Ladder nvaB_Rules_Ladder kvaB_Rules_Ladder, .bool aB_Rules_Again, .slice avaB_Games nvaB_Games kvaB_Games, .slice avaB_Fair nvaB_Fair kvaB_Fair, .slice avaB_Taken nvaB_Taken kvaB_Taken] 46)) (w.heap.size) [.slice avaB_Field nvaB_Field kvaB_Field, .int .i64 aB_Rules_Win, .int .i64 aB_Rules_Draw, .int .i64 aB_Rules_Loss, .slice avaB_Rules_Ladder nvaB_Rules_Ladder kvaB_Rules_Ladder, .bool aB_Rules_Again, .slice avaB_Games nvaB_Games kvaB_Games, .slice avaB_Fair nvaB_Fair kvaB_Fair, .slice avaB_Taken nvaB_Taken kvaB_Taken]) := BoxN.made (Below.refl _ _) (by first | rfl | simp | (simp; done))
  by_cases hl_aGroup : 1048576 < n_aGroup
  · have g0 : decide ((1048576 : Int) < (n_aGroup : Int)) = true := decide_eq_true (by omega)
    have g0' : decide (1048576 < n_aGroup) = true := decide_eq_true (by omega)
    go_enter Tryz.func5, Tryz.ntmps5
    go_wp2
    go_ret
    exact ⟨rfl, HB.out⟩
  have hs_aGroup : n_aGroup ≤ 1048576 := by omega
  have hg_aGroup : decide ((1048576 : Int) < (n_aGroup : Int)) = false := decide_eq_false (by omega)
  have hg2_aGroup : decide (1048576 < n_aGroup) = false := decide_eq_false (by omega)
  have SM_aGroup : Hid (tIntS.wt d_aGroup ≤ 1048576) := Nat.le_trans (Nat.le_of_eq ((wt_IntS d_aGroup).trans HN_aGroup.out)) hs_aGroup
  clear hl_aGroup
  go_enter Tryz.func5, Tryz.ntmps5
  have caB_0 := BX_aB.out.2 0 _ rfl
  have caB_1 := BX_aB.out.2 1 _ rfl
  have caB_2 := BX_aB.out.2 2 _ rfl
  have caB_3 := BX_aB.out.2 3 _ rfl
  have caB_4 := BX_aB.out.2 4 _ rfl
  have caB_5 := BX_aB.out.2 5 _ rfl
  have caB_6 := BX_aB.out.2 6 _ rfl
  have caB_7 := BX_aB.out.2 7 _ rfl
  have caB_8 := BX_aB.out.2 8 _ rfl
  have caB_lt := BX_aB.out.1
  go_wp2_with fail
  refine (y_sz_Book (.slice avaB_Field nvaB_Field kvaB_Field) aB_Rules_Win aB_Rules_Draw aB_Rules_Loss (.slice avaB_Rules_Ladder nvaB_Rules_Ladder kvaB_Rules_Ladder) aB_Rules_Again (.slice avaB_Games nvaB_Games kvaB_Games) (.slice avaB_Fair nvaB_Fair kvaB_Fair) (.slice avaB_Taken nvaB_Taken kvaB_Taken) d_aB (1048576) _ (by omega) (by omega) (RdA.below HA_aB.out HB.out) HF_aB.out).mono ?_
  rintro e w1 ⟨⟨r1, rfl, hr1⟩, b1⟩
  clear caB_0 caB_1 caB_2 caB_3 caB_4 caB_5 caB_6 caB_7 caB_8 caB_lt
  have Z1 : Hid (w.heap.size + 1 ≤ w1.heap.size) := (by have := b1.size; simp at this; show _ ≤ _; omega)
  replace HB := Lib.hid (HB.out.trans (b1.mono HB.out.size))
  replace BX_aB := Lib.hid (BX_aB.out.below b1)
  by_cases hn1 : r1 < 0
  · have g2 : decide (r1 < 0) = true := decide_eq_true hn1
    clear hr1
    go_wp2
    go_ret
    exact ⟨rfl, HB.out⟩
  have g1 : decide (r1 < 0) = false := decide_eq_false hn1
  have SM_aB : Hid (tBook.wt d_aB ≤ 1048576) := (by show _ ≤ _; omega)
  replace hn1 : 0 ≤ r1 ∧ r1 ≤ 1048576 := by omega
  clear hr1
  have caB_0 := BX_aB.out.2 0 _ rfl
  have caB_1 := BX_aB.out.2 1 _ rfl
  have caB_2 := BX_aB.out.2 2 _ rfl
  have caB_3 := BX_aB.out.2 3 _ rfl
  have caB_4 := BX_aB.out.2 4 _ rfl
  have caB_5 := BX_aB.out.2 5 _ rfl
  have caB_6 := BX_aB.out.2 6 _ rfl
  have caB_7 := BX_aB.out.2 7 _ rfl
  have caB_8 := BX_aB.out.2 8 _ rfl
  have caB_lt := BX_aB.out.1
  go_wp2_with fail
  refine (y_to_Book (.slice avaB_Field nvaB_Field kvaB_Field) aB_Rules_Win aB_Rules_Draw aB_Rules_Loss (.slice avaB_Rules_Ladder nvaB_Rules_Ladder kvaB_Rules_Ladder) aB_Rules_Again (.slice avaB_Games nvaB_Games kvaB_Games) (.slice avaB_Fair nvaB_Fair kvaB_Fair) (.slice avaB_Taken nvaB_Taken kvaB_Taken) d_aB _ (RdA.below HA_aB.out HB.out) SM_aB.out).mono ?_
  rintro e w2 ⟨vaB_Fieldt1, vaB_Rules_Laddert1, vaB_Gamest1, vaB_Fairt1, vaB_Takent1, rfl, ho, b2⟩
  clear caB_0 caB_1 caB_2 caB_3 caB_4 caB_5 caB_6 caB_7 caB_8 caB_lt
  have Z2 : Hid (w1.heap.size ≤ w2.heap.size) := (by have := b2.size; show _ ≤ _; omega)
  replace HB := Lib.hid (HB.out.trans (b2.mono HB.out.size))
  replace BX_aB := Lib.hid (BX_aB.out.below b2)
  have OW_aBt1 := Lib.hid (ho.mono (lo' := w1.heap.size) (hi' := w2.heap.size) (by have := Z1.out; have := Z2.out; (try simp only [World.alloc, Array.size_push]); omega) (Nat.le_refl _) (Nat.le_refl _))
  clear ho
  have caB_0 := BX_aB.out.2 0 _ rfl
  have caB_1 := BX_aB.out.2 1 _ rfl
  have caB_2 := BX_aB.out.2 2 _ rfl
  have caB_3 := BX_aB.out.2 3 _ rfl
  have caB_4 := BX_aB.out.2 4 _ rfl
  have caB_5 := BX_aB.out.2 5 _ rfl
  have caB_6 := BX_aB.out.2 6 _ rfl
  have caB_7 := BX_aB.out.2 7 _ rfl
  have caB_8 := BX_aB.out.2 8 _ rfl
  have caB_lt := BX_aB.out.1
  go_wp2_with fail
  refine (y_to_IntS (.slice sa_aGroup n_aGroup sc_aGroup) d_aGroup _ (RdA.below HA_aGroup.out HB.out) SM_aGroup.out).mono ?_
  rintro e w3 ⟨vaGroupt2, rfl, ho, b3⟩
  clear caB_0 caB_1 caB_2 caB_3 caB_4 caB_5 caB_6 caB_7 caB_8 caB_lt
  have Z3 : Hid (w2.heap.size ≤ w3.heap.size) := (by have := b3.size; show _ ≤ _; omega)
  replace HB := Lib.hid (HB.out.trans (b3.mono HB.out.size))
  replace BX_aB := Lib.hid (BX_aB.out.below b3)
  replace OW_aBt1 := Lib.hid (OW_aBt1.out.below b3)
  have OW_aGroupt2 := Lib.hid (ho.mono (lo' := w2.heap.size) (hi' := w3.heap.size) (by have := Z1.out; have := Z2.out; have := Z3.out; (try simp only [World.alloc, Array.size_push]); omega) (Nat.le_refl _) (Nat.le_refl _))
  clear ho
  go_wp2_with fail
  refine (CS.out (vaB_Fieldt1) (vaB_Rules_Laddert1) (vaB_Gamest1) (vaB_Fairt1) (vaB_Takent1) (vaGroupt2) _ OW_aBt1.out.rdA OW_aGroupt2.out.rdA SM_aB.out SM_aGroup.out).mono ?_
  rintro e w4 ⟨vr0s, rfl, ho, b4⟩
  have Z4 : Hid (w3.heap.size ≤ w4.heap.size) := (by have := b4.size; show _ ≤ _; omega)
  replace HB := Lib.hid (HB.out.trans (b4.mono HB.out.size))
  replace BX_aB := Lib.hid (BX_aB.out.below b4)
  replace OW_aBt1 := Lib.hid (OW_aBt1.out.below b4)
  replace OW_aGroupt2 := Lib.hid (OW_aGroupt2.out.below b4)
  clear OW_aBt1 OW_aGroupt2
  have OW_r0s := Lib.hid (ho.mono (lo' := w1.heap.size) (hi' := w4.heap.size) (by have := Z1.out; have := Z2.out; have := Z3.out; have := Z4.out; (try simp only [World.alloc, Array.size_push]); omega) (Nat.le_refl _) (Nat.le_refl _))
  clear ho
  have caB_0 := BX_aB.out.2 0 _ rfl
  have caB_1 := BX_aB.out.2 1 _ rfl
  have caB_2 := BX_aB.out.2 2 _ rfl
  have caB_3 := BX_aB.out.2 3 _ rfl
  have caB_4 := BX_aB.out.2 4 _ rfl
  have caB_5 := BX_aB.out.2 5 _ rfl
  have caB_6 := BX_aB.out.2 6 _ rfl
  have caB_7 := BX_aB.out.2 7 _ rfl
  have caB_8 := BX_aB.out.2 8 _ rfl
  have caB_lt := BX_aB.out.1
  go_wp2_with fail
  refine (y_to_Book (.slice avaB_Field nvaB_Field kvaB_Field) aB_Rules_Win aB_Rules_Draw aB_Rules_Loss (.slice avaB_Rules_Ladder nvaB_Rules_Ladder kvaB_Rules_Ladder) aB_Rules_Again (.slice avaB_Games nvaB_Games kvaB_Games) (.slice avaB_Fair nvaB_Fair kvaB_Fair) (.slice avaB_Taken nvaB_Taken kvaB_Taken) d_aB _ (RdA.below HA_aB.out HB.out) SM_aB.out).mono ?_
  rintro e w5 ⟨vaB_Fieldx, vaB_Rules_Ladderx, vaB_Gamesx, vaB_Fairx, vaB_Takenx, rfl, ho, b5⟩
  clear caB_0 caB_1 caB_2 caB_3 caB_4 caB_5 caB_6 caB_7 caB_8 caB_lt
  have Z5 : Hid (w4.heap.size ≤ w5.heap.size) := (by have := b5.size; show _ ≤ _; omega)
  replace HB := Lib.hid (HB.out.trans (b5.mono HB.out.size))
  replace BX_aB := Lib.hid (BX_aB.out.below b5)
  replace OW_r0s := Lib.hid (OW_r0s.out.below b5)
  have OW_aBx := Lib.hid (ho.mono (lo' := w4.heap.size) (hi' := w5.heap.size) (by have := Z1.out; have := Z2.out; have := Z3.out; have := Z4.out; have := Z5.out; (try simp only [World.alloc, Array.size_push]); omega) (Nat.le_refl _) (Nat.le_refl _))
  clear ho
  have hsp := OW_aBx.out.rd
  obtain ⟨avaB_Fieldx, nvaB_Fieldx, kvaB_Fieldx, hvaB_Fieldx⟩ := rd_slice (rd_splitB hsp).1
  replace hsp := (rd_splitB hsp).2
  have hsq := (rd_splitB hsp).1
  replace hsq := (rd_splitB hsq).2
  replace hsq := (rd_splitB hsq).2
  replace hsq := (rd_splitB hsq).2
  obtain ⟨avaB_Rules_Ladderx, nvaB_Rules_Ladderx, kvaB_Rules_Ladderx, hvaB_Rules_Ladderx⟩ := rd_slice (rd_splitB hsq).1
  replace hsq := (rd_splitB hsq).2
  clear hsq
  replace hsp := (rd_splitB hsp).2
  obtain ⟨avaB_Gamesx, nvaB_Gamesx, kvaB_Gamesx, hvaB_Gamesx⟩ := rd_slice (rd_splitB hsp).1
  replace hsp := (rd_splitB hsp).2
  obtain ⟨avaB_Fairx, nvaB_Fairx, kvaB_Fairx, hvaB_Fairx⟩ := rd_slice (rd_splitB hsp).1
  replace hsp := (rd_splitB hsp).2
  obtain ⟨avaB_Takenx, nvaB_Takenx, kvaB_Takenx, hvaB_Takenx⟩ := rd_slice hsp
  clear hsp
  subst hvaB_Fieldx
  subst hvaB_Rules_Ladderx
  subst hvaB_Gamesx
  subst hvaB_Fairx
  subst hvaB_Takenx
  replace HB := Lib.hid (HB.out.trans (((Below.refl w5.heap.size w5).alloc (Nat.le_refl _) (.cells #[.slice avaB_Fieldx nvaB_Fieldx kvaB_Fieldx, .int .i64 aB_Rules_Win, .int .i64 aB_Rules_Draw, .int .i64 aB_Rules_Loss, .slice avaB_Rules_Ladderx nvaB_Rules_Ladderx kvaB_Rules_Ladderx, .bool aB_Rules_Again, .slice avaB_Gamesx nvaB_Gamesx kvaB_Gamesx, .slice avaB_Fairx nvaB_Fairx kvaB_Fairx, .slice avaB_Takenx nvaB_Takenx kvaB_Takenx] 29)).mono HB.out.size))
  replace BX_aB := Lib.hid (BX_aB.out.below ((Below.refl w5.heap.size w5).alloc (Nat.le_refl _) (.cells #[.slice avaB_Fieldx nvaB_Fieldx kvaB_Fieldx, .int .i64 aB_Rules_Win, .int .i64 aB_Rules_Draw, .int .i64 aB_Rules_Loss, .slice avaB_Rules_Ladderx nvaB_Rules_Ladderx kvaB_Rules_Ladderx, .bool aB_Rules_Again, .slice avaB_Gamesx nvaB_Gamesx kvaB_Gamesx, .slice avaB_Fairx nvaB_Fairx kvaB_Fairx, .slice avaB_Takenx nvaB_Takenx kvaB_Takenx] 29)))
  replace OW_r0s := Lib.hid (OW_r0s.out.below ((Below.refl w5.heap.size w5).alloc (Nat.le_refl _) (.cells #[.slice avaB_Fieldx nvaB_Fieldx kvaB_Fieldx, .int .i64 aB_Rules_Win, .int .i64 aB_Rules_Draw, .int .i64 aB_Rules_Loss, .slice avaB_Rules_Ladderx nvaB_Rules_Ladderx kvaB_Rules_Ladderx, .bool aB_Rules_Again, .slice avaB_Gamesx nvaB_Gamesx kvaB_Gamesx, .slice avaB_Fairx nvaB_Fairx kvaB_Fairx, .slice avaB_Takenx nvaB_Takenx kvaB_Takenx] 29)))
  replace OW_aBx := Lib.hid (OW_aBx.out.below ((Below.refl w5.heap.size w5).alloc (Nat.le_refl _) (.cells #[.slice avaB_Fieldx nvaB_Fieldx kvaB_Fieldx, .int .i64 aB_Rules_Win, .int .i64 aB_Rules_Draw, .int .i64 aB_Rules_Loss, .slice avaB_Rules_Ladderx nvaB_Rules_Ladderx kvaB_Rules_Ladderx, .bool aB_Rules_Again, .slice avaB_Gamesx nvaB_Gamesx kvaB_Gamesx, .slice avaB_Fairx nvaB_Fairx kvaB_Fairx, .slice avaB_Takenx nvaB_Takenx kvaB_Takenx] 29)))
  have BX_aBx : Hid (BoxN (w5.alloc (.cells #[.slice avaB_Fieldx nvaB_Fieldx kvaB_Fieldx, .int .i64 aB_Rules_Win, .int .i64 aB_Rules_Draw, .int .i64 aB_Rules_Loss, .slice avaB_Rules_Ladderx nvaB_Rules_Ladderx kvaB_Rules_Ladderx, .bool aB_Rules_Again, .slice avaB_Gamesx nvaB_Gamesx kvaB_Gamesx, .slice avaB_Fairx nvaB_Fairx kvaB_Fairx, .slice avaB_Takenx nvaB_Takenx kvaB_Takenx] 29)) (w5.heap.size) [.slice avaB_Fieldx nvaB_Fieldx kvaB_Fieldx, .int .i64 aB_Rules_Win, .int .i64 aB_Rules_Draw, .int .i64 aB_Rules_Loss, .slice avaB_Rules_Ladderx nvaB_Rules_Ladderx kvaB_Rules_Ladderx, .bool aB_Rules_Again, .slice avaB_Gamesx nvaB_Gamesx kvaB_Gamesx, .slice avaB_Fairx nvaB_Fairx kvaB_Fairx, .slice avaB_Takenx nvaB_Takenx kvaB_Takenx]) := BoxN.made (Below.refl _ _) (by first | rfl | simp | (simp; done))
  go_wp2_with fail
  refine (y_to_IntS (.slice sa_aGroup n_aGroup sc_aGroup) d_aGroup _ (RdA.below HA_aGroup.out HB.out) SM_aGroup.out).mono ?_
  rintro e w6 ⟨vaGroupx, rfl, ho, b6⟩
  have Z6 : Hid (w5.heap.size + 1 ≤ w6.heap.size) := (by have := b6.size; simp at this; show _ ≤ _; omega)
  replace HB := Lib.hid (HB.out.trans (b6.mono HB.out.size))
  replace BX_aB := Lib.hid (BX_aB.out.below b6)
  replace OW_r0s := Lib.hid (OW_r0s.out.below b6)
  replace OW_aBx := Lib.hid (OW_aBx.out.below b6)
  replace BX_aBx := Lib.hid (BX_aBx.out.below b6)
  have OW_aGroupx := Lib.hid (ho.mono (lo' := w5.heap.size + 1) (hi' := w6.heap.size) (by have := Z1.out; have := Z2.out; have := Z3.out; have := Z4.out; have := Z5.out; have := Z6.out; (try simp only [World.alloc, Array.size_push]); omega) (Nat.le_refl _) (Nat.le_refl _))
  clear ho
  have caBx_0 := BX_aBx.out.2 0 _ rfl
  have caBx_1 := BX_aBx.out.2 1 _ rfl
  have caBx_2 := BX_aBx.out.2 2 _ rfl
  have caBx_3 := BX_aBx.out.2 3 _ rfl
  have caBx_4 := BX_aBx.out.2 4 _ rfl
  have caBx_5 := BX_aBx.out.2 5 _ rfl
  have caBx_6 := BX_aBx.out.2 6 _ rfl
  have caBx_7 := BX_aBx.out.2 7 _ rfl
  have caBx_8 := BX_aBx.out.2 8 _ rfl
  have caBx_lt := BX_aBx.out.1
  go_wp2_with fail
  refine (CI.out (.slice avaB_Fieldx nvaB_Fieldx kvaB_Fieldx) (.slice avaB_Rules_Ladderx nvaB_Rules_Ladderx kvaB_Rules_Ladderx) (.slice avaB_Gamesx nvaB_Gamesx kvaB_Gamesx) (.slice avaB_Fairx nvaB_Fairx kvaB_Fairx) (.slice avaB_Takenx nvaB_Takenx kvaB_Takenx) (vaGroupx) _ OW_aBx.out.rdA OW_aGroupx.out.rdA SM_aB.out SM_aGroup.out).mono ?_
  rintro e w7 ⟨vr0i, rfl, ho, b7⟩
  clear caBx_0 caBx_1 caBx_2 caBx_3 caBx_4 caBx_5 caBx_6 caBx_7 caBx_8 caBx_lt
  have Z7 : Hid (w6.heap.size ≤ w7.heap.size) := (by have := b7.size; show _ ≤ _; omega)
  replace HB := Lib.hid (HB.out.trans (b7.mono HB.out.size))
  replace BX_aB := Lib.hid (BX_aB.out.below b7)
  replace OW_r0s := Lib.hid (OW_r0s.out.below b7)
  replace OW_aBx := Lib.hid (OW_aBx.out.below b7)
  replace BX_aBx := Lib.hid (BX_aBx.out.below b7)
  replace OW_aGroupx := Lib.hid (OW_aGroupx.out.below b7)
  have OW_r0i := Lib.hid (ho.mono (lo' := w6.heap.size) (hi' := w7.heap.size) (by have := Z1.out; have := Z2.out; have := Z3.out; have := Z4.out; have := Z5.out; have := Z6.out; have := Z7.out; (try simp only [World.alloc, Array.size_push]); omega) (Nat.le_refl _) (Nat.le_refl _))
  clear ho
  go_wp2_with fail
  refine (y_eq_IntSS (vr0i) (vr0s) d_r0 _ OW_r0i.out.rdA OW_r0s.out.rdA).mono ?_
  rintro e w8 ⟨rfl, b8⟩
  have Z8 : Hid (w7.heap.size ≤ w8.heap.size) := (by have := b8.size; show _ ≤ _; omega)
  replace HB := Lib.hid (HB.out.trans (b8.mono HB.out.size))
  replace BX_aB := Lib.hid (BX_aB.out.below b8)
  replace OW_r0s := Lib.hid (OW_r0s.out.below b8)
  replace OW_aBx := Lib.hid (OW_aBx.out.below b8)
  replace BX_aBx := Lib.hid (BX_aBx.out.below b8)
  replace OW_aGroupx := Lib.hid (OW_aGroupx.out.below b8)
  replace OW_r0i := Lib.hid (OW_r0i.out.below b8)
  have LE : Hid (w8.heap.size ≤ w8.heap.size) := (by show _ ≤ _; first | exact Nat.le_refl _ | simp)
  obtain ⟨S, HSd⟩ : ∃ S : World → Prop, S = fun w' => Below w.heap.size w w' ∧ BoxN w' (w.heap.size) [.slice avaB_Field nvaB_Field kvaB_Field, .int .i64 aB_Rules_Win, .int .i64 aB_Rules_Draw, .int .i64 aB_Rules_Loss, .slice avaB_Rules_Ladder nvaB_Rules_Ladder kvaB_Rules_Ladder, .bool aB_Rules_Again, .slice avaB_Games nvaB_Games kvaB_Games, .slice avaB_Fair nvaB_Fair kvaB_Fair, .slice avaB_Taken nvaB_Taken kvaB_Taken] ∧ OwN tIntSS w' (w1.heap.size) (w4.heap.size) [vr0s] d_r0 ∧ OwN tBook w' (w4.heap.size) (w5.heap.size) [.slice avaB_Fieldx nvaB_Fieldx kvaB_Fieldx, .int .i64 aB_Rules_Win, .int .i64 aB_Rules_Draw, .int .i64 aB_Rules_Loss, .slice avaB_Rules_Ladderx nvaB_Rules_Ladderx kvaB_Rules_Ladderx, .bool aB_Rules_Again, .slice avaB_Gamesx nvaB_Gamesx kvaB_Gamesx, .slice avaB_Fairx nvaB_Fairx kvaB_Fairx, .slice avaB_Takenx nvaB_Takenx kvaB_Takenx] d_aB ∧ BoxN w' (w5.heap.size) [.slice avaB_Fieldx nvaB_Fieldx kvaB_Fieldx, .int .i64 aB_Rules_Win, .int .i64 aB_Rules_Draw, .int .i64 aB_Rules_Loss, .slice avaB_Rules_Ladderx nvaB_Rules_Ladderx kvaB_Rules_Ladderx, .bool aB_Rules_Again, .slice avaB_Gamesx nvaB_Gamesx kvaB_Gamesx, .slice avaB_Fairx nvaB_Fairx kvaB_Fairx, .slice avaB_Takenx nvaB_Takenx kvaB_Takenx] ∧ OwN tIntS w' (w5.heap.size + 1) (w6.heap.size) [vaGroupx] d_aGroup ∧ OwN tIntSS w' (w6.heap.size) (w7.heap.size) [vr0i] d_r0 ∧ w8.heap.size ≤ w'.heap.size := ⟨_, rfl⟩
  have KS : Hid (∀ wa wb, S wa → Below wa.heap.size wa wb → S wb) := by subst HSd; exact fun wa wb h b => ⟨h.1.trans (b.mono h.1.size), h.2.1.below b, h.2.2.1.below b, h.2.2.2.1.below b, h.2.2.2.2.1.below b, h.2.2.2.2.2.1.below b, h.2.2.2.2.2.2.1.below b, Nat.le_trans h.2.2.2.2.2.2.2 b.size⟩
  have OS : Hid (∀ wa, S wa → Below w.heap.size w wa ∧ BoxN wa (w.heap.size) [.slice avaB_Field nvaB_Field kvaB_Field, .int .i64 aB_Rules_Win, .int .i64 aB_Rules_Draw, .int .i64 aB_Rules_Loss, .slice avaB_Rules_Ladder nvaB_Rules_Ladder kvaB_Rules_Ladder, .bool aB_Rules_Again, .slice avaB_Games nvaB_Games kvaB_Games, .slice avaB_Fair nvaB_Fair kvaB_Fair, .slice avaB_Taken nvaB_Taken kvaB_Taken] ∧ OwN tIntSS wa (w1.heap.size) (w4.heap.size) [vr0s] d_r0 ∧ OwN tBook wa (w4.heap.size) (w5.heap.size) [.slice avaB_Fieldx nvaB_Fieldx kvaB_Fieldx, .int .i64 aB_Rules_Win, .int .i64 aB_Rules_Draw, .int .i64 aB_Rules_Loss, .slice avaB_Rules_Ladderx nvaB_Rules_Ladderx kvaB_Rules_Ladderx, .bool aB_Rules_Again, .slice avaB_Gamesx nvaB_Gamesx kvaB_Gamesx, .slice avaB_Fairx nvaB_Fairx kvaB_Fairx, .slice avaB_Takenx nvaB_Takenx kvaB_Takenx] d_aB ∧ BoxN wa (w5.heap.size) [.slice avaB_Fieldx nvaB_Fieldx kvaB_Fieldx, .int .i64 aB_Rules_Win, .int .i64 aB_Rules_Draw, .int .i64 aB_Rules_Loss, .slice avaB_Rules_Ladderx nvaB_Rules_Ladderx kvaB_Rules_Ladderx, .bool aB_Rules_Again, .slice avaB_Gamesx nvaB_Gamesx kvaB_Gamesx, .slice avaB_Fairx nvaB_Fairx kvaB_Fairx, .slice avaB_Takenx nvaB_Takenx kvaB_Takenx] ∧ OwN tIntS wa (w5.heap.size + 1) (w6.heap.size) [vaGroupx] d_aGroup ∧ OwN tIntSS wa (w6.heap.size) (w7.heap.size) [vr0i] d_r0 ∧ w8.heap.size ≤ wa.heap.size) := by subst HSd; exact fun wa h => h
  have IS : Hid (∀ wa, Below w.heap.size w wa ∧ BoxN wa (w.heap.size) [.slice avaB_Field nvaB_Field kvaB_Field, .int .i64 aB_Rules_Win, .int .i64 aB_Rules_Draw, .int .i64 aB_Rules_Loss, .slice avaB_Rules_Ladder nvaB_Rules_Ladder kvaB_Rules_Ladder, .bool aB_Rules_Again, .slice avaB_Games nvaB_Games kvaB_Games, .slice avaB_Fair nvaB_Fair kvaB_Fair, .slice avaB_Taken nvaB_Taken kvaB_Taken] ∧ OwN tIntSS wa (w1.heap.size) (w4.heap.size) [vr0s] d_r0 ∧ OwN tBook wa (w4.heap.size) (w5.heap.size) [.slice avaB_Fieldx nvaB_Fieldx kvaB_Fieldx, .int .i64 aB_Rules_Win, .int .i64 aB_Rules_Draw, .int .i64 aB_Rules_Loss, .slice avaB_Rules_Ladderx nvaB_Rules_Ladderx kvaB_Rules_Ladderx, .bool aB_Rules_Again, .slice avaB_Gamesx nvaB_Gamesx kvaB_Gamesx, .slice avaB_Fairx nvaB_Fairx kvaB_Fairx, .slice avaB_Takenx nvaB_Takenx kvaB_Takenx] d_aB ∧ BoxN wa (w5.heap.size) [.slice avaB_Fieldx nvaB_Fieldx kvaB_Fieldx, .int .i64 aB_Rules_Win, .int .i64 aB_Rules_Draw, .int .i64 aB_Rules_Loss, .slice avaB_Rules_Ladderx nvaB_Rules_Ladderx kvaB_Rules_Ladderx, .bool aB_Rules_Again, .slice avaB_Gamesx nvaB_Gamesx kvaB_Gamesx, .slice avaB_Fairx nvaB_Fairx kvaB_Fairx, .slice avaB_Takenx nvaB_Takenx kvaB_Takenx] ∧ OwN tIntS wa (w5.heap.size + 1) (w6.heap.size) [vaGroupx] d_aGroup ∧ OwN tIntSS wa (w6.heap.size) (w7.heap.size) [vr0i] d_r0 ∧ w8.heap.size ≤ wa.heap.size → S wa) := by subst HSd; exact fun wa h => h
  clear HSd
  go_wp2_with fail
  refine wp_region_held_drew (S := S) (by kernel_rfl) ?_ (fun hHeld => ?_)
  · exact IS.out _ ((fun (b : Below w8.heap.size w8 _) => ⟨HB.out.trans (b.mono HB.out.size), BX_aB.out.below b, OW_r0s.out.below b, OW_aBx.out.below b, BX_aBx.out.below b, OW_aGroupx.out.below b, OW_r0i.out.below b, Nat.le_trans LE.out b.size⟩) (Below.refl _ _).drew)
  refine wpAnyH_take (i := 0) (v := ?_) rfl (by kernel_rfl) (by kernel_rfl) (by kernel_rfl) (fun _ _ _ h => h) (Or.inl ⟨by rfl, ?_⟩) hHeld ?_
  rotate_left
  · (intro wa hSw; have K := OS.out _ hSw; have caBx_0 := (K.2.2.2.2.1).2 0 _ rfl; have caBx_1 := (K.2.2.2.2.1).2 1 _ rfl; have caBx_2 := (K.2.2.2.2.1).2 2 _ rfl; have caBx_3 := (K.2.2.2.2.1).2 3 _ rfl; have caBx_4 := (K.2.2.2.2.1).2 4 _ rfl; have caBx_5 := (K.2.2.2.2.1).2 5 _ rfl; have caBx_6 := (K.2.2.2.2.1).2 6 _ rfl; have caBx_7 := (K.2.2.2.2.1).2 7 _ rfl; have caBx_8 := (K.2.2.2.2.1).2 8 _ rfl; have caB_0 := (K.2.1).2 0 _ rfl; have caB_1 := (K.2.1).2 1 _ rfl; have caB_2 := (K.2.1).2 2 _ rfl; have caB_3 := (K.2.1).2 3 _ rfl; have caB_4 := (K.2.1).2 4 _ rfl; have caB_5 := (K.2.1).2 5 _ rfl; have caB_6 := (K.2.1).2 6 _ rfl; have caB_7 := (K.2.1).2 7 _ rfl; have caB_8 := (K.2.1).2 8 _ rfl; go_simp; try with_reducible rfl)
  simp only [Act.put, List.getElem_toArray, List.getElem_cons_zero, List.setIfInBounds_toArray, List.set_cons_zero, List.set_cons_succ]
  refine wpAnyH_take (i := 1) (v := ?_) rfl (by kernel_rfl) (by kernel_rfl) (by kernel_rfl) (fun _ _ _ h => h) (Or.inl ⟨by rfl, ?_⟩) hHeld ?_
  rotate_left
  · (intro wa hSw; have K := OS.out _ hSw; have caBx_0 := (K.2.2.2.2.1).2 0 _ rfl; have caBx_1 := (K.2.2.2.2.1).2 1 _ rfl; have caBx_2 := (K.2.2.2.2.1).2 2 _ rfl; have caBx_3 := (K.2.2.2.2.1).2 3 _ rfl; have caBx_4 := (K.2.2.2.2.1).2 4 _ rfl; have caBx_5 := (K.2.2.2.2.1).2 5 _ rfl; have caBx_6 := (K.2.2.2.2.1).2 6 _ rfl; have caBx_7 := (K.2.2.2.2.1).2 7 _ rfl; have caBx_8 := (K.2.2.2.2.1).2 8 _ rfl; have caB_0 := (K.2.1).2 0 _ rfl; have caB_1 := (K.2.1).2 1 _ rfl; have caB_2 := (K.2.1).2 2 _ rfl; have caB_3 := (K.2.1).2 3 _ rfl; have caB_4 := (K.2.1).2 4 _ rfl; have caB_5 := (K.2.1).2 5 _ rfl; have caB_6 := (K.2.1).2 6 _ rfl; have caB_7 := (K.2.1).2 7 _ rfl; have caB_8 := (K.2.1).2 8 _ rfl; go_simp; try with_reducible rfl)
  simp only [Act.put, List.getElem_toArray, List.getElem_cons_zero, List.getElem_cons_succ, List.setIfInBounds_toArray, List.set_cons_zero, List.set_cons_succ]
  refine wpAnyH_ready (rs := [2]) (by kernel_rfl) (by simp) ?_
  refine AllReadyH.cons (o := _) rfl (fun K hK => ?_) AllReadyH.nil
  go_simp
  have KK := OS.out _ hHeld
  refine (y_to_Book (.slice avaB_Field nvaB_Field kvaB_Field) aB_Rules_Win aB_Rules_Draw aB_Rules_Loss (.slice avaB_Rules_Ladder nvaB_Rules_Ladder kvaB_Rules_Ladder) aB_Rules_Again (.slice avaB_Games nvaB_Games kvaB_Games) (.slice avaB_Fair nvaB_Fair kvaB_Fair) (.slice avaB_Taken nvaB_Taken kvaB_Taken) d_aB _ (RdA.below HA_aB.out (KK.1)) SM_aB.out).mono ?_
  rintro e w109 ⟨vaB_Fieldt3, vaB_Rules_Laddert3, vaB_Gamest3, vaB_Fairt3, vaB_Takent3, rfl, ho, b109⟩
  have HT_aBt3 := Lib.hid ho.rdA
  clear ho
  clear KK
  (try go_wp2_with fail)
  refine hK.out _ _ ?_ (fun hHeld109 => ?_)
  · exact KS.out _ _ hHeld b109
  clear hK K
  refine wpAnyH_ready (rs := [3]) (by kernel_rfl) (by simp) ?_
  refine AllReadyH.cons (o := _) rfl (fun K hK => ?_) AllReadyH.nil
  go_simp
  have KK := OS.out _ hHeld109
  refine (y_eq_Book (.slice avaB_Fieldx nvaB_Fieldx kvaB_Fieldx) aB_Rules_Win aB_Rules_Draw aB_Rules_Loss (.slice avaB_Rules_Ladderx nvaB_Rules_Ladderx kvaB_Rules_Ladderx) aB_Rules_Again (.slice avaB_Gamesx nvaB_Gamesx kvaB_Gamesx) (.slice avaB_Fairx nvaB_Fairx kvaB_Fairx) (.slice avaB_Takenx nvaB_Takenx kvaB_Takenx) (vaB_Fieldt3) (vaB_Rules_Laddert3) (vaB_Gamest3) (vaB_Fairt3) (vaB_Takent3) d_aB _ (KK.2.2.2.1).rdA HT_aBt3.out).mono ?_
  rintro e w110 ⟨rfl, b110⟩
  clear HT_aBt3
  clear KK
  (try go_wp2_with fail)
  refine hK.out _ _ ?_ (fun hHeld110 => ?_)
  · exact KS.out _ _ hHeld109 b110
  clear hK K
  clear hHeld109
  refine wpAnyH_take (i := 4) (v := ?_) rfl (by kernel_rfl) (by kernel_rfl) (by kernel_rfl) (fun _ _ _ h => h) (Or.inl ⟨by rfl, ?_⟩) hHeld110 ?_
  rotate_left
  · (intro wa hSw; go_simp; try with_reducible rfl)
  simp only [Act.put, List.getElem_toArray, List.getElem_cons_zero, List.getElem_cons_succ, List.setIfInBounds_toArray, List.set_cons_zero, List.set_cons_succ]
  refine wpAnyH_done (by kernel_rfl) ?_ _
  have KE := Lib.hid (OS.out _ hHeld110)
  clear KS OS IS hHeld hHeld110
  have Z110 := Lib.hid (KE.out.2.2.2.2.2.2.2)
  replace HB := Lib.hid (KE.out.1)
  replace BX_aB := Lib.hid (KE.out.2.1)
  replace OW_r0s := Lib.hid (KE.out.2.2.1)
  replace OW_aBx := Lib.hid (KE.out.2.2.2.1)
  replace BX_aBx := Lib.hid (KE.out.2.2.2.2.1)
  replace OW_aGroupx := Lib.hid (KE.out.2.2.2.2.2.1)
  replace OW_r0i := Lib.hid (KE.out.2.2.2.2.2.2.1)
  clear KE LE
  go_wp2_with fail
  refine (y_to_IntS (.slice sa_aGroup n_aGroup sc_aGroup) d_aGroup _ (RdA.below HA_aGroup.out HB.out) SM_aGroup.out).mono ?_
  rintro e w111 ⟨vaGroupt4, rfl, ho, b111⟩
  have Z111 : Hid (w110.heap.size ≤ w111.heap.size) := (by have := b111.size; show _ ≤ _; omega)
  replace HB := Lib.hid (HB.out.trans (b111.mono HB.out.size))
  replace BX_aB := Lib.hid (BX_aB.out.below b111)
  replace OW_r0s := Lib.hid (OW_r0s.out.below b111)
  replace OW_aBx := Lib.hid (OW_aBx.out.below b111)
  replace BX_aBx := Lib.hid (BX_aBx.out.below b111)
  replace OW_aGroupx := Lib.hid (OW_aGroupx.out.below b111)
  replace OW_r0i := Lib.hid (OW_r0i.out.below b111)
  have OW_aGroupt4 := Lib.hid (ho.mono (lo' := w110.heap.size) (hi' := w111.heap.size) (by have := Z1.out; have := Z2.out; have := Z3.out; have := Z4.out; have := Z5.out; have := Z6.out; have := Z7.out; have := Z8.out; have := Z110.out; have := Z111.out; (try simp only [World.alloc, Array.size_push]); omega) (Nat.le_refl _) (Nat.le_refl _))
  clear ho
  go_wp2_with fail
  refine (y_eq_IntS (vaGroupx) (vaGroupt4) d_aGroup _ OW_aGroupx.out.rdA OW_aGroupt4.out.rdA).mono ?_
  rintro e w112 ⟨rfl, b112⟩
  have Z112 : Hid (w111.heap.size ≤ w112.heap.size) := (by have := b112.size; show _ ≤ _; omega)
  replace HB := Lib.hid (HB.out.trans (b112.mono HB.out.size))
  replace BX_aB := Lib.hid (BX_aB.out.below b112)
  replace OW_r0s := Lib.hid (OW_r0s.out.below b112)
  replace OW_aBx := Lib.hid (OW_aBx.out.below b112)
  replace BX_aBx := Lib.hid (BX_aBx.out.below b112)
  replace OW_aGroupx := Lib.hid (OW_aGroupx.out.below b112)
  replace OW_r0i := Lib.hid (OW_r0i.out.below b112)
  replace OW_aGroupt4 := Lib.hid (OW_aGroupt4.out.below b112)
  clear OW_aGroupt4
  obtain ⟨M_aBx, hM⟩ : ∃ z, cnt_Book d_aB = z := ⟨_, rfl⟩
  have HM_aBx := Lib.hid hM
  have hM2_aBx : M_aBx ≤ 100000000000 := (by have h7 : cnt_Book d_aB ≤ 2000000000 := (Nat.le_trans (cntle_Book d_aB) (Bnd.le ((bnd_two (bnd_sl (bnd_two bnd_str (bnd_two bnd_int bnd_int))) (bnd_two (bnd_two bnd_int (bnd_two bnd_int (bnd_two bnd_int (bnd_two (bnd_sl bnd_int) bnd_bool)))) (bnd_two (bnd_sl (bnd_two bnd_int (bnd_two bnd_int (bnd_two bnd_int (bnd_two bnd_int bnd_int))))) (bnd_two (bnd_sl bnd_int) (bnd_sl bnd_int))))) : Bnd tBook 15) SM_aB.out (by decide))); rw [hM] at h7; omega)
  clear hM
  have caBx_0 := BX_aBx.out.2 0 _ rfl
  have caBx_1 := BX_aBx.out.2 1 _ rfl
  have caBx_2 := BX_aBx.out.2 2 _ rfl
  have caBx_3 := BX_aBx.out.2 3 _ rfl
  have caBx_4 := BX_aBx.out.2 4 _ rfl
  have caBx_5 := BX_aBx.out.2 5 _ rfl
  have caBx_6 := BX_aBx.out.2 6 _ rfl
  have caBx_7 := BX_aBx.out.2 7 _ rfl
  have caBx_8 := BX_aBx.out.2 8 _ rfl
  have caBx_lt := BX_aBx.out.1
  go_wp2_with fail
  refine (mark_windowC OW_aBx.out fun bs ho hnd => yb_mk_Book (.slice avaB_Fieldx nvaB_Fieldx kvaB_Fieldx) aB_Rules_Win aB_Rules_Draw aB_Rules_Loss (.slice avaB_Rules_Ladderx nvaB_Rules_Ladderx kvaB_Rules_Ladderx) aB_Rules_Again (.slice avaB_Gamesx nvaB_Gamesx kvaB_Gamesx) (.slice avaB_Fairx nvaB_Fairx kvaB_Fairx) (.slice avaB_Takenx nvaB_Takenx kvaB_Takenx) d_aB ((1 : Int)) _ bs _ ho hnd (by omega) (by have := HM_aBx.out; omega)).mono ?_
  rintro e w113 ⟨rfl, hr, b113⟩
  clear caBx_0 caBx_1 caBx_2 caBx_3 caBx_4 caBx_5 caBx_6 caBx_7 caBx_8 caBx_lt
  rw [HM_aBx.out]
  clear OW_aBx
  clear hr
  have Z113 : Hid (w112.heap.size ≤ w113.heap.size) := (by have := b113.size; show _ ≤ _; omega)
  replace HB := Lib.hid (HB.out.trans (b113.below (by have := Z1.out; have := Z2.out; have := Z3.out; have := Z4.out; have := Z5.out; have := Z6.out; have := Z7.out; have := Z8.out; have := Z110.out; have := Z111.out; have := Z112.out; omega) HB.out.size))
  replace BX_aB := Lib.hid (BX_aB.out.touch b113 (by have := Z1.out; have := Z2.out; have := Z3.out; have := Z4.out; have := Z5.out; have := Z6.out; have := Z7.out; have := Z8.out; have := Z110.out; have := Z111.out; have := Z112.out; omega))
  replace OW_r0s := Lib.hid (OW_r0s.out.touch b113 (by have := Z1.out; have := Z2.out; have := Z3.out; have := Z4.out; have := Z5.out; have := Z6.out; have := Z7.out; have := Z8.out; have := Z110.out; have := Z111.out; have := Z112.out; omega))
  replace BX_aBx := Lib.hid (BX_aBx.out.touch b113 (by have := Z1.out; have := Z2.out; have := Z3.out; have := Z4.out; have := Z5.out; have := Z6.out; have := Z7.out; have := Z8.out; have := Z110.out; have := Z111.out; have := Z112.out; omega))
  replace OW_aGroupx := Lib.hid (OW_aGroupx.out.touch b113 (by have := Z1.out; have := Z2.out; have := Z3.out; have := Z4.out; have := Z5.out; have := Z6.out; have := Z7.out; have := Z8.out; have := Z110.out; have := Z111.out; have := Z112.out; omega))
  replace OW_r0i := Lib.hid (OW_r0i.out.touch b113 (by have := Z1.out; have := Z2.out; have := Z3.out; have := Z4.out; have := Z5.out; have := Z6.out; have := Z7.out; have := Z8.out; have := Z110.out; have := Z111.out; have := Z112.out; omega))
  obtain ⟨M_aGroupx, hM⟩ : ∃ z, tIntS.mks d_aGroup = z := ⟨_, rfl⟩
  have HM_aGroupx := Lib.hid hM
  have hM2_aGroupx : M_aGroupx ≤ 100000000000 := (by have h7 : tIntS.mks d_aGroup ≤ 2000000000 := (Bnd.le ((bnd_sl bnd_int) : Bnd tIntS 1) SM_aGroup.out (by decide)); rw [hM] at h7; omega)
  clear hM
  go_wp2_with fail
  refine (mark_windowC OW_aGroupx.out fun bs ho hnd => yb_mk_IntS (vaGroupx) d_aGroup ((1 : Int) + (M_aBx : Int)) _ bs _ ho hnd (by omega) (by have := HM_aGroupx.out; omega)).mono ?_
  rintro e w114 ⟨rfl, hr, b114⟩
  rw [HM_aGroupx.out]
  clear OW_aGroupx
  clear hr
  have Z114 : Hid (w113.heap.size ≤ w114.heap.size) := (by have := b114.size; show _ ≤ _; omega)
  replace HB := Lib.hid (HB.out.trans (b114.below (by have := Z1.out; have := Z2.out; have := Z3.out; have := Z4.out; have := Z5.out; have := Z6.out; have := Z7.out; have := Z8.out; have := Z110.out; have := Z111.out; have := Z112.out; have := Z113.out; omega) HB.out.size))
  replace BX_aB := Lib.hid (BX_aB.out.touch b114 (by have := Z1.out; have := Z2.out; have := Z3.out; have := Z4.out; have := Z5.out; have := Z6.out; have := Z7.out; have := Z8.out; have := Z110.out; have := Z111.out; have := Z112.out; have := Z113.out; omega))
  replace OW_r0s := Lib.hid (OW_r0s.out.touch b114 (by have := Z1.out; have := Z2.out; have := Z3.out; have := Z4.out; have := Z5.out; have := Z6.out; have := Z7.out; have := Z8.out; have := Z110.out; have := Z111.out; have := Z112.out; have := Z113.out; omega))
  replace BX_aBx := Lib.hid (BX_aBx.out.touch b114 (by have := Z1.out; have := Z2.out; have := Z3.out; have := Z4.out; have := Z5.out; have := Z6.out; have := Z7.out; have := Z8.out; have := Z110.out; have := Z111.out; have := Z112.out; have := Z113.out; omega))
  replace OW_r0i := Lib.hid (OW_r0i.out.touch b114 (by have := Z1.out; have := Z2.out; have := Z3.out; have := Z4.out; have := Z5.out; have := Z6.out; have := Z7.out; have := Z8.out; have := Z110.out; have := Z111.out; have := Z112.out; have := Z113.out; omega))
  have kd3259 : decide ((1 : Int) + (M_aBx : Int) + (M_aGroupx : Int) < 0) = false := decide_eq_false (by omega)
  go_wp2_with fail
  refine (y_eq_IntSS (vr0i) (vr0s) d_r0 _ OW_r0i.out.rdA OW_r0s.out.rdA).mono ?_
  rintro e w115 ⟨rfl, b115⟩
  have Z115 : Hid (w114.heap.size ≤ w115.heap.size) := (by have := b115.size; show _ ≤ _; omega)
  replace HB := Lib.hid (HB.out.trans (b115.mono HB.out.size))
  replace BX_aB := Lib.hid (BX_aB.out.below b115)
  replace OW_r0s := Lib.hid (OW_r0s.out.below b115)
  replace BX_aBx := Lib.hid (BX_aBx.out.below b115)
  replace OW_r0i := Lib.hid (OW_r0i.out.below b115)
  obtain ⟨M_r0i, hM⟩ : ∃ z, tIntSS.mks d_r0 = z := ⟨_, rfl⟩
  have HM_r0i := Lib.hid hM
  have hM2_r0i : M_r0i ≤ 100000000000 := (by have h7 : tIntSS.mks d_r0 ≤ 100000000000 := (HNB0.out SM_aB.out SM_aGroup.out); rw [hM] at h7; omega)
  clear hM
  go_wp2_with fail
  refine (mark_windowC OW_r0i.out fun bs ho hnd => yb_mk_IntSS (vr0i) d_r0 ((1 : Int)) _ bs _ ho hnd (by omega) (by have := HM_r0i.out; omega)).mono ?_
  rintro e w116 ⟨rfl, hr, b116⟩
  rw [HM_r0i.out]
  clear OW_r0i
  have Z116 : Hid (w115.heap.size ≤ w116.heap.size) := (by have := b116.size; show _ ≤ _; omega)
  replace HB := Lib.hid (HB.out.trans (b116.below (by have := Z1.out; have := Z2.out; have := Z3.out; have := Z4.out; have := Z5.out; have := Z6.out; have := Z7.out; have := Z8.out; have := Z110.out; have := Z111.out; have := Z112.out; have := Z113.out; have := Z114.out; have := Z115.out; omega) HB.out.size))
  replace BX_aB := Lib.hid (BX_aB.out.touch b116 (by have := Z1.out; have := Z2.out; have := Z3.out; have := Z4.out; have := Z5.out; have := Z6.out; have := Z7.out; have := Z8.out; have := Z110.out; have := Z111.out; have := Z112.out; have := Z113.out; have := Z114.out; have := Z115.out; omega))
  replace OW_r0s := Lib.hid (OW_r0s.out.touch b116 (by have := Z1.out; have := Z2.out; have := Z3.out; have := Z4.out; have := Z5.out; have := Z6.out; have := Z7.out; have := Z8.out; have := Z110.out; have := Z111.out; have := Z112.out; have := Z113.out; have := Z114.out; have := Z115.out; omega))
  replace BX_aBx := Lib.hid (BX_aBx.out.touch b116 (by have := Z1.out; have := Z2.out; have := Z3.out; have := Z4.out; have := Z5.out; have := Z6.out; have := Z7.out; have := Z8.out; have := Z110.out; have := Z111.out; have := Z112.out; have := Z113.out; have := Z114.out; have := Z115.out; omega))
  have RN_r0i := Lib.hid hr
  clear hr
  have qd3265 : decide ((1 : Int) + (M_r0i : Int) < 0) = false := decide_eq_false (by omega)
  go_wp2_with fail
  refine (y_hd_IntSS (vr0i) d_r0 (1 : Int) _ (RN_r0i.out.all (by have := Z1.out; have := Z2.out; have := Z3.out; have := Z4.out; have := Z5.out; have := Z6.out; have := Z7.out; have := Z8.out; have := Z110.out; have := Z111.out; have := Z112.out; have := Z113.out; have := Z114.out; have := Z115.out; have := Z116.out; (try simp only [World.alloc, Array.size_push]); omega)) (by omega) (by have := HM_r0i.out; omega)).mono ?_
  rintro e w117 ⟨rfl, b117⟩
  rw [HM_r0i.out]
  have Z117 : Hid (w116.heap.size ≤ w117.heap.size) := (by have := b117.size; show _ ≤ _; omega)
  replace HB := Lib.hid (HB.out.trans (b117.mono HB.out.size))
  replace BX_aB := Lib.hid (BX_aB.out.below b117)
  replace OW_r0s := Lib.hid (OW_r0s.out.below b117)
  replace BX_aBx := Lib.hid (BX_aBx.out.below b117)
  replace RN_r0i := Lib.hid (RN_r0i.out.below b117)
  have caB_0 := BX_aB.out.2 0 _ rfl
  have caB_1 := BX_aB.out.2 1 _ rfl
  have caB_2 := BX_aB.out.2 2 _ rfl
  have caB_3 := BX_aB.out.2 3 _ rfl
  have caB_4 := BX_aB.out.2 4 _ rfl
  have caB_5 := BX_aB.out.2 5 _ rfl
  have caB_6 := BX_aB.out.2 6 _ rfl
  have caB_7 := BX_aB.out.2 7 _ rfl
  have caB_8 := BX_aB.out.2 8 _ rfl
  have caB_lt := BX_aB.out.1
  go_wp2_with fail
  refine (y_to_Book (.slice avaB_Field nvaB_Field kvaB_Field) aB_Rules_Win aB_Rules_Draw aB_Rules_Loss (.slice avaB_Rules_Ladder nvaB_Rules_Ladder kvaB_Rules_Ladder) aB_Rules_Again (.slice avaB_Games nvaB_Games kvaB_Games) (.slice avaB_Fair nvaB_Fair kvaB_Fair) (.slice avaB_Taken nvaB_Taken kvaB_Taken) d_aB _ (RdA.below HA_aB.out HB.out) SM_aB.out).mono ?_
  rintro e w118 ⟨vaB_Fieldt5, vaB_Rules_Laddert5, vaB_Gamest5, vaB_Fairt5, vaB_Takent5, rfl, ho, b118⟩
  clear caB_0 caB_1 caB_2 caB_3 caB_4 caB_5 caB_6 caB_7 caB_8 caB_lt
  have Z118 : Hid (w117.heap.size ≤ w118.heap.size) := (by have := b118.size; show _ ≤ _; omega)
  replace HB := Lib.hid (HB.out.trans (b118.mono HB.out.size))
  replace BX_aB := Lib.hid (BX_aB.out.below b118)
  replace OW_r0s := Lib.hid (OW_r0s.out.below b118)
  replace BX_aBx := Lib.hid (BX_aBx.out.below b118)
  replace RN_r0i := Lib.hid (RN_r0i.out.below b118)
  have OW_aBt5 := Lib.hid (ho.mono (lo' := w117.heap.size) (hi' := w118.heap.size) (by have := Z1.out; have := Z2.out; have := Z3.out; have := Z4.out; have := Z5.out; have := Z6.out; have := Z7.out; have := Z8.out; have := Z110.out; have := Z111.out; have := Z112.out; have := Z113.out; have := Z114.out; have := Z115.out; have := Z116.out; have := Z117.out; have := Z118.out; (try simp only [World.alloc, Array.size_push]); omega) (Nat.le_refl _) (Nat.le_refl _))
  clear ho
  have caB_0 := BX_aB.out.2 0 _ rfl
  have caB_1 := BX_aB.out.2 1 _ rfl
  have caB_2 := BX_aB.out.2 2 _ rfl
  have caB_3 := BX_aB.out.2 3 _ rfl
  have caB_4 := BX_aB.out.2 4 _ rfl
  have caB_5 := BX_aB.out.2 5 _ rfl
  have caB_6 := BX_aB.out.2 6 _ rfl
  have caB_7 := BX_aB.out.2 7 _ rfl
  have caB_8 := BX_aB.out.2 8 _ rfl
  have caB_lt := BX_aB.out.1
  go_wp2_with fail
  refine (y_to_IntS (.slice sa_aGroup n_aGroup sc_aGroup) d_aGroup _ (RdA.below HA_aGroup.out HB.out) SM_aGroup.out).mono ?_
  rintro e w119 ⟨vaGroupt6, rfl, ho, b119⟩
  clear caB_0 caB_1 caB_2 caB_3 caB_4 caB_5 caB_6 caB_7 caB_8 caB_lt
  have Z119 : Hid (w118.heap.size ≤ w119.heap.size) := (by have := b119.size; show _ ≤ _; omega)
  replace HB := Lib.hid (HB.out.trans (b119.mono HB.out.size))
  replace BX_aB := Lib.hid (BX_aB.out.below b119)
  replace OW_r0s := Lib.hid (OW_r0s.out.below b119)
  replace BX_aBx := Lib.hid (BX_aBx.out.below b119)
  replace RN_r0i := Lib.hid (RN_r0i.out.below b119)
  replace OW_aBt5 := Lib.hid (OW_aBt5.out.below b119)
  have OW_aGroupt6 := Lib.hid (ho.mono (lo' := w118.heap.size) (hi' := w119.heap.size) (by have := Z1.out; have := Z2.out; have := Z3.out; have := Z4.out; have := Z5.out; have := Z6.out; have := Z7.out; have := Z8.out; have := Z110.out; have := Z111.out; have := Z112.out; have := Z113.out; have := Z114.out; have := Z115.out; have := Z116.out; have := Z117.out; have := Z118.out; have := Z119.out; (try simp only [World.alloc, Array.size_push]); omega) (Nat.le_refl _) (Nat.le_refl _))
  clear ho
  go_wp2_with fail
  refine (CI.out (vaB_Fieldt5) (vaB_Rules_Laddert5) (vaB_Gamest5) (vaB_Fairt5) (vaB_Takent5) (vaGroupt6) _ OW_aBt5.out.rdA OW_aGroupt6.out.rdA SM_aB.out SM_aGroup.out).mono ?_
  rintro e w120 ⟨vr0j, rfl, ho, b120⟩
  have Z120 : Hid (w119.heap.size ≤ w120.heap.size) := (by have := b120.size; show _ ≤ _; omega)
  replace HB := Lib.hid (HB.out.trans (b120.mono HB.out.size))
  replace BX_aB := Lib.hid (BX_aB.out.below b120)
  replace OW_r0s := Lib.hid (OW_r0s.out.below b120)
  replace BX_aBx := Lib.hid (BX_aBx.out.below b120)
  replace RN_r0i := Lib.hid (RN_r0i.out.below b120)
  replace OW_aBt5 := Lib.hid (OW_aBt5.out.below b120)
  replace OW_aGroupt6 := Lib.hid (OW_aGroupt6.out.below b120)
  clear OW_aBt5 OW_aGroupt6
  have OW_r0j := Lib.hid (ho.mono (lo' := w117.heap.size) (hi' := w120.heap.size) (by have := Z1.out; have := Z2.out; have := Z3.out; have := Z4.out; have := Z5.out; have := Z6.out; have := Z7.out; have := Z8.out; have := Z110.out; have := Z111.out; have := Z112.out; have := Z113.out; have := Z114.out; have := Z115.out; have := Z116.out; have := Z117.out; have := Z118.out; have := Z119.out; have := Z120.out; (try simp only [World.alloc, Array.size_push]); omega) (Nat.le_refl _) (Nat.le_refl _))
  clear ho
  go_wp2_with fail
  refine (y_eq_IntSS (vr0j) (vr0s) d_r0 _ OW_r0j.out.rdA OW_r0s.out.rdA).mono ?_
  rintro e w121 ⟨rfl, b121⟩
  have Z121 : Hid (w120.heap.size ≤ w121.heap.size) := (by have := b121.size; show _ ≤ _; omega)
  replace HB := Lib.hid (HB.out.trans (b121.mono HB.out.size))
  replace BX_aB := Lib.hid (BX_aB.out.below b121)
  replace OW_r0s := Lib.hid (OW_r0s.out.below b121)
  replace BX_aBx := Lib.hid (BX_aBx.out.below b121)
  replace RN_r0i := Lib.hid (RN_r0i.out.below b121)
  replace OW_r0j := Lib.hid (OW_r0j.out.below b121)
  have qd3277 : decide ((1 : Int) + (M_r0i : Int) < 0) = false := decide_eq_false (by omega)
  go_wp2_with fail
  refine (y_hd_IntSS (vr0i) d_r0 (1 : Int) _ (RN_r0i.out.all (by have := Z1.out; have := Z2.out; have := Z3.out; have := Z4.out; have := Z5.out; have := Z6.out; have := Z7.out; have := Z8.out; have := Z110.out; have := Z111.out; have := Z112.out; have := Z113.out; have := Z114.out; have := Z115.out; have := Z116.out; have := Z117.out; have := Z118.out; have := Z119.out; have := Z120.out; have := Z121.out; (try simp only [World.alloc, Array.size_push]); omega)) (by omega) (by have := HM_r0i.out; omega)).mono ?_
  rintro e w122 ⟨rfl, b122⟩
  rw [HM_r0i.out]
  have Z122 : Hid (w121.heap.size ≤ w122.heap.size) := (by have := b122.size; show _ ≤ _; omega)
  replace HB := Lib.hid (HB.out.trans (b122.mono HB.out.size))
  replace BX_aB := Lib.hid (BX_aB.out.below b122)
  replace OW_r0s := Lib.hid (OW_r0s.out.below b122)
  replace BX_aBx := Lib.hid (BX_aBx.out.below b122)
  replace RN_r0i := Lib.hid (RN_r0i.out.below b122)
  replace OW_r0j := Lib.hid (OW_r0j.out.below b122)
  go_wp2
  go_ret
  exact ⟨rfl, HB.out⟩
set_option maxRecDepth 100000 in
theorem lifted (os : Os) (started : os.Started) (H : Type) (enc : TypeId × Value → H) :
    ReturnsInHanded {} Tryz.checked os 5 .any (Rows.fnExactRankFromSpec.pre6 enc Tryz.prog Tryz.f5 Rows.fnExactRankFromRow.domain false) (Rows.fnExactRankFromSpec.post enc Tryz.prog Tryz.f5 false true false false) := by
  refine returnsInHanded_of_change (C := Tryz.checked) own started (by kernel_rfl) Tryz.func5
    (ChangeSpec.witness6 (enc := enc) (C := Tryz.checked) false ⟨#[], #[.agg #[.slice none 0 0, .int .i64 0, .int .i64 0, .int .i64 0, .slice none 0 0, .bool false, .slice none 0 0, .slice none 0 0, .slice none 0 0], .slice none 0 0, .int .i64 0], []⟩ 8 (by kernel_rfl) (by kernel_rfl) (by kernel_rfl) (by kernel_rfl)) ?_
  intro W base args ds gs before hval0 hW hcnd _
  have hval : ∀ (j : Nat) t v, Tryz.f5.params[j]? = some t → args[j]? = some v → Value.okWide Tryz.prog W .any base t v := hval0
  have hW' := hW
  obtain ⟨p, q, hA0, hV, rfl, hfz, hnd⟩ := hW
  have hA : DataW.TrodAll enc Tryz.prog W 0 (fun _ => true) true Tryz.f5.params.toList args.toList ds p := hA0
  rw [Tryz.params5] at hA hval
  obtain ⟨v0, vs0, d0, ds0, p0, q0, hargs, rfl, rfl, h0, r0⟩ := trodAll_cons hA
  obtain ⟨v1, vs1, d1, ds1, p1, q1, rfl, rfl, rfl, h1, r1⟩ := trodAll_cons r0
  obtain ⟨v2, vs2, d2, ds2, p2, q2, rfl, rfl, rfl, h2, r2⟩ := trodAll_cons r1
  obtain ⟨rfl, rfl, rfl⟩ := trodAll_nil r2
  obtain rfl : args = #[v0, v1, v2] := by cases args; simp_all
  obtain ⟨rfl, rfl⟩ := trodVars_none hV
  have k0 := h0
  have lt0 : ∀ x ∈ p0, x.block < W.heap.size := by obtain ⟨m, hm⟩ := k0; exact DataW.trod_lt m _ _ _ hm
  obtain ⟨cs0, rfl, x0, y0, f0⟩ := open_arg opens_Book Tryz.underlying46 (hval 0 46 v0 rfl rfl) h0
  obtain ⟨vz0_Field, z0_Rules_Win, z0_Rules_Draw, z0_Rules_Loss, vz0_Rules_Ladder, z0_Rules_Again, vz0_Games, vz0_Fair, vz0_Taken, e0⟩ := form_Book y0
  obtain rfl : cs0 = #[vz0_Field, .int .i64 z0_Rules_Win, .int .i64 z0_Rules_Draw, .int .i64 z0_Rules_Loss, vz0_Rules_Ladder, .bool z0_Rules_Again, vz0_Games, vz0_Fair, vz0_Taken] := Array.toList_inj.1 e0
  have k1 := h1
  have lt1 : ∀ x ∈ p1, x.block < W.heap.size := by obtain ⟨m, hm⟩ := k1; exact DataW.trod_lt m _ _ _ hm
  obtain ⟨x1, y1, f1⟩ := open_arg1 opens_IntS Tryz.underlying24 (hval 1 24 v1 rfl rfl) h1
  obtain ⟨a2, rfl, rfl, rfl, w2⟩ := open_int Tryz.underlying3 (hval 2 3 v2 rfl rfl) h2
  clear hA0 hval0
  simp only [List.append_nil] at hW'
  refine (walk vz0_Field z0_Rules_Win z0_Rules_Draw z0_Rules_Loss vz0_Rules_Ladder z0_Rules_Again vz0_Games vz0_Fair vz0_Taken x0 v1 x1 a2 W y0 f0 y1 f1 (intFit_of w2)).mono fun e W' ⟨he, bel⟩ => ?_
  subst he
  exact ⟨_, rfl, _, _, _, [], _, [], hW', trodAll_mk1 (shut_bool Tryz.underlying4 _), (trodAll_cons_mk (Below.trod laidOut (by kernel_rfl) (of_decide_eq_true (by kernel_rfl)) k0 bel lt0) (trodAll_cons_mk (Below.trod laidOut (by kernel_rfl) (of_decide_eq_true (by kernel_rfl)) k1 bel lt1) (trodAll_cons_mk (shut_int Tryz.underlying3 w2) trodAll_mk0))), rfl, bel.frame _, fun h => by cases h⟩

theorem over : Rows.fnExactRankFromRow.holds Tryz.pinned (OpenSpec.ofChange Rows.fnExactRankFromSpec) :=
  OpenClaim.holds_of_wide 5 Tryz.f5 rfl rfl rfl rfl rfl rfl rfl ⟨rfl, rfl, rfl, rfl, rfl⟩ rfl rfl rfl rfl rfl (by kernel_rfl) Tryz.func5 (by kernel_rfl)
    (of_decide_eq_true (by kernel_rfl)) (by unfold Func.isWrapper; first | (rw [if_pos (by decide +kernel)]; kernel_rfl) | (rw [if_neg (by decide +kernel)]; exact ⟨rfl, rfl⟩))
    (fun os started H enc _ => lifted os started H enc)

theorem proved : Rows.FnExactRankFromSaid := over
end Go.Proofs.YtakbolkdbpehoaaGreat.fnExactRankFrom
