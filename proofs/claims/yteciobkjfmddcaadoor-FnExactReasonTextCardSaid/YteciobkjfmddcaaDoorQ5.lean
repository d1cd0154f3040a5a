/-
  Packed: TyBook, TypeRow.
-/
import Derived.Deep.RegionHeld3
import Derived.Test.YteciobkjfmddcaaDoorQ1
import Derived.Test.YteciobkjfmddcaaDoorQ2
import Derived.Test.YteciobkjfmddcaaDoorQ3
import Derived.Test.YteciobkjfmddcaaDoorQ4
set_option linter.unusedVariables false
namespace Go.Proofs.YteciobkjfmddcaaDoor
open Go.RowKit

def tBook : Ty := tTwo tTeamS (tTwo tRules (tTwo tGameS (tTwo tIntS tIntS)))
theorem opens_Book : Opens Tryd.prog 28 tBook := opens_struct Tryd.underlying28 (by kernel_rfl) ⟨rfl, _, _, rfl, opens_TeamS, ⟨rfl, _, _, rfl, opens_Rules, ⟨rfl, _, _, rfl, opens_GameS, ⟨rfl, _, _, rfl, opens_IntS, ⟨rfl, opens_IntS⟩⟩⟩⟩⟩
set_option maxRecDepth 100000 in
set_option maxHeartbeats 2000000 in
theorem y_sz_Book (vx_Field : Value) (x_Rules_Win : Int) (x_Rules_Draw : Int) (x_Rules_Loss : Int) (vx_Rules_Ladder : Value) (x_Rules_Again : Bool) (vx_Games : Value) (vx_Fair : Value) (vx_Taken : Value) (d : tBook.D) (left : Int) (w : World) (hl0 : 0 ≤ left) (hl : left ≤ 1048576) (h : RdA tBook w [vx_Field, .int .i64 x_Rules_Win, .int .i64 x_Rules_Draw, .int .i64 x_Rules_Loss, vx_Rules_Ladder, .bool x_Rules_Again, vx_Games, vx_Fair, vx_Taken] d) (hf : tBook.fit d) : Calls Tryd.prog 4 #[.agg #[vx_Field, .int .i64 x_Rules_Win, .int .i64 x_Rules_Draw, .int .i64 x_Rules_Loss, vx_Rules_Ladder, .bool x_Rules_Again, vx_Games, vx_Fair, vx_Taken], .int .i64 left] w (SzT tBook d left w) := by
  have hwt : tBook.wt d = (tTeamS.wt d.1 + (tRules.wt d.2.1 + (tGameS.wt d.2.2.1 + (tIntS.wt d.2.2.2.1 + tIntS.wt d.2.2.2.2)))) := rfl
  have P0 : RdA tTeamS w [vx_Field] d.1 := (rd_split h).1
  have Pt0 := (rd_split h).2
  have P1 : RdA tRules w [.int .i64 x_Rules_Win, .int .i64 x_Rules_Draw, .int .i64 x_Rules_Loss, vx_Rules_Ladder, .bool x_Rules_Again] d.2.1 := (rd_split Pt0).1
  have Pt1 := (rd_split Pt0).2
  have P2 : RdA tGameS w [vx_Games] d.2.2.1 := (rd_split Pt1).1
  have Pt2 := (rd_split Pt1).2
  have P3 : RdA tIntS w [vx_Fair] d.2.2.2.1 := (rd_split Pt2).1
  have Pt3 := (rd_split Pt2).2
  have P4 : RdA tIntS w [vx_Taken] d.2.2.2.2 := Pt3
  clear Pt0 Pt1 Pt2 Pt3
  have HP0 := Lib.hid P0
  have HP1 := Lib.hid P1
  have HP2 := Lib.hid P2
  have HP3 := Lib.hid P3
  have HP4 := Lib.hid P4
  have HF0 : Hid (tTeamS.fit d.1) := hf.1
  obtain ⟨W0, hW0⟩ : ∃ z, tTeamS.wt d.1 = z := ⟨_, rfl⟩
  obtain ⟨W1, hW1⟩ : ∃ z, tRules.wt d.2.1 = z := ⟨_, rfl⟩
  obtain ⟨W2, hW2⟩ : ∃ z, tGameS.wt d.2.2.1 = z := ⟨_, rfl⟩
  obtain ⟨W3, hW3⟩ : ∃ z, tIntS.wt d.2.2.2.1 = z := ⟨_, rfl⟩
  obtain ⟨W4, hW4⟩ : ∃ z, tIntS.wt d.2.2.2.2 = z := ⟨_, rfl⟩
  unfold SzT
  rw [hwt]
  clear hwt h P0 P1 P2 P3 P4 hf
  have HB0 : Hid (Below w.heap.size w (w.alloc (.cells #[vx_Field, .int .i64 x_Rules_Win, .int .i64 x_Rules_Draw, .int .i64 x_Rules_Loss, vx_Rules_Ladder, .bool x_Rules_Again, vx_Games, vx_Fair, vx_Taken] 28))) := (Below.refl _ _).alloc (Nat.le_refl _) _
  have BX0 : Hid (BoxN (w.alloc (.cells #[vx_Field, .int .i64 x_Rules_Win, .int .i64 x_Rules_Draw, .int .i64 x_Rules_Loss, vx_Rules_Ladder, .bool x_Rules_Again, vx_Games, vx_Fair, vx_Taken] 28)) w.heap.size [vx_Field, .int .i64 x_Rules_Win, .int .i64 x_Rules_Draw, .int .i64 x_Rules_Loss, vx_Rules_Ladder, .bool x_Rules_Again, vx_Games, vx_Fair, vx_Taken]) := BoxN.made (Below.refl _ _) rfl
  have c0 := BX0.out.2 0 _ rfl
  have c1 := BX0.out.2 1 _ rfl
  have c2 := BX0.out.2 2 _ rfl
  have c3 := BX0.out.2 3 _ rfl
  have c4 := BX0.out.2 4 _ rfl
  have c5 := BX0.out.2 5 _ rfl
  have c6 := BX0.out.2 6 _ rfl
  have c7 := BX0.out.2 7 _ rfl
  have c8 := BX0.out.2 8 _ rfl
  go_enter Tryd.func4, Tryd.ntmps4
  go_wp2_with fail
  refine (y_sz_TeamS vx_Field d.1 left _ (by omega) (by omega) (RdA.below HP0.out HB0.out) HF0.out).mono ?_
  rintro e w1 ⟨⟨r1, rfl, hr1⟩, b1⟩
  rw [hW0] at hr1
  have HB1 := Lib.hid (HB0.out.trans (b1.mono HB0.out.size))
  have BX1 := Lib.hid (BX0.out.below b1)
  clear c0 c1 c2 c3 c4 c5 c6 c7 c8 BX0 b1
  have c0 := BX1.out.2 0 _ rfl
  have c1 := BX1.out.2 1 _ rfl
  have c2 := BX1.out.2 2 _ rfl
  have c3 := BX1.out.2 3 _ rfl
  have c4 := BX1.out.2 4 _ rfl
  have c5 := BX1.out.2 5 _ rfl
  have c6 := BX1.out.2 6 _ rfl
  have c7 := BX1.out.2 7 _ rfl
  have c8 := BX1.out.2 8 _ rfl
  by_cases hn1 : r1 < 0
  · have g2 : decide (r1 < 0) = true := decide_eq_true hn1
    have HE := Lib.hid HB1.out
    clear hr1
    go_wp2
    go_ret
    exact ⟨⟨-1, rfl, .inl (by omega)⟩, HE.out⟩
  have g1 : decide (r1 < 0) = false := decide_eq_false hn1
  replace hn1 : 0 ≤ r1 ∧ (W0 : Int) + r1 = left := by omega
  clear hr1
  go_wp2_with fail
  refine (y_sz_Rules x_Rules_Win x_Rules_Draw x_Rules_Loss vx_Rules_Ladder x_Rules_Again d.2.1 r1 _ (by omega) (by omega) (RdA.below HP1.out HB1.out)).mono ?_
  rintro e w2 ⟨⟨r2, rfl, hr2⟩, b2⟩
  rw [hW1] at hr2
  have HB2 := Lib.hid (HB1.out.trans (b2.mono HB1.out.size))
  have BX2 := Lib.hid (BX1.out.below b2)
  clear c0 c1 c2 c3 c4 c5 c6 c7 c8 BX1 b2
  have c0 := BX2.out.2 0 _ rfl
  have c1 := BX2.out.2 1 _ rfl
  have c2 := BX2.out.2 2 _ rfl
  have c3 := BX2.out.2 3 _ rfl
  have c4 := BX2.out.2 4 _ rfl
  have c5 := BX2.out.2 5 _ rfl
  have c6 := BX2.out.2 6 _ rfl
  have c7 := BX2.out.2 7 _ rfl
  have c8 := BX2.out.2 8 _ rfl
  by_cases hn2 : r2 < 0
  · have g2 : decide (r2 < 0) = true := decide_eq_true hn2
    have HE := Lib.hid HB2.out
    clear hr2
    go_wp2
    go_ret
    exact ⟨⟨-1, rfl, .inl (by omega)⟩, HE.out⟩
  have g2 : decide (r2 < 0) = false := decide_eq_false hn2
  replace hn2 : 0 ≤ r2 ∧ (W1 : Int) + r2 = r1 := by omega
  clear hr2
  go_wp2_with fail
  refine (y_sz_GameS vx_Games d.2.2.1 r2 _ (by omega) (by omega) (RdA.below HP2.out HB2.out)).mono ?_
  rintro e w3 ⟨⟨r3, rfl, hr3⟩, b3⟩
  rw [hW2] at hr3
  have HB3 := Lib.hid (HB2.out.trans (b3.mono HB2.out.size))
  have BX3 := Lib.hid (BX2.out.below b3)
  clear c0 c1 c2 c3 c4 c5 c6 c7 c8 BX2 b3
  have c0 := BX3.out.2 0 _ rfl
  have c1 := BX3.out.2 1 _ rfl
  have c2 := BX3.out.2 2 _ rfl
  have c3 := BX3.out.2 3 _ rfl
  have c4 := BX3.out.2 4 _ rfl
  have c5 := BX3.out.2 5 _ rfl
  have c6 := BX3.out.2 6 _ rfl
  have c7 := BX3.out.2 7 _ rfl
  have c8 := BX3.out.2 8 _ rfl
  by_cases hn3 : r3 < 0
  · have g2 : decide (r3 < 0) = true := decide_eq_true hn3
    have HE := Lib.hid HB3.out
    clear hr3
    go_wp2
    go_ret
    exact ⟨⟨-1, rfl, .inl (by omega)⟩, HE.out⟩
  have g3 : decide (r3 < 0) = false := decide_eq_false hn3
  replace hn3 : 0 ≤ r3 ∧ (W2 : Int) + r3 = r2 := by omega
  clear hr3
  go_wp2_with fail
  refine (y_sz_IntS vx_Fair d.2.2.2.1 r3 _ (by omega) (by omega) (RdA.below HP3.out HB3.out)).mono ?_
  rintro e w4 ⟨⟨r4, rfl, hr4⟩, b4⟩
  rw [hW3] at hr4
  have HB4 := Lib.hid (HB3.out.trans (b4.mono HB3.out.size))
  have BX4 := Lib.hid (BX3.out.below b4)
  clear c0 c1 c2 c3 c4 c5 c6 c7 c8 BX3 b4
  have c0 := BX4.out.2 0 _ rfl
  have c1 := BX4.out.2 1 _ rfl
  have c2 := BX4.out.2 2 _ rfl
  have c3 := BX4.out.2 3 _ rfl
  have c4 := BX4.out.2 4 _ rfl
  have c5 := BX4.out.2 5 _ rfl
  have c6 := BX4.out.2 6 _ rfl
  have c7 := BX4.out.2 7 _ rfl
  have c8 := BX4.out.2 8 _ rfl
  by_cases hn4 : r4 < 0
  · have g2 : decide (r4 < 0) = true := decide_eq_true hn4
    have HE := Lib.hid HB4.out
    clear hr4
    go_wp2
    go_ret
    exact ⟨⟨-1, rfl, .inl (by omega)⟩, HE.out⟩
  have g4 : decide (r4 < 0) = false := decide_eq_false hn4
  replace hn4 : 0 ≤ r4 ∧ (W3 : Int) + r4 = r3 := by omega
  clear hr4
  go_wp2_with fail
  refine (y_sz_IntS vx_Taken d.2.2.2.2 r4 _ (by omega) (by omega) (RdA.below HP4.out HB4.out)).mono ?_
  rintro e w5 ⟨⟨r5, rfl, hr5⟩, b5⟩
  rw [hW4] at hr5
  have HB5 := Lib.hid (HB4.out.trans (b5.mono HB4.out.size))
  have BX5 := Lib.hid (BX4.out.below b5)
  clear c0 c1 c2 c3 c4 c5 c6 c7 c8 BX4 b5
  have c0 := BX5.out.2 0 _ rfl
  have c1 := BX5.out.2 1 _ rfl
  have c2 := BX5.out.2 2 _ rfl
  have c3 := BX5.out.2 3 _ rfl
  have c4 := BX5.out.2 4 _ rfl
  have c5 := BX5.out.2 5 _ rfl
  have c6 := BX5.out.2 6 _ rfl
  have c7 := BX5.out.2 7 _ rfl
  have c8 := BX5.out.2 8 _ rfl
  by_cases hn5 : r5 < 0
  · have g2 : decide (r5 < 0) = true := decide_eq_true hn5
    have HE := Lib.hid HB5.out
    clear hr5
    go_wp2
    go_ret
    exact ⟨⟨-1, rfl, .inl (by omega)⟩, HE.out⟩
  have g5 : decide (r5 < 0) = false := decide_eq_false hn5
  replace hn5 : 0 ≤ r5 ∧ (W4 : Int) + r5 = r4 := by omega
  clear hr5
  have HE := Lib.hid HB5.out
  go_wp2
  go_ret
  refine ⟨⟨_, rfl, .inr ⟨by omega, ?_⟩⟩, HE.out⟩
  rw [hW0, hW1, hW2, hW3, hW4]
  omega
set_option maxRecDepth 100000 in
set_option maxHeartbeats 2000000 in
theorem y_eq_Book (vx_Field : Value) (x_Rules_Win : Int) (x_Rules_Draw : Int) (x_Rules_Loss : Int) (vx_Rules_Ladder : Value) (x_Rules_Again : Bool) (vx_Games : Value) (vx_Fair : Value) (vx_Taken : Value) (vx_Field' : Value) (vx_Rules_Ladder' : Value) (vx_Games' : Value) (vx_Fair' : Value) (vx_Taken' : Value) (d : tBook.D) (w : World) (h : RdA tBook w [vx_Field, .int .i64 x_Rules_Win, .int .i64 x_Rules_Draw, .int .i64 x_Rules_Loss, vx_Rules_Ladder, .bool x_Rules_Again, vx_Games, vx_Fair, vx_Taken] d) (h' : RdA tBook w [vx_Field', .int .i64 x_Rules_Win, .int .i64 x_Rules_Draw, .int .i64 x_Rules_Loss, vx_Rules_Ladder', .bool x_Rules_Again, vx_Games', vx_Fair', vx_Taken'] d) : Calls Tryd.prog 10 #[.agg #[vx_Field, .int .i64 x_Rules_Win, .int .i64 x_Rules_Draw, .int .i64 x_Rules_Loss, vx_Rules_Ladder, .bool x_Rules_Again, vx_Games, vx_Fair, vx_Taken], .agg #[vx_Field', .int .i64 x_Rules_Win, .int .i64 x_Rules_Draw, .int .i64 x_Rules_Loss, vx_Rules_Ladder', .bool x_Rules_Again, vx_Games', vx_Fair', vx_Taken']] w fun e w' => e = .returned (.bool true) ∧ Below w.heap.size w w' := by
  have P0 : RdA tTeamS w [vx_Field] d.1 := (rd_split h).1
  have Pt0 := (rd_split h).2
  have P1 : RdA tRules w [.int .i64 x_Rules_Win, .int .i64 x_Rules_Draw, .int .i64 x_Rules_Loss, vx_Rules_Ladder, .bool x_Rules_Again] d.2.1 := (rd_split Pt0).1
  have Pt1 := (rd_split Pt0).2
  have P2 : RdA tGameS w [vx_Games] d.2.2.1 := (rd_split Pt1).1
  have Pt2 := (rd_split Pt1).2
  have P3 : RdA tIntS w [vx_Fair] d.2.2.2.1 := (rd_split Pt2).1
  have Pt3 := (rd_split Pt2).2
  have P4 : RdA tIntS w [vx_Taken] d.2.2.2.2 := Pt3
  clear Pt0 Pt1 Pt2 Pt3
  have Q0 : RdA tTeamS w [vx_Field'] d.1 := (rd_split h').1
  have Qt0 := (rd_split h').2
  have Q1 : RdA tRules w [.int .i64 x_Rules_Win, .int .i64 x_Rules_Draw, .int .i64 x_Rules_Loss, vx_Rules_Ladder', .bool x_Rules_Again] d.2.1 := (rd_split Qt0).1
  have Qt1 := (rd_split Qt0).2
  have Q2 : RdA tGameS w [vx_Games'] d.2.2.1 := (rd_split Qt1).1
  have Qt2 := (rd_split Qt1).2
  have Q3 : RdA tIntS w [vx_Fair'] d.2.2.2.1 := (rd_split Qt2).1
  have Qt3 := (rd_split Qt2).2
  have Q4 : RdA tIntS w [vx_Taken'] d.2.2.2.2 := Qt3
  clear Qt0 Qt1 Qt2 Qt3
  have HP0 := Lib.hid P0
  have HP1 := Lib.hid P1
  have HP2 := Lib.hid P2
  have HP3 := Lib.hid P3
  have HP4 := Lib.hid P4
  have HQ0 := Lib.hid Q0
  have HQ1 := Lib.hid Q1
  have HQ2 := Lib.hid Q2
  have HQ3 := Lib.hid Q3
  have HQ4 := Lib.hid Q4
  have HB0 : Hid (Below w.heap.size w ((w.alloc (.cells #[vx_Field, .int .i64 x_Rules_Win, .int .i64 x_Rules_Draw, .int .i64 x_Rules_Loss, vx_Rules_Ladder, .bool x_Rules_Again, vx_Games, vx_Fair, vx_Taken] 38)).alloc (.cells #[vx_Field', .int .i64 x_Rules_Win, .int .i64 x_Rules_Draw, .int .i64 x_Rules_Loss, vx_Rules_Ladder', .bool x_Rules_Again, vx_Games', vx_Fair', vx_Taken'] 38))) := ((Below.refl _ _).alloc (Nat.le_refl _) _).alloc (by simp) _
  have BX0 : Hid (BoxN ((w.alloc (.cells #[vx_Field, .int .i64 x_Rules_Win, .int .i64 x_Rules_Draw, .int .i64 x_Rules_Loss, vx_Rules_Ladder, .bool x_Rules_Again, vx_Games, vx_Fair, vx_Taken] 38)).alloc (.cells #[vx_Field', .int .i64 x_Rules_Win, .int .i64 x_Rules_Draw, .int .i64 x_Rules_Loss, vx_Rules_Ladder', .bool x_Rules_Again, vx_Games', vx_Fair', vx_Taken'] 38)) w.heap.size [vx_Field, .int .i64 x_Rules_Win, .int .i64 x_Rules_Draw, .int .i64 x_Rules_Loss, vx_Rules_Ladder, .bool x_Rules_Again, vx_Games, vx_Fair, vx_Taken]) := BoxN.below (BoxN.made (Below.refl _ _) rfl) ((Below.refl _ _).alloc (Nat.le_refl _) _)
  have BY0 : Hid (BoxN ((w.alloc (.cells #[vx_Field, .int .i64 x_Rules_Win, .int .i64 x_Rules_Draw, .int .i64 x_Rules_Loss, vx_Rules_Ladder, .bool x_Rules_Again, vx_Games, vx_Fair, vx_Taken] 38)).alloc (.cells #[vx_Field', .int .i64 x_Rules_Win, .int .i64 x_Rules_Draw, .int .i64 x_Rules_Loss, vx_Rules_Ladder', .bool x_Rules_Again, vx_Games', vx_Fair', vx_Taken'] 38)) (w.heap.size + 1) [vx_Field', .int .i64 x_Rules_Win, .int .i64 x_Rules_Draw, .int .i64 x_Rules_Loss, vx_Rules_Ladder', .bool x_Rules_Again, vx_Games', vx_Fair', vx_Taken']) := BoxN.made (Below.refl _ _) (by simp)
  clear h h' P0 Q0 P1 Q1 P2 Q2 P3 Q3 P4 Q4
  have c0 := BX0.out.2 0 _ rfl
  have c1 := BX0.out.2 1 _ rfl
  have c2 := BX0.out.2 2 _ rfl
  have c3 := BX0.out.2 3 _ rfl
  have c4 := BX0.out.2 4 _ rfl
  have c5 := BX0.out.2 5 _ rfl
  have c6 := BX0.out.2 6 _ rfl
  have c7 := BX0.out.2 7 _ rfl
  have c8 := BX0.out.2 8 _ rfl
  have e0 := BY0.out.2 0 _ rfl
  have e1 := BY0.out.2 1 _ rfl
  have e2 := BY0.out.2 2 _ rfl
  have e3 := BY0.out.2 3 _ rfl
  have e4 := BY0.out.2 4 _ rfl
  have e5 := BY0.out.2 5 _ rfl
  have e6 := BY0.out.2 6 _ rfl
  have e7 := BY0.out.2 7 _ rfl
  have e8 := BY0.out.2 8 _ rfl
  have bl := BX0.out.1
  have bm := BY0.out.1
  go_enter Tryd.func10, Tryd.ntmps10
  go_wp2_with fail
  refine (y_eq_TeamS vx_Field vx_Field' d.1 _ (RdA.below HP0.out HB0.out) (RdA.below HQ0.out HB0.out)).mono ?_
  rintro e w1 ⟨rfl, b1⟩
  have HB1 := Lib.hid (HB0.out.trans (b1.mono HB0.out.size))
  have BX1 := Lib.hid (BX0.out.below b1)
  have BY1 := Lib.hid (BY0.out.below b1)
  clear c0 c1 c2 c3 c4 c5 c6 c7 c8 e0 e1 e2 e3 e4 e5 e6 e7 e8 bl bm BX0 BY0 b1
  have c0 := BX1.out.2 0 _ rfl
  have c1 := BX1.out.2 1 _ rfl
  have c2 := BX1.out.2 2 _ rfl
  have c3 := BX1.out.2 3 _ rfl
  have c4 := BX1.out.2 4 _ rfl
  have c5 := BX1.out.2 5 _ rfl
  have c6 := BX1.out.2 6 _ rfl
  have c7 := BX1.out.2 7 _ rfl
  have c8 := BX1.out.2 8 _ rfl
  have e0 := BY1.out.2 0 _ rfl
  have e1 := BY1.out.2 1 _ rfl
  have e2 := BY1.out.2 2 _ rfl
  have e3 := BY1.out.2 3 _ rfl
  have e4 := BY1.out.2 4 _ rfl
  have e5 := BY1.out.2 5 _ rfl
  have e6 := BY1.out.2 6 _ rfl
  have e7 := BY1.out.2 7 _ rfl
  have e8 := BY1.out.2 8 _ rfl
  have bl := BX1.out.1
  have bm := BY1.out.1
  go_wp2_with fail
  refine (y_eq_Rules x_Rules_Win x_Rules_Draw x_Rules_Loss vx_Rules_Ladder x_Rules_Again vx_Rules_Ladder' d.2.1 _ (RdA.below HP1.out HB1.out) (RdA.below HQ1.out HB1.out)).mono ?_
  rintro e w2 ⟨rfl, b2⟩
  have HB2 := Lib.hid (HB1.out.trans (b2.mono HB1.out.size))
  have BX2 := Lib.hid (BX1.out.below b2)
  have BY2 := Lib.hid (BY1.out.below b2)
  clear c0 c1 c2 c3 c4 c5 c6 c7 c8 e0 e1 e2 e3 e4 e5 e6 e7 e8 bl bm BX1 BY1 b2
  have c0 := BX2.out.2 0 _ rfl
  have c1 := BX2.out.2 1 _ rfl
  have c2 := BX2.out.2 2 _ rfl
  have c3 := BX2.out.2 3 _ rfl
  have c4 := BX2.out.2 4 _ rfl
  have c5 := BX2.out.2 5 _ rfl
  have c6 := BX2.out.2 6 _ rfl
  have c7 := BX2.out.2 7 _ rfl
  have c8 := BX2.out.2 8 _ rfl
  have e0 := BY2.out.2 0 _ rfl
  have e1 := BY2.out.2 1 _ rfl
  have e2 := BY2.out.2 2 _ rfl
  have e3 := BY2.out.2 3 _ rfl
  have e4 := BY2.out.2 4 _ rfl
  have e5 := BY2.out.2 5 _ rfl
  have e6 := BY2.out.2 6 _ rfl
  have e7 := BY2.out.2 7 _ rfl
  have e8 := BY2.out.2 8 _ rfl
  have bl := BX2.out.1
  have bm := BY2.out.1
  go_wp2_with fail
  refine (y_eq_GameS vx_Games vx_Games' d.2.2.1 _ (RdA.below HP2.out HB2.out) (RdA.below HQ2.out HB2.out)).mono ?_
  rintro e w3 ⟨rfl, b3⟩
  have HB3 := Lib.hid (HB2.out.trans (b3.mono HB2.out.size))
  have BX3 := Lib.hid (BX2.out.below b3)
  have BY3 := Lib.hid (BY2.out.below b3)
  clear c0 c1 c2 c3 c4 c5 c6 c7 c8 e0 e1 e2 e3 e4 e5 e6 e7 e8 bl bm BX2 BY2 b3
  have c0 := BX3.out.2 0 _ rfl
  have c1 := BX3.out.2 1 _ rfl
  have c2 := BX3.out.2 2 _ rfl
  have c3 := BX3.out.2 3 _ rfl
  have c4 := BX3.out.2 4 _ rfl
  have c5 := BX3.out.2 5 _ rfl
  have c6 := BX3.out.2 6 _ rfl
  have c7 := BX3.out.2 7 _ rfl
  have c8 := BX3.out.2 8 _ rfl
  have e0 := BY3.out.2 0 _ rfl
  have e1 := BY3.out.2 1 _ rfl
  have e2 := BY3.out.2 2 _ rfl
  have e3 := BY3.out.2 3 _ rfl
  have e4 := BY3.out.2 4 _ rfl
  have e5 := BY3.out.2 5 _ rfl
  have e6 := BY3.out.2 6 _ rfl
  have e7 := BY3.out.2 7 _ rfl
  have e8 := BY3.out.2 8 _ rfl
  have bl := BX3.out.1
  have bm := BY3.out.1
  go_wp2_with fail
  refine (y_eq_IntS vx_Fair vx_Fair' d.2.2.2.1 _ (RdA.below HP3.out HB3.out) (RdA.below HQ3.out HB3.out)).mono ?_
  rintro e w4 ⟨rfl, b4⟩
  have HB4 := Lib.hid (HB3.out.trans (b4.mono HB3.out.size))
  have BX4 := Lib.hid (BX3.out.below b4)
  have BY4 := Lib.hid (BY3.out.below b4)
  clear c0 c1 c2 c3 c4 c5 c6 c7 c8 e0 e1 e2 e3 e4 e5 e6 e7 e8 bl bm BX3 BY3 b4
  have c0 := BX4.out.2 0 _ rfl
  have c1 := BX4.out.2 1 _ rfl
  have c2 := BX4.out.2 2 _ rfl
  have c3 := BX4.out.2 3 _ rfl
  have c4 := BX4.out.2 4 _ rfl
  have c5 := BX4.out.2 5 _ rfl
  have c6 := BX4.out.2 6 _ rfl
  have c7 := BX4.out.2 7 _ rfl
  have c8 := BX4.out.2 8 _ rfl
  have e0 := BY4.out.2 0 _ rfl
  have e1 := BY4.out.2 1 _ rfl
  have e2 := BY4.out.2 2 _ rfl
  have e3 := BY4.out.2 3 _ rfl
  have e4 := BY4.out.2 4 _ rfl
  have e5 := BY4.out.2 5 _ rfl
  have e6 := BY4.out.2 6 _ rfl
  have e7 := BY4.out.2 7 _ rfl
  have e8 := BY4.out.2 8 _ rfl
  have bl := BX4.out.1
  have bm := BY4.out.1
  go_wp2_with fail
  refine (y_eq_IntS vx_Taken vx_Taken' d.2.2.2.2 _ (RdA.below HP4.out HB4.out) (RdA.below HQ4.out HB4.out)).mono ?_
  rintro e w5 ⟨rfl, b5⟩
  have HB5 := Lib.hid (HB4.out.trans (b5.mono HB4.out.size))
  have BX5 := Lib.hid (BX4.out.below b5)
  have BY5 := Lib.hid (BY4.out.below b5)
  clear c0 c1 c2 c3 c4 c5 c6 c7 c8 e0 e1 e2 e3 e4 e5 e6 e7 e8 bl bm BX4 BY4 b5
  have c0 := BX5.out.2 0 _ rfl
  have c1 := BX5.out.2 1 _ rfl
  have c2 := BX5.out.2 2 _ rfl
  have c3 := BX5.out.2 3 _ rfl
  have c4 := BX5.out.2 4 _ rfl
  have c5 := BX5.out.2 5 _ rfl
  have c6 := BX5.out.2 6 _ rfl
  have c7 := BX5.out.2 7 _ rfl
  have c8 := BX5.out.2 8 _ rfl
  have e0 := BY5.out.2 0 _ rfl
  have e1 := BY5.out.2 1 _ rfl
  have e2 := BY5.out.2 2 _ rfl
  have e3 := BY5.out.2 3 _ rfl
  have e4 := BY5.out.2 4 _ rfl
  have e5 := BY5.out.2 5 _ rfl
  have e6 := BY5.out.2 6 _ rfl
  have e7 := BY5.out.2 7 _ rfl
  have e8 := BY5.out.2 8 _ rfl
  have bl := BX5.out.1
  have bm := BY5.out.1
  have HE := Lib.hid HB5.out
  go_wp2
  go_ret
  exact ⟨rfl, HE.out⟩
set_option maxRecDepth 100000 in
set_option maxHeartbeats 4000000 in
theorem y_to_Book (vx_Field : Value) (x_Rules_Win : Int) (x_Rules_Draw : Int) (x_Rules_Loss : Int) (vx_Rules_Ladder : Value) (x_Rules_Again : Bool) (vx_Games : Value) (vx_Fair : Value) (vx_Taken : Value) (d : tBook.D) (w : World) (h : RdA tBook w [vx_Field, .int .i64 x_Rules_Win, .int .i64 x_Rules_Draw, .int .i64 x_Rules_Loss, vx_Rules_Ladder, .bool x_Rules_Again, vx_Games, vx_Fair, vx_Taken] d) (hw : tBook.wt d ≤ 1048576) : Calls Tryd.prog 7 #[.agg #[vx_Field, .int .i64 x_Rules_Win, .int .i64 x_Rules_Draw, .int .i64 x_Rules_Loss, vx_Rules_Ladder, .bool x_Rules_Again, vx_Games, vx_Fair, vx_Taken]] w (fun e w' => ∃ vx_Field' vx_Rules_Ladder' vx_Games' vx_Fair' vx_Taken' : Value, e = .returned (.agg #[vx_Field', .int .i64 x_Rules_Win, .int .i64 x_Rules_Draw, .int .i64 x_Rules_Loss, vx_Rules_Ladder', .bool x_Rules_Again, vx_Games', vx_Fair', vx_Taken']) ∧ OwN tBook w' w.heap.size w'.heap.size [vx_Field', .int .i64 x_Rules_Win, .int .i64 x_Rules_Draw, .int .i64 x_Rules_Loss, vx_Rules_Ladder', .bool x_Rules_Again, vx_Games', vx_Fair', vx_Taken'] d ∧ Below w.heap.size w w') := by
  have P0 : RdA tTeamS w [vx_Field] d.1 := (rd_split h).1
  have Pt0 := (rd_split h).2
  have P1 : RdA tRules w [.int .i64 x_Rules_Win, .int .i64 x_Rules_Draw, .int .i64 x_Rules_Loss, vx_Rules_Ladder, .bool x_Rules_Again] d.2.1 := (rd_split Pt0).1
  have Pt1 := (rd_split Pt0).2
  have P2 : RdA tGameS w [vx_Games] d.2.2.1 := (rd_split Pt1).1
  have Pt2 := (rd_split Pt1).2
  have P3 : RdA tIntS w [vx_Fair] d.2.2.2.1 := (rd_split Pt2).1
  have Pt3 := (rd_split Pt2).2
  have P4 : RdA tIntS w [vx_Taken] d.2.2.2.2 := Pt3
  clear Pt0 Pt1 Pt2 Pt3
  have HP0 := Lib.hid P0
  have HP1 := Lib.hid P1
  have HP2 := Lib.hid P2
  have HP3 := Lib.hid P3
  have HP4 := Lib.hid P4
  have hwt : tBook.wt d = (tTeamS.wt d.1 + (tRules.wt d.2.1 + (tGameS.wt d.2.2.1 + (tIntS.wt d.2.2.2.1 + tIntS.wt d.2.2.2.2)))) := rfl
  rw [hwt] at hw
  have hw0 : tTeamS.wt d.1 ≤ 1048576 := by omega
  have hw1 : tRules.wt d.2.1 ≤ 1048576 := by omega
  have hw2 : tGameS.wt d.2.2.1 ≤ 1048576 := by omega
  have hw3 : tIntS.wt d.2.2.2.1 ≤ 1048576 := by omega
  have hw4 : tIntS.wt d.2.2.2.2 ≤ 1048576 := by omega
  have HW0 := Lib.hid hw0
  have HW1 := Lib.hid hw1
  have HW2 := Lib.hid hw2
  have HW3 := Lib.hid hw3
  have HW4 := Lib.hid hw4
  clear hw hwt hw0 hw1 hw2 hw3 hw4
  have HB0 : Hid (Below w.heap.size w (((w.alloc (.cells #[vx_Field, .int .i64 x_Rules_Win, .int .i64 x_Rules_Draw, .int .i64 x_Rules_Loss, vx_Rules_Ladder, .bool x_Rules_Again, vx_Games, vx_Fair, vx_Taken] 28)).alloc (.cells #[.slice none 0 0, .int .i64 0, .int .i64 0, .int .i64 0, .slice none 0 0, .bool false, .slice none 0 0, .slice none 0 0, .slice none 0 0] 38)).alloc (.cells #[.slice none 0 0, .int .i64 0, .int .i64 0, .int .i64 0, .slice none 0 0, .bool false, .slice none 0 0, .slice none 0 0, .slice none 0 0] 38))) := (((Below.refl _ _).alloc (Nat.le_refl _) _).alloc (by simp) _).alloc (by simp <;> omega) _
  have BX0 : Hid (BoxN (((w.alloc (.cells #[vx_Field, .int .i64 x_Rules_Win, .int .i64 x_Rules_Draw, .int .i64 x_Rules_Loss, vx_Rules_Ladder, .bool x_Rules_Again, vx_Games, vx_Fair, vx_Taken] 28)).alloc (.cells #[.slice none 0 0, .int .i64 0, .int .i64 0, .int .i64 0, .slice none 0 0, .bool false, .slice none 0 0, .slice none 0 0, .slice none 0 0] 38)).alloc (.cells #[.slice none 0 0, .int .i64 0, .int .i64 0, .int .i64 0, .slice none 0 0, .bool false, .slice none 0 0, .slice none 0 0, .slice none 0 0] 38)) w.heap.size [vx_Field, .int .i64 x_Rules_Win, .int .i64 x_Rules_Draw, .int .i64 x_Rules_Loss, vx_Rules_Ladder, .bool x_Rules_Again, vx_Games, vx_Fair, vx_Taken]) := BoxN.below (BoxN.below (BoxN.made (Below.refl _ _) rfl) ((Below.refl _ _).alloc (Nat.le_refl _) _)) ((Below.refl _ _).alloc (Nat.le_refl _) _)
  have RS0 : Hid (ResAt (((w.alloc (.cells #[vx_Field, .int .i64 x_Rules_Win, .int .i64 x_Rules_Draw, .int .i64 x_Rules_Loss, vx_Rules_Ladder, .bool x_Rules_Again, vx_Games, vx_Fair, vx_Taken] 28)).alloc (.cells #[.slice none 0 0, .int .i64 0, .int .i64 0, .int .i64 0, .slice none 0 0, .bool false, .slice none 0 0, .slice none 0 0, .slice none 0 0] 38)).alloc (.cells #[.slice none 0 0, .int .i64 0, .int .i64 0, .int .i64 0, .slice none 0 0, .bool false, .slice none 0 0, .slice none 0 0, .slice none 0 0] 38)) (w.heap.size + 1) 9) := ResAt.below (ResAt.made' (by simp) rfl) ((Below.refl _ _).alloc (Nat.le_refl _) _)
  have BO0 : Hid (BoxF (((w.alloc (.cells #[vx_Field, .int .i64 x_Rules_Win, .int .i64 x_Rules_Draw, .int .i64 x_Rules_Loss, vx_Rules_Ladder, .bool x_Rules_Again, vx_Games, vx_Fair, vx_Taken] 28)).alloc (.cells #[.slice none 0 0, .int .i64 0, .int .i64 0, .int .i64 0, .slice none 0 0, .bool false, .slice none 0 0, .slice none 0 0, .slice none 0 0] 38)).alloc (.cells #[.slice none 0 0, .int .i64 0, .int .i64 0, .int .i64 0, .slice none 0 0, .bool false, .slice none 0 0, .slice none 0 0, .slice none 0 0] 38)) (w.heap.size + 2) [.slice none 0 0, .int .i64 0, .int .i64 0, .int .i64 0, .slice none 0 0, .bool false, .slice none 0 0, .slice none 0 0, .slice none 0 0]) := BoxF.made (Below.refl _ _) (by simp)
  clear h P0 P1 P2 P3 P4
  have c0 := BX0.out.2 0 _ rfl
  have c1 := BX0.out.2 1 _ rfl
  have c2 := BX0.out.2 2 _ rfl
  have c3 := BX0.out.2 3 _ rfl
  have c4 := BX0.out.2 4 _ rfl
  have c5 := BX0.out.2 5 _ rfl
  have c6 := BX0.out.2 6 _ rfl
  have c7 := BX0.out.2 7 _ rfl
  have c8 := BX0.out.2 8 _ rfl
  have o0 := BO0.out.2 0 _ rfl
  have o1 := BO0.out.2 1 _ rfl
  have o2 := BO0.out.2 2 _ rfl
  have o3 := BO0.out.2 3 _ rfl
  have o4 := BO0.out.2 4 _ rfl
  have o5 := BO0.out.2 5 _ rfl
  have o6 := BO0.out.2 6 _ rfl
  have o7 := BO0.out.2 7 _ rfl
  have o8 := BO0.out.2 8 _ rfl
  have bl := BX0.out.1
  have bm := BO0.out.1
  have bn := RS0.out.lt
  obtain ⟨⟨z0, q0⟩, y0⟩ := RS0.out.at 0 (by omega)
  obtain ⟨⟨z1, q1⟩, y1⟩ := RS0.out.at 1 (by omega)
  obtain ⟨⟨z2, q2⟩, y2⟩ := RS0.out.at 2 (by omega)
  obtain ⟨⟨z3, q3⟩, y3⟩ := RS0.out.at 3 (by omega)
  obtain ⟨⟨z4, q4⟩, y4⟩ := RS0.out.at 4 (by omega)
  obtain ⟨⟨z5, q5⟩, y5⟩ := RS0.out.at 5 (by omega)
  obtain ⟨⟨z6, q6⟩, y6⟩ := RS0.out.at 6 (by omega)
  obtain ⟨⟨z7, q7⟩, y7⟩ := RS0.out.at 7 (by omega)
  obtain ⟨⟨z8, q8⟩, y8⟩ := RS0.out.at 8 (by omega)
  go_enter Tryd.func7, Tryd.ntmps7
  go_wp2_with fail
  clear c0 o0 q0 y0 c1 o1 q1 y1 c2 o2 q2 y2 c3 o3 q3 y3 c4 o4 q4 y4 c5 o5 q5 y5 c6 o6 q6 y6 c7 o7 q7 y7 c8 o8 q8 y8 bl bm bn
  refine (y_to_TeamS vx_Field d.1 _ (RdA.below HP0.out HB0.out) HW0.out).mono ?_
  rintro e w1 ⟨u0_0, rfl, ho1, b1⟩
  have hs1 := b1.size
  have hS1 : w.heap.size + 3 ≤ w1.heap.size := by simp at hs1; omega
  have HBc1 := Lib.hid (HB0.out.trans (b1.mono HB0.out.size))
  have BXc1 := Lib.hid (BX0.out.below b1)
  have RSc1 := Lib.hid (RS0.out.below b1)
  have BOc1 := Lib.hid (BO0.out.below b1)
  have O0_c1 := Lib.hid (ho1.mono (lo' := w.heap.size + 3) (hi' := w1.heap.size) (by simp) (Nat.le_refl _) (Nat.le_refl _))
  clear HB0 BX0 RS0 BO0 hs1 b1 ho1
  obtain ⟨au0_0, nu0_0, ku0_0, hu0_0⟩ := rd_slice O0_c1.out.rd
  subst hu0_0
  have c0 := BXc1.out.2 0 _ rfl
  have c1 := BXc1.out.2 1 _ rfl
  have c2 := BXc1.out.2 2 _ rfl
  have c3 := BXc1.out.2 3 _ rfl
  have c4 := BXc1.out.2 4 _ rfl
  have c5 := BXc1.out.2 5 _ rfl
  have c6 := BXc1.out.2 6 _ rfl
  have c7 := BXc1.out.2 7 _ rfl
  have c8 := BXc1.out.2 8 _ rfl
  have o0 := BOc1.out.2 0 _ rfl
  have o1 := BOc1.out.2 1 _ rfl
  have o2 := BOc1.out.2 2 _ rfl
  have o3 := BOc1.out.2 3 _ rfl
  have o4 := BOc1.out.2 4 _ rfl
  have o5 := BOc1.out.2 5 _ rfl
  have o6 := BOc1.out.2 6 _ rfl
  have o7 := BOc1.out.2 7 _ rfl
  have o8 := BOc1.out.2 8 _ rfl
  have bl := BXc1.out.1
  have bm := BOc1.out.1
  have bn := RSc1.out.lt
  obtain ⟨⟨z0, q0⟩, y0⟩ := RSc1.out.at 0 (by omega)
  obtain ⟨⟨z1, q1⟩, y1⟩ := RSc1.out.at 1 (by omega)
  obtain ⟨⟨z2, q2⟩, y2⟩ := RSc1.out.at 2 (by omega)
  obtain ⟨⟨z3, q3⟩, y3⟩ := RSc1.out.at 3 (by omega)
  obtain ⟨⟨z4, q4⟩, y4⟩ := RSc1.out.at 4 (by omega)
  obtain ⟨⟨z5, q5⟩, y5⟩ := RSc1.out.at 5 (by omega)
  obtain ⟨⟨z6, q6⟩, y6⟩ := RSc1.out.at 6 (by omega)
  obtain ⟨⟨z7, q7⟩, y7⟩ := RSc1.out.at 7 (by omega)
  obtain ⟨⟨z8, q8⟩, y8⟩ := RSc1.out.at 8 (by omega)
  go_wp2_with fail
  clear c0 o0 q0 y0 c1 o1 q1 y1 c2 o2 q2 y2 c3 o3 q3 y3 c4 o4 q4 y4 c5 o5 q5 y5 c6 o6 q6 y6 c7 o7 q7 y7 c8 o8 q8 y8 bl bm bn
  have HBs1 := Lib.hid (HBc1.out.setCell (p := ⟨w.heap.size + 2, 0, none⟩) (by simp) (.slice au0_0 nu0_0 ku0_0))
  have BXs1 := Lib.hid (BXc1.out.elsewhere (D := w.heap.size + 2) 0 (.slice au0_0 nu0_0 ku0_0) (by omega))
  have RSs1 := Lib.hid (RSc1.out.elsewhere (D := w.heap.size + 2) 0 (.slice au0_0 nu0_0 ku0_0) (by omega))
  have BOs1 := Lib.hid (BOc1.out.set 0 (.slice au0_0 nu0_0 ku0_0) (by simp))
  have O0_s1 := Lib.hid (O0_c1.out.touch ((Touch.refl (w.heap.size + 2) (w.heap.size + 3) _).setCell ⟨w.heap.size + 2, 0, none⟩ (.slice au0_0 nu0_0 ku0_0) (by simp) (by simp)) (.inr (by omega)))
  clear HBc1 BXc1 RSc1 BOc1 O0_c1
  refine (y_to_Rules x_Rules_Win x_Rules_Draw x_Rules_Loss vx_Rules_Ladder x_Rules_Again d.2.1 _ (RdA.below HP1.out HBs1.out) HW1.out).mono ?_
  rintro e w2 ⟨u1_0, rfl, ho2, b2⟩
  have hs2 := b2.size
  have hS2 : w1.heap.size ≤ w2.heap.size := by simp at hs2; exact hs2
  have HBc2 := Lib.hid (HBs1.out.trans (b2.mono HBs1.out.size))
  have BXc2 := Lib.hid (BXs1.out.below b2)
  have RSc2 := Lib.hid (RSs1.out.below b2)
  have BOc2 := Lib.hid (BOs1.out.below b2)
  have O0_c2 := Lib.hid (O0_s1.out.below b2)
  have O1_c2 := Lib.hid (ho2.mono (lo' := w1.heap.size) (hi' := w2.heap.size) (by simp) (Nat.le_refl _) (Nat.le_refl _))
  clear HBs1 BXs1 RSs1 BOs1 O0_s1 hs2 b2 ho2
  have hsp := O1_c2.out.rd
  replace hsp := (rd_splitB hsp).2
  replace hsp := (rd_splitB hsp).2
  replace hsp := (rd_splitB hsp).2
  obtain ⟨au1_0, nu1_0, ku1_0, hu1_0⟩ := rd_slice (rd_splitB hsp).1
  replace hsp := (rd_splitB hsp).2
  clear hsp
  subst hu1_0
  have c0 := BXc2.out.2 0 _ rfl
  have c1 := BXc2.out.2 1 _ rfl
  have c2 := BXc2.out.2 2 _ rfl
  have c3 := BXc2.out.2 3 _ rfl
  have c4 := BXc2.out.2 4 _ rfl
  have c5 := BXc2.out.2 5 _ rfl
  have c6 := BXc2.out.2 6 _ rfl
  have c7 := BXc2.out.2 7 _ rfl
  have c8 := BXc2.out.2 8 _ rfl
  have o0 := BOc2.out.2 0 _ rfl
  have o1 := BOc2.out.2 1 _ rfl
  have o2 := BOc2.out.2 2 _ rfl
  have o3 := BOc2.out.2 3 _ rfl
  have o4 := BOc2.out.2 4 _ rfl
  have o5 := BOc2.out.2 5 _ rfl
  have o6 := BOc2.out.2 6 _ rfl
  have o7 := BOc2.out.2 7 _ rfl
  have o8 := BOc2.out.2 8 _ rfl
  have bl := BXc2.out.1
  have bm := BOc2.out.1
  have bn := RSc2.out.lt
  obtain ⟨⟨z0, q0⟩, y0⟩ := RSc2.out.at 0 (by omega)
  obtain ⟨⟨z1, q1⟩, y1⟩ := RSc2.out.at 1 (by omega)
  obtain ⟨⟨z2, q2⟩, y2⟩ := RSc2.out.at 2 (by omega)
  obtain ⟨⟨z3, q3⟩, y3⟩ := RSc2.out.at 3 (by omega)
  obtain ⟨⟨z4, q4⟩, y4⟩ := RSc2.out.at 4 (by omega)
  obtain ⟨⟨z5, q5⟩, y5⟩ := RSc2.out.at 5 (by omega)
  obtain ⟨⟨z6, q6⟩, y6⟩ := RSc2.out.at 6 (by omega)
  obtain ⟨⟨z7, q7⟩, y7⟩ := RSc2.out.at 7 (by omega)
  obtain ⟨⟨z8, q8⟩, y8⟩ := RSc2.out.at 8 (by omega)
  go_wp2_with fail
  clear c0 o0 q0 y0 c1 o1 q1 y1 c2 o2 q2 y2 c3 o3 q3 y3 c4 o4 q4 y4 c5 o5 q5 y5 c6 o6 q6 y6 c7 o7 q7 y7 c8 o8 q8 y8 bl bm bn
  have HBs2 := Lib.hid (HBc2.out.setCell (p := ⟨w.heap.size + 2, 1, none⟩) (by simp) (.int .i64 x_Rules_Win))
  have BXs2 := Lib.hid (BXc2.out.elsewhere (D := w.heap.size + 2) 1 (.int .i64 x_Rules_Win) (by omega))
  have RSs2 := Lib.hid (RSc2.out.elsewhere (D := w.heap.size + 2) 1 (.int .i64 x_Rules_Win) (by omega))
  have BOs2 := Lib.hid (BOc2.out.set 1 (.int .i64 x_Rules_Win) (by simp))
  have O0_s2 := Lib.hid (O0_c2.out.touch ((Touch.refl (w.heap.size + 2) (w.heap.size + 3) _).setCell ⟨w.heap.size + 2, 1, none⟩ (.int .i64 x_Rules_Win) (by simp) (by simp)) (.inr (by omega)))
  have O1_s2 := Lib.hid (O1_c2.out.touch ((Touch.refl (w.heap.size + 2) (w.heap.size + 3) _).setCell ⟨w.heap.size + 2, 1, none⟩ (.int .i64 x_Rules_Win) (by simp) (by simp)) (.inr (by omega)))
  clear HBc2 BXc2 RSc2 BOc2 O0_c2 O1_c2
  have HBs3 := Lib.hid (HBs2.out.setCell (p := ⟨w.heap.size + 2, 2, none⟩) (by simp) (.int .i64 x_Rules_Draw))
  have BXs3 := Lib.hid (BXs2.out.elsewhere (D := w.heap.size + 2) 2 (.int .i64 x_Rules_Draw) (by omega))
  have RSs3 := Lib.hid (RSs2.out.elsewhere (D := w.heap.size + 2) 2 (.int .i64 x_Rules_Draw) (by omega))
  have BOs3 := Lib.hid (BOs2.out.set 2 (.int .i64 x_Rules_Draw) (by simp))
  have O0_s3 := Lib.hid (O0_s2.out.touch ((Touch.refl (w.heap.size + 2) (w.heap.size + 3) _).setCell ⟨w.heap.size + 2, 2, none⟩ (.int .i64 x_Rules_Draw) (by simp) (by simp)) (.inr (by omega)))
  have O1_s3 := Lib.hid (O1_s2.out.touch ((Touch.refl (w.heap.size + 2) (w.heap.size + 3) _).setCell ⟨w.heap.size + 2, 2, none⟩ (.int .i64 x_Rules_Draw) (by simp) (by simp)) (.inr (by omega)))
  clear HBs2 BXs2 RSs2 BOs2 O0_s2 O1_s2
  have HBs4 := Lib.hid (HBs3.out.setCell (p := ⟨w.heap.size + 2, 3, none⟩) (by simp) (.int .i64 x_Rules_Loss))
  have BXs4 := Lib.hid (BXs3.out.elsewhere (D := w.heap.size + 2) 3 (.int .i64 x_Rules_Loss) (by omega))
  have RSs4 := Lib.hid (RSs3.out.elsewhere (D := w.heap.size + 2) 3 (.int .i64 x_Rules_Loss) (by omega))
  have BOs4 := Lib.hid (BOs3.out.set 3 (.int .i64 x_Rules_Loss) (by simp))
  have O0_s4 := Lib.hid (O0_s3.out.touch ((Touch.refl (w.heap.size + 2) (w.heap.size + 3) _).setCell ⟨w.heap.size + 2, 3, none⟩ (.int .i64 x_Rules_Loss) (by simp) (by simp)) (.inr (by omega)))
  have O1_s4 := Lib.hid (O1_s3.out.touch ((Touch.refl (w.heap.size + 2) (w.heap.size + 3) _).setCell ⟨w.heap.size + 2, 3, none⟩ (.int .i64 x_Rules_Loss) (by simp) (by simp)) (.inr (by omega)))
  clear HBs3 BXs3 RSs3 BOs3 O0_s3 O1_s3
  have HBs5 := Lib.hid (HBs4.out.setCell (p := ⟨w.heap.size + 2, 4, none⟩) (by simp) (.slice au1_0 nu1_0 ku1_0))
  have BXs5 := Lib.hid (BXs4.out.elsewhere (D := w.heap.size + 2) 4 (.slice au1_0 nu1_0 ku1_0) (by omega))
  have RSs5 := Lib.hid (RSs4.out.elsewhere (D := w.heap.size + 2) 4 (.slice au1_0 nu1_0 ku1_0) (by omega))
  have BOs5 := Lib.hid (BOs4.out.set 4 (.slice au1_0 nu1_0 ku1_0) (by simp))
  have O0_s5 := Lib.hid (O0_s4.out.touch ((Touch.refl (w.heap.size + 2) (w.heap.size + 3) _).setCell ⟨w.heap.size + 2, 4, none⟩ (.slice au1_0 nu1_0 ku1_0) (by simp) (by simp)) (.inr (by omega)))
  have O1_s5 := Lib.hid (O1_s4.out.touch ((Touch.refl (w.heap.size + 2) (w.heap.size + 3) _).setCell ⟨w.heap.size + 2, 4, none⟩ (.slice au1_0 nu1_0 ku1_0) (by simp) (by simp)) (.inr (by omega)))
  clear HBs4 BXs4 RSs4 BOs4 O0_s4 O1_s4
  have HBs6 := Lib.hid (HBs5.out.setCell (p := ⟨w.heap.size + 2, 5, none⟩) (by simp) (.bool x_Rules_Again))
  have BXs6 := Lib.hid (BXs5.out.elsewhere (D := w.heap.size + 2) 5 (.bool x_Rules_Again) (by omega))
  have RSs6 := Lib.hid (RSs5.out.elsewhere (D := w.heap.size + 2) 5 (.bool x_Rules_Again) (by omega))
  have BOs6 := Lib.hid (BOs5.out.set 5 (.bool x_Rules_Again) (by simp))
  have O0_s6 := Lib.hid (O0_s5.out.touch ((Touch.refl (w.heap.size + 2) (w.heap.size + 3) _).setCell ⟨w.heap.size + 2, 5, none⟩ (.bool x_Rules_Again) (by simp) (by simp)) (.inr (by omega)))
  have O1_s6 := Lib.hid (O1_s5.out.touch ((Touch.refl (w.heap.size + 2) (w.heap.size + 3) _).setCell ⟨w.heap.size + 2, 5, none⟩ (.bool x_Rules_Again) (by simp) (by simp)) (.inr (by omega)))
  clear HBs5 BXs5 RSs5 BOs5 O0_s5 O1_s5
  refine (y_to_GameS vx_Games d.2.2.1 _ (RdA.below HP2.out HBs6.out) HW2.out).mono ?_
  rintro e w3 ⟨u2_0, rfl, ho3, b3⟩
  have hs3 := b3.size
  have hS3 : w2.heap.size ≤ w3.heap.size := by simp at hs3; exact hs3
  have HBc3 := Lib.hid (HBs6.out.trans (b3.mono HBs6.out.size))
  have BXc3 := Lib.hid (BXs6.out.below b3)
  have RSc3 := Lib.hid (RSs6.out.below b3)
  have BOc3 := Lib.hid (BOs6.out.below b3)
  have O0_c3 := Lib.hid (O0_s6.out.below b3)
  have O1_c3 := Lib.hid (O1_s6.out.below b3)
  have O2_c3 := Lib.hid (ho3.mono (lo' := w2.heap.size) (hi' := w3.heap.size) (by simp) (Nat.le_refl _) (Nat.le_refl _))
  clear HBs6 BXs6 RSs6 BOs6 O0_s6 O1_s6 hs3 b3 ho3
  obtain ⟨au2_0, nu2_0, ku2_0, hu2_0⟩ := rd_slice O2_c3.out.rd
  subst hu2_0
  have c0 := BXc3.out.2 0 _ rfl
  have c1 := BXc3.out.2 1 _ rfl
  have c2 := BXc3.out.2 2 _ rfl
  have c3 := BXc3.out.2 3 _ rfl
  have c4 := BXc3.out.2 4 _ rfl
  have c5 := BXc3.out.2 5 _ rfl
  have c6 := BXc3.out.2 6 _ rfl
  have c7 := BXc3.out.2 7 _ rfl
  have c8 := BXc3.out.2 8 _ rfl
  have o0 := BOc3.out.2 0 _ rfl
  have o1 := BOc3.out.2 1 _ rfl
  have o2 := BOc3.out.2 2 _ rfl
  have o3 := BOc3.out.2 3 _ rfl
  have o4 := BOc3.out.2 4 _ rfl
  have o5 := BOc3.out.2 5 _ rfl
  have o6 := BOc3.out.2 6 _ rfl
  have o7 := BOc3.out.2 7 _ rfl
  have o8 := BOc3.out.2 8 _ rfl
  have bl := BXc3.out.1
  have bm := BOc3.out.1
  have bn := RSc3.out.lt
  obtain ⟨⟨z0, q0⟩, y0⟩ := RSc3.out.at 0 (by omega)
  obtain ⟨⟨z1, q1⟩, y1⟩ := RSc3.out.at 1 (by omega)
  obtain ⟨⟨z2, q2⟩, y2⟩ := RSc3.out.at 2 (by omega)
  obtain ⟨⟨z3, q3⟩, y3⟩ := RSc3.out.at 3 (by omega)
  obtain ⟨⟨z4, q4⟩, y4⟩ := RSc3.out.at 4 (by omega)
  obtain ⟨⟨z5, q5⟩, y5⟩ := RSc3.out.at 5 (by omega)
  obtain ⟨⟨z6, q6⟩, y6⟩ := RSc3.out.at 6 (by omega)
  obtain ⟨⟨z7, q7⟩, y7⟩ := RSc3.out.at 7 (by omega)
  obtain ⟨⟨z8, q8⟩, y8⟩ := RSc3.out.at 8 (by omega)
  go_wp2_with fail
  clear c0 o0 q0 y0 c1 o1 q1 y1 c2 o2 q2 y2 c3 o3 q3 y3 c4 o4 q4 y4 c5 o5 q5 y5 c6 o6 q6 y6 c7 o7 q7 y7 c8 o8 q8 y8 bl bm bn
  have HBs7 := Lib.hid (HBc3.out.setCell (p := ⟨w.heap.size + 2, 6, none⟩) (by simp) (.slice au2_0 nu2_0 ku2_0))
  have BXs7 := Lib.hid (BXc3.out.elsewhere (D := w.heap.size + 2) 6 (.slice au2_0 nu2_0 ku2_0) (by omega))
  have RSs7 := Lib.hid (RSc3.out.elsewhere (D := w.heap.size + 2) 6 (.slice au2_0 nu2_0 ku2_0) (by omega))
  have BOs7 := Lib.hid (BOc3.out.set 6 (.slice au2_0 nu2_0 ku2_0) (by simp))
  have O0_s7 := Lib.hid (O0_c3.out.touch ((Touch.refl (w.heap.size + 2) (w.heap.size + 3) _).setCell ⟨w.heap.size + 2, 6, none⟩ (.slice au2_0 nu2_0 ku2_0) (by simp) (by simp)) (.inr (by omega)))
  have O1_s7 := Lib.hid (O1_c3.out.touch ((Touch.refl (w.heap.size + 2) (w.heap.size + 3) _).setCell ⟨w.heap.size + 2, 6, none⟩ (.slice au2_0 nu2_0 ku2_0) (by simp) (by simp)) (.inr (by omega)))
  have O2_s7 := Lib.hid (O2_c3.out.touch ((Touch.refl (w.heap.size + 2) (w.heap.size + 3) _).setCell ⟨w.heap.size + 2, 6, none⟩ (.slice au2_0 nu2_0 ku2_0) (by simp) (by simp)) (.inr (by omega)))
  clear HBc3 BXc3 RSc3 BOc3 O0_c3 O1_c3 O2_c3
  refine (y_to_IntS vx_Fair d.2.2.2.1 _ (RdA.below HP3.out HBs7.out) HW3.out).mono ?_
  rintro e w4 ⟨u3_0, rfl, ho4, b4⟩
  have hs4 := b4.size
  have hS4 : w3.heap.size ≤ w4.heap.size := by simp at hs4; exact hs4
  have HBc4 := Lib.hid (HBs7.out.trans (b4.mono HBs7.out.size))
  have BXc4 := Lib.hid (BXs7.out.below b4)
  have RSc4 := Lib.hid (RSs7.out.below b4)
  have BOc4 := Lib.hid (BOs7.out.below b4)
  have O0_c4 := Lib.hid (O0_s7.out.below b4)
  have O1_c4 := Lib.hid (O1_s7.out.below b4)
  have O2_c4 := Lib.hid (O2_s7.out.below b4)
  have O3_c4 := Lib.hid (ho4.mono (lo' := w3.heap.size) (hi' := w4.heap.size) (by simp) (Nat.le_refl _) (Nat.le_refl _))
  clear HBs7 BXs7 RSs7 BOs7 O0_s7 O1_s7 O2_s7 hs4 b4 ho4
  obtain ⟨au3_0, nu3_0, ku3_0, hu3_0⟩ := rd_slice O3_c4.out.rd
  subst hu3_0
  have c0 := BXc4.out.2 0 _ rfl
  have c1 := BXc4.out.2 1 _ rfl
  have c2 := BXc4.out.2 2 _ rfl
  have c3 := BXc4.out.2 3 _ rfl
  have c4 := BXc4.out.2 4 _ rfl
  have c5 := BXc4.out.2 5 _ rfl
  have c6 := BXc4.out.2 6 _ rfl
  have c7 := BXc4.out.2 7 _ rfl
  have c8 := BXc4.out.2 8 _ rfl
  have o0 := BOc4.out.2 0 _ rfl
  have o1 := BOc4.out.2 1 _ rfl
  have o2 := BOc4.out.2 2 _ rfl
  have o3 := BOc4.out.2 3 _ rfl
  have o4 := BOc4.out.2 4 _ rfl
  have o5 := BOc4.out.2 5 _ rfl
  have o6 := BOc4.out.2 6 _ rfl
  have o7 := BOc4.out.2 7 _ rfl
  have o8 := BOc4.out.2 8 _ rfl
  have bl := BXc4.out.1
  have bm := BOc4.out.1
  have bn := RSc4.out.lt
  obtain ⟨⟨z0, q0⟩, y0⟩ := RSc4.out.at 0 (by omega)
  obtain ⟨⟨z1, q1⟩, y1⟩ := RSc4.out.at 1 (by omega)
  obtain ⟨⟨z2, q2⟩, y2⟩ := RSc4.out.at 2 (by omega)
  obtain ⟨⟨z3, q3⟩, y3⟩ := RSc4.out.at 3 (by omega)
  obtain ⟨⟨z4, q4⟩, y4⟩ := RSc4.out.at 4 (by omega)
  obtain ⟨⟨z5, q5⟩, y5⟩ := RSc4.out.at 5 (by omega)
  obtain ⟨⟨z6, q6⟩, y6⟩ := RSc4.out.at 6 (by omega)
  obtain ⟨⟨z7, q7⟩, y7⟩ := RSc4.out.at 7 (by omega)
  obtain ⟨⟨z8, q8⟩, y8⟩ := RSc4.out.at 8 (by omega)
  go_wp2_with fail
  clear c0 o0 q0 y0 c1 o1 q1 y1 c2 o2 q2 y2 c3 o3 q3 y3 c4 o4 q4 y4 c5 o5 q5 y5 c6 o6 q6 y6 c7 o7 q7 y7 c8 o8 q8 y8 bl bm bn
  have HBs8 := Lib.hid (HBc4.out.setCell (p := ⟨w.heap.size + 2, 7, none⟩) (by simp) (.slice au3_0 nu3_0 ku3_0))
  have BXs8 := Lib.hid (BXc4.out.elsewhere (D := w.heap.size + 2) 7 (.slice au3_0 nu3_0 ku3_0) (by omega))
  have RSs8 := Lib.hid (RSc4.out.elsewhere (D := w.heap.size + 2) 7 (.slice au3_0 nu3_0 ku3_0) (by omega))
  have BOs8 := Lib.hid (BOc4.out.set 7 (.slice au3_0 nu3_0 ku3_0) (by simp))
  have O0_s8 := Lib.hid (O0_c4.out.touch ((Touch.refl (w.heap.size + 2) (w.heap.size + 3) _).setCell ⟨w.heap.size + 2, 7, none⟩ (.slice au3_0 nu3_0 ku3_0) (by simp) (by simp)) (.inr (by omega)))
  have O1_s8 := Lib.hid (O1_c4.out.touch ((Touch.refl (w.heap.size + 2) (w.heap.size + 3) _).setCell ⟨w.heap.size + 2, 7, none⟩ (.slice au3_0 nu3_0 ku3_0) (by simp) (by simp)) (.inr (by omega)))
  have O2_s8 := Lib.hid (O2_c4.out.touch ((Touch.refl (w.heap.size + 2) (w.heap.size + 3) _).setCell ⟨w.heap.size + 2, 7, none⟩ (.slice au3_0 nu3_0 ku3_0) (by simp) (by simp)) (.inr (by omega)))
  have O3_s8 := Lib.hid (O3_c4.out.touch ((Touch.refl (w.heap.size + 2) (w.heap.size + 3) _).setCell ⟨w.heap.size + 2, 7, none⟩ (.slice au3_0 nu3_0 ku3_0) (by simp) (by simp)) (.inr (by omega)))
  clear HBc4 BXc4 RSc4 BOc4 O0_c4 O1_c4 O2_c4 O3_c4
  refine (y_to_IntS vx_Taken d.2.2.2.2 _ (RdA.below HP4.out HBs8.out) HW4.out).mono ?_
  rintro e w5 ⟨u4_0, rfl, ho5, b5⟩
  have hs5 := b5.size
  have hS5 : w4.heap.size ≤ w5.heap.size := by simp at hs5; exact hs5
  have HBc5 := Lib.hid (HBs8.out.trans (b5.mono HBs8.out.size))
  have BXc5 := Lib.hid (BXs8.out.below b5)
  have RSc5 := Lib.hid (RSs8.out.below b5)
  have BOc5 := Lib.hid (BOs8.out.below b5)
  have O0_c5 := Lib.hid (O0_s8.out.below b5)
  have O1_c5 := Lib.hid (O1_s8.out.below b5)
  have O2_c5 := Lib.hid (O2_s8.out.below b5)
  have O3_c5 := Lib.hid (O3_s8.out.below b5)
  have O4_c5 := Lib.hid (ho5.mono (lo' := w4.heap.size) (hi' := w5.heap.size) (by simp) (Nat.le_refl _) (Nat.le_refl _))
  clear HBs8 BXs8 RSs8 BOs8 O0_s8 O1_s8 O2_s8 O3_s8 hs5 b5 ho5
  obtain ⟨au4_0, nu4_0, ku4_0, hu4_0⟩ := rd_slice O4_c5.out.rd
  subst hu4_0
  have c0 := BXc5.out.2 0 _ rfl
  have c1 := BXc5.out.2 1 _ rfl
  have c2 := BXc5.out.2 2 _ rfl
  have c3 := BXc5.out.2 3 _ rfl
  have c4 := BXc5.out.2 4 _ rfl
  have c5 := BXc5.out.2 5 _ rfl
  have c6 := BXc5.out.2 6 _ rfl
  have c7 := BXc5.out.2 7 _ rfl
  have c8 := BXc5.out.2 8 _ rfl
  have o0 := BOc5.out.2 0 _ rfl
  have o1 := BOc5.out.2 1 _ rfl
  have o2 := BOc5.out.2 2 _ rfl
  have o3 := BOc5.out.2 3 _ rfl
  have o4 := BOc5.out.2 4 _ rfl
  have o5 := BOc5.out.2 5 _ rfl
  have o6 := BOc5.out.2 6 _ rfl
  have o7 := BOc5.out.2 7 _ rfl
  have o8 := BOc5.out.2 8 _ rfl
  have bl := BXc5.out.1
  have bm := BOc5.out.1
  have bn := RSc5.out.lt
  obtain ⟨⟨z0, q0⟩, y0⟩ := RSc5.out.at 0 (by omega)
  obtain ⟨⟨z1, q1⟩, y1⟩ := RSc5.out.at 1 (by omega)
  obtain ⟨⟨z2, q2⟩, y2⟩ := RSc5.out.at 2 (by omega)
  obtain ⟨⟨z3, q3⟩, y3⟩ := RSc5.out.at 3 (by omega)
  obtain ⟨⟨z4, q4⟩, y4⟩ := RSc5.out.at 4 (by omega)
  obtain ⟨⟨z5, q5⟩, y5⟩ := RSc5.out.at 5 (by omega)
  obtain ⟨⟨z6, q6⟩, y6⟩ := RSc5.out.at 6 (by omega)
  obtain ⟨⟨z7, q7⟩, y7⟩ := RSc5.out.at 7 (by omega)
  obtain ⟨⟨z8, q8⟩, y8⟩ := RSc5.out.at 8 (by omega)
  go_wp2
  (try simp only [Exit.inBlock, Exit.then])
  refine post_named fun w99 hw99 => ?_
  clear c0 o0 q0 y0 c1 o1 q1 y1 c2 o2 q2 y2 c3 o3 q3 y3 c4 o4 q4 y4 c5 o5 q5 y5 c6 o6 q6 y6 c7 o7 q7 y7 c8 o8 q8 y8 bl bm bn
  have HBs9 := Lib.hid (HBc5.out.setCell (p := ⟨w.heap.size + 2, 8, none⟩) (by simp) (.slice au4_0 nu4_0 ku4_0))
  have BXs9 := Lib.hid (BXc5.out.elsewhere (D := w.heap.size + 2) 8 (.slice au4_0 nu4_0 ku4_0) (by omega))
  have RSs9 := Lib.hid (RSc5.out.elsewhere (D := w.heap.size + 2) 8 (.slice au4_0 nu4_0 ku4_0) (by omega))
  have BOs9 := Lib.hid (BOc5.out.set 8 (.slice au4_0 nu4_0 ku4_0) (by simp))
  have O0_s9 := Lib.hid (O0_c5.out.touch ((Touch.refl (w.heap.size + 2) (w.heap.size + 3) _).setCell ⟨w.heap.size + 2, 8, none⟩ (.slice au4_0 nu4_0 ku4_0) (by simp) (by simp)) (.inr (by omega)))
  have O1_s9 := Lib.hid (O1_c5.out.touch ((Touch.refl (w.heap.size + 2) (w.heap.size + 3) _).setCell ⟨w.heap.size + 2, 8, none⟩ (.slice au4_0 nu4_0 ku4_0) (by simp) (by simp)) (.inr (by omega)))
  have O2_s9 := Lib.hid (O2_c5.out.touch ((Touch.refl (w.heap.size + 2) (w.heap.size + 3) _).setCell ⟨w.heap.size + 2, 8, none⟩ (.slice au4_0 nu4_0 ku4_0) (by simp) (by simp)) (.inr (by omega)))
  have O3_s9 := Lib.hid (O3_c5.out.touch ((Touch.refl (w.heap.size + 2) (w.heap.size + 3) _).setCell ⟨w.heap.size + 2, 8, none⟩ (.slice au4_0 nu4_0 ku4_0) (by simp) (by simp)) (.inr (by omega)))
  have O4_s9 := Lib.hid (O4_c5.out.touch ((Touch.refl (w.heap.size + 2) (w.heap.size + 3) _).setCell ⟨w.heap.size + 2, 8, none⟩ (.slice au4_0 nu4_0 ku4_0) (by simp) (by simp)) (.inr (by omega)))
  clear HBc5 BXc5 RSc5 BOc5 O0_c5 O1_c5 O2_c5 O3_c5 O4_c5
  have HX9 := RSs9.out.put (vs := [.slice au0_0 nu0_0 ku0_0, .int .i64 x_Rules_Win, .int .i64 x_Rules_Draw, .int .i64 x_Rules_Loss, .slice au1_0 nu1_0 ku1_0, .bool x_Rules_Again, .slice au2_0 nu2_0 ku2_0, .slice au3_0 nu3_0 ku3_0, .slice au4_0 nu4_0 ku4_0]) rfl
  have HB9 := Below.putCs (C := w.heap.size) (B := w.heap.size + 1) (by omega) [.slice au0_0 nu0_0 ku0_0, .int .i64 x_Rules_Win, .int .i64 x_Rules_Draw, .int .i64 x_Rules_Loss, .slice au1_0 nu1_0 ku1_0, .bool x_Rules_Again, .slice au2_0 nu2_0 ku2_0, .slice au3_0 nu3_0 ku3_0, .slice au4_0 nu4_0 ku4_0] 0 _ _ HBs9.out
  have O0_9 := O0_s9.out.touch (Touch.putCs (lo := w.heap.size + 1) (hi := w.heap.size + 2) (B := w.heap.size + 1) (by omega) (by omega) [.slice au0_0 nu0_0 ku0_0, .int .i64 x_Rules_Win, .int .i64 x_Rules_Draw, .int .i64 x_Rules_Loss, .slice au1_0 nu1_0 ku1_0, .bool x_Rules_Again, .slice au2_0 nu2_0 ku2_0, .slice au3_0 nu3_0 ku3_0, .slice au4_0 nu4_0 ku4_0] 0 _ _ (Touch.refl _ _ _)) (.inr (by omega))
  have O1_9 := O1_s9.out.touch (Touch.putCs (lo := w.heap.size + 1) (hi := w.heap.size + 2) (B := w.heap.size + 1) (by omega) (by omega) [.slice au0_0 nu0_0 ku0_0, .int .i64 x_Rules_Win, .int .i64 x_Rules_Draw, .int .i64 x_Rules_Loss, .slice au1_0 nu1_0 ku1_0, .bool x_Rules_Again, .slice au2_0 nu2_0 ku2_0, .slice au3_0 nu3_0 ku3_0, .slice au4_0 nu4_0 ku4_0] 0 _ _ (Touch.refl _ _ _)) (.inr (by omega))
  have O2_9 := O2_s9.out.touch (Touch.putCs (lo := w.heap.size + 1) (hi := w.heap.size + 2) (B := w.heap.size + 1) (by omega) (by omega) [.slice au0_0 nu0_0 ku0_0, .int .i64 x_Rules_Win, .int .i64 x_Rules_Draw, .int .i64 x_Rules_Loss, .slice au1_0 nu1_0 ku1_0, .bool x_Rules_Again, .slice au2_0 nu2_0 ku2_0, .slice au3_0 nu3_0 ku3_0, .slice au4_0 nu4_0 ku4_0] 0 _ _ (Touch.refl _ _ _)) (.inr (by omega))
  have O3_9 := O3_s9.out.touch (Touch.putCs (lo := w.heap.size + 1) (hi := w.heap.size + 2) (B := w.heap.size + 1) (by omega) (by omega) [.slice au0_0 nu0_0 ku0_0, .int .i64 x_Rules_Win, .int .i64 x_Rules_Draw, .int .i64 x_Rules_Loss, .slice au1_0 nu1_0 ku1_0, .bool x_Rules_Again, .slice au2_0 nu2_0 ku2_0, .slice au3_0 nu3_0 ku3_0, .slice au4_0 nu4_0 ku4_0] 0 _ _ (Touch.refl _ _ _)) (.inr (by omega))
  have O4_9 := O4_s9.out.touch (Touch.putCs (lo := w.heap.size + 1) (hi := w.heap.size + 2) (B := w.heap.size + 1) (by omega) (by omega) [.slice au0_0 nu0_0 ku0_0, .int .i64 x_Rules_Win, .int .i64 x_Rules_Draw, .int .i64 x_Rules_Loss, .slice au1_0 nu1_0 ku1_0, .bool x_Rules_Again, .slice au2_0 nu2_0 ku2_0, .slice au3_0 nu3_0 ku3_0, .slice au4_0 nu4_0 ku4_0] 0 _ _ (Touch.refl _ _ _)) (.inr (by omega))
  have e99 : w99 = putCs _ (w.heap.size + 1) 0 [.slice au0_0 nu0_0 ku0_0, .int .i64 x_Rules_Win, .int .i64 x_Rules_Draw, .int .i64 x_Rules_Loss, .slice au1_0 nu1_0 ku1_0, .bool x_Rules_Again, .slice au2_0 nu2_0 ku2_0, .slice au3_0 nu3_0 ku3_0, .slice au4_0 nu4_0 ku4_0] := hw99.out
  rw [← e99] at HX9 HB9 O0_9 O1_9 O2_9 O3_9 O4_9
  clear hw99 e99
  have h9 : w5.heap.size ≤ w99.heap.size := O4_9.hi_le
  have HD : OwN tBook w99 (w.heap.size + 3) w5.heap.size [.slice au0_0 nu0_0 ku0_0, .int .i64 x_Rules_Win, .int .i64 x_Rules_Draw, .int .i64 x_Rules_Loss, .slice au1_0 nu1_0 ku1_0, .bool x_Rules_Again, .slice au2_0 nu2_0 ku2_0, .slice au3_0 nu3_0 ku3_0, .slice au4_0 nu4_0 ku4_0] (d.1, d.2.1, d.2.2.1, d.2.2.2.1, d.2.2.2.2) := (OwN.two O0_9 (OwN.two O1_9 (OwN.two O2_9 (OwN.two O3_9 O4_9 (by omega) (by omega)) (by omega) (by omega)) (by omega) (by omega)) (by omega) (by omega))
  have hdd : ((d.1, d.2.1, d.2.2.1, d.2.2.2.1, d.2.2.2.2) : tBook.D) = d := by
    rfl
  rw [hdd] at HD
  have HD9 := Lib.hid (HD.mono (lo' := w.heap.size) (hi' := w99.heap.size) (by omega) h9 (Nat.le_refl _))
  have HB99 := Lib.hid HB9
  have HX99 := Lib.hid HX9
  clear HB9 HX9 HD hdd
  have x0 := (HX99.out.2 0 _ rfl).1
  have x1 := (HX99.out.2 1 _ rfl).1
  have x2 := (HX99.out.2 2 _ rfl).1
  have x3 := (HX99.out.2 3 _ rfl).1
  have x4 := (HX99.out.2 4 _ rfl).1
  have x5 := (HX99.out.2 5 _ rfl).1
  have x6 := (HX99.out.2 6 _ rfl).1
  have x7 := (HX99.out.2 7 _ rfl).1
  have x8 := (HX99.out.2 8 _ rfl).1
  have x_lt := HX99.out.1
  refine bodyPost_ret (v := .agg #[.slice au0_0 nu0_0 ku0_0, .int .i64 x_Rules_Win, .int .i64 x_Rules_Draw, .int .i64 x_Rules_Loss, .slice au1_0 nu1_0 ku1_0, .bool x_Rules_Again, .slice au2_0 nu2_0 ku2_0, .slice au3_0 nu3_0 ku3_0, .slice au4_0 nu4_0 ku4_0]) ?_ rfl ⟨.slice au0_0 nu0_0 ku0_0, .slice au1_0 nu1_0 ku1_0, .slice au2_0 nu2_0 ku2_0, .slice au3_0 nu3_0 ku3_0, .slice au4_0 nu4_0 ku4_0, rfl, HD9.out, HB99.out⟩
  rw [results_cell rfl]
  go_simp
def cnt_Book (d : tBook.D) : Nat := (tTeamS.mks d.1 + (cnt_Rules d.2.1 + (tGameS.mks d.2.2.1 + (tIntS.mks d.2.2.2.1 + tIntS.mks d.2.2.2.2))))
def top_Book (k : Int) (d : tBook.D) : tBook.D := (tTeamS.mkd (k) d.1, top_Rules (k + (tTeamS.mks d.1 : Nat)) d.2.1, tGameS.mkd (k + (tTeamS.mks d.1 : Nat) + (cnt_Rules d.2.1 : Nat)) d.2.2.1, tIntS.mkd (k + (tTeamS.mks d.1 : Nat) + (cnt_Rules d.2.1 : Nat) + (tGameS.mks d.2.2.1 : Nat)) d.2.2.2.1, tIntS.mkd (k + (tTeamS.mks d.1 : Nat) + (cnt_Rules d.2.1 : Nat) + (tGameS.mks d.2.2.1 : Nat) + (tIntS.mks d.2.2.2.1 : Nat)) d.2.2.2.2)
theorem form_Book {w : World} {B : Nat → Prop} {cs : List Value} {d : tBook.D} (h : tBook.Rd w B cs d) : ∃ (vx_Field : Value) (x_Rules_Win : Int) (x_Rules_Draw : Int) (x_Rules_Loss : Int) (vx_Rules_Ladder : Value) (x_Rules_Again : Bool) (vx_Games : Value) (vx_Fair : Value) (vx_Taken : Value), cs = [vx_Field, .int .i64 x_Rules_Win, .int .i64 x_Rules_Draw, .int .i64 x_Rules_Loss, vx_Rules_Ladder, .bool x_Rules_Again, vx_Games, vx_Fair, vx_Taken] := by
  obtain ⟨c0, r0, e0, h0, t0⟩ := h
  obtain ⟨vx_Field, _, g0, _⟩ := h0
  obtain ⟨c1, r1, e1, h1, t1⟩ := t0
  obtain ⟨x_Rules_Win, x_Rules_Draw, x_Rules_Loss, vx_Rules_Ladder, x_Rules_Again, g1⟩ := form_Rules h1
  obtain ⟨c2, r2, e2, h2, t2⟩ := t1
  obtain ⟨vx_Games, _, g2, _⟩ := h2
  obtain ⟨c3, r3, e3, h3, t3⟩ := t2
  obtain ⟨vx_Fair, _, g3, _⟩ := h3
  have h4 := t3
  obtain ⟨vx_Taken, _, g4, _⟩ := h4
  exact ⟨vx_Field, x_Rules_Win, x_Rules_Draw, x_Rules_Loss, vx_Rules_Ladder, x_Rules_Again, vx_Games, vx_Fair, vx_Taken, by rw [e0, e1, e2, e3, g0, g1, g2, g3, g4]; rfl⟩
theorem cntle_Book (d : tBook.D) : cnt_Book d ≤ tBook.mks d := by
  have e1 : cnt_Book d = (tTeamS.mks d.1 + (cnt_Rules d.2.1 + (tGameS.mks d.2.2.1 + (tIntS.mks d.2.2.2.1 + tIntS.mks d.2.2.2.2)))) := rfl
  have e2 : tBook.mks d = (tTeamS.mks d.1 + (tRules.mks d.2.1 + (tGameS.mks d.2.2.1 + (tIntS.mks d.2.2.2.1 + tIntS.mks d.2.2.2.2)))) := rfl
  have h1 := cntle_Rules d.2.1
  rw [e1, e2]
  omega
end Go.Proofs.YteciobkjfmddcaaDoor
set_option linter.unusedVariables false
namespace Go.Proofs.YteciobkjfmddcaaDoor
open Go.RowKit

structure RowD where
  played : Int
  wins : Int
  draws : Int
  losses : Int
  scored : Int
  against : Int
  points : Int
instance : Inhabited RowD := ⟨⟨0, 0, 0, 0, 0, 0, 0⟩⟩
def RowD.cells (t : RowD) : List Value := [.int .i64 t.played, .int .i64 t.wins, .int .i64 t.draws, .int .i64 t.losses, .int .i64 t.scored, .int .i64 t.against, .int .i64 t.points]
def RowD.val (t : RowD) : Value := .agg #[.int .i64 t.played, .int .i64 t.wins, .int .i64 t.draws, .int .i64 t.losses, .int .i64 t.scored, .int .i64 t.against, .int .i64 t.points]
def RowD.fit (t : RowD) : Prop := IntFit t.played ∧ IntFit t.wins ∧ IntFit t.draws ∧ IntFit t.losses ∧ IntFit t.scored ∧ IntFit t.against ∧ IntFit t.points
theorem RowD.len (t : RowD) : t.cells.length = 7 := rfl
def RowRow (w : World) (v : Value) (n : Nat) (g : Nat → RowD) : Prop := RecRow 7 w v n fun i => (g i).cells
theorem RowRow.below {w w' : World} {B : Nat} {v : Value} {n : Nat} {g : Nat → RowD} (h : RowRow w v n g) (hb : Below B w w') (hB : w.heap.size ≤ B) : RowRow w' v n g := RecRow.below h hb hB
theorem RowRow.touch {lo hi lo' hi' : Nat} {w w' : World} {v : Value} {n : Nat} {g : Nat → RowD} (h : RowRow w v n g) (t : Touch lo hi w w') (hv : 0 < n → InW lo' hi' v) (ho : hi' ≤ lo ∨ hi ≤ lo') : RowRow w' v n g := RecRow.touch h t hv ho
theorem RowRow.form {w : World} {v : Value} {n : Nat} {g : Nat → RowD} (h : RowRow w v n g) : ∃ a cap, v = .slice a n cap ∧ n ≤ 9223372036854775807 ∧ (0 < n → ∃ b off, a = some ⟨b, off, none⟩ ∧ n ≤ cap ∧ ∀ i, i < n → CellsAt w b (off + i * 7) (g i).cells) := RecRow.form h
theorem InW.rowRow {hi : Nat} {v : Value} {w : World} {n : Nat} {g : Nat → RowD} (h : RowRow w v n g) (h0 : 0 < n) (hs : w.heap.size ≤ hi) : InW 0 hi v := RecRow.inw h h0 hs
theorem RowRow.of_owns {w : World} {base : Nat} {e : TypeId} {v : Value} {n : Nat} {xs : List Value} {g : Nat → RowD} (h : w.ownsRow base e 7 v n xs) (hn : n ≤ 9223372036854775807) (hg : RecCells 7 n xs fun i => (g i).cells) : RowRow w v n g := RecRow.of_owns h hn hg fun _ _ => Nat.le_refl _
def rowMk (k : Int) (i : Nat) : RowD := ⟨k + 7 * (i : Int), k + 7 * (i : Int) + 1, k + 7 * (i : Int) + 1 + 1, k + 7 * (i : Int) + 1 + 1 + 1, k + 7 * (i : Int) + 1 + 1 + 1 + 1, k + 7 * (i : Int) + 1 + 1 + 1 + 1 + 1, k + 7 * (i : Int) + 1 + 1 + 1 + 1 + 1 + 1⟩
theorem tgrownRow {a b c : World} {row : Option Nat} (h : a.grownBy b row) (k : b.grownBy c row) : a.grownBy c row :=
  ⟨k.os.trans h.os, k.tape.trans h.tape, k.output.trans h.output, Nat.le_trans h.size k.size, fun i hi hne => (k.block i (Nat.lt_of_lt_of_le hi h.size) hne).trans (h.block i hi hne)⟩
section
open Go.ChangeShapes Go.WideShapes
variable {H : Type} {enc : TypeId × Value → H} {P : Program} {w : World} {base : Nat} {spare : Nat → Bool} {held : Bool}
theorem open_rows {t e : TypeId} {f0 f1 f2 f3 f4 f5 f6 : Field} {v : Value} (ht : P.underlying t = some (.slice e)) (he : P.underlying e = some (.struct #[f0, f1, f2, f3, f4, f5, f6]))
    (ce : P.cellsOf e = 7) (o0 : f0.offset = 0) (c0 : P.cellsOf f0.type = 1) (u0 : P.underlying f0.type = some (.int .i64)) (o1 : f1.offset = 1) (c1 : P.cellsOf f1.type = 1) (u1 : P.underlying f1.type = some (.int .i64)) (o2 : f2.offset = 2) (c2 : P.cellsOf f2.type = 1) (u2 : P.underlying f2.type = some (.int .i64)) (o3 : f3.offset = 3) (c3 : P.cellsOf f3.type = 1) (u3 : P.underlying f3.type = some (.int .i64)) (o4 : f4.offset = 4) (c4 : P.cellsOf f4.type = 1) (u4 : P.underlying f4.type = some (.int .i64)) (o5 : f5.offset = 5) (c5 : P.cellsOf f5.type = 1) (u5 : P.underlying f5.type = some (.int .i64)) (o6 : f6.offset = 6) (c6 : P.cellsOf f6.type = 1) (u6 : P.underlying f6.type = some (.int .i64))
    (h : ∃ (fuel : Nat) (x : DataW H × List MemPlace), DataW.trod enc P w base spare held fuel t [v] = some x) : ∃ (n : Nat) (g : Nat → RowD), RowRow w v n g ∧ (∀ i, (g i).fit) ∧ n ≤ 9223372036854775807 := by
  obtain ⟨fuel, x, h⟩ := h
  have hz : (default : RowD).fit := by simp [RowD.fit, IntFit, default]
  rcases Go.Deep.open_slice ht h with ⟨h0, _⟩ | ⟨a, len, cap, m, q, D, Pl, h0, hb, hl, hm, hmm, rfl, hx⟩
  · simp only [List.cons.injEq, and_true] at h0
    subst h0
    exact ⟨0, fun _ => default, .inl ⟨_, _, rfl, rfl⟩, fun _ => hz, by omega⟩
  simp only [List.cons.injEq, and_true] at h0
  subst h0
  have hlm : len ≤ m := by rw [hmm]; split <;> omega
  have each : ∀ i, i < len → ∃ q : RowD, (∀ j u, q.cells[j]? = some u → w.cell? ((a.add (i * 7)).add j) = some u) ∧ q.fit := by
    intro i hi
    obtain ⟨cs', h1, h2⟩ := hx i (by omega)
    rw [ce] at h1
    obtain ⟨_, hlen, hcell⟩ := World.cells?_some h1
    obtain ⟨xs, kk, hk, hxy, _, hxl, hf⟩ := DataW.trod_struct he h2
    match xs, hxl, cs', hlen with
    | [y0, y1, y2, y3, y4, y5, y6], _, [v0, v1, v2, v3, v4, v5, v6], _ =>
      have g0 := hf 0 f0 rfl
      simp [o0, c0] at g0
      obtain ⟨z0, e0, _, k0⟩ := DataW.trod_int u0 g0
      simp only [List.cons.injEq, and_true] at e0
      subst e0
      have g1 := hf 1 f1 rfl
      simp [o1, c1] at g1
      obtain ⟨z1, e1, _, k1⟩ := DataW.trod_int u1 g1
      simp only [List.cons.injEq, and_true] at e1
      subst e1
      have g2 := hf 2 f2 rfl
      simp [o2, c2] at g2
      obtain ⟨z2, e2, _, k2⟩ := DataW.trod_int u2 g2
      simp only [List.cons.injEq, and_true] at e2
      subst e2
      have g3 := hf 3 f3 rfl
      simp [o3, c3] at g3
      obtain ⟨z3, e3, _, k3⟩ := DataW.trod_int u3 g3
      simp only [List.cons.injEq, and_true] at e3
      subst e3
      have g4 := hf 4 f4 rfl
      simp [o4, c4] at g4
      obtain ⟨z4, e4, _, k4⟩ := DataW.trod_int u4 g4
      simp only [List.cons.injEq, and_true] at e4
      subst e4
      have g5 := hf 5 f5 rfl
      simp [o5, c5] at g5
      obtain ⟨z5, e5, _, k5⟩ := DataW.trod_int u5 g5
      simp only [List.cons.injEq, and_true] at e5
      subst e5
      have g6 := hf 6 f6 rfl
      simp [o6, c6] at g6
      obtain ⟨z6, e6, _, k6⟩ := DataW.trod_int u6 g6
      simp only [List.cons.injEq, and_true] at e6
      subst e6
      refine ⟨⟨z0, z1, z2, z3, z4, z5, z6⟩, fun j u hu => ?_, ⟨intFit_of k0, intFit_of k1, intFit_of k2, intFit_of k3, intFit_of k4, intFit_of k5, intFit_of k6⟩⟩
      have hj : j < 7 := (List.getElem?_eq_some_iff.1 hu).1
      rw [hcell j hj]
      exact hu
  obtain ⟨g, hg⟩ := Go.Deep.choose_lt each
  have hfit : ∀ i, (if i < len then g i else default : RowD).fit := fun i => by
    by_cases hi : i < len
    · simpa [hi] using (hg i hi).2
    · simpa [hi] using hz
  unfold maxLen at hm
  refine ⟨len, fun i => if i < len then g i else default, ?_, hfit, by omega⟩
  by_cases h0 : len = 0
  · subst h0; exact .inl ⟨_, _, rfl, rfl⟩
  · have hc0 := (hg 0 (by omega)).1 0 _ rfl
    obtain ⟨b, off, spot⟩ := a
    have hspot : spot = none := by simpa [Addr.add] using World.cell?_spot hc0
    subst hspot
    have hadd : ∀ j, (⟨b, off, none⟩ : Addr).add j = ⟨b, off + j, none⟩ := fun j => by unfold Addr.add; split <;> simp_all
    have hadd2 : ∀ o j, (⟨b, o, none⟩ : Addr).add j = ⟨b, o + j, none⟩ := fun o j => by unfold Addr.add; split <;> simp_all
    simp only [hadd, hadd2] at hc0
    refine .inr ⟨b, off, cap, rfl, by omega, by omega, fun i hi => ⟨World.block_lt_of_cell? w _ hc0, fun j u hu => ?_⟩, hl⟩
    have := (hg i hi).1
    simp only [hadd, hadd2] at this
    simp only [hi, if_true] at hu
    exact this j u hu
end
section
open Go.ChangeShapes Go.WideShapes
variable {H : Type} {enc : TypeId × Value → H} {P : Program} {w : World} {base : Nat} {spare : Nat → Bool} {held : Bool}
theorem open_row {r : Reach} {b0 : Nat} {e : TypeId} {f0 f1 f2 f3 f4 f5 f6 : Field} {v : Value} {d : DataW H} {pl : List MemPlace} (he : P.underlying e = some (.struct #[f0, f1, f2, f3, f4, f5, f6]))
    (ce : P.cellsOf e = 7) (o0 : f0.offset = 0) (c0 : P.cellsOf f0.type = 1) (u0 : P.underlying f0.type = some (.int .i64)) (o1 : f1.offset = 1) (c1 : P.cellsOf f1.type = 1) (u1 : P.underlying f1.type = some (.int .i64)) (o2 : f2.offset = 2) (c2 : P.cellsOf f2.type = 1) (u2 : P.underlying f2.type = some (.int .i64)) (o3 : f3.offset = 3) (c3 : P.cellsOf f3.type = 1) (u3 : P.underlying f3.type = some (.int .i64)) (o4 : f4.offset = 4) (c4 : P.cellsOf f4.type = 1) (u4 : P.underlying f4.type = some (.int .i64)) (o5 : f5.offset = 5) (c5 : P.cellsOf f5.type = 1) (u5 : P.underlying f5.type = some (.int .i64)) (o6 : f6.offset = 6) (c6 : P.cellsOf f6.type = 1) (u6 : P.underlying f6.type = some (.int .i64))
    (hv : Value.okWide P w r b0 e v) (h : DataW.Trod enc P w base spare held e v d pl) : ∃ q : RowD, v = q.val ∧ q.fit := by
  obtain ⟨cs, rfl, hsz⟩ := okWide_struct he hv
  obtain ⟨l⟩ := cs
  obtain ⟨fuel, h⟩ := h
  obtain ⟨xs, kk, hk, hxy, _, hxl, hf⟩ := DataW.trod_struct he h
  match xs, hxl, l, hsz.trans ce with
  | [y0, y1, y2, y3, y4, y5, y6], _, [v0, v1, v2, v3, v4, v5, v6], _ =>
      have g0 := hf 0 f0 rfl
      simp [Value.cells, o0, c0] at g0
      obtain ⟨z0, e0, _, k0⟩ := DataW.trod_int u0 g0
      simp only [List.cons.injEq, and_true] at e0
      subst e0
      have g1 := hf 1 f1 rfl
      simp [Value.cells, o1, c1] at g1
      obtain ⟨z1, e1, _, k1⟩ := DataW.trod_int u1 g1
      simp only [List.cons.injEq, and_true] at e1
      subst e1
      have g2 := hf 2 f2 rfl
      simp [Value.cells, o2, c2] at g2
      obtain ⟨z2, e2, _, k2⟩ := DataW.trod_int u2 g2
      simp only [List.cons.injEq, and_true] at e2
      subst e2
      have g3 := hf 3 f3 rfl
      simp [Value.cells, o3, c3] at g3
      obtain ⟨z3, e3, _, k3⟩ := DataW.trod_int u3 g3
      simp only [List.cons.injEq, and_true] at e3
      subst e3
      have g4 := hf 4 f4 rfl
      simp [Value.cells, o4, c4] at g4
      obtain ⟨z4, e4, _, k4⟩ := DataW.trod_int u4 g4
      simp only [List.cons.injEq, and_true] at e4
      subst e4
      have g5 := hf 5 f5 rfl
      simp [Value.cells, o5, c5] at g5
      obtain ⟨z5, e5, _, k5⟩ := DataW.trod_int u5 g5
      simp only [List.cons.injEq, and_true] at e5
      subst e5
      have g6 := hf 6 f6 rfl
      simp [Value.cells, o6, c6] at g6
      obtain ⟨z6, e6, _, k6⟩ := DataW.trod_int u6 g6
      simp only [List.cons.injEq, and_true] at e6
      subst e6
      exact ⟨⟨z0, z1, z2, z3, z4, z5, z6⟩, rfl, ⟨intFit_of k0, intFit_of k1, intFit_of k2, intFit_of k3, intFit_of k4, intFit_of k5, intFit_of k6⟩⟩
end
end Go.Proofs.YteciobkjfmddcaaDoor
