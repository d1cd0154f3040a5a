/-
  Packed: TyBook, BookOf.
-/
import Derived.Test.YteciobkjfmddcaaGreatQ2
import Derived.Test.YteciobkjfmddcaaGreatQ7
import Derived.Test.YteciobkjfmddcaaGreatQ21
set_option linter.unusedVariables false
namespace Go.Proofs.YteciobkjfmddcaaGreat
open Go.RowKit

def tBook : Ty := tTwo tTeamS (tTwo tRules (tTwo tGameS (tTwo tIntS tIntS)))
theorem opens_Book : Opens Tryz.prog 42 tBook := opens_struct Tryz.underlying42 (by kernel_rfl) ⟨rfl, _, _, rfl, opens_TeamS, ⟨rfl, _, _, rfl, opens_Rules, ⟨rfl, _, _, rfl, opens_GameS, ⟨rfl, _, _, rfl, opens_IntS, ⟨rfl, opens_IntS⟩⟩⟩⟩⟩
set_option maxRecDepth 100000 in
set_option maxHeartbeats 2000000 in
theorem y_sz_Book (vx_Field : Value) (x_Rules_Win : Int) (x_Rules_Draw : Int) (x_Rules_Loss : Int) (vx_Rules_Ladder : Value) (x_Rules_Again : Bool) (vx_Games : Value) (vx_Fair : Value) (vx_Taken : Value) (d : tBook.D) (left : Int) (w : World) (hl0 : 0 ≤ left) (hl : left ≤ 1048576) (h : RdA tBook w [vx_Field, .int .i64 x_Rules_Win, .int .i64 x_Rules_Draw, .int .i64 x_Rules_Loss, vx_Rules_Ladder, .bool x_Rules_Again, vx_Games, vx_Fair, vx_Taken] d) (hf : tBook.fit d) : Calls Tryz.prog 13 #[.agg #[vx_Field, .int .i64 x_Rules_Win, .int .i64 x_Rules_Draw, .int .i64 x_Rules_Loss, vx_Rules_Ladder, .bool x_Rules_Again, vx_Games, vx_Fair, vx_Taken], .int .i64 left] w (SzT tBook d left w) := by
  have hwt : tBook.wt d = (tTeamS.wt d.1 + (tRules.wt d.2.1 + (tGameS.wt d.2.2.1 + (tIntS.wt d.2.2.2.1 + tIntS.wt d.2.2.2.2)))) := rfl
  have P0 : RdA tTeamS w [vx_Field] d.1 := (rd_split h).1
  have Pt0 := (rd_split h).2
  have P1 : RdA tRules w [.int .i64 x_Rules_Win, .int .i64 x_Rules_Draw, .int .i64 x_Rules_Loss, vx_Rules_Ladder, .bool x_Rules_Again] d.2.1 := (rd_split Pt0).1
  have Pt1 := (rd_split Pt0).2
  have P2 : RdA tGameS w [vx_Games] d.2.2.1 := (rd_split Pt1).1
  have Pt2 := (rd_split Pt1).2
  have P3 : RdA tIntS w [vx_Fair] d.2.2.2.1 := (rd_split Pt2).1
  have Pt3 := (rd_split Pt2).2
  have P4 : RdA tIntS w [vx_Taken] d.2.2.2.2 := Pt3
  clear Pt0 Pt1 Pt2 Pt3
  have HP0 := Lib.hid P0
  have HP1 := Lib.hid P1
  have HP2 := Lib.hid P2
  have HP3 := Lib.hid P3
  have HP4 := Lib.hid P4
  have HF0 : Hid (tTeamS.fit d.1) := hf.1
  obtain ⟨W0, hW0⟩ : ∃ z, tTeamS.wt d.1 = z := ⟨_, rfl⟩
  obtain ⟨W1, hW1⟩ : ∃ z, tRules.wt d.2.1 = z := ⟨_, rfl⟩
  obtain ⟨W2, hW2⟩ : ∃ z, tGameS.wt d.2.2.1 = z := ⟨_, rfl⟩
  obtain ⟨W3, hW3⟩ : ∃ z, tIntS.wt d.2.2.2.1 = z := ⟨_, rfl⟩
  obtain ⟨W4, hW4⟩ : ∃ z, tIntS.wt d.2.2.2.2 = z := ⟨_, rfl⟩
  unfold SzT
  rw [hwt]
  clear hwt h P0 P1 P2 P3 P4 hf
  have HB0 : Hid (Below w.heap.size w (w.alloc (.cells #[vx_Field, .int .i64 x_Rules_Win, .int .i64 x_Rules_Draw, .int .i64 x_Rules_Loss, vx_Rules_Ladder, .bool x_Rules_Again, vx_Games, vx_Fair, vx_Taken] 42))) := (Below.refl _ _).alloc (Nat.le_refl _) _
  have BX0 : Hid (BoxN (w.alloc (.cells #[vx_Field, .int .i64 x_Rules_Win, .int .i64 x_Rules_Draw, .int .i64 x_Rules_Loss, vx_Rules_Ladder, .bool x_Rules_Again, vx_Games, vx_Fair, vx_Taken] 42)) w.heap.size [vx_Field, .int .i64 x_Rules_Win, .int .i64 x_Rules_Draw, .int .i64 x_Rules_Loss, vx_Rules_Ladder, .bool x_Rules_Again, vx_Games, vx_Fair, vx_Taken]) := BoxN.made (Below.refl _ _) rfl
  have c0 := BX0.out.2 0 _ rfl
  have c1 := BX0.out.2 1 _ rfl
  have c2 := BX0.out.2 2 _ rfl
  have c3 := BX0.out.2 3 _ rfl
  have c4 := BX0.out.2 4 _ rfl
  have c5 := BX0.out.2 5 _ rfl
  have c6 := BX0.out.2 6 _ rfl
  have c7 := BX0.out.2 7 _ rfl
  have c8 := BX0.out.2 8 _ rfl
  go_enter Tryz.func13, Tryz.ntmps13
  go_wp2_with fail
  refine (y_sz_TeamS vx_Field d.1 left _ (by omega) (by omega) (RdA.below HP0.out HB0.out) HF0.out).mono ?_
  rintro e w1 ⟨⟨r1, rfl, hr1⟩, b1⟩
  rw [hW0] at hr1
  have HB1 := Lib.hid (HB0.out.trans (b1.mono HB0.out.size))
  have BX1 := Lib.hid (BX0.out.below b1)
  clear c0 c1 c2 c3 c4 c5 c6 c7 c8 BX0 b1
  have c0 := BX1.out.2 0 _ rfl
  have c1 := BX1.out.2 1 _ rfl
  have c2 := BX1.out.2 2 _ rfl
  have c3 := BX1.out.2 3 _ rfl
  have c4 := BX1.out.2 4 _ rfl
  have c5 := BX1.out.2 5 _ rfl
  have c6 := BX1.out.2 6 _ rfl
  have c7 := BX1.out.2 7 _ rfl
  have c8 := BX1.out.2 8 _ rfl
  by_cases hn1 : r1 < 0
  · have g2 : decide (r1 < 0) = true := decide_eq_true hn1
    have HE := Lib.hid HB1.out
    clear hr1
    go_wp2
    go_ret
    exact ⟨⟨-1, rfl, .inl (by omega)⟩, HE.out⟩
  have g1 : decide (r1 < 0) = false := decide_eq_false hn1
  replace hn1 : 0 ≤ r1 ∧ (W0 : Int) + r1 = left := by omega
  clear hr1
  go_wp2_with fail
  refine (y_sz_Rules x_Rules_Win x_Rules_Draw x_Rules_Loss vx_Rules_Ladder x_Rules_Again d.2.1 r1 _ (by omega) (by omega) (RdA.below HP1.out HB1.out)).mono ?_
  rintro e w2 ⟨⟨r2, rfl, hr2⟩, b2⟩
  rw [hW1] at hr2
  have HB2 := Lib.hid (HB1.out.trans (b2.mono HB1.out.size))
  have BX2 := Lib.hid (BX1.out.below b2)
  clear c0 c1 c2 c3 c4 c5 c6 c7 c8 BX1 b2
  have c0 := BX2.out.2 0 _ rfl
  have c1 := BX2.out.2 1 _ rfl
  have c2 := BX2.out.2 2 _ rfl
  have c3 := BX2.out.2 3 _ rfl
  have c4 := BX2.out.2 4 _ rfl
  have c5 := BX2.out.2 5 _ rfl
  have c6 := BX2.out.2 6 _ rfl
  have c7 := BX2.out.2 7 _ rfl
  have c8 := BX2.out.2 8 _ rfl
  by_cases hn2 : r2 < 0
  · have g2 : decide (r2 < 0) = true := decide_eq_true hn2
    have HE := Lib.hid HB2.out
    clear hr2
    go_wp2
    go_ret
    exact ⟨⟨-1, rfl, .inl (by omega)⟩, HE.out⟩
  have g2 : decide (r2 < 0) = false := decide_eq_false hn2
  replace hn2 : 0 ≤ r2 ∧ (W1 : Int) + r2 = r1 := by omega
  clear hr2
  go_wp2_with fail
  refine (y_sz_GameS vx_Games d.2.2.1 r2 _ (by omega) (by omega) (RdA.below HP2.out HB2.out)).mono ?_
  rintro e w3 ⟨⟨r3, rfl, hr3⟩, b3⟩
  rw [hW2] at hr3
  have HB3 := Lib.hid (HB2.out.trans (b3.mono HB2.out.size))
  have BX3 := Lib.hid (BX2.out.below b3)
  clear c0 c1 c2 c3 c4 c5 c6 c7 c8 BX2 b3
  have c0 := BX3.out.2 0 _ rfl
  have c1 := BX3.out.2 1 _ rfl
  have c2 := BX3.out.2 2 _ rfl
  have c3 := BX3.out.2 3 _ rfl
  have c4 := BX3.out.2 4 _ rfl
  have c5 := BX3.out.2 5 _ rfl
  have c6 := BX3.out.2 6 _ rfl
  have c7 := BX3.out.2 7 _ rfl
  have c8 := BX3.out.2 8 _ rfl
  by_cases hn3 : r3 < 0
  · have g2 : decide (r3 < 0) = true := decide_eq_true hn3
    have HE := Lib.hid HB3.out
    clear hr3
    go_wp2
    go_ret
    exact ⟨⟨-1, rfl, .inl (by omega)⟩, HE.out⟩
  have g3 : decide (r3 < 0) = false := decide_eq_false hn3
  replace hn3 : 0 ≤ r3 ∧ (W2 : Int) + r3 = r2 := by omega
  clear hr3
  go_wp2_with fail
  refine (y_sz_IntS vx_Fair d.2.2.2.1 r3 _ (by omega) (by omega) (RdA.below HP3.out HB3.out)).mono ?_
  rintro e w4 ⟨⟨r4, rfl, hr4⟩, b4⟩
  rw [hW3] at hr4
  have HB4 := Lib.hid (HB3.out.trans (b4.mono HB3.out.size))
  have BX4 := Lib.hid (BX3.out.below b4)
  clear c0 c1 c2 c3 c4 c5 c6 c7 c8 BX3 b4
  have c0 := BX4.out.2 0 _ rfl
  have c1 := BX4.out.2 1 _ rfl
  have c2 := BX4.out.2 2 _ rfl
  have c3 := BX4.out.2 3 _ rfl
  have c4 := BX4.out.2 4 _ rfl
  have c5 := BX4.out.2 5 _ rfl
  have c6 := BX4.out.2 6 _ rfl
  have c7 := BX4.out.2 7 _ rfl
  have c8 := BX4.out.2 8 _ rfl
  by_cases hn4 : r4 < 0
  · have g2 : decide (r4 < 0) = true := decide_eq_true hn4
    have HE := Lib.hid HB4.out
    clear hr4
    go_wp2
    go_ret
    exact ⟨⟨-1, rfl, .inl (by omega)⟩, HE.out⟩
  have g4 : decide (r4 < 0) = false := decide_eq_false hn4
  replace hn4 : 0 ≤ r4 ∧ (W3 : Int) + r4 = r3 := by omega
  clear hr4
  go_wp2_with fail
  refine (y_sz_IntS vx_Taken d.2.2.2.2 r4 _ (by omega) (by omega) (RdA.below HP4.out HB4.out)).mono ?_
  rintro e w5 ⟨⟨r5, rfl, hr5⟩, b5⟩
  rw [hW4] at hr5
  have HB5 := Lib.hid (HB4.out.trans (b5.mono HB4.out.size))
  have BX5 := Lib.hid (BX4.out.below b5)
  clear c0 c1 c2 c3 c4 c5 c6 c7 c8 BX4 b5
  have c0 := BX5.out.2 0 _ rfl
  have c1 := BX5.out.2 1 _ rfl
  have c2 := BX5.out.2 2 _ rfl
  have c3 := BX5.out.2 3 _ rfl
  have c4 := BX5.out.2 4 _ rfl
  have c5 := BX5.out.2 5 _ rfl
  have c6 := BX5.out.2 6 _ rfl
  have c7 := BX5.out.2 7 _ rfl
  have c8 := BX5.out.2 8 _ rfl
  by_cases hn5 : r5 < 0
  · have g2 : decide (r5 < 0) = true := decide_eq_true hn5
    have HE := Lib.hid HB5.out
    clear hr5
    go_wp2
    go_ret
    exact ⟨⟨-1, rfl, .inl (by omega)⟩, HE.out⟩
  have g5 : decide (r5 < 0) = false := decide_eq_false hn5
  replace hn5 : 0 ≤ r5 ∧ (W4 : Int) + r5 = r4 := by omega
  clear hr5
  have HE := Lib.hid HB5.out
  go_wp2
  go_ret
  refine ⟨⟨_, rfl, .inr ⟨by omega, ?_⟩⟩, HE.out⟩
  rw [hW0, hW1, hW2, hW3, hW4]
  omega
set_option maxRecDepth 100000 in
set_option maxHeartbeats 2000000 in
theorem y_eq_Book (vx_Field : Value) (x_Rules_Win : Int) (x_Rules_Draw : Int) (x_Rules_Loss : Int) (vx_Rules_Ladder : Value) (x_Rules_Again : Bool) (vx_Games : Value) (vx_Fair : Value) (vx_Taken : Value) (vx_Field' : Value) (vx_Rules_Ladder' : Value) (vx_Games' : Value) (vx_Fair' : Value) (vx_Taken' : Value) (d : tBook.D) (w : World) (h : RdA tBook w [vx_Field, .int .i64 x_Rules_Win, .int .i64 x_Rules_Draw, .int .i64 x_Rules_Loss, vx_Rules_Ladder, .bool x_Rules_Again, vx_Games, vx_Fair, vx_Taken] d) (h' : RdA tBook w [vx_Field', .int .i64 x_Rules_Win, .int .i64 x_Rules_Draw, .int .i64 x_Rules_Loss, vx_Rules_Ladder', .bool x_Rules_Again, vx_Games', vx_Fair', vx_Taken'] d) : Calls Tryz.prog 18 #[.agg #[vx_Field, .int .i64 x_Rules_Win, .int .i64 x_Rules_Draw, .int .i64 x_Rules_Loss, vx_Rules_Ladder, .bool x_Rules_Again, vx_Games, vx_Fair, vx_Taken], .agg #[vx_Field', .int .i64 x_Rules_Win, .int .i64 x_Rules_Draw, .int .i64 x_Rules_Loss, vx_Rules_Ladder', .bool x_Rules_Again, vx_Games', vx_Fair', vx_Taken']] w fun e w' => e = .returned (.bool true) ∧ Below w.heap.size w w' := by
  have P0 : RdA tTeamS w [vx_Field] d.1 := (rd_split h).1
  have Pt0 := (rd_split h).2
  have P1 : RdA tRules w [.int .i64 x_Rules_Win, .int .i64 x_Rules_Draw, .int .i64 x_Rules_Loss, vx_Rules_Ladder, .bool x_Rules_Again] d.2.1 := (rd_split Pt0).1
  have Pt1 := (rd_split Pt0).2
  have P2 : RdA tGameS w [vx_Games] d.2.2.1 := (rd_split Pt1).1
  have Pt2 := (rd_split Pt1).2
  have P3 : RdA tIntS w [vx_Fair] d.2.2.2.1 := (rd_split Pt2).1
  have Pt3 := (rd_split Pt2).2
  have P4 : RdA tIntS w [vx_Taken] d.2.2.2.2 := Pt3
  clear Pt0 Pt1 Pt2 Pt3
  have Q0 : RdA tTeamS w [vx_Field'] d.1 := (rd_split h').1
  have Qt0 := (rd_split h').2
  have Q1 : RdA tRules w [.int .i64 x_Rules_Win, .int .i64 x_Rules_Draw, .int .i64 x_Rules_Loss, vx_Rules_Ladder', .bool x_Rules_Again] d.2.1 := (rd_split Qt0).1
  have Qt1 := (rd_split Qt0).2
  have Q2 : RdA tGameS w [vx_Games'] d.2.2.1 := (rd_split Qt1).1
  have Qt2 := (rd_split Qt1).2
  have Q3 : RdA tIntS w [vx_Fair'] d.2.2.2.1 := (rd_split Qt2).1
  have Qt3 := (rd_split Qt2).2
  have Q4 : RdA tIntS w [vx_Taken'] d.2.2.2.2 := Qt3
  clear Qt0 Qt1 Qt2 Qt3
  have HP0 := Lib.hid P0
  have HP1 := Lib.hid P1
  have HP2 := Lib.hid P2
  have HP3 := Lib.hid P3
  have HP4 := Lib.hid P4
  have HQ0 := Lib.hid Q0
  have HQ1 := Lib.hid Q1
  have HQ2 := Lib.hid Q2
  have HQ3 := Lib.hid Q3
  have HQ4 := Lib.hid Q4
  have HB0 : Hid (Below w.heap.size w ((w.alloc (.cells #[vx_Field, .int .i64 x_Rules_Win, .int .i64 x_Rules_Draw, .int .i64 x_Rules_Loss, vx_Rules_Ladder, .bool x_Rules_Again, vx_Games, vx_Fair, vx_Taken] 29)).alloc (.cells #[vx_Field', .int .i64 x_Rules_Win, .int .i64 x_Rules_Draw, .int .i64 x_Rules_Loss, vx_Rules_Ladder', .bool x_Rules_Again, vx_Games', vx_Fair', vx_Taken'] 29))) := ((Below.refl _ _).alloc (Nat.le_refl _) _).alloc (by simp) _
  have BX0 : Hid (BoxN ((w.alloc (.cells #[vx_Field, .int .i64 x_Rules_Win, .int .i64 x_Rules_Draw, .int .i64 x_Rules_Loss, vx_Rules_Ladder, .bool x_Rules_Again, vx_Games, vx_Fair, vx_Taken] 29)).alloc (.cells #[vx_Field', .int .i64 x_Rules_Win, .int .i64 x_Rules_Draw, .int .i64 x_Rules_Loss, vx_Rules_Ladder', .bool x_Rules_Again, vx_Games', vx_Fair', vx_Taken'] 29)) w.heap.size [vx_Field, .int .i64 x_Rules_Win, .int .i64 x_Rules_Draw, .int .i64 x_Rules_Loss, vx_Rules_Ladder, .bool x_Rules_Again, vx_Games, vx_Fair, vx_Taken]) := BoxN.below (BoxN.made (Below.refl _ _) rfl) ((Below.refl _ _).alloc (Nat.le_refl _) _)
  have BY0 : Hid (BoxN ((w.alloc (.cells #[vx_Field, .int .i64 x_Rules_Win, .int .i64 x_Rules_Draw, .int .i64 x_Rules_Loss, vx_Rules_Ladder, .bool x_Rules_Again, vx_Games, vx_Fair, vx_Taken] 29)).alloc (.cells #[vx_Field', .int .i64 x_Rules_Win, .int .i64 x_Rules_Draw, .int .i64 x_Rules_Loss, vx_Rules_Ladder', .bool x_Rules_Again, vx_Games', vx_Fair', vx_Taken'] 29)) (w.heap.size + 1) [vx_Field', .int .i64 x_Rules_Win, .int .i64 x_Rules_Draw, .int .i64 x_Rules_Loss, vx_Rules_Ladder', .bool x_Rules_Again, vx_Games', vx_Fair', vx_Taken']) := BoxN.made (Below.refl _ _) (by simp)
  clear h h' P0 Q0 P1 Q1 P2 Q2 P3 Q3 P4 Q4
  have c0 := BX0.out.2 0 _ rfl
  have c1 := BX0.out.2 1 _ rfl
  have c2 := BX0.out.2 2 _ rfl
  have c3 := BX0.out.2 3 _ rfl
  have c4 := BX0.out.2 4 _ rfl
  have c5 := BX0.out.2 5 _ rfl
  have c6 := BX0.out.2 6 _ rfl
  have c7 := BX0.out.2 7 _ rfl
  have c8 := BX0.out.2 8 _ rfl
  have e0 := BY0.out.2 0 _ rfl
  have e1 := BY0.out.2 1 _ rfl
  have e2 := BY0.out.2 2 _ rfl
  have e3 := BY0.out.2 3 _ rfl
  have e4 := BY0.out.2 4 _ rfl
  have e5 := BY0.out.2 5 _ rfl
  have e6 := BY0.out.2 6 _ rfl
  have e7 := BY0.out.2 7 _ rfl
  have e8 := BY0.out.2 8 _ rfl
  have bl := BX0.out.1
  have bm := BY0.out.1
  go_enter Tryz.func18, Tryz.ntmps18
  go_wp2_with fail
  refine (y_eq_TeamS vx_Field vx_Field' d.1 _ (RdA.below HP0.out HB0.out) (RdA.below HQ0.out HB0.out)).mono ?_
  rintro e w1 ⟨rfl, b1⟩
  have HB1 := Lib.hid (HB0.out.trans (b1.mono HB0.out.size))
  have BX1 := Lib.hid (BX0.out.below b1)
  have BY1 := Lib.hid (BY0.out.below b1)
  clear c0 c1 c2 c3 c4 c5 c6 c7 c8 e0 e1 e2 e3 e4 e5 e6 e7 e8 bl bm BX0 BY0 b1
  have c0 := BX1.out.2 0 _ rfl
  have c1 := BX1.out.2 1 _ rfl
  have c2 := BX1.out.2 2 _ rfl
  have c3 := BX1.out.2 3 _ rfl
  have c4 := BX1.out.2 4 _ rfl
  have c5 := BX1.out.2 5 _ rfl
  have c6 := BX1.out.2 6 _ rfl
  have c7 := BX1.out.2 7 _ rfl
  have c8 := BX1.out.2 8 _ rfl
  have e0 := BY1.out.2 0 _ rfl
  have e1 := BY1.out.2 1 _ rfl
  have e2 := BY1.out.2 2 _ rfl
  have e3 := BY1.out.2 3 _ rfl
  have e4 := BY1.out.2 4 _ rfl
  have e5 := BY1.out.2 5 _ rfl
  have e6 := BY1.out.2 6 _ rfl
  have e7 := BY1.out.2 7 _ rfl
  have e8 := BY1.out.2 8 _ rfl
  have bl := BX1.out.1
  have bm := BY1.out.1
  go_wp2_with fail
  refine (y_eq_Rules x_Rules_Win x_Rules_Draw x_Rules_Loss vx_Rules_Ladder x_Rules_Again vx_Rules_Ladder' d.2.1 _ (RdA.below HP1.out HB1.out) (RdA.below HQ1.out HB1.out)).mono ?_
  rintro e w2 ⟨rfl, b2⟩
  have HB2 := Lib.hid (HB1.out.trans (b2.mono HB1.out.size))
  have BX2 := Lib.hid (BX1.out.below b2)
  have BY2 := Lib.hid (BY1.out.below b2)
  clear c0 c1 c2 c3 c4 c5 c6 c7 c8 e0 e1 e2 e3 e4 e5 e6 e7 e8 bl bm BX1 BY1 b2
  have c0 := BX2.out.2 0 _ rfl
  have c1 := BX2.out.2 1 _ rfl
  have c2 := BX2.out.2 2 _ rfl
  have c3 := BX2.out.2 3 _ rfl
  have c4 := BX2.out.2 4 _ rfl
  have c5 := BX2.out.2 5 _ rfl
  have c6 := BX2.out.2 6 _ rfl
  have c7 := BX2.out.2 7 _ rfl
  have c8 := BX2.out.2 8 _ rfl
  have e0 := BY2.out.2 0 _ rfl
  have e1 := BY2.out.2 1 _ rfl
  have e2 := BY2.out.2 2 _ rfl
  have e3 := BY2.out.2 3 _ rfl
  have e4 := BY2.out.2 4 _ rfl
  have e5 := BY2.out.2 5 _ rfl
  have e6 := BY2.out.2 6 _ rfl
  have e7 := BY2.out.2 7 _ rfl
  have e8 := BY2.out.2 8 _ rfl
  have bl := BX2.out.1
  have bm := BY2.out.1
  go_wp2_with fail
  refine (y_eq_GameS vx_Games vx_Games' d.2.2.1 _ (RdA.below HP2.out HB2.out) (RdA.below HQ2.out HB2.out)).mono ?_
  rintro e w3 ⟨rfl, b3⟩
  have HB3 := Lib.hid (HB2.out.trans (b3.mono HB2.out.size))
  have BX3 := Lib.hid (BX2.out.below b3)
  have BY3 := Lib.hid (BY2.out.below b3)
  clear c0 c1 c2 c3 c4 c5 c6 c7 c8 e0 e1 e2 e3 e4 e5 e6 e7 e8 bl bm BX2 BY2 b3
  have c0 := BX3.out.2 0 _ rfl
  have c1 := BX3.out.2 1 _ rfl
  have c2 := BX3.out.2 2 _ rfl
  have c3 := BX3.out.2 3 _ rfl
  have c4 := BX3.out.2 4 _ rfl
  have c5 := BX3.out.2 5 _ rfl
  have c6 := BX3.out.2 6 _ rfl
  have c7 := BX3.out.2 7 _ rfl
  have c8 := BX3.out.2 8 _ rfl
  have e0 := BY3.out.2 0 _ rfl
  have e1 := BY3.out.2 1 _ rfl
  have e2 := BY3.out.2 2 _ rfl
  have e3 := BY3.out.2 3 _ rfl
  have e4 := BY3.out.2 4 _ rfl
  have e5 := BY3.out.2 5 _ rfl
  have e6 := BY3.out.2 6 _ rfl
  have e7 := BY3.out.2 7 _ rfl
  have e8 := BY3.out.2 8 _ rfl
  have bl := BX3.out.1
  have bm := BY3.out.1
  go_wp2_with fail
  refine (y_eq_IntS vx_Fair vx_Fair' d.2.2.2.1 _ (RdA.below HP3.out HB3.out) (RdA.below HQ3.out HB3.out)).mono ?_
  rintro e w4 ⟨rfl, b4⟩
  have HB4 := Lib.hid (HB3.out.trans (b4.mono HB3.out.size))
  have BX4 := Lib.hid (BX3.out.below b4)
  have BY4 := Lib.hid (BY3.out.below b4)
  clear c0 c1 c2 c3 c4 c5 c6 c7 c8 e0 e1 e2 e3 e4 e5 e6 e7 e8 bl bm BX3 BY3 b4
  have c0 := BX4.out.2 0 _ rfl
  have c1 := BX4.out.2 1 _ rfl
  have c2 := BX4.out.2 2 _ rfl
  have c3 := BX4.out.2 3 _ rfl
  have c4 := BX4.out.2 4 _ rfl
  have c5 := BX4.out.2 5 _ rfl
  have c6 := BX4.out.2 6 _ rfl
  have c7 := BX4.out.2 7 _ rfl
  have c8 := BX4.out.2 8 _ rfl
  have e0 := BY4.out.2 0 _ rfl
  have e1 := BY4.out.2 1 _ rfl
  have e2 := BY4.out.2 2 _ rfl
  have e3 := BY4.out.2 3 _ rfl
  have e4 := BY4.out.2 4 _ rfl
  have e5 := BY4.out.2 5 _ rfl
  have e6 := BY4.out.2 6 _ rfl
  have e7 := BY4.out.2 7 _ rfl
  have e8 := BY4.out.2 8 _ rfl
  have bl := BX4.out.1
  have bm := BY4.out.1
  go_wp2_with fail
  refine (y_eq_IntS vx_Taken vx_Taken' d.2.2.2.2 _ (RdA.below HP4.out HB4.out) (RdA.below HQ4.out HB4.out)).mono ?_
  rintro e w5 ⟨rfl, b5⟩
  have HB5 := Lib.hid (HB4.out.trans (b5.mono HB4.out.size))
  have BX5 := Lib.hid (BX4.out.below b5)
  have BY5 := Lib.hid (BY4.out.below b5)
  clear c0 c1 c2 c3 c4 c5 c6 c7 c8 e0 e1 e2 e3 e4 e5 e6 e7 e8 bl bm BX4 BY4 b5
  have c0 := BX5.out.2 0 _ rfl
  have c1 := BX5.out.2 1 _ rfl
  have c2 := BX5.out.2 2 _ rfl
  have c3 := BX5.out.2 3 _ rfl
  have c4 := BX5.out.2 4 _ rfl
  have c5 := BX5.out.2 5 _ rfl
  have c6 := BX5.out.2 6 _ rfl
  have c7 := BX5.out.2 7 _ rfl
  have c8 := BX5.out.2 8 _ rfl
  have e0 := BY5.out.2 0 _ rfl
  have e1 := BY5.out.2 1 _ rfl
  have e2 := BY5.out.2 2 _ rfl
  have e3 := BY5.out.2 3 _ rfl
  have e4 := BY5.out.2 4 _ rfl
  have e5 := BY5.out.2 5 _ rfl
  have e6 := BY5.out.2 6 _ rfl
  have e7 := BY5.out.2 7 _ rfl
  have e8 := BY5.out.2 8 _ rfl
  have bl := BX5.out.1
  have bm := BY5.out.1
  have HE := Lib.hid HB5.out
  go_wp2
  go_ret
  exact ⟨rfl, HE.out⟩
set_option maxRecDepth 100000 in
set_option maxHeartbeats 4000000 in
theorem y_to_Book (vx_Field : Value) (x_Rules_Win : Int) (x_Rules_Draw : Int) (x_Rules_Loss : Int) (vx_Rules_Ladder : Value) (x_Rules_Again : Bool) (vx_Games : Value) (vx_Fair : Value) (vx_Taken : Value) (d : tBook.D) (w : World) (h : RdA tBook w [vx_Field, .int .i64 x_Rules_Win, .int .i64 x_Rules_Draw, .int .i64 x_Rules_Loss, vx_Rules_Ladder, .bool x_Rules_Again, vx_Games, vx_Fair, vx_Taken] d) (hw : tBook.wt d ≤ 1048576) : Calls Tryz.prog 15 #[.agg #[vx_Field, .int .i64 x_Rules_Win, .int .i64 x_Rules_Draw, .int .i64 x_Rules_Loss, vx_Rules_Ladder, .bool x_Rules_Again, vx_Games, vx_Fair, vx_Taken]] w (fun e w' => ∃ vx_Field' vx_Rules_Ladder' vx_Games' vx_Fair' vx_Taken' : Value, e = .returned (.agg #[vx_Field', .int .i64 x_Rules_Win, .int .i64 x_Rules_Draw, .int .i64 x_Rules_Loss, vx_Rules_Ladder', .bool x_Rules_Again, vx_Games', vx_Fair', vx_Taken']) ∧ OwN tBook w' w.heap.size w'.heap.size [vx_Field', .int .i64 x_Rules_Win, .int .i64 x_Rules_Draw, .int .i64 x_Rules_Loss, vx_Rules_Ladder', .bool x_Rules_Again, vx_Games', vx_Fair', vx_Taken'] d ∧ Below w.heap.size w w') := by
  have P0 : RdA tTeamS w [vx_Field] d.1 := (rd_split h).1
  have Pt0 := (rd_split h).2
  have P1 : RdA tRules w [.int .i64 x_Rules_Win, .int .i64 x_Rules_Draw, .int .i64 x_Rules_Loss, vx_Rules_Ladder, .bool x_Rules_Again] d.2.1 := (rd_split Pt0).1
  have Pt1 := (rd_split Pt0).2
  have P2 : RdA tGameS w [vx_Games] d.2.2.1 := (rd_split Pt1).1
  have Pt2 := (rd_split Pt1).2
  have P3 : RdA tIntS w [vx_Fair] d.2.2.2.1 := (rd_split Pt2).1
  have Pt3 := (rd_split Pt2).2
  have P4 : RdA tIntS w [vx_Taken] d.2.2.2.2 := Pt3
  clear Pt0 Pt1 Pt2 Pt3
  have HP0 := Lib.hid P0
  have HP1 := Lib.hid P1
  have HP2 := Lib.hid P2
  have HP3 := Lib.hid P3
  have HP4 := Lib.hid P4
  have hwt : tBook.wt d = (tTeamS.wt d.1 + (tRules.wt d.2.1 + (tGameS.wt d.2.2.1 + (tIntS.wt d.2.2.2.1 + tIntS.wt d.2.2.2.2)))) := rfl
  rw [hwt] at hw
  have hw0 : tTeamS.wt d.1 ≤ 1048576 := by omega
  have hw1 : tRules.wt d.2.1 ≤ 1048576 := by omega
  have hw2 : tGameS.wt d.2.2.1 ≤ 1048576 := by omega
  have hw3 : tIntS.wt d.2.2.2.1 ≤ 1048576 := by omega
  have hw4 : tIntS.wt d.2.2.2.2 ≤ 1048576 := by omega
  have HW0 := Lib.hid hw0
  have HW1 := Lib.hid hw1
  have HW2 := Lib.hid hw2
  have HW3 := Lib.hid hw3
  have HW4 := Lib.hid hw4
  clear hw hwt hw0 hw1 hw2 hw3 hw4
  have HB0 : Hid (Below w.heap.size w (((w.alloc (.cells #[vx_Field, .int .i64 x_Rules_Win, .int .i64 x_Rules_Draw, .int .i64 x_Rules_Loss, vx_Rules_Ladder, .bool x_Rules_Again, vx_Games, vx_Fair, vx_Taken] 42)).alloc (.cells #[.slice none 0 0, .int .i64 0, .int .i64 0, .int .i64 0, .slice none 0 0, .bool false, .slice none 0 0, .slice none 0 0, .slice none 0 0] 29)).alloc (.cells #[.slice none 0 0, .int .i64 0, .int .i64 0, .int .i64 0, .slice none 0 0, .bool false, .slice none 0 0, .slice none 0 0, .slice none 0 0] 29))) := (((Below.refl _ _).alloc (Nat.le_refl _) _).alloc (by simp) _).alloc (by simp <;> omega) _
  have BX0 : Hid (BoxN (((w.alloc (.cells #[vx_Field, .int .i64 x_Rules_Win, .int .i64 x_Rules_Draw, .int .i64 x_Rules_Loss, vx_Rules_Ladder, .bool x_Rules_Again, vx_Games, vx_Fair, vx_Taken] 42)).alloc (.cells #[.slice none 0 0, .int .i64 0, .int .i64 0, .int .i64 0, .slice none 0 0, .bool false, .slice none 0 0, .slice none 0 0, .slice none 0 0] 29)).alloc (.cells #[.slice none 0 0, .int .i64 0, .int .i64 0, .int .i64 0, .slice none 0 0, .bool false, .slice none 0 0, .slice none 0 0, .slice none 0 0] 29)) w.heap.size [vx_Field, .int .i64 x_Rules_Win, .int .i64 x_Rules_Draw, .int .i64 x_Rules_Loss, vx_Rules_Ladder, .bool x_Rules_Again, vx_Games, vx_Fair, vx_Taken]) := BoxN.below (BoxN.below (BoxN.made (Below.refl _ _) rfl) ((Below.refl _ _).alloc (Nat.le_refl _) _)) ((Below.refl _ _).alloc (Nat.le_refl _) _)
  have RS0 : Hid (ResAt (((w.alloc (.cells #[vx_Field, .int .i64 x_Rules_Win, .int .i64 x_Rules_Draw, .int .i64 x_Rules_Loss, vx_Rules_Ladder, .bool x_Rules_Again, vx_Games, vx_Fair, vx_Taken] 42)).alloc (.cells #[.slice none 0 0, .int .i64 0, .int .i64 0, .int .i64 0, .slice none 0 0, .bool false, .slice none 0 0, .slice none 0 0, .slice none 0 0] 29)).alloc (.cells #[.slice none 0 0, .int .i64 0, .int .i64 0, .int .i64 0, .slice none 0 0, .bool false, .slice none 0 0, .slice none 0 0, .slice none 0 0] 29)) (w.heap.size + 1) 9) := ResAt.below (ResAt.made' (by simp) rfl) ((Below.refl _ _).alloc (Nat.le_refl _) _)
  have BO0 : Hid (BoxF (((w.alloc (.cells #[vx_Field, .int .i64 x_Rules_Win, .int .i64 x_Rules_Draw, .int .i64 x_Rules_Loss, vx_Rules_Ladder, .bool x_Rules_Again, vx_Games, vx_Fair, vx_Taken] 42)).alloc (.cells #[.slice none 0 0, .int .i64 0, .int .i64 0, .int .i64 0, .slice none 0 0, .bool false, .slice none 0 0, .slice none 0 0, .slice none 0 0] 29)).alloc (.cells #[.slice none 0 0, .int .i64 0, .int .i64 0, .int .i64 0, .slice none 0 0, .bool false, .slice none 0 0, .slice none 0 0, .slice none 0 0] 29)) (w.heap.size + 2) [.slice none 0 0, .int .i64 0, .int .i64 0, .int .i64 0, .slice none 0 0, .bool false, .slice none 0 0, .slice none 0 0, .slice none 0 0]) := BoxF.made (Below.refl _ _) (by simp)
  clear h P0 P1 P2 P3 P4
  have c0 := BX0.out.2 0 _ rfl
  have c1 := BX0.out.2 1 _ rfl
  have c2 := BX0.out.2 2 _ rfl
  have c3 := BX0.out.2 3 _ rfl
  have c4 := BX0.out.2 4 _ rfl
  have c5 := BX0.out.2 5 _ rfl
  have c6 := BX0.out.2 6 _ rfl
  have c7 := BX0.out.2 7 _ rfl
  have c8 := BX0.out.2 8 _ rfl
  have o0 := BO0.out.2 0 _ rfl
  have o1 := BO0.out.2 1 _ rfl
  have o2 := BO0.out.2 2 _ rfl
  have o3 := BO0.out.2 3 _ rfl
  have o4 := BO0.out.2 4 _ rfl
  have o5 := BO0.out.2 5 _ rfl
  have o6 := BO0.out.2 6 _ rfl
  have o7 := BO0.out.2 7 _ rfl
  have o8 := BO0.out.2 8 _ rfl
  have bl := BX0.out.1
  have bm := BO0.out.1
  have bn := RS0.out.lt
  obtain ⟨⟨z0, q0⟩, y0⟩ := RS0.out.at 0 (by omega)
  obtain ⟨⟨z1, q1⟩, y1⟩ := RS0.out.at 1 (by omega)
  obtain ⟨⟨z2, q2⟩, y2⟩ := RS0.out.at 2 (by omega)
  obtain ⟨⟨z3, q3⟩, y3⟩ := RS0.out.at 3 (by omega)
  obtain ⟨⟨z4, q4⟩, y4⟩ := RS0.out.at 4 (by omega)
  obtain ⟨⟨z5, q5⟩, y5⟩ := RS0.out.at 5 (by omega)
  obtain ⟨⟨z6, q6⟩, y6⟩ := RS0.out.at 6 (by omega)
  obtain ⟨⟨z7, q7⟩, y7⟩ := RS0.out.at 7 (by omega)
  obtain ⟨⟨z8, q8⟩, y8⟩ := RS0.out.at 8 (by omega)
  go_enter Tryz.func15, Tryz.ntmps15
  go_wp2_with fail
  clear c0 o0 q0 y0 c1 o1 q1 y1 c2 o2 q2 y2 c3 o3 q3 y3 c4 o4 q4 y4 c5 o5 q5 y5 c6 o6 q6 y6 c7 o7 q7 y7 c8 o8 q8 y8 bl bm bn
  refine (y_to_TeamS vx_Field d.1 _ (RdA.below HP0.out HB0.out) HW0.out).mono ?_
  rintro e w1 ⟨u0_0, rfl, ho1, b1⟩
  have hs1 := b1.size
  have hS1 : w.heap.size + 3 ≤ w1.heap.size := by simp at hs1; omega
  have HBc1 := Lib.hid (HB0.out.trans (b1.mono HB0.out.size))
  have BXc1 := Lib.hid (BX0.out.below b1)
  have RSc1 := Lib.hid (RS0.out.below b1)
  have BOc1 := Lib.hid (BO0.out.below b1)
  have O0_c1 := Lib.hid (ho1.mono (lo' := w.heap.size + 3) (hi' := w1.heap.size) (by simp) (Nat.le_refl _) (Nat.le_refl _))
  clear HB0 BX0 RS0 BO0 hs1 b1 ho1
  obtain ⟨au0_0, nu0_0, ku0_0, hu0_0⟩ := rd_slice O0_c1.out.rd
  subst hu0_0
  have c0 := BXc1.out.2 0 _ rfl
  have c1 := BXc1.out.2 1 _ rfl
  have c2 := BXc1.out.2 2 _ rfl
  have c3 := BXc1.out.2 3 _ rfl
  have c4 := BXc1.out.2 4 _ rfl
  have c5 := BXc1.out.2 5 _ rfl
  have c6 := BXc1.out.2 6 _ rfl
  have c7 := BXc1.out.2 7 _ rfl
  have c8 := BXc1.out.2 8 _ rfl
  have o0 := BOc1.out.2 0 _ rfl
  have o1 := BOc1.out.2 1 _ rfl
  have o2 := BOc1.out.2 2 _ rfl
  have o3 := BOc1.out.2 3 _ rfl
  have o4 := BOc1.out.2 4 _ rfl
  have o5 := BOc1.out.2 5 _ rfl
  have o6 := BOc1.out.2 6 _ rfl
  have o7 := BOc1.out.2 7 _ rfl
  have o8 := BOc1.out.2 8 _ rfl
  have bl := BXc1.out.1
  have bm := BOc1.out.1
  have bn := RSc1.out.lt
  obtain ⟨⟨z0, q0⟩, y0⟩ := RSc1.out.at 0 (by omega)
  obtain ⟨⟨z1, q1⟩, y1⟩ := RSc1.out.at 1 (by omega)
  obtain ⟨⟨z2, q2⟩, y2⟩ := RSc1.out.at 2 (by omega)
  obtain ⟨⟨z3, q3⟩, y3⟩ := RSc1.out.at 3 (by omega)
  obtain ⟨⟨z4, q4⟩, y4⟩ := RSc1.out.at 4 (by omega)
  obtain ⟨⟨z5, q5⟩, y5⟩ := RSc1.out.at 5 (by omega)
  obtain ⟨⟨z6, q6⟩, y6⟩ := RSc1.out.at 6 (by omega)
  obtain ⟨⟨z7, q7⟩, y7⟩ := RSc1.out.at 7 (by omega)
  obtain ⟨⟨z8, q8⟩, y8⟩ := RSc1.out.at 8 (by omega)
  go_wp2_with fail
  clear c0 o0 q0 y0 c1 o1 q1 y1 c2 o2 q2 y2 c3 o3 q3 y3 c4 o4 q4 y4 c5 o5 q5 y5 c6 o6 q6 y6 c7 o7 q7 y7 c8 o8 q8 y8 bl bm bn
  have HBs1 := Lib.hid (HBc1.out.setCell (p := ⟨w.heap.size + 2, 0, none⟩) (by simp) (.slice au0_0 nu0_0 ku0_0))
  have BXs1 := Lib.hid (BXc1.out.elsewhere (D := w.heap.size + 2) 0 (.slice au0_0 nu0_0 ku0_0) (by omega))
  have RSs1 := Lib.hid (RSc1.out.elsewhere (D := w.heap.size + 2) 0 (.slice au0_0 nu0_0 ku0_0) (by omega))
  have BOs1 := Lib.hid (BOc1.out.set 0 (.slice au0_0 nu0_0 ku0_0) (by simp))
  have O0_s1 := Lib.hid (O0_c1.out.touch ((Touch.refl (w.heap.size + 2) (w.heap.size + 3) _).setCell ⟨w.heap.size + 2, 0, none⟩ (.slice au0_0 nu0_0 ku0_0) (by simp) (by simp)) (.inr (by omega)))
  clear HBc1 BXc1 RSc1 BOc1 O0_c1
  refine (y_to_Rules x_Rules_Win x_Rules_Draw x_Rules_Loss vx_Rules_Ladder x_Rules_Again d.2.1 _ (RdA.below HP1.out HBs1.out) HW1.out).mono ?_
  rintro e w2 ⟨u1_0, rfl, ho2, b2⟩
  have hs2 := b2.size
  have hS2 : w1.heap.size ≤ w2.heap.size := by simp at hs2; exact hs2
  have HBc2 := Lib.hid (HBs1.out.trans (b2.mono HBs1.out.size))
  have BXc2 := Lib.hid (BXs1.out.below b2)
  have RSc2 := Lib.hid (RSs1.out.below b2)
  have BOc2 := Lib.hid (BOs1.out.below b2)
  have O0_c2 := Lib.hid (O0_s1.out.below b2)
  have O1_c2 := Lib.hid (ho2.mono (lo' := w1.heap.size) (hi' := w2.heap.size) (by simp) (Nat.le_refl _) (Nat.le_refl _))
  clear HBs1 BXs1 RSs1 BOs1 O0_s1 hs2 b2 ho2
  have hsp := O1_c2.out.rd
  replace hsp := (rd_splitB hsp).2
  replace hsp := (rd_splitB hsp).2
  replace hsp := (rd_splitB hsp).2
  obtain ⟨au1_0, nu1_0, ku1_0, hu1_0⟩ := rd_slice (rd_splitB hsp).1
  replace hsp := (rd_splitB hsp).2
  clear hsp
  subst hu1_0
  have c0 := BXc2.out.2 0 _ rfl
  have c1 := BXc2.out.2 1 _ rfl
  have c2 := BXc2.out.2 2 _ rfl
  have c3 := BXc2.out.2 3 _ rfl
  have c4 := BXc2.out.2 4 _ rfl
  have c5 := BXc2.out.2 5 _ rfl
  have c6 := BXc2.out.2 6 _ rfl
  have c7 := BXc2.out.2 7 _ rfl
  have c8 := BXc2.out.2 8 _ rfl
  have o0 := BOc2.out.2 0 _ rfl
  have o1 := BOc2.out.2 1 _ rfl
  have o2 := BOc2.out.2 2 _ rfl
  have o3 := BOc2.out.2 3 _ rfl
  have o4 := BOc2.out.2 4 _ rfl
  have o5 := BOc2.out.2 5 _ rfl
  have o6 := BOc2.out.2 6 _ rfl
  have o7 := BOc2.out.2 7 _ rfl
  have o8 := BOc2.out.2 8 _ rfl
  have bl := BXc2.out.1
  have bm := BOc2.out.1
  have bn := RSc2.out.lt
  obtain ⟨⟨z0, q0⟩, y0⟩ := RSc2.out.at 0 (by omega)
  obtain ⟨⟨z1, q1⟩, y1⟩ := RSc2.out.at 1 (by omega)
  obtain ⟨⟨z2, q2⟩, y2⟩ := RSc2.out.at 2 (by omega)
  obtain ⟨⟨z3, q3⟩, y3⟩ := RSc2.out.at 3 (by omega)
  obtain ⟨⟨z4, q4⟩, y4⟩ := RSc2.out.at 4 (by omega)
  obtain ⟨⟨z5, q5⟩, y5⟩ := RSc2.out.at 5 (by omega)
  obtain ⟨⟨z6, q6⟩, y6⟩ := RSc2.out.at 6 (by omega)
  obtain ⟨⟨z7, q7⟩, y7⟩ := RSc2.out.at 7 (by omega)
  obtain ⟨⟨z8, q8⟩, y8⟩ := RSc2.out.at 8 (by omega)
  go_wp2_with fail
  clear c0 o0 q0 y0 c1 o1 q1 y1 c2 o2 q2 y2 c3 o3 q3 y3 c4 o4 q4 y4 c5 o5 q5 y5 c6 o6 q6 y6 c7 o7 q7 y7 c8 o8 q8 y8 bl bm bn
  have HBs2 := Lib.hid (HBc2.out.setCell (p := ⟨w.heap.size + 2, 1, none⟩) (by simp) (.int .i64 x_Rules_Win))
  have BXs2 := Lib.hid (BXc2.out.elsewhere (D := w.heap.size + 2) 1 (.int .i64 x_Rules_Win) (by omega))
  have RSs2 := Lib.hid (RSc2.out.elsewhere (D := w.heap.size + 2) 1 (.int .i64 x_Rules_Win) (by omega))
  have BOs2 := Lib.hid (BOc2.out.set 1 (.int .i64 x_Rules_Win) (by simp))
  have O0_s2 := Lib.hid (O0_c2.out.touch ((Touch.refl (w.heap.size + 2) (w.heap.size + 3) _).setCell ⟨w.heap.size + 2, 1, none⟩ (.int .i64 x_Rules_Win) (by simp) (by simp)) (.inr (by omega)))
  have O1_s2 := Lib.hid (O1_c2.out.touch ((Touch.refl (w.heap.size + 2) (w.heap.size + 3) _).setCell ⟨w.heap.size + 2, 1, none⟩ (.int .i64 x_Rules_Win) (by simp) (by simp)) (.inr (by omega)))
  clear HBc2 BXc2 RSc2 BOc2 O0_c2 O1_c2
  have HBs3 := Lib.hid (HBs2.out.setCell (p := ⟨w.heap.size + 2, 2, none⟩) (by simp) (.int .i64 x_Rules_Draw))
  have BXs3 := Lib.hid (BXs2.out.elsewhere (D := w.heap.size + 2) 2 (.int .i64 x_Rules_Draw) (by omega))
  have RSs3 := Lib.hid (RSs2.out.elsewhere (D := w.heap.size + 2) 2 (.int .i64 x_Rules_Draw) (by omega))
  have BOs3 := Lib.hid (BOs2.out.set 2 (.int .i64 x_Rules_Draw) (by simp))
  have O0_s3 := Lib.hid (O0_s2.out.touch ((Touch.refl (w.heap.size + 2) (w.heap.size + 3) _).setCell ⟨w.heap.size + 2, 2, none⟩ (.int .i64 x_Rules_Draw) (by simp) (by simp)) (.inr (by omega)))
  have O1_s3 := Lib.hid (O1_s2.out.touch ((Touch.refl (w.heap.size + 2) (w.heap.size + 3) _).setCell ⟨w.heap.size + 2, 2, none⟩ (.int .i64 x_Rules_Draw) (by simp) (by simp)) (.inr (by omega)))
  clear HBs2 BXs2 RSs2 BOs2 O0_s2 O1_s2
  have HBs4 := Lib.hid (HBs3.out.setCell (p := ⟨w.heap.size + 2, 3, none⟩) (by simp) (.int .i64 x_Rules_Loss))
  have BXs4 := Lib.hid (BXs3.out.elsewhere (D := w.heap.size + 2) 3 (.int .i64 x_Rules_Loss) (by omega))
  have RSs4 := Lib.hid (RSs3.out.elsewhere (D := w.heap.size + 2) 3 (.int .i64 x_Rules_Loss) (by omega))
  have BOs4 := Lib.hid (BOs3.out.set 3 (.int .i64 x_Rules_Loss) (by simp))
  have O0_s4 := Lib.hid (O0_s3.out.touch ((Touch.refl (w.heap.size + 2) (w.heap.size + 3) _).setCell ⟨w.heap.size + 2, 3, none⟩ (.int .i64 x_Rules_Loss) (by simp) (by simp)) (.inr (by omega)))
  have O1_s4 := Lib.hid (O1_s3.out.touch ((Touch.refl (w.heap.size + 2) (w.heap.size + 3) _).setCell ⟨w.heap.size + 2, 3, none⟩ (.int .i64 x_Rules_Loss) (by simp) (by simp)) (.inr (by omega)))
  clear HBs3 BXs3 RSs3 BOs3 O0_s3 O1_s3
  have HBs5 := Lib.hid (HBs4.out.setCell (p := ⟨w.heap.size + 2, 4, none⟩) (by simp) (.slice au1_0 nu1_0 ku1_0))
  have BXs5 := Lib.hid (BXs4.out.elsewhere (D := w.heap.size + 2) 4 (.slice au1_0 nu1_0 ku1_0) (by omega))
  have RSs5 := Lib.hid (RSs4.out.elsewhere (D := w.heap.size + 2) 4 (.slice au1_0 nu1_0 ku1_0) (by omega))
  have BOs5 := Lib.hid (BOs4.out.set 4 (.slice au1_0 nu1_0 ku1_0) (by simp))
  have O0_s5 := Lib.hid (O0_s4.out.touch ((Touch.refl (w.heap.size + 2) (w.heap.size + 3) _).setCell ⟨w.heap.size + 2, 4, none⟩ (.slice au1_0 nu1_0 ku1_0) (by simp) (by simp)) (.inr (by omega)))
  have O1_s5 := Lib.hid (O1_s4.out.touch ((Touch.refl (w.heap.size + 2) (w.heap.size + 3) _).setCell ⟨w.heap.size + 2, 4, none⟩ (.slice au1_0 nu1_0 ku1_0) (by simp) (by simp)) (.inr (by omega)))
  clear HBs4 BXs4 RSs4 BOs4 O0_s4 O1_s4
  have HBs6 := Lib.hid (HBs5.out.setCell (p := ⟨w.heap.size + 2, 5, none⟩) (by simp) (.bool x_Rules_Again))
  have BXs6 := Lib.hid (BXs5.out.elsewhere (D := w.heap.size + 2) 5 (.bool x_Rules_Again) (by omega))
  have RSs6 := Lib.hid (RSs5.out.elsewhere (D := w.heap.size + 2) 5 (.bool x_Rules_Again) (by omega))
  have BOs6 := Lib.hid (BOs5.out.set 5 (.bool x_Rules_Again) (by simp))
  have O0_s6 := Lib.hid (O0_s5.out.touch ((Touch.refl (w.heap.size + 2) (w.heap.size + 3) _).setCell ⟨w.heap.size + 2, 5, none⟩ (.bool x_Rules_Again) (by simp) (by simp)) (.inr (by omega)))
  have O1_s6 := Lib.hid (O1_s5.out.touch ((Touch.refl (w.heap.size + 2) (w.heap.size + 3) _).setCell ⟨w.heap.size + 2, 5, none⟩ (.bool x_Rules_Again) (by simp) (by simp)) (.inr (by omega)))
  clear HBs5 BXs5 RSs5 BOs5 O0_s5 O1_s5
  refine (y_to_GameS vx_Games d.2.2.1 _ (RdA.below HP2.out HBs6.out) HW2.out).mono ?_
  rintro e w3 ⟨u2_0, rfl, ho3, b3⟩
  have hs3 := b3.size
  have hS3 : w2.heap.size ≤ w3.heap.size := by simp at hs3; exact hs3
  have HBc3 := Lib.hid (HBs6.out.trans (b3.mono HBs6.out.size))
  have BXc3 := Lib.hid (BXs6.out.below b3)
  have RSc3 := Lib.hid (RSs6.out.below b3)
  have BOc3 := Lib.hid (BOs6.out.below b3)
  have O0_c3 := Lib.hid (O0_s6.out.below b3)
  have O1_c3 := Lib.hid (O1_s6.out.below b3)
  have O2_c3 := Lib.hid (ho3.mono (lo' := w2.heap.size) (hi' := w3.heap.size) (by simp) (Nat.le_refl _) (Nat.le_refl _))
  clear HBs6 BXs6 RSs6 BOs6 O0_s6 O1_s6 hs3 b3 ho3
  obtain ⟨au2_0, nu2_0, ku2_0, hu2_0⟩ := rd_slice O2_c3.out.rd
  subst hu2_0
  have c0 := BXc3.out.2 0 _ rfl
  have c1 := BXc3.out.2 1 _ rfl
  have c2 := BXc3.out.2 2 _ rfl
  have c3 := BXc3.out.2 3 _ rfl
  have c4 := BXc3.out.2 4 _ rfl
  have c5 := BXc3.out.2 5 _ rfl
  have c6 := BXc3.out.2 6 _ rfl
  have c7 := BXc3.out.2 7 _ rfl
  have c8 := BXc3.out.2 8 _ rfl
  have o0 := BOc3.out.2 0 _ rfl
  have o1 := BOc3.out.2 1 _ rfl
  have o2 := BOc3.out.2 2 _ rfl
  have o3 := BOc3.out.2 3 _ rfl
  have o4 := BOc3.out.2 4 _ rfl
  have o5 := BOc3.out.2 5 _ rfl
  have o6 := BOc3.out.2 6 _ rfl
  have o7 := BOc3.out.2 7 _ rfl
  have o8 := BOc3.out.2 8 _ rfl
  have bl := BXc3.out.1
  have bm := BOc3.out.1
  have bn := RSc3.out.lt
  obtain ⟨⟨z0, q0⟩, y0⟩ := RSc3.out.at 0 (by omega)
  obtain ⟨⟨z1, q1⟩, y1⟩ := RSc3.out.at 1 (by omega)
  obtain ⟨⟨z2, q2⟩, y2⟩ := RSc3.out.at 2 (by omega)
  obtain ⟨⟨z3, q3⟩, y3⟩ := RSc3.out.at 3 (by omega)
  obtain ⟨⟨z4, q4⟩, y4⟩ := RSc3.out.at 4 (by omega)
  obtain ⟨⟨z5, q5⟩, y5⟩ := RSc3.out.at 5 (by omega)
  obtain ⟨⟨z6, q6⟩, y6⟩ := RSc3.out.at 6 (by omega)
  obtain ⟨⟨z7, q7⟩, y7⟩ := RSc3.out.at 7 (by omega)
  obtain ⟨⟨z8, q8⟩, y8⟩ := RSc3.out.at 8 (by omega)
  go_wp2_with fail
  clear c0 o0 q0 y0 c1 o1 q1 y1 c2 o2 q2 y2 c3 o3 q3 y3 c4 o4 q4 y4 c5 o5 q5 y5 c6 o6 q6 y6 c7 o7 q7 y7 c8 o8 q8 y8 bl bm bn
  have HBs7 := Lib.hid (HBc3.out.setCell (p := ⟨w.heap.size + 2, 6, none⟩) (by simp) (.slice au2_0 nu2_0 ku2_0))
  have BXs7 := Lib.hid (BXc3.out.elsewhere (D := w.heap.size + 2) 6 (.slice au2_0 nu2_0 ku2_0) (by omega))
  have RSs7 := Lib.hid (RSc3.out.elsewhere (D := w.heap.size + 2) 6 (.slice au2_0 nu2_0 ku2_0) (by omega))
  have BOs7 := Lib.hid (BOc3.out.set 6 (.slice au2_0 nu2_0 ku2_0) (by simp))
  have O0_s7 := Lib.hid (O0_c3.out.touch ((Touch.refl (w.heap.size + 2) (w.heap.size + 3) _).setCell ⟨w.heap.size + 2, 6, none⟩ (.slice au2_0 nu2_0 ku2_0) (by simp) (by simp)) (.inr (by omega)))
  have O1_s7 := Lib.hid (O1_c3.out.touch ((Touch.refl (w.heap.size + 2) (w.heap.size + 3) _).setCell ⟨w.heap.size + 2, 6, none⟩ (.slice au2_0 nu2_0 ku2_0) (by simp) (by simp)) (.inr (by omega)))
  have O2_s7 := Lib.hid (O2_c3.out.touch ((Touch.refl (w.heap.size + 2) (w.heap.size + 3) _).setCell ⟨w.heap.size + 2, 6, none⟩ (.slice au2_0 nu2_0 ku2_0) (by simp) (by simp)) (.inr (by omega)))
  clear HBc3 BXc3 RSc3 BOc3 O0_c3 O1_c3 O2_c3
  refine (y_to_IntS vx_Fair d.2.2.2.1 _ (RdA.below HP3.out HBs7.out) HW3.out).mono ?_
  rintro e w4 ⟨u3_0, rfl, ho4, b4⟩
  have hs4 := b4.size
  have hS4 : w3.heap.size ≤ w4.heap.size := by simp at hs4; exact hs4
  have HBc4 := Lib.hid (HBs7.out.trans (b4.mono HBs7.out.size))
  have BXc4 := Lib.hid (BXs7.out.below b4)
  have RSc4 := Lib.hid (RSs7.out.below b4)
  have BOc4 := Lib.hid (BOs7.out.below b4)
  have O0_c4 := Lib.hid (O0_s7.out.below b4)
  have O1_c4 := Lib.hid (O1_s7.out.below b4)
  have O2_c4 := Lib.hid (O2_s7.out.below b4)
  have O3_c4 := Lib.hid (ho4.mono (lo' := w3.heap.size) (hi' := w4.heap.size) (by simp) (Nat.le_refl _) (Nat.le_refl _))
  clear HBs7 BXs7 RSs7 BOs7 O0_s7 O1_s7 O2_s7 hs4 b4 ho4
  obtain ⟨au3_0, nu3_0, ku3_0, hu3_0⟩ := rd_slice O3_c4.out.rd
  subst hu3_0
  have c0 := BXc4.out.2 0 _ rfl
  have c1 := BXc4.out.2 1 _ rfl
  have c2 := BXc4.out.2 2 _ rfl
  have c3 := BXc4.out.2 3 _ rfl
  have c4 := BXc4.out.2 4 _ rfl
  have c5 := BXc4.out.2 5 _ rfl
  have c6 := BXc4.out.2 6 _ rfl
  have c7 := BXc4.out.2 7 _ rfl
  have c8 := BXc4.out.2 8 _ rfl
  have o0 := BOc4.out.2 0 _ rfl
  have o1 := BOc4.out.2 1 _ rfl
  have o2 := BOc4.out.2 2 _ rfl
  have o3 := BOc4.out.2 3 _ rfl
  have o4 := BOc4.out.2 4 _ rfl
  have o5 := BOc4.out.2 5 _ rfl
  have o6 := BOc4.out.2 6 _ rfl
  have o7 := BOc4.out.2 7 _ rfl
  have o8 := BOc4.out.2 8 _ rfl
  have bl := BXc4.out.1
  have bm := BOc4.out.1
  have bn := RSc4.out.lt
  obtain ⟨⟨z0, q0⟩, y0⟩ := RSc4.out.at 0 (by omega)
  obtain ⟨⟨z1, q1⟩, y1⟩ := RSc4.out.at 1 (by omega)
  obtain ⟨⟨z2, q2⟩, y2⟩ := RSc4.out.at 2 (by omega)
  obtain ⟨⟨z3, q3⟩, y3⟩ := RSc4.out.at 3 (by omega)
  obtain ⟨⟨z4, q4⟩, y4⟩ := RSc4.out.at 4 (by omega)
  obtain ⟨⟨z5, q5⟩, y5⟩ := RSc4.out.at 5 (by omega)
  obtain ⟨⟨z6, q6⟩, y6⟩ := RSc4.out.at 6 (by omega)
  obtain ⟨⟨z7, q7⟩, y7⟩ := RSc4.out.at 7 (by omega)
  obtain ⟨⟨z8, q8⟩, y8⟩ := RSc4.out.at 8 (by omega)
  go_wp2_with fail
  clear c0 o0 q0 y0 c1 o1 q1 y1 c2 o2 q2 y2 c3 o3 q3 y3 c4 o4 q4 y4 c5 o5 q5 y5 c6 o6 q6 y6 c7 o7 q7 y7 c8 o8 q8 y8 bl bm bn
  have HBs8 := Lib.hid (HBc4.out.setCell (p := ⟨w.heap.size + 2, 7, none⟩) (by simp) (.slice au3_0 nu3_0 ku3_0))
  have BXs8 := Lib.hid (BXc4.out.elsewhere (D := w.heap.size + 2) 7 (.slice au3_0 nu3_0 ku3_0) (by omega))
  have RSs8 := Lib.hid (RSc4.out.elsewhere (D := w.heap.size + 2) 7 (.slice au3_0 nu3_0 ku3_0) (by omega))
  have BOs8 := Lib.hid (BOc4.out.set 7 (.slice au3_0 nu3_0 ku3_0) (by simp))
  have O0_s8 := Lib.hid (O0_c4.out.touch ((Touch.refl (w.heap.size + 2) (w.heap.size + 3) _).setCell ⟨w.heap.size + 2, 7, none⟩ (.slice au3_0 nu3_0 ku3_0) (by simp) (by simp)) (.inr (by omega)))
  have O1_s8 := Lib.hid (O1_c4.out.touch ((Touch.refl (w.heap.size + 2) (w.heap.size + 3) _).setCell ⟨w.heap.size + 2, 7, none⟩ (.slice au3_0 nu3_0 ku3_0) (by simp) (by simp)) (.inr (by omega)))
  have O2_s8 := Lib.hid (O2_c4.out.touch ((Touch.refl (w.heap.size + 2) (w.heap.size + 3) _).setCell ⟨w.heap.size + 2, 7, none⟩ (.slice au3_0 nu3_0 ku3_0) (by simp) (by simp)) (.inr (by omega)))
  have O3_s8 := Lib.hid (O3_c4.out.touch ((Touch.refl (w.heap.size + 2) (w.heap.size + 3) _).setCell ⟨w.heap.size + 2, 7, none⟩ (.slice au3_0 nu3_0 ku3_0) (by simp) (by simp)) (.inr (by omega)))
  clear HBc4 BXc4 RSc4 BOc4 O0_c4 O1_c4 O2_c4 O3_c4
  refine (y_to_IntS vx_Taken d.2.2.2.2 _ (RdA.below HP4.out HBs8.out) HW4.out).mono ?_
  rintro e w5 ⟨u4_0, rfl, ho5, b5⟩
  have hs5 := b5.size
  have hS5 : w4.heap.size ≤ w5.heap.size := by simp at hs5; exact hs5
  have HBc5 := Lib.hid (HBs8.out.trans (b5.mono HBs8.out.size))
  have BXc5 := Lib.hid (BXs8.out.below b5)
  have RSc5 := Lib.hid (RSs8.out.below b5)
  have BOc5 := Lib.hid (BOs8.out.below b5)
  have O0_c5 := Lib.hid (O0_s8.out.below b5)
  have O1_c5 := Lib.hid (O1_s8.out.below b5)
  have O2_c5 := Lib.hid (O2_s8.out.below b5)
  have O3_c5 := Lib.hid (O3_s8.out.below b5)
  have O4_c5 := Lib.hid (ho5.mono (lo' := w4.heap.size) (hi' := w5.heap.size) (by simp) (Nat.le_refl _) (Nat.le_refl _))
  clear HBs8 BXs8 RSs8 BOs8 O0_s8 O1_s8 O2_s8 O3_s8 hs5 b5 ho5
  obtain ⟨au4_0, nu4_0, ku4_0, hu4_0⟩ := rd_slice O4_c5.out.rd
  subst hu4_0
  have c0 := BXc5.out.2 0 _ rfl
  have c1 := BXc5.out.2 1 _ rfl
  have c2 := BXc5.out.2 2 _ rfl
  have c3 := BXc5.out.2 3 _ rfl
  have c4 := BXc5.out.2 4 _ rfl
  have c5 := BXc5.out.2 5 _ rfl
  have c6 := BXc5.out.2 6 _ rfl
  have c7 := BXc5.out.2 7 _ rfl
  have c8 := BXc5.out.2 8 _ rfl
  have o0 := BOc5.out.2 0 _ rfl
  have o1 := BOc5.out.2 1 _ rfl
  have o2 := BOc5.out.2 2 _ rfl
  have o3 := BOc5.out.2 3 _ rfl
  have o4 := BOc5.out.2 4 _ rfl
  have o5 := BOc5.out.2 5 _ rfl
  have o6 := BOc5.out.2 6 _ rfl
  have o7 := BOc5.out.2 7 _ rfl
  have o8 := BOc5.out.2 8 _ rfl
  have bl := BXc5.out.1
  have bm := BOc5.out.1
  have bn := RSc5.out.lt
  obtain ⟨⟨z0, q0⟩, y0⟩ := RSc5.out.at 0 (by omega)
  obtain ⟨⟨z1, q1⟩, y1⟩ := RSc5.out.at 1 (by omega)
  obtain ⟨⟨z2, q2⟩, y2⟩ := RSc5.out.at 2 (by omega)
  obtain ⟨⟨z3, q3⟩, y3⟩ := RSc5.out.at 3 (by omega)
  obtain ⟨⟨z4, q4⟩, y4⟩ := RSc5.out.at 4 (by omega)
  obtain ⟨⟨z5, q5⟩, y5⟩ := RSc5.out.at 5 (by omega)
  obtain ⟨⟨z6, q6⟩, y6⟩ := RSc5.out.at 6 (by omega)
  obtain ⟨⟨z7, q7⟩, y7⟩ := RSc5.out.at 7 (by omega)
  obtain ⟨⟨z8, q8⟩, y8⟩ := RSc5.out.at 8 (by omega)
  go_wp2
  (try simp only [Exit.inBlock, Exit.then])
  refine post_named fun w99 hw99 => ?_
  clear c0 o0 q0 y0 c1 o1 q1 y1 c2 o2 q2 y2 c3 o3 q3 y3 c4 o4 q4 y4 c5 o5 q5 y5 c6 o6 q6 y6 c7 o7 q7 y7 c8 o8 q8 y8 bl bm bn
  have HBs9 := Lib.hid (HBc5.out.setCell (p := ⟨w.heap.size + 2, 8, none⟩) (by simp) (.slice au4_0 nu4_0 ku4_0))
  have BXs9 := Lib.hid (BXc5.out.elsewhere (D := w.heap.size + 2) 8 (.slice au4_0 nu4_0 ku4_0) (by omega))
  have RSs9 := Lib.hid (RSc5.out.elsewhere (D := w.heap.size + 2) 8 (.slice au4_0 nu4_0 ku4_0) (by omega))
  have BOs9 := Lib.hid (BOc5.out.set 8 (.slice au4_0 nu4_0 ku4_0) (by simp))
  have O0_s9 := Lib.hid (O0_c5.out.touch ((Touch.refl (w.heap.size + 2) (w.heap.size + 3) _).setCell ⟨w.heap.size + 2, 8, none⟩ (.slice au4_0 nu4_0 ku4_0) (by simp) (by simp)) (.inr (by omega)))
  have O1_s9 := Lib.hid (O1_c5.out.touch ((Touch.refl (w.heap.size + 2) (w.heap.size + 3) _).setCell ⟨w.heap.size + 2, 8, none⟩ (.slice au4_0 nu4_0 ku4_0) (by simp) (by simp)) (.inr (by omega)))
  have O2_s9 := Lib.hid (O2_c5.out.touch ((Touch.refl (w.heap.size + 2) (w.heap.size + 3) _).setCell ⟨w.heap.size + 2, 8, none⟩ (.slice au4_0 nu4_0 ku4_0) (by simp) (by simp)) (.inr (by omega)))
  have O3_s9 := Lib.hid (O3_c5.out.touch ((Touch.refl (w.heap.size + 2) (w.heap.size + 3) _).setCell ⟨w.heap.size + 2, 8, none⟩ (.slice au4_0 nu4_0 ku4_0) (by simp) (by simp)) (.inr (by omega)))
  have O4_s9 := Lib.hid (O4_c5.out.touch ((Touch.refl (w.heap.size + 2) (w.heap.size + 3) _).setCell ⟨w.heap.size + 2, 8, none⟩ (.slice au4_0 nu4_0 ku4_0) (by simp) (by simp)) (.inr (by omega)))
  clear HBc5 BXc5 RSc5 BOc5 O0_c5 O1_c5 O2_c5 O3_c5 O4_c5
  have HX9 := RSs9.out.put (vs := [.slice au0_0 nu0_0 ku0_0, .int .i64 x_Rules_Win, .int .i64 x_Rules_Draw, .int .i64 x_Rules_Loss, .slice au1_0 nu1_0 ku1_0, .bool x_Rules_Again, .slice au2_0 nu2_0 ku2_0, .slice au3_0 nu3_0 ku3_0, .slice au4_0 nu4_0 ku4_0]) rfl
  have HB9 := Below.putCs (C := w.heap.size) (B := w.heap.size + 1) (by omega) [.slice au0_0 nu0_0 ku0_0, .int .i64 x_Rules_Win, .int .i64 x_Rules_Draw, .int .i64 x_Rules_Loss, .slice au1_0 nu1_0 ku1_0, .bool x_Rules_Again, .slice au2_0 nu2_0 ku2_0, .slice au3_0 nu3_0 ku3_0, .slice au4_0 nu4_0 ku4_0] 0 _ _ HBs9.out
  have O0_9 := O0_s9.out.touch (Touch.putCs (lo := w.heap.size + 1) (hi := w.heap.size + 2) (B := w.heap.size + 1) (by omega) (by omega) [.slice au0_0 nu0_0 ku0_0, .int .i64 x_Rules_Win, .int .i64 x_Rules_Draw, .int .i64 x_Rules_Loss, .slice au1_0 nu1_0 ku1_0, .bool x_Rules_Again, .slice au2_0 nu2_0 ku2_0, .slice au3_0 nu3_0 ku3_0, .slice au4_0 nu4_0 ku4_0] 0 _ _ (Touch.refl _ _ _)) (.inr (by omega))
  have O1_9 := O1_s9.out.touch (Touch.putCs (lo := w.heap.size + 1) (hi := w.heap.size + 2) (B := w.heap.size + 1) (by omega) (by omega) [.slice au0_0 nu0_0 ku0_0, .int .i64 x_Rules_Win, .int .i64 x_Rules_Draw, .int .i64 x_Rules_Loss, .slice au1_0 nu1_0 ku1_0, .bool x_Rules_Again, .slice au2_0 nu2_0 ku2_0, .slice au3_0 nu3_0 ku3_0, .slice au4_0 nu4_0 ku4_0] 0 _ _ (Touch.refl _ _ _)) (.inr (by omega))
  have O2_9 := O2_s9.out.touch (Touch.putCs (lo := w.heap.size + 1) (hi := w.heap.size + 2) (B := w.heap.size + 1) (by omega) (by omega) [.slice au0_0 nu0_0 ku0_0, .int .i64 x_Rules_Win, .int .i64 x_Rules_Draw, .int .i64 x_Rules_Loss, .slice au1_0 nu1_0 ku1_0, .bool x_Rules_Again, .slice au2_0 nu2_0 ku2_0, .slice au3_0 nu3_0 ku3_0, .slice au4_0 nu4_0 ku4_0] 0 _ _ (Touch.refl _ _ _)) (.inr (by omega))
  have O3_9 := O3_s9.out.touch (Touch.putCs (lo := w.heap.size + 1) (hi := w.heap.size + 2) (B := w.heap.size + 1) (by omega) (by omega) [.slice au0_0 nu0_0 ku0_0, .int .i64 x_Rules_Win, .int .i64 x_Rules_Draw, .int .i64 x_Rules_Loss, .slice au1_0 nu1_0 ku1_0, .bool x_Rules_Again, .slice au2_0 nu2_0 ku2_0, .slice au3_0 nu3_0 ku3_0, .slice au4_0 nu4_0 ku4_0] 0 _ _ (Touch.refl _ _ _)) (.inr (by omega))
  have O4_9 := O4_s9.out.touch (Touch.putCs (lo := w.heap.size + 1) (hi := w.heap.size + 2) (B := w.heap.size + 1) (by omega) (by omega) [.slice au0_0 nu0_0 ku0_0, .int .i64 x_Rules_Win, .int .i64 x_Rules_Draw, .int .i64 x_Rules_Loss, .slice au1_0 nu1_0 ku1_0, .bool x_Rules_Again, .slice au2_0 nu2_0 ku2_0, .slice au3_0 nu3_0 ku3_0, .slice au4_0 nu4_0 ku4_0] 0 _ _ (Touch.refl _ _ _)) (.inr (by omega))
  have e99 : w99 = putCs _ (w.heap.size + 1) 0 [.slice au0_0 nu0_0 ku0_0, .int .i64 x_Rules_Win, .int .i64 x_Rules_Draw, .int .i64 x_Rules_Loss, .slice au1_0 nu1_0 ku1_0, .bool x_Rules_Again, .slice au2_0 nu2_0 ku2_0, .slice au3_0 nu3_0 ku3_0, .slice au4_0 nu4_0 ku4_0] := hw99.out
  rw [← e99] at HX9 HB9 O0_9 O1_9 O2_9 O3_9 O4_9
  clear hw99 e99
  have h9 : w5.heap.size ≤ w99.heap.size := O4_9.hi_le
  have HD : OwN tBook w99 (w.heap.size + 3) w5.heap.size [.slice au0_0 nu0_0 ku0_0, .int .i64 x_Rules_Win, .int .i64 x_Rules_Draw, .int .i64 x_Rules_Loss, .slice au1_0 nu1_0 ku1_0, .bool x_Rules_Again, .slice au2_0 nu2_0 ku2_0, .slice au3_0 nu3_0 ku3_0, .slice au4_0 nu4_0 ku4_0] (d.1, d.2.1, d.2.2.1, d.2.2.2.1, d.2.2.2.2) := (OwN.two O0_9 (OwN.two O1_9 (OwN.two O2_9 (OwN.two O3_9 O4_9 (by omega) (by omega)) (by omega) (by omega)) (by omega) (by omega)) (by omega) (by omega))
  have hdd : ((d.1, d.2.1, d.2.2.1, d.2.2.2.1, d.2.2.2.2) : tBook.D) = d := by
    rfl
  rw [hdd] at HD
  have HD9 := Lib.hid (HD.mono (lo' := w.heap.size) (hi' := w99.heap.size) (by omega) h9 (Nat.le_refl _))
  have HB99 := Lib.hid HB9
  have HX99 := Lib.hid HX9
  clear HB9 HX9 HD hdd
  have x0 := (HX99.out.2 0 _ rfl).1
  have x1 := (HX99.out.2 1 _ rfl).1
  have x2 := (HX99.out.2 2 _ rfl).1
  have x3 := (HX99.out.2 3 _ rfl).1
  have x4 := (HX99.out.2 4 _ rfl).1
  have x5 := (HX99.out.2 5 _ rfl).1
  have x6 := (HX99.out.2 6 _ rfl).1
  have x7 := (HX99.out.2 7 _ rfl).1
  have x8 := (HX99.out.2 8 _ rfl).1
  have x_lt := HX99.out.1
  refine bodyPost_ret (v := .agg #[.slice au0_0 nu0_0 ku0_0, .int .i64 x_Rules_Win, .int .i64 x_Rules_Draw, .int .i64 x_Rules_Loss, .slice au1_0 nu1_0 ku1_0, .bool x_Rules_Again, .slice au2_0 nu2_0 ku2_0, .slice au3_0 nu3_0 ku3_0, .slice au4_0 nu4_0 ku4_0]) ?_ rfl ⟨.slice au0_0 nu0_0 ku0_0, .slice au1_0 nu1_0 ku1_0, .slice au2_0 nu2_0 ku2_0, .slice au3_0 nu3_0 ku3_0, .slice au4_0 nu4_0 ku4_0, rfl, HD9.out, HB99.out⟩
  rw [results_cell rfl]
  go_simp
def cnt_Book (d : tBook.D) : Nat := (tTeamS.mks d.1 + (cnt_Rules d.2.1 + (tGameS.mks d.2.2.1 + (tIntS.mks d.2.2.2.1 + tIntS.mks d.2.2.2.2))))
def top_Book (k : Int) (d : tBook.D) : tBook.D := (tTeamS.mkd (k) d.1, top_Rules (k + (tTeamS.mks d.1 : Nat)) d.2.1, tGameS.mkd (k + (tTeamS.mks d.1 : Nat) + (cnt_Rules d.2.1 : Nat)) d.2.2.1, tIntS.mkd (k + (tTeamS.mks d.1 : Nat) + (cnt_Rules d.2.1 : Nat) + (tGameS.mks d.2.2.1 : Nat)) d.2.2.2.1, tIntS.mkd (k + (tTeamS.mks d.1 : Nat) + (cnt_Rules d.2.1 : Nat) + (tGameS.mks d.2.2.1 : Nat) + (tIntS.mks d.2.2.2.1 : Nat)) d.2.2.2.2)
set_option maxRecDepth 100000 in
set_option maxHeartbeats 2000000 in
theorem yb_mk_Book (vx_Field : Value) (x_Rules_Win : Int) (x_Rules_Draw : Int) (x_Rules_Loss : Int) (vx_Rules_Ladder : Value) (x_Rules_Again : Bool) (vx_Games : Value) (vx_Fair : Value) (vx_Taken : Value) (d : tBook.D) (k : Int) (lo : Nat) (bs : List Nat) (w : World) (h : tBook.Ow w lo [vx_Field, .int .i64 x_Rules_Win, .int .i64 x_Rules_Draw, .int .i64 x_Rules_Loss, vx_Rules_Ladder, .bool x_Rules_Again, vx_Games, vx_Fair, vx_Taken] d bs) (hnd : bs.Nodup) (h0 : 0 < k) (hk : k + cnt_Book d ≤ 1000000000000) : Calls Tryz.prog 19 #[.agg #[vx_Field, .int .i64 x_Rules_Win, .int .i64 x_Rules_Draw, .int .i64 x_Rules_Loss, vx_Rules_Ladder, .bool x_Rules_Again, vx_Games, vx_Fair, vx_Taken], .int .i64 k] w (MarkC tBook [vx_Field, .int .i64 x_Rules_Win, .int .i64 x_Rules_Draw, .int .i64 x_Rules_Loss, vx_Rules_Ladder, .bool x_Rules_Again, vx_Games, vx_Fair, vx_Taken] (top_Book k d) (cnt_Book d) k bs w) := by
  obtain ⟨b0, bt0, hbs0, p0, ht0⟩ := ow_split h
  have P0 : tTeamS.Ow w lo [vx_Field] d.1 b0 := p0
  clear p0
  obtain ⟨b1, bt1, hbs1, p1, ht1⟩ := ow_split ht0
  have P1 : tRules.Ow w lo [.int .i64 x_Rules_Win, .int .i64 x_Rules_Draw, .int .i64 x_Rules_Loss, vx_Rules_Ladder, .bool x_Rules_Again] d.2.1 b1 := p1
  clear p1
  obtain ⟨b2, bt2, hbs2, p2, ht2⟩ := ow_split ht1
  have P2 : tGameS.Ow w lo [vx_Games] d.2.2.1 b2 := p2
  clear p2
  obtain ⟨b3, b4, hbs3, p3, ht3⟩ := ow_split ht2
  have P3 : tIntS.Ow w lo [vx_Fair] d.2.2.2.1 b3 := p3
  clear p3
  have P4 : tIntS.Ow w lo [vx_Taken] d.2.2.2.2 b4 := ht3
  subst hbs3
  subst hbs2
  subst hbs1
  subst hbs0
  have HP0 := Lib.hid P0
  have HP1 := Lib.hid P1
  have HP2 := Lib.hid P2
  have HP3 := Lib.hid P3
  have HP4 := Lib.hid P4
  have HLT := Lib.hid (tBook.ow_lt h)
  have HMEM0 : Hid (∀ q, q ∈ b0 → q ∈ b0 ++ (b1 ++ (b2 ++ (b3 ++ (b4))))) := fun q hq => by simp only [List.mem_append]; simp [hq]
  have HMEM1 : Hid (∀ q, q ∈ b1 → q ∈ b0 ++ (b1 ++ (b2 ++ (b3 ++ (b4))))) := fun q hq => by simp only [List.mem_append]; simp [hq]
  have HMEM2 : Hid (∀ q, q ∈ b2 → q ∈ b0 ++ (b1 ++ (b2 ++ (b3 ++ (b4))))) := fun q hq => by simp only [List.mem_append]; simp [hq]
  have HMEM3 : Hid (∀ q, q ∈ b3 → q ∈ b0 ++ (b1 ++ (b2 ++ (b3 ++ (b4))))) := fun q hq => by simp only [List.mem_append]; simp [hq]
  have HMEM4 : Hid (∀ q, q ∈ b4 → q ∈ b0 ++ (b1 ++ (b2 ++ (b3 ++ (b4))))) := fun q hq => by simp only [List.mem_append]; simp [hq]
  have HA0_1 : Hid (∀ q, q ∈ b0 → q ∉ b1) := fun q hq hq2 => by
    have h7 := hnd
    simp only [List.nodup_append] at h7
    exact (h7.2.2 q hq q (by first | exact hq2 | (simp only [List.mem_append]; simp [hq2]))) rfl
  have HA1_0 : Hid (∀ q, q ∈ b1 → q ∉ b0) := fun q hq hq2 => HA0_1.out q hq2 hq
  have HA0_2 : Hid (∀ q, q ∈ b0 → q ∉ b2) := fun q hq hq2 => by
    have h7 := hnd
    simp only [List.nodup_append] at h7
    exact (h7.2.2 q hq q (by first | exact hq2 | (simp only [List.mem_append]; simp [hq2]))) rfl
  have HA2_0 : Hid (∀ q, q ∈ b2 → q ∉ b0) := fun q hq hq2 => HA0_2.out q hq2 hq
  have HA0_3 : Hid (∀ q, q ∈ b0 → q ∉ b3) := fun q hq hq2 => by
    have h7 := hnd
    simp only [List.nodup_append] at h7
    exact (h7.2.2 q hq q (by first | exact hq2 | (simp only [List.mem_append]; simp [hq2]))) rfl
  have HA3_0 : Hid (∀ q, q ∈ b3 → q ∉ b0) := fun q hq hq2 => HA0_3.out q hq2 hq
  have HA0_4 : Hid (∀ q, q ∈ b0 → q ∉ b4) := fun q hq hq2 => by
    have h7 := hnd
    simp only [List.nodup_append] at h7
    exact (h7.2.2 q hq q (by first | exact hq2 | (simp only [List.mem_append]; simp [hq2]))) rfl
  have HA4_0 : Hid (∀ q, q ∈ b4 → q ∉ b0) := fun q hq hq2 => HA0_4.out q hq2 hq
  have HA1_2 : Hid (∀ q, q ∈ b1 → q ∉ b2) := fun q hq hq2 => by
    have h7 := hnd
    simp only [List.nodup_append] at h7
    exact (h7.2.1.2.2 q hq q (by first | exact hq2 | (simp only [List.mem_append]; simp [hq2]))) rfl
  have HA2_1 : Hid (∀ q, q ∈ b2 → q ∉ b1) := fun q hq hq2 => HA1_2.out q hq2 hq
  have HA1_3 : Hid (∀ q, q ∈ b1 → q ∉ b3) := fun q hq hq2 => by
    have h7 := hnd
    simp only [List.nodup_append] at h7
    exact (h7.2.1.2.2 q hq q (by first | exact hq2 | (simp only [List.mem_append]; simp [hq2]))) rfl
  have HA3_1 : Hid (∀ q, q ∈ b3 → q ∉ b1) := fun q hq hq2 => HA1_3.out q hq2 hq
  have HA1_4 : Hid (∀ q, q ∈ b1 → q ∉ b4) := fun q hq hq2 => by
    have h7 := hnd
    simp only [List.nodup_append] at h7
    exact (h7.2.1.2.2 q hq q (by first | exact hq2 | (simp only [List.mem_append]; simp [hq2]))) rfl
  have HA4_1 : Hid (∀ q, q ∈ b4 → q ∉ b1) := fun q hq hq2 => HA1_4.out q hq2 hq
  have HA2_3 : Hid (∀ q, q ∈ b2 → q ∉ b3) := fun q hq hq2 => by
    have h7 := hnd
    simp only [List.nodup_append] at h7
    exact (h7.2.1.2.1.2.2 q hq q (by first | exact hq2 | (simp only [List.mem_append]; simp [hq2]))) rfl
  have HA3_2 : Hid (∀ q, q ∈ b3 → q ∉ b2) := fun q hq hq2 => HA2_3.out q hq2 hq
  have HA2_4 : Hid (∀ q, q ∈ b2 → q ∉ b4) := fun q hq hq2 => by
    have h7 := hnd
    simp only [List.nodup_append] at h7
    exact (h7.2.1.2.1.2.2 q hq q (by first | exact hq2 | (simp only [List.mem_append]; simp [hq2]))) rfl
  have HA4_2 : Hid (∀ q, q ∈ b4 → q ∉ b2) := fun q hq hq2 => HA2_4.out q hq2 hq
  have HA3_4 : Hid (∀ q, q ∈ b3 → q ∉ b4) := fun q hq hq2 => by
    have h7 := hnd
    simp only [List.nodup_append] at h7
    exact (h7.2.1.2.1.2.1.2.2 q hq q (by first | exact hq2 | (simp only [List.mem_append]; simp [hq2]))) rfl
  have HA4_3 : Hid (∀ q, q ∈ b4 → q ∉ b3) := fun q hq hq2 => HA3_4.out q hq2 hq
  have ND0 : Hid (b0.Nodup) := by
    have h7 := hnd
    simp only [List.nodup_append] at h7
    exact h7.1
  have ND1 : Hid (b1.Nodup) := by
    have h7 := hnd
    simp only [List.nodup_append] at h7
    exact h7.2.1.1
  have ND2 : Hid (b2.Nodup) := by
    have h7 := hnd
    simp only [List.nodup_append] at h7
    exact h7.2.1.2.1.1
  have ND3 : Hid (b3.Nodup) := by
    have h7 := hnd
    simp only [List.nodup_append] at h7
    exact h7.2.1.2.1.2.1.1
  have ND4 : Hid (b4.Nodup) := by
    have h7 := hnd
    simp only [List.nodup_append] at h7
    exact h7.2.1.2.1.2.1.2.1
  have hc : cnt_Book d = (tTeamS.mks d.1 + (cnt_Rules d.2.1 + (tGameS.mks d.2.2.1 + (tIntS.mks d.2.2.2.1 + tIntS.mks d.2.2.2.2)))) := rfl
  unfold MarkC
  rw [hc]
  rw [hc] at hk
  obtain ⟨N0, hN0⟩ : ∃ z, tTeamS.mks d.1 = z := ⟨_, rfl⟩
  obtain ⟨N1, hN1⟩ : ∃ z, cnt_Rules d.2.1 = z := ⟨_, rfl⟩
  obtain ⟨N2, hN2⟩ : ∃ z, tGameS.mks d.2.2.1 = z := ⟨_, rfl⟩
  obtain ⟨N3, hN3⟩ : ∃ z, tIntS.mks d.2.2.2.1 = z := ⟨_, rfl⟩
  obtain ⟨N4, hN4⟩ : ∃ z, tIntS.mks d.2.2.2.2 = z := ⟨_, rfl⟩
  have HN0 := Lib.hid hN0
  have HN1 := Lib.hid hN1
  have HN2 := Lib.hid hN2
  have HN3 := Lib.hid hN3
  have HN4 := Lib.hid hN4
  rw [hN0, hN1, hN2, hN3, hN4] at hk
  rw [hN0, hN1, hN2, hN3, hN4]
  have HE0 : Hid (KeepB (b0 ++ (b1 ++ (b2 ++ (b3 ++ (b4))))) w (w.alloc (.cells #[vx_Field, .int .i64 x_Rules_Win, .int .i64 x_Rules_Draw, .int .i64 x_Rules_Loss, vx_Rules_Ladder, .bool x_Rules_Again, vx_Games, vx_Fair, vx_Taken] 29))) := KeepB.of_below ((Below.refl _ _).alloc (Nat.le_refl _) _)
  have BX0 : Hid (BoxN (w.alloc (.cells #[vx_Field, .int .i64 x_Rules_Win, .int .i64 x_Rules_Draw, .int .i64 x_Rules_Loss, vx_Rules_Ladder, .bool x_Rules_Again, vx_Games, vx_Fair, vx_Taken] 29)) w.heap.size [vx_Field, .int .i64 x_Rules_Win, .int .i64 x_Rules_Draw, .int .i64 x_Rules_Loss, vx_Rules_Ladder, .bool x_Rules_Again, vx_Games, vx_Fair, vx_Taken]) := BoxN.made (Below.refl _ _) rfl
  have Q0_0 := Lib.hid (KeepB.ow (bs := []) HP0.out (KeepB.of_below ((Below.refl _ _).alloc (Nat.le_refl _) (.cells #[vx_Field, .int .i64 x_Rules_Win, .int .i64 x_Rules_Draw, .int .i64 x_Rules_Loss, vx_Rules_Ladder, .bool x_Rules_Again, vx_Games, vx_Fair, vx_Taken] 29))) (fun q _ hq => by cases hq))
  have Q1_0 := Lib.hid (KeepB.ow (bs := []) HP1.out (KeepB.of_below ((Below.refl _ _).alloc (Nat.le_refl _) (.cells #[vx_Field, .int .i64 x_Rules_Win, .int .i64 x_Rules_Draw, .int .i64 x_Rules_Loss, vx_Rules_Ladder, .bool x_Rules_Again, vx_Games, vx_Fair, vx_Taken] 29))) (fun q _ hq => by cases hq))
  have Q2_0 := Lib.hid (KeepB.ow (bs := []) HP2.out (KeepB.of_below ((Below.refl _ _).alloc (Nat.le_refl _) (.cells #[vx_Field, .int .i64 x_Rules_Win, .int .i64 x_Rules_Draw, .int .i64 x_Rules_Loss, vx_Rules_Ladder, .bool x_Rules_Again, vx_Games, vx_Fair, vx_Taken] 29))) (fun q _ hq => by cases hq))
  have Q3_0 := Lib.hid (KeepB.ow (bs := []) HP3.out (KeepB.of_below ((Below.refl _ _).alloc (Nat.le_refl _) (.cells #[vx_Field, .int .i64 x_Rules_Win, .int .i64 x_Rules_Draw, .int .i64 x_Rules_Loss, vx_Rules_Ladder, .bool x_Rules_Again, vx_Games, vx_Fair, vx_Taken] 29))) (fun q _ hq => by cases hq))
  have Q4_0 := Lib.hid (KeepB.ow (bs := []) HP4.out (KeepB.of_below ((Below.refl _ _).alloc (Nat.le_refl _) (.cells #[vx_Field, .int .i64 x_Rules_Win, .int .i64 x_Rules_Draw, .int .i64 x_Rules_Loss, vx_Rules_Ladder, .bool x_Rules_Again, vx_Games, vx_Fair, vx_Taken] 29))) (fun q _ hq => by cases hq))
  clear hc h hnd P0 P1 P2 P3 P4 hN0 hN1 hN2 hN3 hN4
  have c0 := BX0.out.2 0 _ rfl
  have c1 := BX0.out.2 1 _ rfl
  have c2 := BX0.out.2 2 _ rfl
  have c3 := BX0.out.2 3 _ rfl
  have c4 := BX0.out.2 4 _ rfl
  have c5 := BX0.out.2 5 _ rfl
  have c6 := BX0.out.2 6 _ rfl
  have c7 := BX0.out.2 7 _ rfl
  have c8 := BX0.out.2 8 _ rfl
  have bl := BX0.out.1
  go_enter Tryz.func19, Tryz.ntmps19
  go_wp2_with fail
  refine (yb_mk_TeamS vx_Field d.1 (k) lo b0 _ Q0_0.out ND0.out (by omega) (by have := HN0.out; omega)).mono ?_
  rintro e w1 ⟨rfl, hr1, hk1⟩
  have HR0_1 := Lib.hid hr1
  have HE1 := Lib.hid (KeepB.mono (KeepB.trans HE0.out hk1) (b2 := b0 ++ (b1 ++ (b2 ++ (b3 ++ (b4))))) (fun q hq => (List.mem_append.1 hq).elim id (HMEM0.out q)))
  have BX1 := Lib.hid (KeepB.box BX0.out hk1 (fun hq => by have := (HLT.out _ (HMEM0.out _ hq)).2; omega))
  have Q1_1 := Lib.hid (KeepB.ow Q1_0.out hk1 HA1_0.out)
  have Q2_1 := Lib.hid (KeepB.ow Q2_0.out hk1 HA2_0.out)
  have Q3_1 := Lib.hid (KeepB.ow Q3_0.out hk1 HA3_0.out)
  have Q4_1 := Lib.hid (KeepB.ow Q4_0.out hk1 HA4_0.out)
  rw [HN0.out]
  clear c0 c1 c2 c3 c4 c5 c6 c7 c8 bl BX0 hr1 hk1 HE0 Q0_0 Q1_0 Q2_0 Q3_0 Q4_0
  have c0 := BX1.out.2 0 _ rfl
  have c1 := BX1.out.2 1 _ rfl
  have c2 := BX1.out.2 2 _ rfl
  have c3 := BX1.out.2 3 _ rfl
  have c4 := BX1.out.2 4 _ rfl
  have c5 := BX1.out.2 5 _ rfl
  have c6 := BX1.out.2 6 _ rfl
  have c7 := BX1.out.2 7 _ rfl
  have c8 := BX1.out.2 8 _ rfl
  have bl := BX1.out.1
  go_wp2_with fail
  refine (yb_mk_Rules x_Rules_Win x_Rules_Draw x_Rules_Loss vx_Rules_Ladder x_Rules_Again d.2.1 (k + (N0 : Int)) lo b1 _ Q1_1.out ND1.out (by omega) (by have := HN1.out; omega)).mono ?_
  rintro e w2 ⟨rfl, hr2, hk2⟩
  have HR1_2 := Lib.hid hr2
  have HE2 := Lib.hid (KeepB.mono (KeepB.trans HE1.out hk2) (b2 := b0 ++ (b1 ++ (b2 ++ (b3 ++ (b4))))) (fun q hq => (List.mem_append.1 hq).elim id (HMEM1.out q)))
  have BX2 := Lib.hid (KeepB.box BX1.out hk2 (fun hq => by have := (HLT.out _ (HMEM1.out _ hq)).2; omega))
  have HR0_2 := Lib.hid (KeepB.rd HR0_1.out hk2 HA0_1.out)
  have Q2_2 := Lib.hid (KeepB.ow Q2_1.out hk2 HA2_1.out)
  have Q3_2 := Lib.hid (KeepB.ow Q3_1.out hk2 HA3_1.out)
  have Q4_2 := Lib.hid (KeepB.ow Q4_1.out hk2 HA4_1.out)
  rw [HN1.out]
  clear c0 c1 c2 c3 c4 c5 c6 c7 c8 bl BX1 hr2 hk2 HE1 HR0_1 Q1_1 Q2_1 Q3_1 Q4_1
  have c0 := BX2.out.2 0 _ rfl
  have c1 := BX2.out.2 1 _ rfl
  have c2 := BX2.out.2 2 _ rfl
  have c3 := BX2.out.2 3 _ rfl
  have c4 := BX2.out.2 4 _ rfl
  have c5 := BX2.out.2 5 _ rfl
  have c6 := BX2.out.2 6 _ rfl
  have c7 := BX2.out.2 7 _ rfl
  have c8 := BX2.out.2 8 _ rfl
  have bl := BX2.out.1
  go_wp2_with fail
  refine (yb_mk_GameS vx_Games d.2.2.1 (k + (N0 : Int) + (N1 : Int)) lo b2 _ Q2_2.out ND2.out (by omega) (by have := HN2.out; omega)).mono ?_
  rintro e w3 ⟨rfl, hr3, hk3⟩
  have HR2_3 := Lib.hid hr3
  have HE3 := Lib.hid (KeepB.mono (KeepB.trans HE2.out hk3) (b2 := b0 ++ (b1 ++ (b2 ++ (b3 ++ (b4))))) (fun q hq => (List.mem_append.1 hq).elim id (HMEM2.out q)))
  have BX3 := Lib.hid (KeepB.box BX2.out hk3 (fun hq => by have := (HLT.out _ (HMEM2.out _ hq)).2; omega))
  have HR0_3 := Lib.hid (KeepB.rd HR0_2.out hk3 HA0_2.out)
  have HR1_3 := Lib.hid (KeepB.rd HR1_2.out hk3 HA1_2.out)
  have Q3_3 := Lib.hid (KeepB.ow Q3_2.out hk3 HA3_2.out)
  have Q4_3 := Lib.hid (KeepB.ow Q4_2.out hk3 HA4_2.out)
  rw [HN2.out]
  clear c0 c1 c2 c3 c4 c5 c6 c7 c8 bl BX2 hr3 hk3 HE2 HR0_2 HR1_2 Q2_2 Q3_2 Q4_2
  have c0 := BX3.out.2 0 _ rfl
  have c1 := BX3.out.2 1 _ rfl
  have c2 := BX3.out.2 2 _ rfl
  have c3 := BX3.out.2 3 _ rfl
  have c4 := BX3.out.2 4 _ rfl
  have c5 := BX3.out.2 5 _ rfl
  have c6 := BX3.out.2 6 _ rfl
  have c7 := BX3.out.2 7 _ rfl
  have c8 := BX3.out.2 8 _ rfl
  have bl := BX3.out.1
  go_wp2_with fail
  refine (yb_mk_IntS vx_Fair d.2.2.2.1 (k + (N0 : Int) + (N1 : Int) + (N2 : Int)) lo b3 _ Q3_3.out ND3.out (by omega) (by have := HN3.out; omega)).mono ?_
  rintro e w4 ⟨rfl, hr4, hk4⟩
  have HR3_4 := Lib.hid hr4
  have HE4 := Lib.hid (KeepB.mono (KeepB.trans HE3.out hk4) (b2 := b0 ++ (b1 ++ (b2 ++ (b3 ++ (b4))))) (fun q hq => (List.mem_append.1 hq).elim id (HMEM3.out q)))
  have BX4 := Lib.hid (KeepB.box BX3.out hk4 (fun hq => by have := (HLT.out _ (HMEM3.out _ hq)).2; omega))
  have HR0_4 := Lib.hid (KeepB.rd HR0_3.out hk4 HA0_3.out)
  have HR1_4 := Lib.hid (KeepB.rd HR1_3.out hk4 HA1_3.out)
  have HR2_4 := Lib.hid (KeepB.rd HR2_3.out hk4 HA2_3.out)
  have Q4_4 := Lib.hid (KeepB.ow Q4_3.out hk4 HA4_3.out)
  rw [HN3.out]
  clear c0 c1 c2 c3 c4 c5 c6 c7 c8 bl BX3 hr4 hk4 HE3 HR0_3 HR1_3 HR2_3 Q3_3 Q4_3
  have c0 := BX4.out.2 0 _ rfl
  have c1 := BX4.out.2 1 _ rfl
  have c2 := BX4.out.2 2 _ rfl
  have c3 := BX4.out.2 3 _ rfl
  have c4 := BX4.out.2 4 _ rfl
  have c5 := BX4.out.2 5 _ rfl
  have c6 := BX4.out.2 6 _ rfl
  have c7 := BX4.out.2 7 _ rfl
  have c8 := BX4.out.2 8 _ rfl
  have bl := BX4.out.1
  go_wp2_with fail
  refine (yb_mk_IntS vx_Taken d.2.2.2.2 (k + (N0 : Int) + (N1 : Int) + (N2 : Int) + (N3 : Int)) lo b4 _ Q4_4.out ND4.out (by omega) (by have := HN4.out; omega)).mono ?_
  rintro e w5 ⟨rfl, hr5, hk5⟩
  have HR4_5 := Lib.hid hr5
  have HE5 := Lib.hid (KeepB.mono (KeepB.trans HE4.out hk5) (b2 := b0 ++ (b1 ++ (b2 ++ (b3 ++ (b4))))) (fun q hq => (List.mem_append.1 hq).elim id (HMEM4.out q)))
  have BX5 := Lib.hid (KeepB.box BX4.out hk5 (fun hq => by have := (HLT.out _ (HMEM4.out _ hq)).2; omega))
  have HR0_5 := Lib.hid (KeepB.rd HR0_4.out hk5 HA0_4.out)
  have HR1_5 := Lib.hid (KeepB.rd HR1_4.out hk5 HA1_4.out)
  have HR2_5 := Lib.hid (KeepB.rd HR2_4.out hk5 HA2_4.out)
  have HR3_5 := Lib.hid (KeepB.rd HR3_4.out hk5 HA3_4.out)
  rw [HN4.out]
  clear c0 c1 c2 c3 c4 c5 c6 c7 c8 bl BX4 hr5 hk5 HE4 HR0_4 HR1_4 HR2_4 HR3_4 Q4_4
  have c0 := BX5.out.2 0 _ rfl
  have c1 := BX5.out.2 1 _ rfl
  have c2 := BX5.out.2 2 _ rfl
  have c3 := BX5.out.2 3 _ rfl
  have c4 := BX5.out.2 4 _ rfl
  have c5 := BX5.out.2 5 _ rfl
  have c6 := BX5.out.2 6 _ rfl
  have c7 := BX5.out.2 7 _ rfl
  have c8 := BX5.out.2 8 _ rfl
  have bl := BX5.out.1
  have HRR : Hid (tBook.Rd w5 (fun q => q ∈ b0 ++ (b1 ++ (b2 ++ (b3 ++ (b4))))) [vx_Field, .int .i64 x_Rules_Win, .int .i64 x_Rules_Draw, .int .i64 x_Rules_Loss, vx_Rules_Ladder, .bool x_Rules_Again, vx_Games, vx_Fair, vx_Taken] (top_Book k d)) := by
    unfold top_Book
    rw [HN0.out, HN1.out, HN2.out, HN3.out]
    exact ⟨[vx_Field], _, rfl, (tTeamS.rd_mono HR0_5.out HMEM0.out), ⟨[.int .i64 x_Rules_Win, .int .i64 x_Rules_Draw, .int .i64 x_Rules_Loss, vx_Rules_Ladder, .bool x_Rules_Again], _, rfl, (tRules.rd_mono HR1_5.out HMEM1.out), ⟨[vx_Games], _, rfl, (tGameS.rd_mono HR2_5.out HMEM2.out), ⟨[vx_Fair], _, rfl, (tIntS.rd_mono HR3_5.out HMEM3.out), (tIntS.rd_mono HR4_5.out HMEM4.out)⟩⟩⟩⟩
  have HEE := Lib.hid HE5.out
  go_wp2
  go_ret
  exact ⟨ret_int (by omega), HRR.out, HEE.out⟩
theorem form_Book {w : World} {B : Nat → Prop} {cs : List Value} {d : tBook.D} (h : tBook.Rd w B cs d) : ∃ (vx_Field : Value) (x_Rules_Win : Int) (x_Rules_Draw : Int) (x_Rules_Loss : Int) (vx_Rules_Ladder : Value) (x_Rules_Again : Bool) (vx_Games : Value) (vx_Fair : Value) (vx_Taken : Value), cs = [vx_Field, .int .i64 x_Rules_Win, .int .i64 x_Rules_Draw, .int .i64 x_Rules_Loss, vx_Rules_Ladder, .bool x_Rules_Again, vx_Games, vx_Fair, vx_Taken] := by
  obtain ⟨c0, r0, e0, h0, t0⟩ := h
  obtain ⟨vx_Field, _, g0, _⟩ := h0
  obtain ⟨c1, r1, e1, h1, t1⟩ := t0
  obtain ⟨x_Rules_Win, x_Rules_Draw, x_Rules_Loss, vx_Rules_Ladder, x_Rules_Again, g1⟩ := form_Rules h1
  obtain ⟨c2, r2, e2, h2, t2⟩ := t1
  obtain ⟨vx_Games, _, g2, _⟩ := h2
  obtain ⟨c3, r3, e3, h3, t3⟩ := t2
  obtain ⟨vx_Fair, _, g3, _⟩ := h3
  have h4 := t3
  obtain ⟨vx_Taken, _, g4, _⟩ := h4
  exact ⟨vx_Field, x_Rules_Win, x_Rules_Draw, x_Rules_Loss, vx_Rules_Ladder, x_Rules_Again, vx_Games, vx_Fair, vx_Taken, by rw [e0, e1, e2, e3, g0, g1, g2, g3, g4]; rfl⟩
theorem cntle_Book (d : tBook.D) : cnt_Book d ≤ tBook.mks d := by
  have e1 : cnt_Book d = (tTeamS.mks d.1 + (cnt_Rules d.2.1 + (tGameS.mks d.2.2.1 + (tIntS.mks d.2.2.2.1 + tIntS.mks d.2.2.2.2)))) := rfl
  have e2 : tBook.mks d = (tTeamS.mks d.1 + (tRules.mks d.2.1 + (tGameS.mks d.2.2.1 + (tIntS.mks d.2.2.2.1 + tIntS.mks d.2.2.2.2)))) := rfl
  have h1 := cntle_Rules d.2.1
  rw [e1, e2]
  omega
end Go.Proofs.YteciobkjfmddcaaGreat
set_option linter.unusedVariables false
namespace Go.Proofs.YteciobkjfmddcaaGreat
open Go.RowKit

def bookOf (xw xd xl : Int) (xa : Bool) (d : tBook.D) : BookD :=
  ⟨List.length (α := tTeam.D) d.1, atTeam d.1, xw, xd, xl, List.length (α := Int) d.2.1.2.2.2.1, getI d.2.1.2.2.2.1, xa, List.length (α := tGame.D) d.2.2.1, atGame d.2.2.1, List.length (α := Int) d.2.2.2.1, getI d.2.2.2.1, List.length (α := Int) d.2.2.2.2, getI d.2.2.2.2⟩
theorem bookRow {w : World} {vf vl vg vfa vta : Value} {xw xd xl : Int} {xa : Bool} {d : tBook.D} (h : RdA tBook w [vf, .int .i64 xw, .int .i64 xd, .int .i64 xl, vl, .bool xa, vg, vfa, vta] d) : BookRow w vf vl vg vfa vta (bookOf xw xd xl xa d) := by
  have h0 : RdA tTeamS w [vf] d.1 := (rd_split h).1
  have t0 := (rd_split h).2
  have h1 : RdA tRules w [.int .i64 xw, .int .i64 xd, .int .i64 xl, vl, .bool xa] d.2.1 := (rd_split t0).1
  have t1 := (rd_split t0).2
  have h2 : RdA tGameS w [vg] d.2.2.1 := (rd_split t1).1
  have t2 := (rd_split t1).2
  have h3 : RdA tIntS w [vfa] d.2.2.2.1 := (rd_split t2).1
  have h4 : RdA tIntS w [vta] d.2.2.2.2 := (rd_split t2).2
  have u0 := (rd_split h1).2
  have u1 := (rd_split u0).2
  have u2 := (rd_split u1).2
  have u3 : RdA tIntS w [vl] d.2.1.2.2.2.1 := (rd_split u2).1
  exact ⟨rd_TeamS.1 h0, rd_IntS.1 u3, rd_GameS.1 h2, rd_IntS.1 h3, rd_IntS.1 h4⟩
theorem bookNames {xw xd xl : Int} {xa : Bool} {d : tBook.D} (h : tBook.fit d) (i : Nat) : ((bookOf xw xd xl xa d).f i).nm.size ≤ maxLen := atTeam_size h.1 i
theorem book_nf {xw xd xl : Int} {xa : Bool} {d : tBook.D} (h : tBook.wt d ≤ 1048576) : (bookOf xw xd xl xa d).nf ≤ 1048576 := by
  have e : tBook.wt d = tTeamS.wt d.1 + (tRules.wt d.2.1 + (tGameS.wt d.2.2.1 + (tIntS.wt d.2.2.2.1 + tIntS.wt d.2.2.2.2))) := rfl
  have e2 := wt_TeamS d.1
  have e3 : (bookOf xw xd xl xa d).nf = List.length (α := tTeam.D) d.1 := rfl
  omega
theorem ints_of {w : World} {v : Value} {d : tIntS.D} (h : RdA tIntS w [v] d) : IntRow w v (List.length (α := Int) d) (getI d) := rd_IntS.1 h
theorem ints_n {d : tIntS.D} (h : tIntS.wt d ≤ 1048576) : List.length (α := Int) d ≤ 1048576 := by
  have := wt_IntS d
  omega
end Go.Proofs.YteciobkjfmddcaaGreat
