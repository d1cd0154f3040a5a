/-
  Packed: TyReason, Teams, TeamRec, OpenTeams, TyTeam, TyRules.
-/
import Derived.Deep.Slices
import Derived.Deep.Strs
import Derived.Lib.SmallJoins
import Derived.ChangeOld
import Derived.OpenShut
import Derived.ShutString
import Derived.Test.YteciobkjfmddcaaDoorQ1
import Derived.Test.YteciobkjfmddcaaDoorQ2
set_option linter.unusedVariables false
namespace Go.Proofs.YteciobkjfmddcaaDoor
open Go.RowKit

def tReason : Ty := tTwo tInt (tTwo tIntS (tTwo tInt tInt))
theorem opens_Reason : Opens Tryd.prog 30 tReason := opens_struct Tryd.underlying30 (by kernel_rfl) ⟨rfl, _, _, rfl, (opens_int Tryd.underlying3 (by kernel_rfl)), ⟨rfl, _, _, rfl, opens_IntS, ⟨rfl, _, _, rfl, (opens_int Tryd.underlying3 (by kernel_rfl)), ⟨rfl, (opens_int Tryd.underlying3 (by kernel_rfl))⟩⟩⟩⟩
set_option maxRecDepth 100000 in
set_option maxHeartbeats 2000000 in
theorem y_sz_Reason (x_Key : Int) (vx_Group : Value) (x_First : Int) (x_Other : Int) (d : tReason.D) (left : Int) (w : World) (hl0 : 0 ≤ left) (hl : left ≤ 1048576) (h : RdA tReason w [.int .i64 x_Key, vx_Group, .int .i64 x_First, .int .i64 x_Other] d) : Calls Tryd.prog 5 #[.agg #[.int .i64 x_Key, vx_Group, .int .i64 x_First, .int .i64 x_Other], .int .i64 left] w (SzT tReason d left w) := by
  have hwt : tReason.wt d = (tInt.wt d.1 + (tIntS.wt d.2.1 + (tInt.wt d.2.2.1 + tInt.wt d.2.2.2))) := rfl
  have hz0 : tInt.wt d.1 = 0 := rfl
  have hz2 : tInt.wt d.2.2.1 = 0 := rfl
  have hz3 : tInt.wt d.2.2.2 = 0 := rfl
  have P0 : RdA tInt w [.int .i64 x_Key] d.1 := (rd_split h).1
  have Pt0 := (rd_split h).2
  have P1 : RdA tIntS w [vx_Group] d.2.1 := (rd_split Pt0).1
  have Pt1 := (rd_split Pt0).2
  have P2 : RdA tInt w [.int .i64 x_First] d.2.2.1 := (rd_split Pt1).1
  have Pt2 := (rd_split Pt1).2
  have P3 : RdA tInt w [.int .i64 x_Other] d.2.2.2 := Pt2
  clear Pt0 Pt1 Pt2
  have HP1 := Lib.hid P1
  obtain ⟨W1, hW1⟩ : ∃ z, tIntS.wt d.2.1 = z := ⟨_, rfl⟩
  unfold SzT
  rw [hwt]
  rw [hz0, hz2, hz3]
  clear hwt h P0 P1 P2 P3 hz0 hz2 hz3
  have HB0 : Hid (Below w.heap.size w (w.alloc (.cells #[.int .i64 x_Key, vx_Group, .int .i64 x_First, .int .i64 x_Other] 30))) := (Below.refl _ _).alloc (Nat.le_refl _) _
  have BX0 : Hid (BoxN (w.alloc (.cells #[.int .i64 x_Key, vx_Group, .int .i64 x_First, .int .i64 x_Other] 30)) w.heap.size [.int .i64 x_Key, vx_Group, .int .i64 x_First, .int .i64 x_Other]) := BoxN.made (Below.refl _ _) rfl
  have c0 := BX0.out.2 0 _ rfl
  have c1 := BX0.out.2 1 _ rfl
  have c2 := BX0.out.2 2 _ rfl
  have c3 := BX0.out.2 3 _ rfl
  go_enter Tryd.func5, Tryd.ntmps5
  go_wp2_with fail
  refine (y_sz_IntS vx_Group d.2.1 left _ (by omega) (by omega) (RdA.below HP1.out HB0.out)).mono ?_
  rintro e w1 ⟨⟨r1, rfl, hr1⟩, b1⟩
  rw [hW1] at hr1
  have HB1 := Lib.hid (HB0.out.trans (b1.mono HB0.out.size))
  have BX1 := Lib.hid (BX0.out.below b1)
  clear c0 c1 c2 c3 BX0 b1
  have c0 := BX1.out.2 0 _ rfl
  have c1 := BX1.out.2 1 _ rfl
  have c2 := BX1.out.2 2 _ rfl
  have c3 := BX1.out.2 3 _ rfl
  by_cases hn1 : r1 < 0
  · have g2 : decide (r1 < 0) = true := decide_eq_true hn1
    have HE := Lib.hid HB1.out
    clear hr1
    go_wp2
    go_ret
    exact ⟨⟨-1, rfl, .inl (by omega)⟩, HE.out⟩
  have g1 : decide (r1 < 0) = false := decide_eq_false hn1
  replace hn1 : 0 ≤ r1 ∧ (W1 : Int) + r1 = left := by omega
  clear hr1
  have HE := Lib.hid HB1.out
  go_wp2
  go_ret
  refine ⟨⟨_, rfl, .inr ⟨by omega, ?_⟩⟩, HE.out⟩
  rw [hW1]
  omega
set_option maxRecDepth 100000 in
set_option maxHeartbeats 2000000 in
theorem y_eq_Reason (x_Key : Int) (vx_Group : Value) (x_First : Int) (x_Other : Int) (vx_Group' : Value) (d : tReason.D) (w : World) (h : RdA tReason w [.int .i64 x_Key, vx_Group, .int .i64 x_First, .int .i64 x_Other] d) (h' : RdA tReason w [.int .i64 x_Key, vx_Group', .int .i64 x_First, .int .i64 x_Other] d) : Calls Tryd.prog 11 #[.agg #[.int .i64 x_Key, vx_Group, .int .i64 x_First, .int .i64 x_Other], .agg #[.int .i64 x_Key, vx_Group', .int .i64 x_First, .int .i64 x_Other]] w fun e w' => e = .returned (.bool true) ∧ Below w.heap.size w w' := by
  have P0 : RdA tInt w [.int .i64 x_Key] d.1 := (rd_split h).1
  have Pt0 := (rd_split h).2
  have P1 : RdA tIntS w [vx_Group] d.2.1 := (rd_split Pt0).1
  have Pt1 := (rd_split Pt0).2
  have P2 : RdA tInt w [.int .i64 x_First] d.2.2.1 := (rd_split Pt1).1
  have Pt2 := (rd_split Pt1).2
  have P3 : RdA tInt w [.int .i64 x_Other] d.2.2.2 := Pt2
  clear Pt0 Pt1 Pt2
  have Q0 : RdA tInt w [.int .i64 x_Key] d.1 := (rd_split h').1
  have Qt0 := (rd_split h').2
  have Q1 : RdA tIntS w [vx_Group'] d.2.1 := (rd_split Qt0).1
  have Qt1 := (rd_split Qt0).2
  have Q2 : RdA tInt w [.int .i64 x_First] d.2.2.1 := (rd_split Qt1).1
  have Qt2 := (rd_split Qt1).2
  have Q3 : RdA tInt w [.int .i64 x_Other] d.2.2.2 := Qt2
  clear Qt0 Qt1 Qt2
  have HP1 := Lib.hid P1
  have HQ1 := Lib.hid Q1
  have HB0 : Hid (Below w.heap.size w ((w.alloc (.cells #[.int .i64 x_Key, vx_Group, .int .i64 x_First, .int .i64 x_Other] 40)).alloc (.cells #[.int .i64 x_Key, vx_Group', .int .i64 x_First, .int .i64 x_Other] 40))) := ((Below.refl _ _).alloc (Nat.le_refl _) _).alloc (by simp) _
  have BX0 : Hid (BoxN ((w.alloc (.cells #[.int .i64 x_Key, vx_Group, .int .i64 x_First, .int .i64 x_Other] 40)).alloc (.cells #[.int .i64 x_Key, vx_Group', .int .i64 x_First, .int .i64 x_Other] 40)) w.heap.size [.int .i64 x_Key, vx_Group, .int .i64 x_First, .int .i64 x_Other]) := BoxN.below (BoxN.made (Below.refl _ _) rfl) ((Below.refl _ _).alloc (Nat.le_refl _) _)
  have BY0 : Hid (BoxN ((w.alloc (.cells #[.int .i64 x_Key, vx_Group, .int .i64 x_First, .int .i64 x_Other] 40)).alloc (.cells #[.int .i64 x_Key, vx_Group', .int .i64 x_First, .int .i64 x_Other] 40)) (w.heap.size + 1) [.int .i64 x_Key, vx_Group', .int .i64 x_First, .int .i64 x_Other]) := BoxN.made (Below.refl _ _) (by simp)
  clear h h' P0 Q0 P1 Q1 P2 Q2 P3 Q3
  have c0 := BX0.out.2 0 _ rfl
  have c1 := BX0.out.2 1 _ rfl
  have c2 := BX0.out.2 2 _ rfl
  have c3 := BX0.out.2 3 _ rfl
  have e0 := BY0.out.2 0 _ rfl
  have e1 := BY0.out.2 1 _ rfl
  have e2 := BY0.out.2 2 _ rfl
  have e3 := BY0.out.2 3 _ rfl
  have bl := BX0.out.1
  have bm := BY0.out.1
  go_enter Tryd.func11, Tryd.ntmps11
  go_wp2_with fail
  refine (y_eq_IntS vx_Group vx_Group' d.2.1 _ (RdA.below HP1.out HB0.out) (RdA.below HQ1.out HB0.out)).mono ?_
  rintro e w1 ⟨rfl, b1⟩
  have HB1 := Lib.hid (HB0.out.trans (b1.mono HB0.out.size))
  have BX1 := Lib.hid (BX0.out.below b1)
  have BY1 := Lib.hid (BY0.out.below b1)
  clear c0 c1 c2 c3 e0 e1 e2 e3 bl bm BX0 BY0 b1
  have c0 := BX1.out.2 0 _ rfl
  have c1 := BX1.out.2 1 _ rfl
  have c2 := BX1.out.2 2 _ rfl
  have c3 := BX1.out.2 3 _ rfl
  have e0 := BY1.out.2 0 _ rfl
  have e1 := BY1.out.2 1 _ rfl
  have e2 := BY1.out.2 2 _ rfl
  have e3 := BY1.out.2 3 _ rfl
  have bl := BX1.out.1
  have bm := BY1.out.1
  have HE := Lib.hid HB1.out
  go_wp2
  go_ret
  exact ⟨rfl, HE.out⟩
set_option maxRecDepth 100000 in
set_option maxHeartbeats 4000000 in
theorem y_to_Reason (x_Key : Int) (vx_Group : Value) (x_First : Int) (x_Other : Int) (d : tReason.D) (w : World) (h : RdA tReason w [.int .i64 x_Key, vx_Group, .int .i64 x_First, .int .i64 x_Other] d) (hw : tReason.wt d ≤ 1048576) : Calls Tryd.prog 8 #[.agg #[.int .i64 x_Key, vx_Group, .int .i64 x_First, .int .i64 x_Other]] w (fun e w' => ∃ vx_Group' : Value, e = .returned (.agg #[.int .i64 x_Key, vx_Group', .int .i64 x_First, .int .i64 x_Other]) ∧ OwN tReason w' w.heap.size w'.heap.size [.int .i64 x_Key, vx_Group', .int .i64 x_First, .int .i64 x_Other] d ∧ Below w.heap.size w w') := by
  have P0 : RdA tInt w [.int .i64 x_Key] d.1 := (rd_split h).1
  have Pt0 := (rd_split h).2
  have P1 : RdA tIntS w [vx_Group] d.2.1 := (rd_split Pt0).1
  have Pt1 := (rd_split Pt0).2
  have P2 : RdA tInt w [.int .i64 x_First] d.2.2.1 := (rd_split Pt1).1
  have Pt2 := (rd_split Pt1).2
  have P3 : RdA tInt w [.int .i64 x_Other] d.2.2.2 := Pt2
  clear Pt0 Pt1 Pt2
  have HP0 := Lib.hid P0
  have HP1 := Lib.hid P1
  have HP2 := Lib.hid P2
  have HP3 := Lib.hid P3
  have hwt : tReason.wt d = (tInt.wt d.1 + (tIntS.wt d.2.1 + (tInt.wt d.2.2.1 + tInt.wt d.2.2.2))) := rfl
  rw [hwt] at hw
  have hw1 : tIntS.wt d.2.1 ≤ 1048576 := by omega
  have HW1 := Lib.hid hw1
  clear hw hwt hw1
  have HB0 : Hid (Below w.heap.size w (((w.alloc (.cells #[.int .i64 x_Key, vx_Group, .int .i64 x_First, .int .i64 x_Other] 30)).alloc (.cells #[.int .i64 0, .slice none 0 0, .int .i64 0, .int .i64 0] 40)).alloc (.cells #[.int .i64 x_Key, .slice none 0 0, .int .i64 0, .int .i64 0] 40))) := (((Below.refl _ _).alloc (Nat.le_refl _) _).alloc (by simp) _).alloc (by simp <;> omega) _
  have BX0 : Hid (BoxN (((w.alloc (.cells #[.int .i64 x_Key, vx_Group, .int .i64 x_First, .int .i64 x_Other] 30)).alloc (.cells #[.int .i64 0, .slice none 0 0, .int .i64 0, .int .i64 0] 40)).alloc (.cells #[.int .i64 x_Key, .slice none 0 0, .int .i64 0, .int .i64 0] 40)) w.heap.size [.int .i64 x_Key, vx_Group, .int .i64 x_First, .int .i64 x_Other]) := BoxN.below (BoxN.below (BoxN.made (Below.refl _ _) rfl) ((Below.refl _ _).alloc (Nat.le_refl _) _)) ((Below.refl _ _).alloc (Nat.le_refl _) _)
  have RS0 : Hid (ResAt (((w.alloc (.cells #[.int .i64 x_Key, vx_Group, .int .i64 x_First, .int .i64 x_Other] 30)).alloc (.cells #[.int .i64 0, .slice none 0 0, .int .i64 0, .int .i64 0] 40)).alloc (.cells #[.int .i64 x_Key, .slice none 0 0, .int .i64 0, .int .i64 0] 40)) (w.heap.size + 1) 4) := ResAt.below (ResAt.made' (by simp) rfl) ((Below.refl _ _).alloc (Nat.le_refl _) _)
  have BO0 : Hid (BoxF (((w.alloc (.cells #[.int .i64 x_Key, vx_Group, .int .i64 x_First, .int .i64 x_Other] 30)).alloc (.cells #[.int .i64 0, .slice none 0 0, .int .i64 0, .int .i64 0] 40)).alloc (.cells #[.int .i64 x_Key, .slice none 0 0, .int .i64 0, .int .i64 0] 40)) (w.heap.size + 2) [.int .i64 x_Key, .slice none 0 0, .int .i64 0, .int .i64 0]) := BoxF.made (Below.refl _ _) (by simp)
  clear h P0 P1 P2 P3
  have c0 := BX0.out.2 0 _ rfl
  have c1 := BX0.out.2 1 _ rfl
  have c2 := BX0.out.2 2 _ rfl
  have c3 := BX0.out.2 3 _ rfl
  have o0 := BO0.out.2 0 _ rfl
  have o1 := BO0.out.2 1 _ rfl
  have o2 := BO0.out.2 2 _ rfl
  have o3 := BO0.out.2 3 _ rfl
  have bl := BX0.out.1
  have bm := BO0.out.1
  have bn := RS0.out.lt
  obtain ⟨⟨z0, q0⟩, y0⟩ := RS0.out.at 0 (by omega)
  obtain ⟨⟨z1, q1⟩, y1⟩ := RS0.out.at 1 (by omega)
  obtain ⟨⟨z2, q2⟩, y2⟩ := RS0.out.at 2 (by omega)
  obtain ⟨⟨z3, q3⟩, y3⟩ := RS0.out.at 3 (by omega)
  go_enter Tryd.func8, Tryd.ntmps8
  go_wp2_with fail
  clear c0 o0 q0 y0 c1 o1 q1 y1 c2 o2 q2 y2 c3 o3 q3 y3 bl bm bn
  refine (y_to_IntS vx_Group d.2.1 _ (RdA.below HP1.out HB0.out) HW1.out).mono ?_
  rintro e w1 ⟨u1_0, rfl, ho1, b1⟩
  have hs1 := b1.size
  have hS1 : w.heap.size + 3 ≤ w1.heap.size := by simp at hs1; omega
  have HBc1 := Lib.hid (HB0.out.trans (b1.mono HB0.out.size))
  have BXc1 := Lib.hid (BX0.out.below b1)
  have RSc1 := Lib.hid (RS0.out.below b1)
  have BOc1 := Lib.hid (BO0.out.below b1)
  have O1_c1 := Lib.hid (ho1.mono (lo' := w.heap.size + 3) (hi' := w1.heap.size) (by simp) (Nat.le_refl _) (Nat.le_refl _))
  clear HB0 BX0 RS0 BO0 hs1 b1 ho1
  obtain ⟨au1_0, nu1_0, ku1_0, hu1_0⟩ := rd_slice O1_c1.out.rd
  subst hu1_0
  have c0 := BXc1.out.2 0 _ rfl
  have c1 := BXc1.out.2 1 _ rfl
  have c2 := BXc1.out.2 2 _ rfl
  have c3 := BXc1.out.2 3 _ rfl
  have o0 := BOc1.out.2 0 _ rfl
  have o1 := BOc1.out.2 1 _ rfl
  have o2 := BOc1.out.2 2 _ rfl
  have o3 := BOc1.out.2 3 _ rfl
  have bl := BXc1.out.1
  have bm := BOc1.out.1
  have bn := RSc1.out.lt
  obtain ⟨⟨z0, q0⟩, y0⟩ := RSc1.out.at 0 (by omega)
  obtain ⟨⟨z1, q1⟩, y1⟩ := RSc1.out.at 1 (by omega)
  obtain ⟨⟨z2, q2⟩, y2⟩ := RSc1.out.at 2 (by omega)
  obtain ⟨⟨z3, q3⟩, y3⟩ := RSc1.out.at 3 (by omega)
  go_wp2
  (try simp only [Exit.inBlock, Exit.then])
  refine post_named fun w99 hw99 => ?_
  clear c0 o0 q0 y0 c1 o1 q1 y1 c2 o2 q2 y2 c3 o3 q3 y3 bl bm bn
  have HBs1 := Lib.hid (HBc1.out.setCell (p := ⟨w.heap.size + 2, 1, none⟩) (by simp) (.slice au1_0 nu1_0 ku1_0))
  have BXs1 := Lib.hid (BXc1.out.elsewhere (D := w.heap.size + 2) 1 (.slice au1_0 nu1_0 ku1_0) (by omega))
  have RSs1 := Lib.hid (RSc1.out.elsewhere (D := w.heap.size + 2) 1 (.slice au1_0 nu1_0 ku1_0) (by omega))
  have BOs1 := Lib.hid (BOc1.out.set 1 (.slice au1_0 nu1_0 ku1_0) (by simp))
  have O1_s1 := Lib.hid (O1_c1.out.touch ((Touch.refl (w.heap.size + 2) (w.heap.size + 3) _).setCell ⟨w.heap.size + 2, 1, none⟩ (.slice au1_0 nu1_0 ku1_0) (by simp) (by simp)) (.inr (by omega)))
  clear HBc1 BXc1 RSc1 BOc1 O1_c1
  have HBs2 := Lib.hid (HBs1.out.setCell (p := ⟨w.heap.size + 2, 2, none⟩) (by simp) (.int .i64 x_First))
  have BXs2 := Lib.hid (BXs1.out.elsewhere (D := w.heap.size + 2) 2 (.int .i64 x_First) (by omega))
  have RSs2 := Lib.hid (RSs1.out.elsewhere (D := w.heap.size + 2) 2 (.int .i64 x_First) (by omega))
  have BOs2 := Lib.hid (BOs1.out.set 2 (.int .i64 x_First) (by simp))
  have O1_s2 := Lib.hid (O1_s1.out.touch ((Touch.refl (w.heap.size + 2) (w.heap.size + 3) _).setCell ⟨w.heap.size + 2, 2, none⟩ (.int .i64 x_First) (by simp) (by simp)) (.inr (by omega)))
  clear HBs1 BXs1 RSs1 BOs1 O1_s1
  have HBs3 := Lib.hid (HBs2.out.setCell (p := ⟨w.heap.size + 2, 3, none⟩) (by simp) (.int .i64 x_Other))
  have BXs3 := Lib.hid (BXs2.out.elsewhere (D := w.heap.size + 2) 3 (.int .i64 x_Other) (by omega))
  have RSs3 := Lib.hid (RSs2.out.elsewhere (D := w.heap.size + 2) 3 (.int .i64 x_Other) (by omega))
  have BOs3 := Lib.hid (BOs2.out.set 3 (.int .i64 x_Other) (by simp))
  have O1_s3 := Lib.hid (O1_s2.out.touch ((Touch.refl (w.heap.size + 2) (w.heap.size + 3) _).setCell ⟨w.heap.size + 2, 3, none⟩ (.int .i64 x_Other) (by simp) (by simp)) (.inr (by omega)))
  clear HBs2 BXs2 RSs2 BOs2 O1_s2
  have HX9 := RSs3.out.put (vs := [.int .i64 x_Key, .slice au1_0 nu1_0 ku1_0, .int .i64 x_First, .int .i64 x_Other]) rfl
  have HB9 := Below.putCs (C := w.heap.size) (B := w.heap.size + 1) (by omega) [.int .i64 x_Key, .slice au1_0 nu1_0 ku1_0, .int .i64 x_First, .int .i64 x_Other] 0 _ _ HBs3.out
  have O1_9 := O1_s3.out.touch (Touch.putCs (lo := w.heap.size + 1) (hi := w.heap.size + 2) (B := w.heap.size + 1) (by omega) (by omega) [.int .i64 x_Key, .slice au1_0 nu1_0 ku1_0, .int .i64 x_First, .int .i64 x_Other] 0 _ _ (Touch.refl _ _ _)) (.inr (by omega))
  have e99 : w99 = putCs _ (w.heap.size + 1) 0 [.int .i64 x_Key, .slice au1_0 nu1_0 ku1_0, .int .i64 x_First, .int .i64 x_Other] := hw99.out
  rw [← e99] at HX9 HB9 O1_9
  clear hw99 e99
  have h9 : w1.heap.size ≤ w99.heap.size := O1_9.hi_le
  have HD : OwN tReason w99 (w.heap.size + 3) w1.heap.size [.int .i64 x_Key, .slice au1_0 nu1_0 ku1_0, .int .i64 x_First, .int .i64 x_Other] (x_Key, d.2.1, x_First, x_Other) := (OwN.two (OwN.int w99 x_Key (lo := w.heap.size + 3) (hi := w.heap.size + 3) (by omega)) (OwN.two O1_9 (OwN.two (OwN.int w99 x_First (lo := w1.heap.size) (hi := w1.heap.size) (by omega)) (OwN.int w99 x_Other (lo := w1.heap.size) (hi := w1.heap.size) (by omega)) (by omega) (by omega)) (by omega) (by omega)) (by omega) (by omega))
  have hd0 : d.1 = x_Key := scalar_int HP0.out
  have hd2 : d.2.2.1 = x_First := scalar_int HP2.out
  have hd3 : d.2.2.2 = x_Other := scalar_int HP3.out
  have hdd : ((x_Key, d.2.1, x_First, x_Other) : tReason.D) = d := by
    rw [← hd0, ← hd2, ← hd3]
    rfl
  rw [hdd] at HD
  have HD9 := Lib.hid (HD.mono (lo' := w.heap.size) (hi' := w99.heap.size) (by omega) h9 (Nat.le_refl _))
  have HB99 := Lib.hid HB9
  have HX99 := Lib.hid HX9
  clear HB9 HX9 HD hdd hd0 hd2 hd3
  have x0 := (HX99.out.2 0 _ rfl).1
  have x1 := (HX99.out.2 1 _ rfl).1
  have x2 := (HX99.out.2 2 _ rfl).1
  have x3 := (HX99.out.2 3 _ rfl).1
  have x_lt := HX99.out.1
  refine bodyPost_ret (v := .agg #[.int .i64 x_Key, .slice au1_0 nu1_0 ku1_0, .int .i64 x_First, .int .i64 x_Other]) ?_ rfl ⟨.slice au1_0 nu1_0 ku1_0, rfl, HD9.out, HB99.out⟩
  rw [results_cell rfl]
  go_simp
def cnt_Reason (d : tReason.D) : Nat := (0 + (tIntS.mks d.2.1 + (0 + 0)))
def top_Reason (k : Int) (d : tReason.D) : tReason.D := (d.1, tIntS.mkd (k) d.2.1, d.2.2.1, d.2.2.2)
theorem form_Reason {w : World} {B : Nat → Prop} {cs : List Value} {d : tReason.D} (h : tReason.Rd w B cs d) : ∃ (x_Key : Int) (vx_Group : Value) (x_First : Int) (x_Other : Int), cs = [.int .i64 x_Key, vx_Group, .int .i64 x_First, .int .i64 x_Other] := by
  obtain ⟨c0, r0, e0, h0, t0⟩ := h
  have g0 : c0 = [.int .i64 d.1] := h0
  obtain ⟨c1, r1, e1, h1, t1⟩ := t0
  obtain ⟨vx_Group, _, g1, _⟩ := h1
  obtain ⟨c2, r2, e2, h2, t2⟩ := t1
  have g2 : c2 = [.int .i64 d.2.2.1] := h2
  have h3 := t2
  have g3 : r2 = [.int .i64 d.2.2.2] := h3
  exact ⟨d.1, vx_Group, d.2.2.1, d.2.2.2, by rw [e0, e1, e2, g0, g1, g2, g3]; rfl⟩
theorem cntle_Reason (d : tReason.D) : cnt_Reason d ≤ tReason.mks d := by
  have e1 : cnt_Reason d = (0 + (tIntS.mks d.2.1 + (0 + 0))) := rfl
  have e2 : tReason.mks d = (tInt.mks d.1 + (tIntS.mks d.2.1 + (tInt.mks d.2.2.1 + tInt.mks d.2.2.2))) := rfl
  rw [e1, e2]
  omega
end Go.Proofs.YteciobkjfmddcaaDoor
set_option linter.unusedVariables false
namespace Go.Proofs.YteciobkjfmddcaaDoor
open Go.RowKit

structure TeamD where
  nm : ByteArray
  club : Int
  seed : Int
def TeamD.val (t : TeamD) : Value := .agg #[.string t.nm, .int .i64 t.club, .int .i64 t.seed]
def TeamD.cells (t : TeamD) : List Value := [.string t.nm, .int .i64 t.club, .int .i64 t.seed]
def TeamRow (w : World) (v : Value) (n : Nat) (g : Nat → TeamD) : Prop :=
  (∃ a cap, v = .slice a 0 cap ∧ n = 0) ∨ ∃ b off cap, v = .slice (some ⟨b, off, none⟩) n cap ∧ 0 < n ∧ n ≤ 9223372036854775807 ∧
    (∀ i, i < n → w.cell? ⟨b, off + i * 3, none⟩ = some (.string (g i).nm) ∧ w.cell? ⟨b, off + i * 3 + 1, none⟩ = some (.int .i64 (g i).club) ∧ w.cell? ⟨b, off + i * 3 + 2, none⟩ = some (.int .i64 (g i).seed)) ∧ n ≤ cap
theorem TeamRow.form {w : World} {v : Value} {n : Nat} {g : Nat → TeamD} (h : TeamRow w v n g) :
    ∃ a cap, v = .slice a n cap ∧ n ≤ 9223372036854775807 ∧ (0 < n → ∃ b off, a = some ⟨b, off, none⟩ ∧
      ∀ i, i < n → w.cell? ⟨b, off + i * 3, none⟩ = some (.string (g i).nm) ∧ w.cell? ⟨b, off + i * 3 + 1, none⟩ = some (.int .i64 (g i).club) ∧ w.cell? ⟨b, off + i * 3 + 2, none⟩ = some (.int .i64 (g i).seed)) := by
  rcases h with ⟨a, cap, rfl, rfl⟩ | ⟨b, off, cap, rfl, _, hn, hc, _⟩
  · exact ⟨_, _, rfl, by omega, fun h => absurd h (by omega)⟩
  · exact ⟨_, _, rfl, hn, fun _ => ⟨b, off, rfl, hc⟩⟩

def SzTeamPost (t : TeamD) (left : Int) (w : World) (e : Ending) (w' : World) : Prop :=
  (∃ r : Int, e = .returned (.int .i64 r) ∧ ((left < t.nm.size ∧ r < 0) ∨ (0 ≤ r ∧ t.nm.size + r = left))) ∧ Below w.heap.size w w'
theorem szTeam_any (t : TeamD) (left : Int) (w : World) (hs : t.nm.size ≤ 9223372036854775807) (hl0 : 0 ≤ left) (hl : left ≤ 1048576) :
    Calls Tryd.prog 37 #[.agg #[.string t.nm, .int .i64 t.club, .int .i64 t.seed], .int .i64 left] w (SzTeamPost t left w) := by
  obtain ⟨nm, club, seed⟩ := t
  simp only at hs ⊢
  by_cases hb : left < nm.size
  · have g0 : decide (left - (nm.size : Int) < 0) = true := decide_eq_true (by omega)
    go_enter Tryd.func37, Tryd.ntmps37
    go_wp2
    go_ret
    exact ⟨⟨_, rfl, .inl ⟨hb, by decide⟩⟩, (Below.refl _ _).alloc (Nat.le_refl _) _⟩
  · have g0 : decide (left - (nm.size : Int) < 0) = false := decide_eq_false (by omega)
    go_enter Tryd.func37, Tryd.ntmps37
    go_wp2
    go_ret
    exact ⟨⟨_, rfl, .inr ⟨by omega, by show (nm.size : Int) + _ = _; omega⟩⟩, (Below.refl _ _).alloc (Nat.le_refl _) _⟩

def totT (g : Nat → TeamD) : Nat → Nat
  | 0 => 0
  | k + 1 => totT g k + (g k).nm.size
def SzTeamsPost (g : Nat → TeamD) (n left : Nat) (w : World) (e : Ending) (w' : World) : Prop :=
  (∃ r : Int, e = .returned (.int .i64 r) ∧ (r < 0 ∨ (0 ≤ r ∧ n + totT g n + r = left))) ∧ Below w.heap.size w w'
theorem szTeamS_any (v : Value) (n left : Nat) (g : Nat → TeamD) (w : World) (h : TeamRow w v n g) (hg : ∀ i, (g i).nm.size ≤ 9223372036854775807) (hl : left ≤ 1048576) :
    Calls Tryd.prog 12 #[v, .int .i64 (left : Int)] w (SzTeamsPost g n left w) := by
  obtain ⟨a, cap, rfl, hn, hv⟩ := h.form
  have HV := Lib.hid hv
  have HG := Lib.hid hg
  clear hv hg h
  by_cases hbig : left < n
  · have g0 : decide ((left : Int) - (n : Int) < 0) = true := decide_eq_true (by omega)
    go_enter Tryd.func12, Tryd.ntmps12
    go_wp2
    go_ret
    exact ⟨⟨_, rfl, .inl (by decide)⟩, Below.refl _ _⟩
  have g0 : decide ((left : Int) - (n : Int) < 0) = false := decide_eq_false (by omega)
  go_enter Tryd.func12, Tryd.ntmps12
  go_wp2
  go_loopw [1, 5] (fun l i wr => ∃ (j T : Nat), j ≤ n ∧ i = .int .i64 j ∧ l = .int .i64 ((left : Int) - n - T) ∧ Hid (T = totT g j) ∧ n + T ≤ left ∧ Below w.heap.size w wr) (fun _ i _ => n - (RowKit.intOf i).toNat)
  case atStart => exact ⟨0, 0, Nat.zero_le _, rfl, by go_num, rfl, by omega, Below.refl _ _⟩
  case round =>
    obtain ⟨j, T, hj, rfl, rfl, hT, hTl, hb⟩ := hrel
    by_cases hlt : j < n
    · obtain ⟨b, off, rfl, hc⟩ := HV.out (by omega)
      obtain ⟨k0, k1, k2⟩ := hc j hlt
      have hblt : b < w.heap.size := World.block_lt_of_cell? w _ k0
      have c0 := (hb.cell (p := ⟨b, off + j * 3, none⟩) hblt).trans k0
      have c1 := (hb.cell (p := ⟨b, off + j * 3 + 1, none⟩) hblt).trans k1
      have c2 := (hb.cell (p := ⟨b, off + j * 3 + 2, none⟩) hblt).trans k2
      have hgj := HG.out j
      clear hc HV k0 k1 k2
      have hstep : Hid (T + (g j).nm.size = totT g (j + 1)) := by show _ = _; rw [hT.out]; rfl
      generalize g j = x at *
      go_wp2_with fail
      refine (szTeam_any x _ _ hgj (by omega) (by omega)).mono ?_
      rintro e w2 ⟨⟨r, rfl, hr⟩, b2⟩
      have hb2 := hb.trans (b2.mono hb.size)
      clear hb b2 c0 c1 c2
      rcases hr with ⟨_, hr⟩ | ⟨hr, hre⟩
      · have g1 : decide (r < 0) = true := decide_eq_true hr
        go_wp2
        go_ret
        exact ⟨⟨_, rfl, .inl (by decide)⟩, hb2⟩
      · have g1 : decide (r < 0) = false := decide_eq_false (by omega)
        obtain rfl : r = (left : Int) - n - (T + x.nm.size : Nat) := by omega
        clear hre
        go_wp2
        go_roundw
        case rel => exact ⟨j + 1, T + x.nm.size, by omega, by go_num, by go_num, hstep, by omega, hb2⟩
        case measure => simp [RowKit.intOf]; omega
    · obtain rfl : j = n := by omega
      go_wp2
      go_ret
      exact ⟨⟨_, rfl, .inr ⟨by omega, by rw [← hT.out]; omega⟩⟩, hb⟩

theorem toTeam_any (t : TeamD) (w : World) :
    Calls Tryd.prog 43 #[.agg #[.string t.nm, .int .i64 t.club, .int .i64 t.seed]] w fun e w' => e = .returned (.agg #[.string t.nm, .int .i64 t.club, .int .i64 t.seed]) ∧ Below w.heap.size w w' := by
  obtain ⟨nm, club, seed⟩ := t
  simp only
  go_enter Tryd.func43, Tryd.ntmps43
  go_wp2
  exact bodyPost_ret (v := .agg #[.string nm, .int .i64 club, .int .i64 seed]) (by simp [results, Tryd.results43, go_sem]) rfl ⟨rfl, (((Below.refl _ _).alloc (Nat.le_refl _) _).alloc (by simp) _).alloc (by simp; omega) _⟩

theorem eqTeam_same (t : TeamD) (w : World) :
    Calls Tryd.prog 54 #[.agg #[.string t.nm, .int .i64 t.club, .int .i64 t.seed], .agg #[.string t.nm, .int .i64 t.club, .int .i64 t.seed]] w fun e w' => e = .returned (.bool true) ∧ Below w.heap.size w w' := by
  obtain ⟨nm, club, seed⟩ := t
  simp only
  go_enter Tryd.func54, Tryd.ntmps54
  go_wp2
  go_ret
  exact ⟨rfl, ((Below.refl _ _).alloc (Nat.le_refl _) _).alloc (by simp) _⟩

theorem cells_below {w wr : World} {b off j : Nat} {t : TeamD} (hb : Below w.heap.size w wr) (h : w.cell? ⟨b, off + j * 3, none⟩ = some (.string t.nm) ∧ w.cell? ⟨b, off + j * 3 + 1, none⟩ = some (.int .i64 t.club) ∧ w.cell? ⟨b, off + j * 3 + 2, none⟩ = some (.int .i64 t.seed)) :
    wr.cell? ⟨b, off + j * 3, none⟩ = some (.string t.nm) ∧ wr.cell? ⟨b, off + j * 3 + 1, none⟩ = some (.int .i64 t.club) ∧ wr.cell? ⟨b, off + j * 3 + 2, none⟩ = some (.int .i64 t.seed) := by
  have hblt : b < w.heap.size := World.block_lt_of_cell? w _ h.1
  exact ⟨(hb.cell (p := ⟨b, off + j * 3, none⟩) hblt).trans h.1, (hb.cell (p := ⟨b, off + j * 3 + 1, none⟩) hblt).trans h.2.1, (hb.cell (p := ⟨b, off + j * 3 + 2, none⟩) hblt).trans h.2.2⟩

theorem eqTeamS_same (v1 v2 : Value) (n : Nat) (g : Nat → TeamD) (w : World) (h1 : TeamRow w v1 n g) (h2 : TeamRow w v2 n g) :
    Calls Tryd.prog 33 #[v1, v2] w fun e w' => e = .returned (.bool true) ∧ Below w.heap.size w w' := by
  obtain ⟨a, cap, rfl, hn, hv⟩ := h1.form
  obtain ⟨a', cap', rfl, _, hv'⟩ := h2.form
  have HV := Lib.hid hv
  have HV' := Lib.hid hv'
  clear hv hv' h1 h2
  go_enter Tryd.func33, Tryd.ntmps33
  go_wp2
  go_loopw [5] (fun i wr => ∃ k : Nat, k ≤ n ∧ i = .int .i64 k ∧ Below w.heap.size w wr) (fun i _ => n - (RowKit.intOf i).toNat)
  case atStart => exact ⟨0, Nat.zero_le _, rfl, Below.refl _ _⟩
  case round =>
    obtain ⟨k, hk, rfl, hb⟩ := hrel
    by_cases hlt : k < n
    · obtain ⟨b, off, rfl, hc⟩ := HV.out (by omega)
      obtain ⟨b', off', rfl, hc'⟩ := HV'.out (by omega)
      obtain ⟨c0, c1, c2⟩ := cells_below hb (hc k hlt)
      obtain ⟨d0, d1, d2⟩ := cells_below hb (hc' k hlt)
      have hblt : b < w.heap.size := World.block_lt_of_cell? w _ (hc k hlt).1
      have hblt' : b' < w.heap.size := World.block_lt_of_cell? w _ (hc' k hlt).1
      have HB := Lib.hid hb
      have hsz := hb.size
      clear hc hc' HV HV' hb
      generalize g k = x at *
      go_wp2
      go_region_held3 (fun w' => w'.cell? ⟨b, off + k * 3, none⟩ = some (.string x.nm) ∧ w'.cell? ⟨b, off + k * 3 + 1, none⟩ = some (.int .i64 x.club) ∧ w'.cell? ⟨b, off + k * 3 + 2, none⟩ = some (.int .i64 x.seed) ∧
          w'.cell? ⟨b', off' + k * 3, none⟩ = some (.string x.nm) ∧ w'.cell? ⟨b', off' + k * 3 + 1, none⟩ = some (.int .i64 x.club) ∧ w'.cell? ⟨b', off' + k * 3 + 2, none⟩ = some (.int .i64 x.seed) ∧ Hid (Below w.heap.size w w'))
        (first
          | exact ⟨c0, c1, c2, d0, d1, d2, HB.out.drew⟩
          | exact ⟨(Below.cell hb1 (p := ⟨b, off + k * 3, none⟩) (Nat.lt_of_lt_of_le hblt hsz)).trans c0, (Below.cell hb1 (p := ⟨b, off + k * 3 + 1, none⟩) (Nat.lt_of_lt_of_le hblt hsz)).trans c1, (Below.cell hb1 (p := ⟨b, off + k * 3 + 2, none⟩) (Nat.lt_of_lt_of_le hblt hsz)).trans c2,
              (Below.cell hb1 (p := ⟨b', off' + k * 3, none⟩) (Nat.lt_of_lt_of_le hblt' hsz)).trans d0, (Below.cell hb1 (p := ⟨b', off' + k * 3 + 1, none⟩) (Nat.lt_of_lt_of_le hblt' hsz)).trans d1, (Below.cell hb1 (p := ⟨b', off' + k * 3 + 2, none⟩) (Nat.lt_of_lt_of_le hblt' hsz)).trans d2,
              HB.out.drew.trans (hb1.mono hsz)⟩)
        (first | (go_at_call 54; refine (eqTeam_same x _).mono ?_; rintro e w1 ⟨rfl, hb1⟩))
      have HB1 : Hid (Below w.heap.size w w1) := by
        rename_i hh
        exact hh.2.2.2.2.2.2
      clear hb1 HB c0 c1 c2 d0 d1 d2
      go_wp2
      go_roundw
      case rel => exact ⟨k + 1, by omega, by go_num, HB1.out⟩
      case measure => simp [RowKit.intOf]; omega
    · go_wp2
      go_ret
      exact ⟨rfl, hb⟩

theorem Tryd.infoTeam : (Tryd.prog.info? 55).map (fun i => (i.zero, i.size, i.bytes)) = some (some (.agg #[.string ByteArray.empty, .int .i64 0, .int .i64 0]), 3, 32) := by kernel_rfl
def TeamsMade (w : World) (n : Nat) (g : Nat → TeamD) (e : Ending) (w' : World) : Prop :=
  ∃ v, e = .returned v ∧ TeamRow w' v n g ∧ (∃ xs, w'.ownsRow w.heap.size 55 3 v n xs) ∧ Below w.heap.size w w'
theorem TeamRow.of_owns {w : World} {base : Nat} {e : TypeId} {v : Value} {n : Nat} {xs : List Value} {g : Nat → TeamD} (h : w.ownsRow base e 3 v n xs) (hn : n ≤ 9223372036854775807)
    (hg : ∀ t, t < n → xs[t * 3]? = some (.string (g t).nm) ∧ xs[t * 3 + 1]? = some (.int .i64 (g t).club) ∧ xs[t * 3 + 2]? = some (.int .i64 (g t).seed)) : TeamRow w v n g := by
  by_cases h0 : n = 0
  · subst h0
    rcases h.2 with ⟨rfl, _⟩ | ⟨b, cap, cur, rfl, _⟩
    · exact .inl ⟨_, _, rfl, rfl⟩
    · exact .inl ⟨_, _, rfl, rfl⟩
  · rcases h.2 with ⟨_, hz⟩ | ⟨b, cap, cur, rfl, _, _, hcap, _⟩
    · exact absurd hz h0
    · refine .inr ⟨b, 0, cap, rfl, by omega, hn, fun i hi => ?_, hcap⟩
      obtain ⟨h1, h2, h3⟩ := hg i hi
      simp only [Nat.zero_add]
      exact ⟨by rw [h.cellAt _ (by omega)]; exact h1, by rw [h.cellAt _ (by omega)]; exact h2, by rw [h.cellAt _ (by omega)]; exact h3⟩
theorem toTeamS_any (v : Value) (n : Nat) (g : Nat → TeamD) (w : World) (h : TeamRow w v n g) (hn : n ≤ 1048576) :
    Calls Tryd.prog 22 #[v] w (TeamsMade w n g) := by
  obtain ⟨i0, hi, hz0, hz1, hz2⟩ := info_parts Tryd.infoTeam
  obtain ⟨a, cap, rfl, _, hv⟩ := h.form
  have HV := Lib.hid hv
  clear hv h
  go_enter Tryd.func22, Tryd.ntmps22
  go_wp2_with (at_make; refine wpList_make_full _ rfl _ _ 34 rfl w.heap.size 55 i0 (.agg #[.string ByteArray.empty, .int .i64 0, .int .i64 0]) 3 Tryd.underlying34 hi hz0 hz1 .i64 .i64 n n n rfl rfl rfl rfl (by rw [hz2]; omega) (by unfold maxLen; omega) (Nat.le_refl _) ?_; intro w1 hown hg1)
  have hb1 : Below w.heap.size w w1 := (Below.refl _ _).grown hg1 (Nat.le_refl _) (fun k hk => by cases hk)
  clear hg1
  go_loopw [4] (fun i wr => ∃ (j : Nat) (ys : List Value), j ≤ n ∧ i = .int .i64 j ∧ wr.ownsRow w.heap.size 55 3 (.slice (some ⟨w.heap.size, 0, none⟩) n n) n ys ∧
      Hid (∀ t, t < j → ys[t * 3]? = some (.string (g t).nm) ∧ ys[t * 3 + 1]? = some (.int .i64 (g t).club) ∧ ys[t * 3 + 2]? = some (.int .i64 (g t).seed)) ∧ Below w.heap.size w wr)
    (fun i _ => n - (RowKit.intOf i).toNat)
  case atStart => exact ⟨0, _, Nat.zero_le _, rfl, hown, fun t ht => absurd ht (by omega), hb1⟩
  case round =>
    obtain ⟨j, ys, hj, rfl, hown', hys, hb⟩ := hrel
    clear hown hb1
    by_cases hlt : j < n
    · obtain ⟨b, off, rfl, hc⟩ := HV.out (by omega)
      obtain ⟨c0, c1, c2⟩ := cells_below hb (hc j hlt)
      generalize hx : g j = x at *
      have Hx := Lib.hid hx
      have hlen := hown'.1
      have HL := Lib.hid hlen
      have hsz := hb.size
      clear hc HV hx hlen
      go_wp2_with (go_at_call 43; refine (toTeam_any x _).mono ?_; rintro e w2 ⟨rfl, b2⟩; have hown2 := owns_below hown' b2 (Nat.le_refl _); obtain ⟨⟨u0, e0⟩, ⟨u1, e1⟩, ⟨u2, e2⟩⟩ := owns_cells3 hown2 j hlt; have f0 := hown2.frozenAt (j * 3); have f1 := hown2.frozenAt (j * 3 + 1); have f2 := hown2.frozenAt (j * 3 + 2))
      go_roundw
      case rel =>
        have hb2 := (hb.trans (b2.mono hsz))
        refine ⟨j + 1, _, by omega, by go_num, owns_set3 hown2 j _ _ _, fun t ht => ?_, ((hb2.setCell (Nat.le_refl _) _).setCell (Nat.le_refl _) _).setCell (Nat.le_refl _) _⟩
        by_cases htj : t = j
        · subst htj
          rw [Hx.out]
          exact set3_at HL.out hlt _ _ _
        · obtain ⟨h1, h2, h3⟩ := hys.out t (by omega)
          exact ⟨(set3_other htj _ _ _ 0 (by omega)).trans h1, (set3_other htj _ _ _ 1 (by omega)).trans h2, (set3_other htj _ _ _ 2 (by omega)).trans h3⟩
      case measure => simp [RowKit.intOf]; omega
    · obtain rfl : j = n := by omega
      go_wp2
      go_ret
      exact ⟨_, rfl, TeamRow.of_owns hown' (by omega) hys.out, ⟨_, hown'⟩, hb⟩

theorem tgrown_trans {a b c : World} {row : Option Nat} (h : a.grownBy b row) (k : b.grownBy c row) : a.grownBy c row :=
  ⟨k.os.trans h.os, k.tape.trans h.tape, k.output.trans h.output, Nat.le_trans h.size k.size, fun i hi hne => (k.block i (Nat.lt_of_lt_of_le hi h.size) hne).trans (h.block i hi hne)⟩
theorem tgrown_any {a b : World} (h : a.grownBy b none) (row : Option Nat) : a.grownBy b row := ⟨h.os, h.tape, h.output, h.size, fun i hi _ => h.block i hi (by simp)⟩
theorem tgrown_refl (a : World) (row : Option Nat) : a.grownBy a row := ⟨rfl, rfl, rfl, Nat.le_refl _, fun _ _ _ => rfl⟩
end Go.Proofs.YteciobkjfmddcaaDoor
set_option linter.unusedVariables false
namespace Go.Proofs.YteciobkjfmddcaaDoor
open Go.RowKit

theorem TeamRow.rec {w : World} {v : Value} {n : Nat} {g : Nat → TeamD} (h : TeamRow w v n g) : RecRow 3 w v n fun i => (g i).cells := by
  rcases h with ⟨a, c, rfl, rfl⟩ | ⟨b, off, c, rfl, h0, h1, hc, h2⟩
  · exact .inl ⟨_, _, rfl, rfl⟩
  · refine .inr ⟨b, off, c, rfl, h0, h1, fun i hi => ⟨World.block_lt_of_cell? w _ (hc i hi).1, fun j u hu => ?_⟩, h2⟩
    have hj : j < 3 := by have := (List.getElem?_eq_some_iff.1 hu).1; simpa [TeamD.cells] using this
    have : j = 0 ∨ j = 1 ∨ j = 2 := by omega
    rcases this with rfl | rfl | rfl <;> (simp [TeamD.cells] at hu; subst hu)
    · exact (hc i hi).1
    · exact (hc i hi).2.1
    · exact (hc i hi).2.2
theorem RecRow.teams {w : World} {v : Value} {n : Nat} {g : Nat → TeamD} (h : RecRow 3 w v n fun i => (g i).cells) : TeamRow w v n g := by
  rcases h with ⟨a, c, rfl, rfl⟩ | ⟨b, off, c, rfl, h0, h1, hc, h2⟩
  · exact .inl ⟨_, _, rfl, rfl⟩
  · exact .inr ⟨b, off, c, rfl, h0, h1, fun i hi => ⟨(hc i hi).2 0 _ rfl, (hc i hi).2 1 _ rfl, (hc i hi).2 2 _ rfl⟩, h2⟩
end Go.Proofs.YteciobkjfmddcaaDoor
set_option linter.unusedVariables false
namespace Go.Proofs.YteciobkjfmddcaaDoor
open Go.RowKit Go.ChangeShapes Go.WideShapes

def TeamFit (t : TeamD) : Prop := t.nm.size ≤ maxLen ∧ (Lit.int .i64 t.club).wf = true ∧ (Lit.int .i64 t.seed).wf = true
instance : Inhabited TeamD := ⟨⟨ByteArray.empty, 0, 0⟩⟩
section
variable {H : Type} {enc : TypeId × Value → H} {P : Program} {w : World} {base : Nat} {spare : Nat → Bool} {held : Bool}
theorem open_teams {t e : TypeId} {f0 f1 f2 : Field} {fuel : Nat} {cs : List Value} {x : DataW H × List MemPlace} (ht : P.underlying t = some (.slice e)) (he : P.underlying e = some (.struct #[f0, f1, f2]))
    (ce : P.cellsOf e = 3) (o0 : f0.offset = 0) (o1 : f1.offset = 1) (o2 : f2.offset = 2) (c0 : P.cellsOf f0.type = 1) (c1 : P.cellsOf f1.type = 1) (c2 : P.cellsOf f2.type = 1)
    (u0 : P.underlying f0.type = some .string) (u1 : P.underlying f1.type = some (.int .i64)) (u2 : P.underlying f2.type = some (.int .i64))
    (h : DataW.trod enc P w base spare held fuel t cs = some x) :
    cs = [.slice none 0 0] ∨ ∃ (a : Addr) (len cap : Nat) (g : Nat → TeamD), cs = [.slice (some a) len cap] ∧ len ≤ cap ∧ cap ≤ maxLen ∧
      ∀ i, i < len → (w.cell? (a.add (i * 3)) = some (.string (g i).nm) ∧ w.cell? (a.add (i * 3 + 1)) = some (.int .i64 (g i).club) ∧ w.cell? (a.add (i * 3 + 2)) = some (.int .i64 (g i).seed)) ∧ TeamFit (g i) := by
  rcases Go.Deep.open_slice ht h with ⟨h0, _⟩ | ⟨a, len, cap, m, n, D, Pl, rfl, hb, hl, hm, hmm, rfl, hx⟩
  · exact .inl h0
  right
  have hlm : len ≤ m := by rw [hmm]; split <;> omega
  have each : ∀ i, i < len → ∃ q : TeamD, (w.cell? (a.add (i * 3)) = some (.string q.nm) ∧ w.cell? (a.add (i * 3 + 1)) = some (.int .i64 q.club) ∧ w.cell? (a.add (i * 3 + 2)) = some (.int .i64 q.seed)) ∧ TeamFit q := by
    intro i hi
    obtain ⟨cs', h1, h2⟩ := hx i (by omega)
    rw [ce] at h1
    obtain ⟨_, hlen, hcell⟩ := World.cells?_some h1
    obtain ⟨xs, k, hk, hxy, _, hxl, hf⟩ := DataW.trod_struct he h2
    match xs, hxl, cs', hlen with
    | [y0, y1, y2], _, [v0, v1, v2], _ =>
      have g0 := hf 0 f0 rfl
      have g1 := hf 1 f1 rfl
      have g2 := hf 2 f2 rfl
      simp [o0, o1, o2, c0, c1, c2] at g0 g1 g2
      obtain ⟨s, hs, _, hw⟩ := DataW.trod_string u0 g0
      obtain ⟨z1, hz1, _, k1⟩ := DataW.trod_int u1 g1
      obtain ⟨z2, hz2, _, k2⟩ := DataW.trod_int u2 g2
      have e0 := hcell 0 (by omega)
      have e1 := hcell 1 (by omega)
      have e2 := hcell 2 (by omega)
      rw [Go.Deep.add_add] at e0 e1 e2
      simp only [List.cons.injEq, and_true] at hs hz1 hz2
      subst hs; subst hz1; subst hz2
      exact ⟨⟨s, z1, z2⟩, ⟨by simpa using e0, by simpa using e1, by simpa using e2⟩, hw, k1, k2⟩
  obtain ⟨g, hg⟩ := Go.Deep.choose_lt each
  exact ⟨a, len, cap, g, rfl, hl, hm, hg⟩
end
theorem teamRow_of_open {w : World} {v : Value} {a : Option Addr} {n c : Nat} (hv : v = .slice a n c)
    (h : ([v] : List Value) = [.slice none 0 0] ∨ ∃ (a : Addr) (len cap : Nat) (g : Nat → TeamD), [v] = [.slice (some a) len cap] ∧ len ≤ cap ∧ cap ≤ maxLen ∧
      ∀ i, i < len → (w.cell? (a.add (i * 3)) = some (.string (g i).nm) ∧ w.cell? (a.add (i * 3 + 1)) = some (.int .i64 (g i).club) ∧ w.cell? (a.add (i * 3 + 2)) = some (.int .i64 (g i).seed)) ∧ TeamFit (g i)) :
    ∃ g, TeamRow w v n g ∧ (∀ i, (g i).nm.size ≤ maxLen) ∧ ∀ i, TeamFit (g i) := by
  subst hv
  have hz : TeamFit default := ⟨Nat.zero_le _, WalkArith.wf_i64 (by decide), WalkArith.wf_i64 (by decide)⟩
  rcases h with h | ⟨x, len, cap, g, h, hl, hm, hg⟩
  · simp only [List.cons.injEq, Value.slice.injEq, and_true] at h
    obtain ⟨rfl, rfl, rfl⟩ := h
    exact ⟨fun _ => default, .inl ⟨_, _, rfl, rfl⟩, fun _ => hz.1, fun _ => hz⟩
  · simp only [List.cons.injEq, Value.slice.injEq, and_true] at h
    obtain ⟨rfl, rfl, rfl⟩ := h
    have hfit : ∀ i, TeamFit (if i < n then g i else default) := fun i => by
      by_cases hi : i < n
      · simpa [hi] using (hg i hi).2
      · simpa [hi] using hz
    refine ⟨fun i => if i < n then g i else default, ?_, fun i => (hfit i).1, hfit⟩
    by_cases h0 : n = 0
    · subst h0; exact .inl ⟨_, _, rfl, rfl⟩
    · obtain ⟨b, off, spot⟩ := x
      have hspot : spot = none := by simpa [Addr.add] using World.cell?_spot (hg 0 (by omega)).1.1
      subst hspot
      refine .inr ⟨b, off, c, rfl, by omega, by unfold maxLen at hm; omega, fun i hi => ?_, hl⟩
      have hadd : ∀ j, (⟨b, off, none⟩ : Addr).add j = ⟨b, off + j, none⟩ := fun j => by unfold Addr.add; split <;> simp_all
      have := (hg i hi).1
      simp only [hadd] at this
      simpa [hi, Nat.add_assoc] using this
end Go.Proofs.YteciobkjfmddcaaDoor
set_option linter.unusedVariables false
namespace Go.Proofs.YteciobkjfmddcaaDoor
open Go.RowKit

def tTeam : Ty := tTwo tStr (tTwo tInt tInt)
def tTeamS : Ty := tSl 55 tTeam
theorem opens_Team : Opens Tryd.prog 67 tTeam := opens_struct Tryd.underlying67 (by kernel_rfl) ⟨rfl, _, _, rfl, (opens_str Tryd.underlying9 (by kernel_rfl)), ⟨rfl, _, _, rfl, (opens_int Tryd.underlying3 (by kernel_rfl)), ⟨rfl, (opens_int Tryd.underlying3 (by kernel_rfl))⟩⟩⟩
theorem opens_TeamS : Opens Tryd.prog 22 tTeamS := opens_sl Tryd.underlying22 (by kernel_rfl) opens_Team
def ofTeam (x : tTeam.D) : TeamD := ⟨x.1, x.2.1, x.2.2⟩
def atTeam (d : List tTeam.D) (i : Nat) : TeamD := ((d[i]?).map ofTeam).getD default
theorem flat_Team : FlatT tTeam fun x => (ofTeam x).cells := (flat_two flat_str (flat_two flat_int flat_int))
theorem cells_Team {d : List tTeam.D} {i : Nat} (hi : i < d.length) : cellsAt (fun x => (ofTeam x).cells) d i = (atTeam d i).cells := by
  refine (cellsAt_lt (List.getElem?_eq_getElem hi)).trans ?_
  unfold atTeam; rw [List.getElem?_eq_getElem hi]; rfl
theorem rd_TeamS {w : World} {v : Value} {d : List tTeam.D} : RdA tTeamS w [v] d ↔ TeamRow w v d.length (atTeam d) := by
  have e := fun i (hi : i < d.length) => cells_Team hi
  exact flat_Team.rdA.trans ⟨fun h => RecRow.teams (RecRow.congr h e), fun h => RecRow.congr (TeamRow.rec h) fun i hi => (e i hi).symm⟩
theorem atTeam_size {d : List tTeam.D} (h : tTeamS.fit d) (i : Nat) : (atTeam d i).nm.size ≤ maxLen := by
  unfold atTeam
  cases hx : d[i]? with
  | none => simp [default, maxLen]
  | some x => exact (h x (List.mem_iff_getElem?.2 ⟨i, hx⟩)).1
theorem mks_TeamS (d : List tTeam.D) : tTeamS.mks d = 3 * d.length := sum_const (f := tTeam.mks) (fun _ => rfl) d
theorem mkl_TeamS (d : List tTeam.D) (k : Int) : List.length (α := tTeam.D) (tTeamS.mkd k d) = d.length := mkList_len _ _ _ _
theorem tot_take (d : List tTeam.D) : ∀ k, k ≤ d.length → totT (atTeam d) k = ((d.take k).map tTeam.wt).sum
  | 0, _ => rfl
  | k + 1, h => by
    have hk : k < d.length := by omega
    rw [List.take_add_one, List.getElem?_eq_getElem hk, List.map_append, List.sum_append]
    unfold totT
    rw [tot_take d k (by omega)]
    have e : atTeam d k = ofTeam d[k] := by unfold atTeam; rw [List.getElem?_eq_getElem hk]; rfl
    rw [e]
    show _ + (d[k]).1.size = _ + ((d[k]).1.size + (0 + 0) + 0)
    omega
theorem wt_TeamS (d : List tTeam.D) : tTeamS.wt d = d.length + totT (atTeam d) d.length := by
  rw [tot_take d _ (Nat.le_refl _), List.take_length]; rfl
theorem own_TeamS {w : World} {lo hi : Nat} {v : Value} {d : List tTeam.D} {xs : List Value} (h : w.ownsRow lo 55 3 v d.length xs) (hr : TeamRow w v d.length (atTeam d)) (h1 : ∀ q, v.ownBlock = some q → q < hi) (hh : hi ≤ w.heap.size) : OwN tTeamS w lo hi [v] d :=
  flat_Team.made h (rd_TeamS.2 hr) h1 hh
theorem y_sz_TeamS (v : Value) (d : List tTeam.D) (left : Int) (w : World) (hl0 : 0 ≤ left) (hl : left ≤ 1048576) (h : RdA tTeamS w [v] d) (hf : tTeamS.fit d) : Calls Tryd.prog 12 #[v, .int .i64 left] w (SzT tTeamS d left w) := by
  obtain ⟨l, rfl⟩ : ∃ l : Nat, left = l := ⟨left.toNat, by omega⟩
  refine (szTeamS_any v d.length l (atTeam d) w (rd_TeamS.1 h) (fun i => by have := atTeam_size hf i; unfold maxLen at this; omega) (by omega)).mono fun e w' ⟨⟨r, he, hr⟩, hb⟩ => ⟨⟨r, he, ?_⟩, hb⟩
  rw [wt_TeamS]
  rcases hr with hr | ⟨h1, h2⟩
  · exact .inl hr
  · exact .inr ⟨h1, by omega⟩
theorem y_to_TeamS (v : Value) (d : List tTeam.D) (w : World) (h : RdA tTeamS w [v] d) (hw : tTeamS.wt d ≤ 1048576) : Calls Tryd.prog 22 #[v] w (MadeT tTeamS d w) :=
  (toTeamS_any v d.length (atTeam d) w (rd_TeamS.1 h) (by rw [wt_TeamS] at hw; omega)).mono fun e w' ⟨v', he, hr, ⟨xs, ho⟩, hb⟩ => ⟨v', he, flat_Team.made ho (rd_TeamS.2 hr) (fun q hq => (ho.lt q hq).2) (Nat.le_refl _), hb⟩
theorem y_eq_TeamS (v v' : Value) (d : List tTeam.D) (w : World) (h : RdA tTeamS w [v] d) (h' : RdA tTeamS w [v'] d) : Calls Tryd.prog 33 #[v, v'] w fun e w' => e = .returned (.bool true) ∧ Below w.heap.size w w' :=
  eqTeamS_same v v' d.length (atTeam d) w (rd_TeamS.1 h) (rd_TeamS.1 h')
def teamMk (k : Int) (i : Nat) : TeamD := ⟨mkT (k + 3 * (i : Int)).toNat, k + 3 * (i : Int) + 1, k + 3 * (i : Int) + 1 + 1⟩
theorem mk_TeamS (d : List tTeam.D) (k : Int) (i : Nat) (hi : i < d.length) : atTeam (tTeamS.mkd k d) i = teamMk k i := by
  have h := mkList_get (mks := tTeam.mks) (mkd := tTeam.mkd) (m := 3) (fun _ => rfl) d k i
  have h2 : (mkList tTeam.mks tTeam.mkd k d)[i]? = some (tTeam.mkd (k + ((3 : Nat) : Int) * i) d[i]) := by
    rw [h, List.getElem?_eq_getElem hi]; rfl
  unfold atTeam
  refine (congrArg (fun o => (Option.map ofTeam o).getD default) h2).trans ?_
  rfl
end Go.Proofs.YteciobkjfmddcaaDoor
set_option linter.unusedVariables false
namespace Go.Proofs.YteciobkjfmddcaaDoor
open Go.RowKit

def tRules : Ty := tTwo tInt (tTwo tInt (tTwo tInt (tTwo tIntS tBool)))
theorem opens_Rules : Opens Tryd.prog 25 tRules := opens_struct Tryd.underlying25 (by kernel_rfl) ⟨rfl, _, _, rfl, (opens_int Tryd.underlying3 (by kernel_rfl)), ⟨rfl, _, _, rfl, (opens_int Tryd.underlying3 (by kernel_rfl)), ⟨rfl, _, _, rfl, (opens_int Tryd.underlying3 (by kernel_rfl)), ⟨rfl, _, _, rfl, opens_IntS, ⟨rfl, (opens_bool Tryd.underlying4 (by kernel_rfl))⟩⟩⟩⟩⟩
set_option maxRecDepth 100000 in
set_option maxHeartbeats 2000000 in
theorem y_sz_Rules (x_Win : Int) (x_Draw : Int) (x_Loss : Int) (vx_Ladder : Value) (x_Again : Bool) (d : tRules.D) (left : Int) (w : World) (hl0 : 0 ≤ left) (hl : left ≤ 1048576) (h : RdA tRules w [.int .i64 x_Win, .int .i64 x_Draw, .int .i64 x_Loss, vx_Ladder, .bool x_Again] d) : Calls Tryd.prog 13 #[.agg #[.int .i64 x_Win, .int .i64 x_Draw, .int .i64 x_Loss, vx_Ladder, .bool x_Again], .int .i64 left] w (SzT tRules d left w) := by
  have hwt : tRules.wt d = (tInt.wt d.1 + (tInt.wt d.2.1 + (tInt.wt d.2.2.1 + (tIntS.wt d.2.2.2.1 + tBool.wt d.2.2.2.2)))) := rfl
  have hz0 : tInt.wt d.1 = 0 := rfl
  have hz1 : tInt.wt d.2.1 = 0 := rfl
  have hz2 : tInt.wt d.2.2.1 = 0 := rfl
  have hz4 : tBool.wt d.2.2.2.2 = 0 := rfl
  have P0 : RdA tInt w [.int .i64 x_Win] d.1 := (rd_split h).1
  have Pt0 := (rd_split h).2
  have P1 : RdA tInt w [.int .i64 x_Draw] d.2.1 := (rd_split Pt0).1
  have Pt1 := (rd_split Pt0).2
  have P2 : RdA tInt w [.int .i64 x_Loss] d.2.2.1 := (rd_split Pt1).1
  have Pt2 := (rd_split Pt1).2
  have P3 : RdA tIntS w [vx_Ladder] d.2.2.2.1 := (rd_split Pt2).1
  have Pt3 := (rd_split Pt2).2
  have P4 : RdA tBool w [.bool x_Again] d.2.2.2.2 := Pt3
  clear Pt0 Pt1 Pt2 Pt3
  have HP3 := Lib.hid P3
  obtain ⟨W3, hW3⟩ : ∃ z, tIntS.wt d.2.2.2.1 = z := ⟨_, rfl⟩
  unfold SzT
  rw [hwt]
  rw [hz0, hz1, hz2, hz4]
  clear hwt h P0 P1 P2 P3 P4 hz0 hz1 hz2 hz4
  have HB0 : Hid (Below w.heap.size w (w.alloc (.cells #[.int .i64 x_Win, .int .i64 x_Draw, .int .i64 x_Loss, vx_Ladder, .bool x_Again] 25))) := (Below.refl _ _).alloc (Nat.le_refl _) _
  have BX0 : Hid (BoxN (w.alloc (.cells #[.int .i64 x_Win, .int .i64 x_Draw, .int .i64 x_Loss, vx_Ladder, .bool x_Again] 25)) w.heap.size [.int .i64 x_Win, .int .i64 x_Draw, .int .i64 x_Loss, vx_Ladder, .bool x_Again]) := BoxN.made (Below.refl _ _) rfl
  have c0 := BX0.out.2 0 _ rfl
  have c1 := BX0.out.2 1 _ rfl
  have c2 := BX0.out.2 2 _ rfl
  have c3 := BX0.out.2 3 _ rfl
  have c4 := BX0.out.2 4 _ rfl
  go_enter Tryd.func13, Tryd.ntmps13
  go_wp2_with fail
  refine (y_sz_IntS vx_Ladder d.2.2.2.1 left _ (by omega) (by omega) (RdA.below HP3.out HB0.out)).mono ?_
  rintro e w1 ⟨⟨r1, rfl, hr1⟩, b1⟩
  rw [hW3] at hr1
  have HB1 := Lib.hid (HB0.out.trans (b1.mono HB0.out.size))
  have BX1 := Lib.hid (BX0.out.below b1)
  clear c0 c1 c2 c3 c4 BX0 b1
  have c0 := BX1.out.2 0 _ rfl
  have c1 := BX1.out.2 1 _ rfl
  have c2 := BX1.out.2 2 _ rfl
  have c3 := BX1.out.2 3 _ rfl
  have c4 := BX1.out.2 4 _ rfl
  by_cases hn1 : r1 < 0
  · have g2 : decide (r1 < 0) = true := decide_eq_true hn1
    have HE := Lib.hid HB1.out
    clear hr1
    go_wp2
    go_ret
    exact ⟨⟨-1, rfl, .inl (by omega)⟩, HE.out⟩
  have g1 : decide (r1 < 0) = false := decide_eq_false hn1
  replace hn1 : 0 ≤ r1 ∧ (W3 : Int) + r1 = left := by omega
  clear hr1
  have HE := Lib.hid HB1.out
  go_wp2
  go_ret
  refine ⟨⟨_, rfl, .inr ⟨by omega, ?_⟩⟩, HE.out⟩
  rw [hW3]
  omega
set_option maxRecDepth 100000 in
set_option maxHeartbeats 2000000 in
theorem y_eq_Rules (x_Win : Int) (x_Draw : Int) (x_Loss : Int) (vx_Ladder : Value) (x_Again : Bool) (vx_Ladder' : Value) (d : tRules.D) (w : World) (h : RdA tRules w [.int .i64 x_Win, .int .i64 x_Draw, .int .i64 x_Loss, vx_Ladder, .bool x_Again] d) (h' : RdA tRules w [.int .i64 x_Win, .int .i64 x_Draw, .int .i64 x_Loss, vx_Ladder', .bool x_Again] d) : Calls Tryd.prog 34 #[.agg #[.int .i64 x_Win, .int .i64 x_Draw, .int .i64 x_Loss, vx_Ladder, .bool x_Again], .agg #[.int .i64 x_Win, .int .i64 x_Draw, .int .i64 x_Loss, vx_Ladder', .bool x_Again]] w fun e w' => e = .returned (.bool true) ∧ Below w.heap.size w w' := by
  have P0 : RdA tInt w [.int .i64 x_Win] d.1 := (rd_split h).1
  have Pt0 := (rd_split h).2
  have P1 : RdA tInt w [.int .i64 x_Draw] d.2.1 := (rd_split Pt0).1
  have Pt1 := (rd_split Pt0).2
  have P2 : RdA tInt w [.int .i64 x_Loss] d.2.2.1 := (rd_split Pt1).1
  have Pt2 := (rd_split Pt1).2
  have P3 : RdA tIntS w [vx_Ladder] d.2.2.2.1 := (rd_split Pt2).1
  have Pt3 := (rd_split Pt2).2
  have P4 : RdA tBool w [.bool x_Again] d.2.2.2.2 := Pt3
  clear Pt0 Pt1 Pt2 Pt3
  have Q0 : RdA tInt w [.int .i64 x_Win] d.1 := (rd_split h').1
  have Qt0 := (rd_split h').2
  have Q1 : RdA tInt w [.int .i64 x_Draw] d.2.1 := (rd_split Qt0).1
  have Qt1 := (rd_split Qt0).2
  have Q2 : RdA tInt w [.int .i64 x_Loss] d.2.2.1 := (rd_split Qt1).1
  have Qt2 := (rd_split Qt1).2
  have Q3 : RdA tIntS w [vx_Ladder'] d.2.2.2.1 := (rd_split Qt2).1
  have Qt3 := (rd_split Qt2).2
  have Q4 : RdA tBool w [.bool x_Again] d.2.2.2.2 := Qt3
  clear Qt0 Qt1 Qt2 Qt3
  have HP3 := Lib.hid P3
  have HQ3 := Lib.hid Q3
  have HB0 : Hid (Below w.heap.size w ((w.alloc (.cells #[.int .i64 x_Win, .int .i64 x_Draw, .int .i64 x_Loss, vx_Ladder, .bool x_Again] 35)).alloc (.cells #[.int .i64 x_Win, .int .i64 x_Draw, .int .i64 x_Loss, vx_Ladder', .bool x_Again] 35))) := ((Below.refl _ _).alloc (Nat.le_refl _) _).alloc (by simp) _
  have BX0 : Hid (BoxN ((w.alloc (.cells #[.int .i64 x_Win, .int .i64 x_Draw, .int .i64 x_Loss, vx_Ladder, .bool x_Again] 35)).alloc (.cells #[.int .i64 x_Win, .int .i64 x_Draw, .int .i64 x_Loss, vx_Ladder', .bool x_Again] 35)) w.heap.size [.int .i64 x_Win, .int .i64 x_Draw, .int .i64 x_Loss, vx_Ladder, .bool x_Again]) := BoxN.below (BoxN.made (Below.refl _ _) rfl) ((Below.refl _ _).alloc (Nat.le_refl _) _)
  have BY0 : Hid (BoxN ((w.alloc (.cells #[.int .i64 x_Win, .int .i64 x_Draw, .int .i64 x_Loss, vx_Ladder, .bool x_Again] 35)).alloc (.cells #[.int .i64 x_Win, .int .i64 x_Draw, .int .i64 x_Loss, vx_Ladder', .bool x_Again] 35)) (w.heap.size + 1) [.int .i64 x_Win, .int .i64 x_Draw, .int .i64 x_Loss, vx_Ladder', .bool x_Again]) := BoxN.made (Below.refl _ _) (by simp)
  clear h h' P0 Q0 P1 Q1 P2 Q2 P3 Q3 P4 Q4
  have c0 := BX0.out.2 0 _ rfl
  have c1 := BX0.out.2 1 _ rfl
  have c2 := BX0.out.2 2 _ rfl
  have c3 := BX0.out.2 3 _ rfl
  have c4 := BX0.out.2 4 _ rfl
  have e0 := BY0.out.2 0 _ rfl
  have e1 := BY0.out.2 1 _ rfl
  have e2 := BY0.out.2 2 _ rfl
  have e3 := BY0.out.2 3 _ rfl
  have e4 := BY0.out.2 4 _ rfl
  have bl := BX0.out.1
  have bm := BY0.out.1
  go_enter Tryd.func34, Tryd.ntmps34
  go_wp2_with fail
  refine (y_eq_IntS vx_Ladder vx_Ladder' d.2.2.2.1 _ (RdA.below HP3.out HB0.out) (RdA.below HQ3.out HB0.out)).mono ?_
  rintro e w1 ⟨rfl, b1⟩
  have HB1 := Lib.hid (HB0.out.trans (b1.mono HB0.out.size))
  have BX1 := Lib.hid (BX0.out.below b1)
  have BY1 := Lib.hid (BY0.out.below b1)
  clear c0 c1 c2 c3 c4 e0 e1 e2 e3 e4 bl bm BX0 BY0 b1
  have c0 := BX1.out.2 0 _ rfl
  have c1 := BX1.out.2 1 _ rfl
  have c2 := BX1.out.2 2 _ rfl
  have c3 := BX1.out.2 3 _ rfl
  have c4 := BX1.out.2 4 _ rfl
  have e0 := BY1.out.2 0 _ rfl
  have e1 := BY1.out.2 1 _ rfl
  have e2 := BY1.out.2 2 _ rfl
  have e3 := BY1.out.2 3 _ rfl
  have e4 := BY1.out.2 4 _ rfl
  have bl := BX1.out.1
  have bm := BY1.out.1
  have HE := Lib.hid HB1.out
  go_wp2
  go_ret
  exact ⟨rfl, HE.out⟩
set_option maxRecDepth 100000 in
set_option maxHeartbeats 4000000 in
theorem y_to_Rules (x_Win : Int) (x_Draw : Int) (x_Loss : Int) (vx_Ladder : Value) (x_Again : Bool) (d : tRules.D) (w : World) (h : RdA tRules w [.int .i64 x_Win, .int .i64 x_Draw, .int .i64 x_Loss, vx_Ladder, .bool x_Again] d) (hw : tRules.wt d ≤ 1048576) : Calls Tryd.prog 23 #[.agg #[.int .i64 x_Win, .int .i64 x_Draw, .int .i64 x_Loss, vx_Ladder, .bool x_Again]] w (fun e w' => ∃ vx_Ladder' : Value, e = .returned (.agg #[.int .i64 x_Win, .int .i64 x_Draw, .int .i64 x_Loss, vx_Ladder', .bool x_Again]) ∧ OwN tRules w' w.heap.size w'.heap.size [.int .i64 x_Win, .int .i64 x_Draw, .int .i64 x_Loss, vx_Ladder', .bool x_Again] d ∧ Below w.heap.size w w') := by
  have P0 : RdA tInt w [.int .i64 x_Win] d.1 := (rd_split h).1
  have Pt0 := (rd_split h).2
  have P1 : RdA tInt w [.int .i64 x_Draw] d.2.1 := (rd_split Pt0).1
  have Pt1 := (rd_split Pt0).2
  have P2 : RdA tInt w [.int .i64 x_Loss] d.2.2.1 := (rd_split Pt1).1
  have Pt2 := (rd_split Pt1).2
  have P3 : RdA tIntS w [vx_Ladder] d.2.2.2.1 := (rd_split Pt2).1
  have Pt3 := (rd_split Pt2).2
  have P4 : RdA tBool w [.bool x_Again] d.2.2.2.2 := Pt3
  clear Pt0 Pt1 Pt2 Pt3
  have HP0 := Lib.hid P0
  have HP1 := Lib.hid P1
  have HP2 := Lib.hid P2
  have HP3 := Lib.hid P3
  have HP4 := Lib.hid P4
  have hwt : tRules.wt d = (tInt.wt d.1 + (tInt.wt d.2.1 + (tInt.wt d.2.2.1 + (tIntS.wt d.2.2.2.1 + tBool.wt d.2.2.2.2)))) := rfl
  rw [hwt] at hw
  have hw3 : tIntS.wt d.2.2.2.1 ≤ 1048576 := by omega
  have HW3 := Lib.hid hw3
  clear hw hwt hw3
  have HB0 : Hid (Below w.heap.size w (((w.alloc (.cells #[.int .i64 x_Win, .int .i64 x_Draw, .int .i64 x_Loss, vx_Ladder, .bool x_Again] 25)).alloc (.cells #[.int .i64 0, .int .i64 0, .int .i64 0, .slice none 0 0, .bool false] 35)).alloc (.cells #[.int .i64 x_Win, .int .i64 x_Draw, .int .i64 x_Loss, .slice none 0 0, .bool false] 35))) := (((Below.refl _ _).alloc (Nat.le_refl _) _).alloc (by simp) _).alloc (by simp <;> omega) _
  have BX0 : Hid (BoxN (((w.alloc (.cells #[.int .i64 x_Win, .int .i64 x_Draw, .int .i64 x_Loss, vx_Ladder, .bool x_Again] 25)).alloc (.cells #[.int .i64 0, .int .i64 0, .int .i64 0, .slice none 0 0, .bool false] 35)).alloc (.cells #[.int .i64 x_Win, .int .i64 x_Draw, .int .i64 x_Loss, .slice none 0 0, .bool false] 35)) w.heap.size [.int .i64 x_Win, .int .i64 x_Draw, .int .i64 x_Loss, vx_Ladder, .bool x_Again]) := BoxN.below (BoxN.below (BoxN.made (Below.refl _ _) rfl) ((Below.refl _ _).alloc (Nat.le_refl _) _)) ((Below.refl _ _).alloc (Nat.le_refl _) _)
  have RS0 : Hid (ResAt (((w.alloc (.cells #[.int .i64 x_Win, .int .i64 x_Draw, .int .i64 x_Loss, vx_Ladder, .bool x_Again] 25)).alloc (.cells #[.int .i64 0, .int .i64 0, .int .i64 0, .slice none 0 0, .bool false] 35)).alloc (.cells #[.int .i64 x_Win, .int .i64 x_Draw, .int .i64 x_Loss, .slice none 0 0, .bool false] 35)) (w.heap.size + 1) 5) := ResAt.below (ResAt.made' (by simp) rfl) ((Below.refl _ _).alloc (Nat.le_refl _) _)
  have BO0 : Hid (BoxF (((w.alloc (.cells #[.int .i64 x_Win, .int .i64 x_Draw, .int .i64 x_Loss, vx_Ladder, .bool x_Again] 25)).alloc (.cells #[.int .i64 0, .int .i64 0, .int .i64 0, .slice none 0 0, .bool false] 35)).alloc (.cells #[.int .i64 x_Win, .int .i64 x_Draw, .int .i64 x_Loss, .slice none 0 0, .bool false] 35)) (w.heap.size + 2) [.int .i64 x_Win, .int .i64 x_Draw, .int .i64 x_Loss, .slice none 0 0, .bool false]) := BoxF.made (Below.refl _ _) (by simp)
  clear h P0 P1 P2 P3 P4
  have c0 := BX0.out.2 0 _ rfl
  have c1 := BX0.out.2 1 _ rfl
  have c2 := BX0.out.2 2 _ rfl
  have c3 := BX0.out.2 3 _ rfl
  have c4 := BX0.out.2 4 _ rfl
  have o0 := BO0.out.2 0 _ rfl
  have o1 := BO0.out.2 1 _ rfl
  have o2 := BO0.out.2 2 _ rfl
  have o3 := BO0.out.2 3 _ rfl
  have o4 := BO0.out.2 4 _ rfl
  have bl := BX0.out.1
  have bm := BO0.out.1
  have bn := RS0.out.lt
  obtain ⟨⟨z0, q0⟩, y0⟩ := RS0.out.at 0 (by omega)
  obtain ⟨⟨z1, q1⟩, y1⟩ := RS0.out.at 1 (by omega)
  obtain ⟨⟨z2, q2⟩, y2⟩ := RS0.out.at 2 (by omega)
  obtain ⟨⟨z3, q3⟩, y3⟩ := RS0.out.at 3 (by omega)
  obtain ⟨⟨z4, q4⟩, y4⟩ := RS0.out.at 4 (by omega)
  go_enter Tryd.func23, Tryd.ntmps23
  go_wp2_with fail
  clear c0 o0 q0 y0 c1 o1 q1 y1 c2 o2 q2 y2 c3 o3 q3 y3 c4 o4 q4 y4 bl bm bn
  refine (y_to_IntS vx_Ladder d.2.2.2.1 _ (RdA.below HP3.out HB0.out) HW3.out).mono ?_
  rintro e w1 ⟨u3_0, rfl, ho1, b1⟩
  have hs1 := b1.size
  have hS1 : w.heap.size + 3 ≤ w1.heap.size := by simp at hs1; omega
  have HBc1 := Lib.hid (HB0.out.trans (b1.mono HB0.out.size))
  have BXc1 := Lib.hid (BX0.out.below b1)
  have RSc1 := Lib.hid (RS0.out.below b1)
  have BOc1 := Lib.hid (BO0.out.below b1)
  have O3_c1 := Lib.hid (ho1.mono (lo' := w.heap.size + 3) (hi' := w1.heap.size) (by simp) (Nat.le_refl _) (Nat.le_refl _))
  clear HB0 BX0 RS0 BO0 hs1 b1 ho1
  obtain ⟨au3_0, nu3_0, ku3_0, hu3_0⟩ := rd_slice O3_c1.out.rd
  subst hu3_0
  have c0 := BXc1.out.2 0 _ rfl
  have c1 := BXc1.out.2 1 _ rfl
  have c2 := BXc1.out.2 2 _ rfl
  have c3 := BXc1.out.2 3 _ rfl
  have c4 := BXc1.out.2 4 _ rfl
  have o0 := BOc1.out.2 0 _ rfl
  have o1 := BOc1.out.2 1 _ rfl
  have o2 := BOc1.out.2 2 _ rfl
  have o3 := BOc1.out.2 3 _ rfl
  have o4 := BOc1.out.2 4 _ rfl
  have bl := BXc1.out.1
  have bm := BOc1.out.1
  have bn := RSc1.out.lt
  obtain ⟨⟨z0, q0⟩, y0⟩ := RSc1.out.at 0 (by omega)
  obtain ⟨⟨z1, q1⟩, y1⟩ := RSc1.out.at 1 (by omega)
  obtain ⟨⟨z2, q2⟩, y2⟩ := RSc1.out.at 2 (by omega)
  obtain ⟨⟨z3, q3⟩, y3⟩ := RSc1.out.at 3 (by omega)
  obtain ⟨⟨z4, q4⟩, y4⟩ := RSc1.out.at 4 (by omega)
  go_wp2
  (try simp only [Exit.inBlock, Exit.then])
  refine post_named fun w99 hw99 => ?_
  clear c0 o0 q0 y0 c1 o1 q1 y1 c2 o2 q2 y2 c3 o3 q3 y3 c4 o4 q4 y4 bl bm bn
  have HBs1 := Lib.hid (HBc1.out.setCell (p := ⟨w.heap.size + 2, 3, none⟩) (by simp) (.slice au3_0 nu3_0 ku3_0))
  have BXs1 := Lib.hid (BXc1.out.elsewhere (D := w.heap.size + 2) 3 (.slice au3_0 nu3_0 ku3_0) (by omega))
  have RSs1 := Lib.hid (RSc1.out.elsewhere (D := w.heap.size + 2) 3 (.slice au3_0 nu3_0 ku3_0) (by omega))
  have BOs1 := Lib.hid (BOc1.out.set 3 (.slice au3_0 nu3_0 ku3_0) (by simp))
  have O3_s1 := Lib.hid (O3_c1.out.touch ((Touch.refl (w.heap.size + 2) (w.heap.size + 3) _).setCell ⟨w.heap.size + 2, 3, none⟩ (.slice au3_0 nu3_0 ku3_0) (by simp) (by simp)) (.inr (by omega)))
  clear HBc1 BXc1 RSc1 BOc1 O3_c1
  have HBs2 := Lib.hid (HBs1.out.setCell (p := ⟨w.heap.size + 2, 4, none⟩) (by simp) (.bool x_Again))
  have BXs2 := Lib.hid (BXs1.out.elsewhere (D := w.heap.size + 2) 4 (.bool x_Again) (by omega))
  have RSs2 := Lib.hid (RSs1.out.elsewhere (D := w.heap.size + 2) 4 (.bool x_Again) (by omega))
  have BOs2 := Lib.hid (BOs1.out.set 4 (.bool x_Again) (by simp))
  have O3_s2 := Lib.hid (O3_s1.out.touch ((Touch.refl (w.heap.size + 2) (w.heap.size + 3) _).setCell ⟨w.heap.size + 2, 4, none⟩ (.bool x_Again) (by simp) (by simp)) (.inr (by omega)))
  clear HBs1 BXs1 RSs1 BOs1 O3_s1
  have HX9 := RSs2.out.put (vs := [.int .i64 x_Win, .int .i64 x_Draw, .int .i64 x_Loss, .slice au3_0 nu3_0 ku3_0, .bool x_Again]) rfl
  have HB9 := Below.putCs (C := w.heap.size) (B := w.heap.size + 1) (by omega) [.int .i64 x_Win, .int .i64 x_Draw, .int .i64 x_Loss, .slice au3_0 nu3_0 ku3_0, .bool x_Again] 0 _ _ HBs2.out
  have O3_9 := O3_s2.out.touch (Touch.putCs (lo := w.heap.size + 1) (hi := w.heap.size + 2) (B := w.heap.size + 1) (by omega) (by omega) [.int .i64 x_Win, .int .i64 x_Draw, .int .i64 x_Loss, .slice au3_0 nu3_0 ku3_0, .bool x_Again] 0 _ _ (Touch.refl _ _ _)) (.inr (by omega))
  have e99 : w99 = putCs _ (w.heap.size + 1) 0 [.int .i64 x_Win, .int .i64 x_Draw, .int .i64 x_Loss, .slice au3_0 nu3_0 ku3_0, .bool x_Again] := hw99.out
  rw [← e99] at HX9 HB9 O3_9
  clear hw99 e99
  have h9 : w1.heap.size ≤ w99.heap.size := O3_9.hi_le
  have HD : OwN tRules w99 (w.heap.size + 3) w1.heap.size [.int .i64 x_Win, .int .i64 x_Draw, .int .i64 x_Loss, .slice au3_0 nu3_0 ku3_0, .bool x_Again] (x_Win, x_Draw, x_Loss, d.2.2.2.1, x_Again) := (OwN.two (OwN.int w99 x_Win (lo := w.heap.size + 3) (hi := w.heap.size + 3) (by omega)) (OwN.two (OwN.int w99 x_Draw (lo := w.heap.size + 3) (hi := w.heap.size + 3) (by omega)) (OwN.two (OwN.int w99 x_Loss (lo := w.heap.size + 3) (hi := w.heap.size + 3) (by omega)) (OwN.two O3_9 (OwN.bool w99 x_Again (lo := w1.heap.size) (hi := w1.heap.size) (by omega)) (by omega) (by omega)) (by omega) (by omega)) (by omega) (by omega)) (by omega) (by omega))
  have hd0 : d.1 = x_Win := scalar_int HP0.out
  have hd1 : d.2.1 = x_Draw := scalar_int HP1.out
  have hd2 : d.2.2.1 = x_Loss := scalar_int HP2.out
  have hd4 : d.2.2.2.2 = x_Again := scalar_bool HP4.out
  have hdd : ((x_Win, x_Draw, x_Loss, d.2.2.2.1, x_Again) : tRules.D) = d := by
    rw [← hd0, ← hd1, ← hd2, ← hd4]
    rfl
  rw [hdd] at HD
  have HD9 := Lib.hid (HD.mono (lo' := w.heap.size) (hi' := w99.heap.size) (by omega) h9 (Nat.le_refl _))
  have HB99 := Lib.hid HB9
  have HX99 := Lib.hid HX9
  clear HB9 HX9 HD hdd hd0 hd1 hd2 hd4
  have x0 := (HX99.out.2 0 _ rfl).1
  have x1 := (HX99.out.2 1 _ rfl).1
  have x2 := (HX99.out.2 2 _ rfl).1
  have x3 := (HX99.out.2 3 _ rfl).1
  have x4 := (HX99.out.2 4 _ rfl).1
  have x_lt := HX99.out.1
  refine bodyPost_ret (v := .agg #[.int .i64 x_Win, .int .i64 x_Draw, .int .i64 x_Loss, .slice au3_0 nu3_0 ku3_0, .bool x_Again]) ?_ rfl ⟨.slice au3_0 nu3_0 ku3_0, rfl, HD9.out, HB99.out⟩
  rw [results_cell rfl]
  go_simp
def cnt_Rules (d : tRules.D) : Nat := (0 + (0 + (0 + (tIntS.mks d.2.2.2.1 + 0))))
def top_Rules (k : Int) (d : tRules.D) : tRules.D := (d.1, d.2.1, d.2.2.1, tIntS.mkd (k) d.2.2.2.1, d.2.2.2.2)
theorem form_Rules {w : World} {B : Nat → Prop} {cs : List Value} {d : tRules.D} (h : tRules.Rd w B cs d) : ∃ (x_Win : Int) (x_Draw : Int) (x_Loss : Int) (vx_Ladder : Value) (x_Again : Bool), cs = [.int .i64 x_Win, .int .i64 x_Draw, .int .i64 x_Loss, vx_Ladder, .bool x_Again] := by
  obtain ⟨c0, r0, e0, h0, t0⟩ := h
  have g0 : c0 = [.int .i64 d.1] := h0
  obtain ⟨c1, r1, e1, h1, t1⟩ := t0
  have g1 : c1 = [.int .i64 d.2.1] := h1
  obtain ⟨c2, r2, e2, h2, t2⟩ := t1
  have g2 : c2 = [.int .i64 d.2.2.1] := h2
  obtain ⟨c3, r3, e3, h3, t3⟩ := t2
  obtain ⟨vx_Ladder, _, g3, _⟩ := h3
  have h4 := t3
  have g4 : r3 = [.bool d.2.2.2.2] := h4
  exact ⟨d.1, d.2.1, d.2.2.1, vx_Ladder, d.2.2.2.2, by rw [e0, e1, e2, e3, g0, g1, g2, g3, g4]; rfl⟩
theorem cntle_Rules (d : tRules.D) : cnt_Rules d ≤ tRules.mks d := by
  have e1 : cnt_Rules d = (0 + (0 + (0 + (tIntS.mks d.2.2.2.1 + 0)))) := rfl
  have e2 : tRules.mks d = (tInt.mks d.1 + (tInt.mks d.2.1 + (tInt.mks d.2.2.1 + (tIntS.mks d.2.2.2.1 + tBool.mks d.2.2.2.2)))) := rfl
  rw [e1, e2]
  omega
end Go.Proofs.YteciobkjfmddcaaDoor
