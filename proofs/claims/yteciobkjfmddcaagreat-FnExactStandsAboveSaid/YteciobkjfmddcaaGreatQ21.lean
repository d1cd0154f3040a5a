/-
  Packed: TyIntS, TyReason, OpenTeams, TyTeam, TyRules, TyGame.
-/
import Derived.Deep.Slices
import Derived.Deep.Strs
import Derived.Lib.SmallJoins
import Derived.ChangeOld
import Derived.OpenShut
import Derived.ShutString
import Derived.Test.YteciobkjfmddcaaGreatQ1
import Derived.Test.YteciobkjfmddcaaGreatQ2
import Derived.Test.YteciobkjfmddcaaGreatQ3
import Derived.Test.YteciobkjfmddcaaGreatQ6
import Derived.Test.YteciobkjfmddcaaGreatQ17
set_option linter.unusedVariables false
namespace Go.Proofs.YteciobkjfmddcaaGreat
open Go.RowKit

def tIntS : Ty := tSl 3 tInt
theorem opens_IntS : Opens Tryz.prog 24 tIntS := opens_sl Tryz.underlying24 (by kernel_rfl) (opens_int Tryz.underlying3 (by kernel_rfl))
theorem cells_int {d : List Int} {i : Nat} (hi : i < d.length) : cellsAt (fun z : Int => [Value.int .i64 z]) d i = [.int .i64 (getI d i)] := by
  refine (cellsAt_lt (List.getElem?_eq_getElem hi)).trans ?_
  unfold getI; simp [hi]
theorem rd_IntS {w : World} {v : Value} {d : List Int} : RdA tIntS w [v] d ↔ IntRow w v d.length (getI d) := by
  have e := fun i (hi : i < d.length) => cells_int hi
  exact flat_int.rdA.trans ⟨fun h => RecRow.ints (RecRow.congr h e), fun h => RecRow.congr h.rec fun i hi => (e i hi).symm⟩
theorem rdN_IntS {w : World} {lo hi : Nat} {v : Value} {d : List Int} (h : IntRow w v d.length (getI d)) (hi2 : InW lo hi v) : RdN tIntS w lo hi [v] d :=
  flat_int.reads (flat_int.row (rd_IntS.2 h)) fun _ q hq => hi2 q hq
theorem own_ints {w : World} {lo hi : Nat} {v : Value} {d : List Int} (h : w.ownsRow lo 3 1 v d.length (d.map (Value.int .i64))) (h1 : ∀ q, v.ownBlock = some q → q < hi) (hh : hi ≤ w.heap.size) : OwN tIntS w lo hi [v] d :=
  flat_int.made h (rd_IntS.2 (IntRow.of_list h (owns_max h))) h1 hh
theorem IntsL.owN {w w' : World} {L : List Int} {e : Ending} (h : IntsL w L e w') : MadeT tIntS L w e w' := by
  obtain ⟨v, he, ho, hb⟩ := h
  exact ⟨v, he, own_ints ho (fun q hq => (ho.lt q hq).2) (Nat.le_refl _), hb⟩
theorem wt_IntS (d : List Int) : tIntS.wt d = d.length := by
  show d.length + (d.map fun _ => 0).sum = d.length
  have := sum_zero (f := fun _ : Int => 0) (fun _ => rfl) d
  omega
theorem mks_IntS (d : List Int) : tIntS.mks d = d.length := (sum_const (f := fun _ : Int => 1) (fun _ => rfl) d).trans (Nat.one_mul _)
theorem mkl_IntS (d : List Int) (k : Int) : List.length (α := Int) (tIntS.mkd k d) = d.length := mkList_len _ _ _ _
theorem mk_IntS (d : List Int) (k : Int) (i : Nat) (hi : i < d.length) : getI (tIntS.mkd k d) i = k + (i : Int) := by
  have h := mkList_get (mks := tInt.mks) (mkd := tInt.mkd) (m := 1) (fun _ => rfl) d k i
  have h2 : (mkList tInt.mks tInt.mkd k d)[i]? = some (k + ((1 : Nat) : Int) * i) := by
    rw [h]
    have : d[i]? = some d[i] := List.getElem?_eq_getElem hi
    exact congrArg (Option.map (tInt.mkd (k + ((1 : Nat) : Int) * i))) this
  unfold getI
  show List.getD (α := Int) (mkList tInt.mks tInt.mkd k d) i 0 = _
  refine (List.getD_eq_getElem?_getD (α := Int)).trans ?_
  refine (congrArg (fun o => Option.getD (α := Int) o 0) h2).trans ?_
  show k + ((1 : Nat) : Int) * i = _
  omega
theorem y_sz_IntS (v : Value) (d : List Int) (left : Int) (w : World) (hl0 : 0 ≤ left) (hl : left ≤ 1048576) (h : RdA tIntS w [v] d) : Calls Tryz.prog 43 #[v, .int .i64 left] w (SzT tIntS d left w) :=
  (x_sz_IntS v d.length (getI d) left w hl0 hl (rd_IntS.1 h)).mono fun e w' ⟨⟨r, he, hr⟩, hb⟩ => ⟨⟨r, he, by rw [wt_IntS]; exact hr⟩, hb⟩
theorem y_to_IntS (v : Value) (d : List Int) (w : World) (h : RdA tIntS w [v] d) (hw : tIntS.wt d ≤ 1048576) : Calls Tryz.prog 51 #[v] w (MadeT tIntS d w) :=
  (x_to_IntS v d.length (getI d) w (rd_IntS.1 h) (by rw [wt_IntS] at hw; exact hw)).mono fun e w' ⟨v', he, hr, ⟨xs, ho⟩, hb⟩ => ⟨v', he, flat_int.made ho (rd_IntS.2 hr) (fun q hq => (ho.lt q hq).2) (Nat.le_refl _), hb⟩
theorem y_eq_IntS (v v' : Value) (d : List Int) (w : World) (h : RdA tIntS w [v] d) (h' : RdA tIntS w [v'] d) : Calls Tryz.prog 25 #[v, v'] w fun e w' => e = .returned (.bool true) ∧ Below w.heap.size w w' :=
  x_eq_IntS v d.length (getI d) v' w (rd_IntS.1 h) (rd_IntS.1 h')
theorem y_mk_IntS (v : Value) (d : List Int) (k : Int) (lo hi : Nat) (w : World) (h : OwN tIntS w lo hi [v] d) (h0 : 0 < k) (hk : k + tIntS.mks d ≤ 1000000000000) : Calls Tryz.prog 26 #[v, .int .i64 k] w (MarkT tIntS [v] d k lo hi w) := by
  obtain ⟨⟨xs, ho, _⟩, hin⟩ := flat_int.owned h
  have hm := mks_IntS d
  have hm2 : k + (d.length : Int) ≤ 1000000000000 := by omega
  refine (x_mk_IntS v d.length k lo hi lo xs w ho hin h0 hm2).mono fun e w' ⟨he, hr, ht⟩ => ⟨by rw [he, hm], ?_, ht⟩
  refine rdN_IntS ?_ hin
  have h1 := (IntRow.rec hr).congr (g' := fun i => [Value.int .i64 (getI (tIntS.mkd k d) i)]) (fun i hi => by rw [mk_IntS d k i hi])
  have h2 := h1.ints
  rw [← mkl_IntS d k] at h2
  exact h2
theorem y_hd_IntS (v : Value) (d : List Int) (k : Int) (w : World) (h : RdA tIntS w [v] (tIntS.mkd k d)) (h0 : 0 < k) (hk : k + tIntS.mks d ≤ 1000000000000) : Calls Tryz.prog 27 #[v, .int .i64 k] w (HeldT tIntS d k w) := by
  have hm := mks_IntS d
  have hm2 : k + (d.length : Int) ≤ 1000000000000 := by omega
  have hr : IntRow w v (List.length (α := Int) (tIntS.mkd k d)) (getI (tIntS.mkd k d)) := rd_IntS.1 h
  rw [mkl_IntS d k] at hr
  exact (x_hd_IntS v d.length k w (hr.rec.congr (fun i hi => by rw [mk_IntS d k i hi])).ints h0 hm2).mono fun e w' ⟨he, hb⟩ => ⟨by rw [he, hm], hb⟩
theorem yb_mk_IntS (v : Value) (d : List Int) (k : Int) (lo : Nat) (bs : List Nat) (w : World) (h : tIntS.Ow w lo [v] d bs) (hnd : bs.Nodup) (h0 : 0 < k) (hk : k + tIntS.mks d ≤ 1000000000000) : Calls Tryz.prog 26 #[v, .int .i64 k] w (MarkC tIntS [v] (tIntS.mkd k d) (tIntS.mks d) k bs w) :=
  flat_mark flat_int h fun lo hi ho => y_mk_IntS v d k lo hi w ho h0 hk
end Go.Proofs.YteciobkjfmddcaaGreat
set_option linter.unusedVariables false
namespace Go.Proofs.YteciobkjfmddcaaGreat
open Go.RowKit

def tReason : Ty := tTwo tInt (tTwo tIntS (tTwo tInt tInt))
set_option maxRecDepth 100000 in
set_option maxHeartbeats 2000000 in
theorem y_eq_Reason (x_Key : Int) (vx_Group : Value) (x_First : Int) (x_Other : Int) (vx_Group' : Value) (d : tReason.D) (w : World) (h : RdA tReason w [.int .i64 x_Key, vx_Group, .int .i64 x_First, .int .i64 x_Other] d) (h' : RdA tReason w [.int .i64 x_Key, vx_Group', .int .i64 x_First, .int .i64 x_Other] d) : Calls Tryz.prog 17 #[.agg #[.int .i64 x_Key, vx_Group, .int .i64 x_First, .int .i64 x_Other], .agg #[.int .i64 x_Key, vx_Group', .int .i64 x_First, .int .i64 x_Other]] w fun e w' => e = .returned (.bool true) ∧ Below w.heap.size w w' := by
  have P0 : RdA tInt w [.int .i64 x_Key] d.1 := (rd_split h).1
  have Pt0 := (rd_split h).2
  have P1 : RdA tIntS w [vx_Group] d.2.1 := (rd_split Pt0).1
  have Pt1 := (rd_split Pt0).2
  have P2 : RdA tInt w [.int .i64 x_First] d.2.2.1 := (rd_split Pt1).1
  have Pt2 := (rd_split Pt1).2
  have P3 : RdA tInt w [.int .i64 x_Other] d.2.2.2 := Pt2
  clear Pt0 Pt1 Pt2
  have Q0 : RdA tInt w [.int .i64 x_Key] d.1 := (rd_split h').1
  have Qt0 := (rd_split h').2
  have Q1 : RdA tIntS w [vx_Group'] d.2.1 := (rd_split Qt0).1
  have Qt1 := (rd_split Qt0).2
  have Q2 : RdA tInt w [.int .i64 x_First] d.2.2.1 := (rd_split Qt1).1
  have Qt2 := (rd_split Qt1).2
  have Q3 : RdA tInt w [.int .i64 x_Other] d.2.2.2 := Qt2
  clear Qt0 Qt1 Qt2
  have HP1 := Lib.hid P1
  have HQ1 := Lib.hid Q1
  have HB0 : Hid (Below w.heap.size w ((w.alloc (.cells #[.int .i64 x_Key, vx_Group, .int .i64 x_First, .int .i64 x_Other] 45)).alloc (.cells #[.int .i64 x_Key, vx_Group', .int .i64 x_First, .int .i64 x_Other] 45))) := ((Below.refl _ _).alloc (Nat.le_refl _) _).alloc (by simp) _
  have BX0 : Hid (BoxN ((w.alloc (.cells #[.int .i64 x_Key, vx_Group, .int .i64 x_First, .int .i64 x_Other] 45)).alloc (.cells #[.int .i64 x_Key, vx_Group', .int .i64 x_First, .int .i64 x_Other] 45)) w.heap.size [.int .i64 x_Key, vx_Group, .int .i64 x_First, .int .i64 x_Other]) := BoxN.below (BoxN.made (Below.refl _ _) rfl) ((Below.refl _ _).alloc (Nat.le_refl _) _)
  have BY0 : Hid (BoxN ((w.alloc (.cells #[.int .i64 x_Key, vx_Group, .int .i64 x_First, .int .i64 x_Other] 45)).alloc (.cells #[.int .i64 x_Key, vx_Group', .int .i64 x_First, .int .i64 x_Other] 45)) (w.heap.size + 1) [.int .i64 x_Key, vx_Group', .int .i64 x_First, .int .i64 x_Other]) := BoxN.made (Below.refl _ _) (by simp)
  clear h h' P0 Q0 P1 Q1 P2 Q2 P3 Q3
  have c0 := BX0.out.2 0 _ rfl
  have c1 := BX0.out.2 1 _ rfl
  have c2 := BX0.out.2 2 _ rfl
  have c3 := BX0.out.2 3 _ rfl
  have e0 := BY0.out.2 0 _ rfl
  have e1 := BY0.out.2 1 _ rfl
  have e2 := BY0.out.2 2 _ rfl
  have e3 := BY0.out.2 3 _ rfl
  have bl := BX0.out.1
  have bm := BY0.out.1
  go_enter Tryz.func17, Tryz.ntmps17
  go_wp2_with fail
  refine (y_eq_IntS vx_Group vx_Group' d.2.1 _ (RdA.below HP1.out HB0.out) (RdA.below HQ1.out HB0.out)).mono ?_
  rintro e w1 ⟨rfl, b1⟩
  have HB1 := Lib.hid (HB0.out.trans (b1.mono HB0.out.size))
  have BX1 := Lib.hid (BX0.out.below b1)
  have BY1 := Lib.hid (BY0.out.below b1)
  clear c0 c1 c2 c3 e0 e1 e2 e3 bl bm BX0 BY0 b1
  have c0 := BX1.out.2 0 _ rfl
  have c1 := BX1.out.2 1 _ rfl
  have c2 := BX1.out.2 2 _ rfl
  have c3 := BX1.out.2 3 _ rfl
  have e0 := BY1.out.2 0 _ rfl
  have e1 := BY1.out.2 1 _ rfl
  have e2 := BY1.out.2 2 _ rfl
  have e3 := BY1.out.2 3 _ rfl
  have bl := BX1.out.1
  have bm := BY1.out.1
  have HE := Lib.hid HB1.out
  go_wp2
  go_ret
  exact ⟨rfl, HE.out⟩
def cnt_Reason (d : tReason.D) : Nat := (0 + (tIntS.mks d.2.1 + (0 + 0)))
def top_Reason (k : Int) (d : tReason.D) : tReason.D := (d.1, tIntS.mkd (k) d.2.1, d.2.2.1, d.2.2.2)
set_option maxRecDepth 100000 in
set_option maxHeartbeats 2000000 in
theorem yb_mk_Reason (x_Key : Int) (vx_Group : Value) (x_First : Int) (x_Other : Int) (d : tReason.D) (k : Int) (lo : Nat) (bs : List Nat) (w : World) (h : tReason.Ow w lo [.int .i64 x_Key, vx_Group, .int .i64 x_First, .int .i64 x_Other] d bs) (hnd : bs.Nodup) (h0 : 0 < k) (hk : k + cnt_Reason d ≤ 1000000000000) : Calls Tryz.prog 20 #[.agg #[.int .i64 x_Key, vx_Group, .int .i64 x_First, .int .i64 x_Other], .int .i64 k] w (MarkC tReason [.int .i64 x_Key, vx_Group, .int .i64 x_First, .int .i64 x_Other] (top_Reason k d) (cnt_Reason d) k bs w) := by
  obtain ⟨b0, bt0, hbs0, p0, ht0⟩ := ow_split h
  have P0 : tInt.Ow w lo [.int .i64 x_Key] d.1 b0 := p0
  clear p0
  obtain ⟨b1, bt1, hbs1, p1, ht1⟩ := ow_split ht0
  have P1 : tIntS.Ow w lo [vx_Group] d.2.1 b1 := p1
  clear p1
  obtain ⟨b2, b3, hbs2, p2, ht2⟩ := ow_split ht1
  have P2 : tInt.Ow w lo [.int .i64 x_First] d.2.2.1 b2 := p2
  clear p2
  have P3 : tInt.Ow w lo [.int .i64 x_Other] d.2.2.2 b3 := ht2
  subst hbs2
  subst hbs1
  subst hbs0
  have HP0 := Lib.hid P0
  have HP1 := Lib.hid P1
  have HP2 := Lib.hid P2
  have HP3 := Lib.hid P3
  have HLT := Lib.hid (tReason.ow_lt h)
  have HMEM1 : Hid (∀ q, q ∈ b1 → q ∈ b0 ++ (b1 ++ (b2 ++ (b3)))) := fun q hq => by simp only [List.mem_append]; simp [hq]
  have ND1 : Hid (b1.Nodup) := by
    have h7 := hnd
    simp only [List.nodup_append] at h7
    exact h7.2.1.1
  have hc : cnt_Reason d = (0 + (tIntS.mks d.2.1 + (0 + 0))) := rfl
  unfold MarkC
  rw [hc]
  rw [hc] at hk
  obtain ⟨N1, hN1⟩ : ∃ z, tIntS.mks d.2.1 = z := ⟨_, rfl⟩
  have HN1 := Lib.hid hN1
  rw [hN1] at hk
  rw [hN1]
  have HE0 : Hid (KeepB (b0 ++ (b1 ++ (b2 ++ (b3)))) w (w.alloc (.cells #[.int .i64 x_Key, vx_Group, .int .i64 x_First, .int .i64 x_Other] 45))) := KeepB.of_below ((Below.refl _ _).alloc (Nat.le_refl _) _)
  have BX0 : Hid (BoxN (w.alloc (.cells #[.int .i64 x_Key, vx_Group, .int .i64 x_First, .int .i64 x_Other] 45)) w.heap.size [.int .i64 x_Key, vx_Group, .int .i64 x_First, .int .i64 x_Other]) := BoxN.made (Below.refl _ _) rfl
  have Q1_0 := Lib.hid (KeepB.ow (bs := []) HP1.out (KeepB.of_below ((Below.refl _ _).alloc (Nat.le_refl _) (.cells #[.int .i64 x_Key, vx_Group, .int .i64 x_First, .int .i64 x_Other] 45))) (fun q _ hq => by cases hq))
  clear hc h hnd P0 P1 P2 P3 hN1
  have c0 := BX0.out.2 0 _ rfl
  have c1 := BX0.out.2 1 _ rfl
  have c2 := BX0.out.2 2 _ rfl
  have c3 := BX0.out.2 3 _ rfl
  have bl := BX0.out.1
  go_enter Tryz.func20, Tryz.ntmps20
  go_wp2_with fail
  refine (yb_mk_IntS vx_Group d.2.1 (k) lo b1 _ Q1_0.out ND1.out (by omega) (by have := HN1.out; omega)).mono ?_
  rintro e w1 ⟨rfl, hr1, hk1⟩
  have HR1_1 := Lib.hid hr1
  have HE1 := Lib.hid (KeepB.mono (KeepB.trans HE0.out hk1) (b2 := b0 ++ (b1 ++ (b2 ++ (b3)))) (fun q hq => (List.mem_append.1 hq).elim id (HMEM1.out q)))
  have BX1 := Lib.hid (KeepB.box BX0.out hk1 (fun hq => by have := (HLT.out _ (HMEM1.out _ hq)).2; omega))
  rw [HN1.out]
  clear c0 c1 c2 c3 bl BX0 hr1 hk1 HE0 Q1_0
  have c0 := BX1.out.2 0 _ rfl
  have c1 := BX1.out.2 1 _ rfl
  have c2 := BX1.out.2 2 _ rfl
  have c3 := BX1.out.2 3 _ rfl
  have bl := BX1.out.1
  have HRR : Hid (tReason.Rd w1 (fun q => q ∈ b0 ++ (b1 ++ (b2 ++ (b3)))) [.int .i64 x_Key, vx_Group, .int .i64 x_First, .int .i64 x_Other] (top_Reason k d)) := by
    unfold top_Reason
    exact ⟨[.int .i64 x_Key], _, rfl, (scal_int HP0.out), ⟨[vx_Group], _, rfl, (tIntS.rd_mono HR1_1.out HMEM1.out), ⟨[.int .i64 x_First], _, rfl, (scal_int HP2.out), (scal_int HP3.out)⟩⟩⟩
  have HEE := Lib.hid HE1.out
  go_wp2
  go_ret
  exact ⟨ret_int (by omega), HRR.out, HEE.out⟩
set_option maxRecDepth 100000 in
set_option maxHeartbeats 2000000 in
theorem y_hd_Reason (x_Key : Int) (vx_Group : Value) (x_First : Int) (x_Other : Int) (d : tReason.D) (k : Int) (w : World) (h : RdA tReason w [.int .i64 x_Key, vx_Group, .int .i64 x_First, .int .i64 x_Other] (top_Reason k d)) (h0 : 0 < k) (hk : k + cnt_Reason d ≤ 1000000000000) : Calls Tryz.prog 21 #[.agg #[.int .i64 x_Key, vx_Group, .int .i64 x_First, .int .i64 x_Other], .int .i64 k] w fun e w' => e = .returned (.int .i64 (k + cnt_Reason d)) ∧ Below w.heap.size w w' := by
  unfold top_Reason at h
  have P0 : RdA tInt w [.int .i64 x_Key] d.1 := (rd_split h).1
  have Pt0 := (rd_split h).2
  have P1 : RdA tIntS w [vx_Group] (tIntS.mkd (k) d.2.1) := (rd_split Pt0).1
  have Pt1 := (rd_split Pt0).2
  have P2 : RdA tInt w [.int .i64 x_First] d.2.2.1 := (rd_split Pt1).1
  have Pt2 := (rd_split Pt1).2
  have P3 : RdA tInt w [.int .i64 x_Other] d.2.2.2 := Pt2
  clear Pt0 Pt1 Pt2
  have hc : cnt_Reason d = (0 + (tIntS.mks d.2.1 + (0 + 0))) := rfl
  rw [hc]
  rw [hc] at hk
  have HP1 := Lib.hid P1
  obtain ⟨N1, hN1⟩ : ∃ z, tIntS.mks d.2.1 = z := ⟨_, rfl⟩
  have HN1 := Lib.hid hN1
  rw [hN1] at hk
  rw [hN1]
  have HB0 : Hid (Below w.heap.size w (w.alloc (.cells #[.int .i64 x_Key, vx_Group, .int .i64 x_First, .int .i64 x_Other] 45))) := (Below.refl _ _).alloc (Nat.le_refl _) _
  have BX0 : Hid (BoxN (w.alloc (.cells #[.int .i64 x_Key, vx_Group, .int .i64 x_First, .int .i64 x_Other] 45)) w.heap.size [.int .i64 x_Key, vx_Group, .int .i64 x_First, .int .i64 x_Other]) := BoxN.made (Below.refl _ _) rfl
  clear hc h P0 P1 P2 P3 hN1
  have c0 := BX0.out.2 0 _ rfl
  have c1 := BX0.out.2 1 _ rfl
  have c2 := BX0.out.2 2 _ rfl
  have c3 := BX0.out.2 3 _ rfl
  go_enter Tryz.func21, Tryz.ntmps21
  go_wp2_with fail
  refine (y_hd_IntS vx_Group d.2.1 (k) _ (RdA.below HP1.out HB0.out) (by omega) (by have := HN1.out; omega)).mono ?_
  rintro e w1 ⟨rfl, b1⟩
  rw [HN1.out]
  have HB1 := Lib.hid (HB0.out.trans (b1.mono HB0.out.size))
  have BX1 := Lib.hid (BX0.out.below b1)
  clear c0 c1 c2 c3 BX0 b1
  have c0 := BX1.out.2 0 _ rfl
  have c1 := BX1.out.2 1 _ rfl
  have c2 := BX1.out.2 2 _ rfl
  have c3 := BX1.out.2 3 _ rfl
  have g1 : decide (k + (N1 : Int) < 0) = false := decide_eq_false (by omega)
  have HE := Lib.hid HB1.out
  go_wp2
  go_ret
  exact ⟨ret_int (by omega), HE.out⟩
theorem form_Reason {w : World} {B : Nat → Prop} {cs : List Value} {d : tReason.D} (h : tReason.Rd w B cs d) : ∃ (x_Key : Int) (vx_Group : Value) (x_First : Int) (x_Other : Int), cs = [.int .i64 x_Key, vx_Group, .int .i64 x_First, .int .i64 x_Other] := by
  obtain ⟨c0, r0, e0, h0, t0⟩ := h
  have g0 : c0 = [.int .i64 d.1] := h0
  obtain ⟨c1, r1, e1, h1, t1⟩ := t0
  obtain ⟨vx_Group, _, g1, _⟩ := h1
  obtain ⟨c2, r2, e2, h2, t2⟩ := t1
  have g2 : c2 = [.int .i64 d.2.2.1] := h2
  have h3 := t2
  have g3 : r2 = [.int .i64 d.2.2.2] := h3
  exact ⟨d.1, vx_Group, d.2.2.1, d.2.2.2, by rw [e0, e1, e2, g0, g1, g2, g3]; rfl⟩
theorem cntle_Reason (d : tReason.D) : cnt_Reason d ≤ tReason.mks d := by
  have e1 : cnt_Reason d = (0 + (tIntS.mks d.2.1 + (0 + 0))) := rfl
  have e2 : tReason.mks d = (tInt.mks d.1 + (tIntS.mks d.2.1 + (tInt.mks d.2.2.1 + tInt.mks d.2.2.2))) := rfl
  rw [e1, e2]
  omega
end Go.Proofs.YteciobkjfmddcaaGreat
set_option linter.unusedVariables false
namespace Go.Proofs.YteciobkjfmddcaaGreat
open Go.RowKit Go.ChangeShapes Go.WideShapes

def TeamFit (t : TeamD) : Prop := t.nm.size ≤ maxLen ∧ (Lit.int .i64 t.club).wf = true ∧ (Lit.int .i64 t.seed).wf = true
instance : Inhabited TeamD := ⟨⟨ByteArray.empty, 0, 0⟩⟩
section
variable {H : Type} {enc : TypeId × Value → H} {P : Program} {w : World} {base : Nat} {spare : Nat → Bool} {held : Bool}
theorem open_teams {t e : TypeId} {f0 f1 f2 : Field} {fuel : Nat} {cs : List Value} {x : DataW H × List MemPlace} (ht : P.underlying t = some (.slice e)) (he : P.underlying e = some (.struct #[f0, f1, f2]))
    (ce : P.cellsOf e = 3) (o0 : f0.offset = 0) (o1 : f1.offset = 1) (o2 : f2.offset = 2) (c0 : P.cellsOf f0.type = 1) (c1 : P.cellsOf f1.type = 1) (c2 : P.cellsOf f2.type = 1)
    (u0 : P.underlying f0.type = some .string) (u1 : P.underlying f1.type = some (.int .i64)) (u2 : P.underlying f2.type = some (.int .i64))
    (h : DataW.trod enc P w base spare held fuel t cs = some x) :
    cs = [.slice none 0 0] ∨ ∃ (a : Addr) (len cap : Nat) (g : Nat → TeamD), cs = [.slice (some a) len cap] ∧ len ≤ cap ∧ cap ≤ maxLen ∧
      ∀ i, i < len → (w.cell? (a.add (i * 3)) = some (.string (g i).nm) ∧ w.cell? (a.add (i * 3 + 1)) = some (.int .i64 (g i).club) ∧ w.cell? (a.add (i * 3 + 2)) = some (.int .i64 (g i).seed)) ∧ TeamFit (g i) := by
  rcases Go.Deep.open_slice ht h with ⟨h0, _⟩ | ⟨a, len, cap, m, n, D, Pl, rfl, hb, hl, hm, hmm, rfl, hx⟩
  · exact .inl h0
  right
  have hlm : len ≤ m := by rw [hmm]; split <;> omega
  have each : ∀ i, i < len → ∃ q : TeamD, (w.cell? (a.add (i * 3)) = some (.string q.nm) ∧ w.cell? (a.add (i * 3 + 1)) = some (.int .i64 q.club) ∧ w.cell? (a.add (i * 3 + 2)) = some (.int .i64 q.seed)) ∧ TeamFit q := by
    intro i hi
    obtain ⟨cs', h1, h2⟩ := hx i (by omega)
    rw [ce] at h1
    obtain ⟨_, hlen, hcell⟩ := World.cells?_some h1
    obtain ⟨xs, k, hk, hxy, _, hxl, hf⟩ := DataW.trod_struct he h2
    match xs, hxl, cs', hlen with
    | [y0, y1, y2], _, [v0, v1, v2], _ =>
      have g0 := hf 0 f0 rfl
      have g1 := hf 1 f1 rfl
      have g2 := hf 2 f2 rfl
      simp [o0, o1, o2, c0, c1, c2] at g0 g1 g2
      obtain ⟨s, hs, _, hw⟩ := DataW.trod_string u0 g0
      obtain ⟨z1, hz1, _, k1⟩ := DataW.trod_int u1 g1
      obtain ⟨z2, hz2, _, k2⟩ := DataW.trod_int u2 g2
      have e0 := hcell 0 (by omega)
      have e1 := hcell 1 (by omega)
      have e2 := hcell 2 (by omega)
      rw [Go.Deep.add_add] at e0 e1 e2
      simp only [List.cons.injEq, and_true] at hs hz1 hz2
      subst hs; subst hz1; subst hz2
      exact ⟨⟨s, z1, z2⟩, ⟨by simpa using e0, by simpa using e1, by simpa using e2⟩, hw, k1, k2⟩
  obtain ⟨g, hg⟩ := Go.Deep.choose_lt each
  exact ⟨a, len, cap, g, rfl, hl, hm, hg⟩
end
theorem teamRow_of_open {w : World} {v : Value} {a : Option Addr} {n c : Nat} (hv : v = .slice a n c)
    (h : ([v] : List Value) = [.slice none 0 0] ∨ ∃ (a : Addr) (len cap : Nat) (g : Nat → TeamD), [v] = [.slice (some a) len cap] ∧ len ≤ cap ∧ cap ≤ maxLen ∧
      ∀ i, i < len → (w.cell? (a.add (i * 3)) = some (.string (g i).nm) ∧ w.cell? (a.add (i * 3 + 1)) = some (.int .i64 (g i).club) ∧ w.cell? (a.add (i * 3 + 2)) = some (.int .i64 (g i).seed)) ∧ TeamFit (g i)) :
    ∃ g, TeamRow w v n g ∧ (∀ i, (g i).nm.size ≤ maxLen) ∧ ∀ i, TeamFit (g i) := by
  subst hv
  have hz : TeamFit default := ⟨Nat.zero_le _, WalkArith.wf_i64 (by decide), WalkArith.wf_i64 (by decide)⟩
  rcases h with h | ⟨x, len, cap, g, h, hl, hm, hg⟩
  · simp only [List.cons.injEq, Value.slice.injEq, and_true] at h
    obtain ⟨rfl, rfl, rfl⟩ := h
    exact ⟨fun _ => default, .inl ⟨_, _, rfl, rfl⟩, fun _ => hz.1, fun _ => hz⟩
  · simp only [List.cons.injEq, Value.slice.injEq, and_true] at h
    obtain ⟨rfl, rfl, rfl⟩ := h
    have hfit : ∀ i, TeamFit (if i < n then g i else default) := fun i => by
      by_cases hi : i < n
      · simpa [hi] using (hg i hi).2
      · simpa [hi] using hz
    refine ⟨fun i => if i < n then g i else default, ?_, fun i => (hfit i).1, hfit⟩
    by_cases h0 : n = 0
    · subst h0; exact .inl ⟨_, _, rfl, rfl⟩
    · obtain ⟨b, off, spot⟩ := x
      have hspot : spot = none := by simpa [Addr.add] using World.cell?_spot (hg 0 (by omega)).1.1
      subst hspot
      refine .inr ⟨b, off, c, rfl, by omega, by unfold maxLen at hm; omega, fun i hi => ?_, hl⟩
      have hadd : ∀ j, (⟨b, off, none⟩ : Addr).add j = ⟨b, off + j, none⟩ := fun j => by unfold Addr.add; split <;> simp_all
      have := (hg i hi).1
      simp only [hadd] at this
      simpa [hi, Nat.add_assoc] using this
end Go.Proofs.YteciobkjfmddcaaGreat
set_option linter.unusedVariables false
namespace Go.Proofs.YteciobkjfmddcaaGreat
open Go.RowKit

def tTeam : Ty := tTwo tStr (tTwo tInt tInt)
def tTeamS : Ty := tSl 124 tTeam
theorem opens_Team : Opens Tryz.prog 122 tTeam := opens_struct Tryz.underlying122 (by kernel_rfl) ⟨rfl, _, _, rfl, (opens_str Tryz.underlying9 (by kernel_rfl)), ⟨rfl, _, _, rfl, (opens_int Tryz.underlying3 (by kernel_rfl)), ⟨rfl, (opens_int Tryz.underlying3 (by kernel_rfl))⟩⟩⟩
theorem opens_TeamS : Opens Tryz.prog 38 tTeamS := opens_sl Tryz.underlying38 (by kernel_rfl) opens_Team
def ofTeam (x : tTeam.D) : TeamD := ⟨x.1, x.2.1, x.2.2⟩
def atTeam (d : List tTeam.D) (i : Nat) : TeamD := ((d[i]?).map ofTeam).getD default
theorem flat_Team : FlatT tTeam fun x => (ofTeam x).cells := (flat_two flat_str (flat_two flat_int flat_int))
theorem cells_Team {d : List tTeam.D} {i : Nat} (hi : i < d.length) : cellsAt (fun x => (ofTeam x).cells) d i = (atTeam d i).cells := by
  refine (cellsAt_lt (List.getElem?_eq_getElem hi)).trans ?_
  unfold atTeam; rw [List.getElem?_eq_getElem hi]; rfl
theorem rd_TeamS {w : World} {v : Value} {d : List tTeam.D} : RdA tTeamS w [v] d ↔ TeamRow w v d.length (atTeam d) := by
  have e := fun i (hi : i < d.length) => cells_Team hi
  exact flat_Team.rdA.trans ⟨fun h => RecRow.teams (RecRow.congr h e), fun h => RecRow.congr (TeamRow.rec h) fun i hi => (e i hi).symm⟩
theorem atTeam_size {d : List tTeam.D} (h : tTeamS.fit d) (i : Nat) : (atTeam d i).nm.size ≤ maxLen := by
  unfold atTeam
  cases hx : d[i]? with
  | none => simp [default, maxLen]
  | some x => exact (h x (List.mem_iff_getElem?.2 ⟨i, hx⟩)).1
theorem mks_TeamS (d : List tTeam.D) : tTeamS.mks d = 3 * d.length := sum_const (f := tTeam.mks) (fun _ => rfl) d
theorem mkl_TeamS (d : List tTeam.D) (k : Int) : List.length (α := tTeam.D) (tTeamS.mkd k d) = d.length := mkList_len _ _ _ _
theorem tot_take (d : List tTeam.D) : ∀ k, k ≤ d.length → totT (atTeam d) k = ((d.take k).map tTeam.wt).sum
  | 0, _ => rfl
  | k + 1, h => by
    have hk : k < d.length := by omega
    rw [List.take_add_one, List.getElem?_eq_getElem hk, List.map_append, List.sum_append]
    unfold totT
    rw [tot_take d k (by omega)]
    have e : atTeam d k = ofTeam d[k] := by unfold atTeam; rw [List.getElem?_eq_getElem hk]; rfl
    rw [e]
    show _ + (d[k]).1.size = _ + ((d[k]).1.size + (0 + 0) + 0)
    omega
theorem wt_TeamS (d : List tTeam.D) : tTeamS.wt d = d.length + totT (atTeam d) d.length := by
  rw [tot_take d _ (Nat.le_refl _), List.take_length]; rfl
theorem own_TeamS {w : World} {lo hi : Nat} {v : Value} {d : List tTeam.D} {xs : List Value} (h : w.ownsRow lo 124 3 v d.length xs) (hr : TeamRow w v d.length (atTeam d)) (h1 : ∀ q, v.ownBlock = some q → q < hi) (hh : hi ≤ w.heap.size) : OwN tTeamS w lo hi [v] d :=
  flat_Team.made h (rd_TeamS.2 hr) h1 hh
theorem y_sz_TeamS (v : Value) (d : List tTeam.D) (left : Int) (w : World) (hl0 : 0 ≤ left) (hl : left ≤ 1048576) (h : RdA tTeamS w [v] d) (hf : tTeamS.fit d) : Calls Tryz.prog 40 #[v, .int .i64 left] w (SzT tTeamS d left w) := by
  obtain ⟨l, rfl⟩ : ∃ l : Nat, left = l := ⟨left.toNat, by omega⟩
  refine (szTeamS_any v d.length l (atTeam d) w (rd_TeamS.1 h) (fun i => by have := atTeam_size hf i; unfold maxLen at this; omega) (by omega)).mono fun e w' ⟨⟨r, he, hr⟩, hb⟩ => ⟨⟨r, he, ?_⟩, hb⟩
  rw [wt_TeamS]
  rcases hr with hr | ⟨h1, h2⟩
  · exact .inl hr
  · exact .inr ⟨h1, by omega⟩
theorem y_to_TeamS (v : Value) (d : List tTeam.D) (w : World) (h : RdA tTeamS w [v] d) (hw : tTeamS.wt d ≤ 1048576) : Calls Tryz.prog 48 #[v] w (MadeT tTeamS d w) :=
  (toTeamS_any v d.length (atTeam d) w (rd_TeamS.1 h) (by rw [wt_TeamS] at hw; omega)).mono fun e w' ⟨v', he, hr, ⟨xs, ho⟩, hb⟩ => ⟨v', he, flat_Team.made ho (rd_TeamS.2 hr) (fun q hq => (ho.lt q hq).2) (Nat.le_refl _), hb⟩
theorem y_eq_TeamS (v v' : Value) (d : List tTeam.D) (w : World) (h : RdA tTeamS w [v] d) (h' : RdA tTeamS w [v'] d) : Calls Tryz.prog 53 #[v, v'] w fun e w' => e = .returned (.bool true) ∧ Below w.heap.size w w' :=
  eqTeamS_same v v' d.length (atTeam d) w (rd_TeamS.1 h) (rd_TeamS.1 h')
def teamMk (k : Int) (i : Nat) : TeamD := ⟨mkT (k + 3 * (i : Int)).toNat, k + 3 * (i : Int) + 1, k + 3 * (i : Int) + 1 + 1⟩
theorem mk_TeamS (d : List tTeam.D) (k : Int) (i : Nat) (hi : i < d.length) : atTeam (tTeamS.mkd k d) i = teamMk k i := by
  have h := mkList_get (mks := tTeam.mks) (mkd := tTeam.mkd) (m := 3) (fun _ => rfl) d k i
  have h2 : (mkList tTeam.mks tTeam.mkd k d)[i]? = some (tTeam.mkd (k + ((3 : Nat) : Int) * i) d[i]) := by
    rw [h, List.getElem?_eq_getElem hi]; rfl
  unfold atTeam
  refine (congrArg (fun o => (Option.map ofTeam o).getD default) h2).trans ?_
  rfl
set_option maxRecDepth 100000 in
set_option maxHeartbeats 2000000 in
theorem y_mk_TeamS (v : Value) (d : List tTeam.D) (k : Int) (lo hi : Nat) (w : World) (h : OwN tTeamS w lo hi [v] d) (h0 : 0 < k) (hk : k + tTeamS.mks d ≤ 1000000000000) : Calls Tryz.prog 56 #[v, .int .i64 k] w (MarkT tTeamS [v] d k lo hi w) := by
  obtain ⟨⟨xs, hown, _⟩, hin⟩ := flat_Team.owned h
  have hhi := h.hi_le
  have hm := mks_TeamS d
  have hm2 : k + 3 * (d.length : Int) ≤ 1000000000000 := by omega
  have HFin : Hid (∀ w', TeamRow w' v d.length (teamMk k) → RdN tTeamS w' lo hi [v] (tTeamS.mkd k d)) := fun w' hr => by
    have h1 : RecRow 3 w' v d.length (fun i => (atTeam (tTeamS.mkd k d) i).cells) := RecRow.congr (TeamRow.rec hr) (fun i hi => by rw [mk_TeamS d k i hi])
    rw [← mkl_TeamS d k] at h1
    exact flat_Team.reads (flat_Team.row (rd_TeamS.2 h1.teams)) fun _ q hq => hin q hq
  have HM : Hid (tTeamS.mks d = 3 * d.length) := hm
  unfold MarkT
  rw [hm]
  clear hm hk h
  generalize tTeamS.mkd k d = d2 at *
  obtain ⟨n, hn⟩ : ∃ n, d.length = n := ⟨_, rfl⟩
  rw [hn] at hown hm2 HFin ⊢
  clear hn HM
  obtain ⟨a, cap, rfl, hv⟩ : ∃ a cap, v = .slice a n cap ∧ (0 < n → ∃ g, a = some ⟨g, 0, none⟩ ∧ lo ≤ g ∧ g < hi) := by
    rcases hown.2 with ⟨rfl, rfl⟩ | ⟨g, cap, cur, rfl, hg, _⟩
    · exact ⟨_, _, rfl, fun h => absurd h (by omega)⟩
    · exact ⟨_, _, rfl, fun _ => ⟨g, rfl, hg, (hin g rfl).2⟩⟩
  have HV := Lib.hid hv
  clear hv hin
  go_enter Tryz.func56, Tryz.ntmps56
  go_wp2
  go_loopw [1, 5] (fun kv i wr => ∃ (j : Nat) (ys : List Value), j ≤ n ∧ i = .int .i64 j ∧ kv = .int .i64 (k + 3 * (j : Int)) ∧ wr.ownsRow lo 124 3 (.slice a n cap) n ys ∧ Hid (RecCells 3 j ys fun i => (teamMk k i).cells) ∧ Hid (Touch lo hi w wr))
    (fun _ i _ => n - (RowKit.intOf i).toNat)
  case atStart => exact ⟨0, xs, Nat.zero_le _, rfl, by go_num, hown, RecCells.nil, Touch.refl _ _ _⟩
  case round =>
    obtain ⟨j, ys, hj, rfl, rfl, hown', hys, ht⟩ := hrel
    clear hown
    by_cases hlt : j < n
    · obtain ⟨g, rfl, hg, hg2⟩ := HV.out (by omega)
      clear HV
      obtain ⟨K, hK⟩ : ∃ K : Nat, k + 3 * (j : Int) = (K : Int) := ⟨(k + 3 * (j : Int)).toNat, by omega⟩
      have CM := Lib.hid (fun w => markText_any K w (by omega) (by omega))
      have HKK : Hid ((teamMk k j).cells = [.string (mkT K), .int .i64 ((K : Int) + 1), .int .i64 ((K : Int) + 1 + 1)]) := by
        show _ = _
        unfold teamMk TeamD.cells
        rw [hK, Int.toNat_natCast]
      have HKn : Hid ((K : Int) + 1 + 1 + 1 = k + 3 * ((j + 1 : Nat) : Int)) := (by show _ = _; omega)
      have hKb : (K : Int) + 3 ≤ 1000000000001 := by omega
      rw [hK]
      clear hK
      have HO := Lib.hid hown'
      clear hown'
      go_wp2_with fail
      refine (CM.out _).mono ?_
      rintro e w1 ⟨rfl, hb1⟩
      have hown1 := owns_below HO.out hb1 (Nat.le_refl _)
      obtain ⟨⟨u0, e0⟩, ⟨u1, e1⟩, ⟨u2, e2⟩⟩ := owns_cells3 hown1 j hlt
      have f0 := hown1.frozenAt (j * 3)
      have f1 := hown1.frozenAt (j * 3 + 1)
      have f2 := hown1.frozenAt (j * 3 + 2)
      have HO1 := Lib.hid hown1
      have HB1 := Lib.hid hb1
      clear hown1 hb1 CM
      go_wp2
      go_roundw
      case rel =>
        refine ⟨j + 1, _, by omega, by go_num, ?_, owns_set3 HO1.out j _ _ _, hys.out.sets (cs := [.string (mkT K), .int .i64 ((K : Int) + 1), .int .i64 ((K : Int) + 1 + 1)]) HO1.out.1 hlt HKK.out rfl (fun _ _ => Nat.le_refl _), ?_⟩
        · rw [← HKn.out]
        · exact (((ht.out.trans (Touch.of_below HB1.out)).setCell _ _ hg hg2).setCell _ _ hg hg2).setCell _ _ hg hg2
      case measure => simp [RowKit.intOf]; omega
    · obtain rfl : j = n := by omega
      have HR := Lib.hid (HFin.out _ (RecRow.teams (RecRow.of_owns hown' (by omega) hys.out (fun _ _ => Nat.le_refl _))))
      clear hown' hys HFin
      go_wp2
      go_ret
      exact ⟨by first | rfl | (congr 2 <;> omega), HR.out, ht.out⟩
theorem yb_mk_TeamS (v : Value) (d : List tTeam.D) (k : Int) (lo : Nat) (bs : List Nat) (w : World) (h : tTeamS.Ow w lo [v] d bs) (hnd : bs.Nodup) (h0 : 0 < k) (hk : k + tTeamS.mks d ≤ 1000000000000) : Calls Tryz.prog 56 #[v, .int .i64 k] w (MarkC tTeamS [v] (tTeamS.mkd k d) (tTeamS.mks d) k bs w) :=
  flat_mark flat_Team h fun lo hi ho => y_mk_TeamS v d k lo hi w ho h0 hk
end Go.Proofs.YteciobkjfmddcaaGreat
set_option linter.unusedVariables false
namespace Go.Proofs.YteciobkjfmddcaaGreat
open Go.RowKit

def tRules : Ty := tTwo tInt (tTwo tInt (tTwo tInt (tTwo tIntS tBool)))
theorem opens_Rules : Opens Tryz.prog 39 tRules := opens_struct Tryz.underlying39 (by kernel_rfl) ⟨rfl, _, _, rfl, (opens_int Tryz.underlying3 (by kernel_rfl)), ⟨rfl, _, _, rfl, (opens_int Tryz.underlying3 (by kernel_rfl)), ⟨rfl, _, _, rfl, (opens_int Tryz.underlying3 (by kernel_rfl)), ⟨rfl, _, _, rfl, opens_IntS, ⟨rfl, (opens_bool Tryz.underlying4 (by kernel_rfl))⟩⟩⟩⟩⟩
set_option maxRecDepth 100000 in
set_option maxHeartbeats 2000000 in
theorem y_sz_Rules (x_Win : Int) (x_Draw : Int) (x_Loss : Int) (vx_Ladder : Value) (x_Again : Bool) (d : tRules.D) (left : Int) (w : World) (hl0 : 0 ≤ left) (hl : left ≤ 1048576) (h : RdA tRules w [.int .i64 x_Win, .int .i64 x_Draw, .int .i64 x_Loss, vx_Ladder, .bool x_Again] d) : Calls Tryz.prog 41 #[.agg #[.int .i64 x_Win, .int .i64 x_Draw, .int .i64 x_Loss, vx_Ladder, .bool x_Again], .int .i64 left] w (SzT tRules d left w) := by
  have hwt : tRules.wt d = (tInt.wt d.1 + (tInt.wt d.2.1 + (tInt.wt d.2.2.1 + (tIntS.wt d.2.2.2.1 + tBool.wt d.2.2.2.2)))) := rfl
  have hz0 : tInt.wt d.1 = 0 := rfl
  have hz1 : tInt.wt d.2.1 = 0 := rfl
  have hz2 : tInt.wt d.2.2.1 = 0 := rfl
  have hz4 : tBool.wt d.2.2.2.2 = 0 := rfl
  have P0 : RdA tInt w [.int .i64 x_Win] d.1 := (rd_split h).1
  have Pt0 := (rd_split h).2
  have P1 : RdA tInt w [.int .i64 x_Draw] d.2.1 := (rd_split Pt0).1
  have Pt1 := (rd_split Pt0).2
  have P2 : RdA tInt w [.int .i64 x_Loss] d.2.2.1 := (rd_split Pt1).1
  have Pt2 := (rd_split Pt1).2
  have P3 : RdA tIntS w [vx_Ladder] d.2.2.2.1 := (rd_split Pt2).1
  have Pt3 := (rd_split Pt2).2
  have P4 : RdA tBool w [.bool x_Again] d.2.2.2.2 := Pt3
  clear Pt0 Pt1 Pt2 Pt3
  have HP3 := Lib.hid P3
  obtain ⟨W3, hW3⟩ : ∃ z, tIntS.wt d.2.2.2.1 = z := ⟨_, rfl⟩
  unfold SzT
  rw [hwt]
  rw [hz0, hz1, hz2, hz4]
  clear hwt h P0 P1 P2 P3 P4 hz0 hz1 hz2 hz4
  have HB0 : Hid (Below w.heap.size w (w.alloc (.cells #[.int .i64 x_Win, .int .i64 x_Draw, .int .i64 x_Loss, vx_Ladder, .bool x_Again] 39))) := (Below.refl _ _).alloc (Nat.le_refl _) _
  have BX0 : Hid (BoxN (w.alloc (.cells #[.int .i64 x_Win, .int .i64 x_Draw, .int .i64 x_Loss, vx_Ladder, .bool x_Again] 39)) w.heap.size [.int .i64 x_Win, .int .i64 x_Draw, .int .i64 x_Loss, vx_Ladder, .bool x_Again]) := BoxN.made (Below.refl _ _) rfl
  have c0 := BX0.out.2 0 _ rfl
  have c1 := BX0.out.2 1 _ rfl
  have c2 := BX0.out.2 2 _ rfl
  have c3 := BX0.out.2 3 _ rfl
  have c4 := BX0.out.2 4 _ rfl
  go_enter Tryz.func41, Tryz.ntmps41
  go_wp2_with fail
  refine (y_sz_IntS vx_Ladder d.2.2.2.1 left _ (by omega) (by omega) (RdA.below HP3.out HB0.out)).mono ?_
  rintro e w1 ⟨⟨r1, rfl, hr1⟩, b1⟩
  rw [hW3] at hr1
  have HB1 := Lib.hid (HB0.out.trans (b1.mono HB0.out.size))
  have BX1 := Lib.hid (BX0.out.below b1)
  clear c0 c1 c2 c3 c4 BX0 b1
  have c0 := BX1.out.2 0 _ rfl
  have c1 := BX1.out.2 1 _ rfl
  have c2 := BX1.out.2 2 _ rfl
  have c3 := BX1.out.2 3 _ rfl
  have c4 := BX1.out.2 4 _ rfl
  by_cases hn1 : r1 < 0
  · have g2 : decide (r1 < 0) = true := decide_eq_true hn1
    have HE := Lib.hid HB1.out
    clear hr1
    go_wp2
    go_ret
    exact ⟨⟨-1, rfl, .inl (by omega)⟩, HE.out⟩
  have g1 : decide (r1 < 0) = false := decide_eq_false hn1
  replace hn1 : 0 ≤ r1 ∧ (W3 : Int) + r1 = left := by omega
  clear hr1
  have HE := Lib.hid HB1.out
  go_wp2
  go_ret
  refine ⟨⟨_, rfl, .inr ⟨by omega, ?_⟩⟩, HE.out⟩
  rw [hW3]
  omega
set_option maxRecDepth 100000 in
set_option maxHeartbeats 2000000 in
theorem y_eq_Rules (x_Win : Int) (x_Draw : Int) (x_Loss : Int) (vx_Ladder : Value) (x_Again : Bool) (vx_Ladder' : Value) (d : tRules.D) (w : World) (h : RdA tRules w [.int .i64 x_Win, .int .i64 x_Draw, .int .i64 x_Loss, vx_Ladder, .bool x_Again] d) (h' : RdA tRules w [.int .i64 x_Win, .int .i64 x_Draw, .int .i64 x_Loss, vx_Ladder', .bool x_Again] d) : Calls Tryz.prog 54 #[.agg #[.int .i64 x_Win, .int .i64 x_Draw, .int .i64 x_Loss, vx_Ladder, .bool x_Again], .agg #[.int .i64 x_Win, .int .i64 x_Draw, .int .i64 x_Loss, vx_Ladder', .bool x_Again]] w fun e w' => e = .returned (.bool true) ∧ Below w.heap.size w w' := by
  have P0 : RdA tInt w [.int .i64 x_Win] d.1 := (rd_split h).1
  have Pt0 := (rd_split h).2
  have P1 : RdA tInt w [.int .i64 x_Draw] d.2.1 := (rd_split Pt0).1
  have Pt1 := (rd_split Pt0).2
  have P2 : RdA tInt w [.int .i64 x_Loss] d.2.2.1 := (rd_split Pt1).1
  have Pt2 := (rd_split Pt1).2
  have P3 : RdA tIntS w [vx_Ladder] d.2.2.2.1 := (rd_split Pt2).1
  have Pt3 := (rd_split Pt2).2
  have P4 : RdA tBool w [.bool x_Again] d.2.2.2.2 := Pt3
  clear Pt0 Pt1 Pt2 Pt3
  have Q0 : RdA tInt w [.int .i64 x_Win] d.1 := (rd_split h').1
  have Qt0 := (rd_split h').2
  have Q1 : RdA tInt w [.int .i64 x_Draw] d.2.1 := (rd_split Qt0).1
  have Qt1 := (rd_split Qt0).2
  have Q2 : RdA tInt w [.int .i64 x_Loss] d.2.2.1 := (rd_split Qt1).1
  have Qt2 := (rd_split Qt1).2
  have Q3 : RdA tIntS w [vx_Ladder'] d.2.2.2.1 := (rd_split Qt2).1
  have Qt3 := (rd_split Qt2).2
  have Q4 : RdA tBool w [.bool x_Again] d.2.2.2.2 := Qt3
  clear Qt0 Qt1 Qt2 Qt3
  have HP3 := Lib.hid P3
  have HQ3 := Lib.hid Q3
  have HB0 : Hid (Below w.heap.size w ((w.alloc (.cells #[.int .i64 x_Win, .int .i64 x_Draw, .int .i64 x_Loss, vx_Ladder, .bool x_Again] 26)).alloc (.cells #[.int .i64 x_Win, .int .i64 x_Draw, .int .i64 x_Loss, vx_Ladder', .bool x_Again] 26))) := ((Below.refl _ _).alloc (Nat.le_refl _) _).alloc (by simp) _
  have BX0 : Hid (BoxN ((w.alloc (.cells #[.int .i64 x_Win, .int .i64 x_Draw, .int .i64 x_Loss, vx_Ladder, .bool x_Again] 26)).alloc (.cells #[.int .i64 x_Win, .int .i64 x_Draw, .int .i64 x_Loss, vx_Ladder', .bool x_Again] 26)) w.heap.size [.int .i64 x_Win, .int .i64 x_Draw, .int .i64 x_Loss, vx_Ladder, .bool x_Again]) := BoxN.below (BoxN.made (Below.refl _ _) rfl) ((Below.refl _ _).alloc (Nat.le_refl _) _)
  have BY0 : Hid (BoxN ((w.alloc (.cells #[.int .i64 x_Win, .int .i64 x_Draw, .int .i64 x_Loss, vx_Ladder, .bool x_Again] 26)).alloc (.cells #[.int .i64 x_Win, .int .i64 x_Draw, .int .i64 x_Loss, vx_Ladder', .bool x_Again] 26)) (w.heap.size + 1) [.int .i64 x_Win, .int .i64 x_Draw, .int .i64 x_Loss, vx_Ladder', .bool x_Again]) := BoxN.made (Below.refl _ _) (by simp)
  clear h h' P0 Q0 P1 Q1 P2 Q2 P3 Q3 P4 Q4
  have c0 := BX0.out.2 0 _ rfl
  have c1 := BX0.out.2 1 _ rfl
  have c2 := BX0.out.2 2 _ rfl
  have c3 := BX0.out.2 3 _ rfl
  have c4 := BX0.out.2 4 _ rfl
  have e0 := BY0.out.2 0 _ rfl
  have e1 := BY0.out.2 1 _ rfl
  have e2 := BY0.out.2 2 _ rfl
  have e3 := BY0.out.2 3 _ rfl
  have e4 := BY0.out.2 4 _ rfl
  have bl := BX0.out.1
  have bm := BY0.out.1
  go_enter Tryz.func54, Tryz.ntmps54
  go_wp2_with fail
  refine (y_eq_IntS vx_Ladder vx_Ladder' d.2.2.2.1 _ (RdA.below HP3.out HB0.out) (RdA.below HQ3.out HB0.out)).mono ?_
  rintro e w1 ⟨rfl, b1⟩
  have HB1 := Lib.hid (HB0.out.trans (b1.mono HB0.out.size))
  have BX1 := Lib.hid (BX0.out.below b1)
  have BY1 := Lib.hid (BY0.out.below b1)
  clear c0 c1 c2 c3 c4 e0 e1 e2 e3 e4 bl bm BX0 BY0 b1
  have c0 := BX1.out.2 0 _ rfl
  have c1 := BX1.out.2 1 _ rfl
  have c2 := BX1.out.2 2 _ rfl
  have c3 := BX1.out.2 3 _ rfl
  have c4 := BX1.out.2 4 _ rfl
  have e0 := BY1.out.2 0 _ rfl
  have e1 := BY1.out.2 1 _ rfl
  have e2 := BY1.out.2 2 _ rfl
  have e3 := BY1.out.2 3 _ rfl
  have e4 := BY1.out.2 4 _ rfl
  have bl := BX1.out.1
  have bm := BY1.out.1
  have HE := Lib.hid HB1.out
  go_wp2
  go_ret
  exact ⟨rfl, HE.out⟩
set_option maxRecDepth 100000 in
set_option maxHeartbeats 4000000 in
theorem y_to_Rules (x_Win : Int) (x_Draw : Int) (x_Loss : Int) (vx_Ladder : Value) (x_Again : Bool) (d : tRules.D) (w : World) (h : RdA tRules w [.int .i64 x_Win, .int .i64 x_Draw, .int .i64 x_Loss, vx_Ladder, .bool x_Again] d) (hw : tRules.wt d ≤ 1048576) : Calls Tryz.prog 49 #[.agg #[.int .i64 x_Win, .int .i64 x_Draw, .int .i64 x_Loss, vx_Ladder, .bool x_Again]] w (fun e w' => ∃ vx_Ladder' : Value, e = .returned (.agg #[.int .i64 x_Win, .int .i64 x_Draw, .int .i64 x_Loss, vx_Ladder', .bool x_Again]) ∧ OwN tRules w' w.heap.size w'.heap.size [.int .i64 x_Win, .int .i64 x_Draw, .int .i64 x_Loss, vx_Ladder', .bool x_Again] d ∧ Below w.heap.size w w') := by
  have P0 : RdA tInt w [.int .i64 x_Win] d.1 := (rd_split h).1
  have Pt0 := (rd_split h).2
  have P1 : RdA tInt w [.int .i64 x_Draw] d.2.1 := (rd_split Pt0).1
  have Pt1 := (rd_split Pt0).2
  have P2 : RdA tInt w [.int .i64 x_Loss] d.2.2.1 := (rd_split Pt1).1
  have Pt2 := (rd_split Pt1).2
  have P3 : RdA tIntS w [vx_Ladder] d.2.2.2.1 := (rd_split Pt2).1
  have Pt3 := (rd_split Pt2).2
  have P4 : RdA tBool w [.bool x_Again] d.2.2.2.2 := Pt3
  clear Pt0 Pt1 Pt2 Pt3
  have HP0 := Lib.hid P0
  have HP1 := Lib.hid P1
  have HP2 := Lib.hid P2
  have HP3 := Lib.hid P3
  have HP4 := Lib.hid P4
  have hwt : tRules.wt d = (tInt.wt d.1 + (tInt.wt d.2.1 + (tInt.wt d.2.2.1 + (tIntS.wt d.2.2.2.1 + tBool.wt d.2.2.2.2)))) := rfl
  rw [hwt] at hw
  have hw3 : tIntS.wt d.2.2.2.1 ≤ 1048576 := by omega
  have HW3 := Lib.hid hw3
  clear hw hwt hw3
  have HB0 : Hid (Below w.heap.size w (((w.alloc (.cells #[.int .i64 x_Win, .int .i64 x_Draw, .int .i64 x_Loss, vx_Ladder, .bool x_Again] 39)).alloc (.cells #[.int .i64 0, .int .i64 0, .int .i64 0, .slice none 0 0, .bool false] 26)).alloc (.cells #[.int .i64 x_Win, .int .i64 x_Draw, .int .i64 x_Loss, .slice none 0 0, .bool false] 26))) := (((Below.refl _ _).alloc (Nat.le_refl _) _).alloc (by simp) _).alloc (by simp <;> omega) _
  have BX0 : Hid (BoxN (((w.alloc (.cells #[.int .i64 x_Win, .int .i64 x_Draw, .int .i64 x_Loss, vx_Ladder, .bool x_Again] 39)).alloc (.cells #[.int .i64 0, .int .i64 0, .int .i64 0, .slice none 0 0, .bool false] 26)).alloc (.cells #[.int .i64 x_Win, .int .i64 x_Draw, .int .i64 x_Loss, .slice none 0 0, .bool false] 26)) w.heap.size [.int .i64 x_Win, .int .i64 x_Draw, .int .i64 x_Loss, vx_Ladder, .bool x_Again]) := BoxN.below (BoxN.below (BoxN.made (Below.refl _ _) rfl) ((Below.refl _ _).alloc (Nat.le_refl _) _)) ((Below.refl _ _).alloc (Nat.le_refl _) _)
  have RS0 : Hid (ResAt (((w.alloc (.cells #[.int .i64 x_Win, .int .i64 x_Draw, .int .i64 x_Loss, vx_Ladder, .bool x_Again] 39)).alloc (.cells #[.int .i64 0, .int .i64 0, .int .i64 0, .slice none 0 0, .bool false] 26)).alloc (.cells #[.int .i64 x_Win, .int .i64 x_Draw, .int .i64 x_Loss, .slice none 0 0, .bool false] 26)) (w.heap.size + 1) 5) := ResAt.below (ResAt.made' (by simp) rfl) ((Below.refl _ _).alloc (Nat.le_refl _) _)
  have BO0 : Hid (BoxF (((w.alloc (.cells #[.int .i64 x_Win, .int .i64 x_Draw, .int .i64 x_Loss, vx_Ladder, .bool x_Again] 39)).alloc (.cells #[.int .i64 0, .int .i64 0, .int .i64 0, .slice none 0 0, .bool false] 26)).alloc (.cells #[.int .i64 x_Win, .int .i64 x_Draw, .int .i64 x_Loss, .slice none 0 0, .bool false] 26)) (w.heap.size + 2) [.int .i64 x_Win, .int .i64 x_Draw, .int .i64 x_Loss, .slice none 0 0, .bool false]) := BoxF.made (Below.refl _ _) (by simp)
  clear h P0 P1 P2 P3 P4
  have c0 := BX0.out.2 0 _ rfl
  have c1 := BX0.out.2 1 _ rfl
  have c2 := BX0.out.2 2 _ rfl
  have c3 := BX0.out.2 3 _ rfl
  have c4 := BX0.out.2 4 _ rfl
  have o0 := BO0.out.2 0 _ rfl
  have o1 := BO0.out.2 1 _ rfl
  have o2 := BO0.out.2 2 _ rfl
  have o3 := BO0.out.2 3 _ rfl
  have o4 := BO0.out.2 4 _ rfl
  have bl := BX0.out.1
  have bm := BO0.out.1
  have bn := RS0.out.lt
  obtain ⟨⟨z0, q0⟩, y0⟩ := RS0.out.at 0 (by omega)
  obtain ⟨⟨z1, q1⟩, y1⟩ := RS0.out.at 1 (by omega)
  obtain ⟨⟨z2, q2⟩, y2⟩ := RS0.out.at 2 (by omega)
  obtain ⟨⟨z3, q3⟩, y3⟩ := RS0.out.at 3 (by omega)
  obtain ⟨⟨z4, q4⟩, y4⟩ := RS0.out.at 4 (by omega)
  go_enter Tryz.func49, Tryz.ntmps49
  go_wp2_with fail
  clear c0 o0 q0 y0 c1 o1 q1 y1 c2 o2 q2 y2 c3 o3 q3 y3 c4 o4 q4 y4 bl bm bn
  refine (y_to_IntS vx_Ladder d.2.2.2.1 _ (RdA.below HP3.out HB0.out) HW3.out).mono ?_
  rintro e w1 ⟨u3_0, rfl, ho1, b1⟩
  have hs1 := b1.size
  have hS1 : w.heap.size + 3 ≤ w1.heap.size := by simp at hs1; omega
  have HBc1 := Lib.hid (HB0.out.trans (b1.mono HB0.out.size))
  have BXc1 := Lib.hid (BX0.out.below b1)
  have RSc1 := Lib.hid (RS0.out.below b1)
  have BOc1 := Lib.hid (BO0.out.below b1)
  have O3_c1 := Lib.hid (ho1.mono (lo' := w.heap.size + 3) (hi' := w1.heap.size) (by simp) (Nat.le_refl _) (Nat.le_refl _))
  clear HB0 BX0 RS0 BO0 hs1 b1 ho1
  obtain ⟨au3_0, nu3_0, ku3_0, hu3_0⟩ := rd_slice O3_c1.out.rd
  subst hu3_0
  have c0 := BXc1.out.2 0 _ rfl
  have c1 := BXc1.out.2 1 _ rfl
  have c2 := BXc1.out.2 2 _ rfl
  have c3 := BXc1.out.2 3 _ rfl
  have c4 := BXc1.out.2 4 _ rfl
  have o0 := BOc1.out.2 0 _ rfl
  have o1 := BOc1.out.2 1 _ rfl
  have o2 := BOc1.out.2 2 _ rfl
  have o3 := BOc1.out.2 3 _ rfl
  have o4 := BOc1.out.2 4 _ rfl
  have bl := BXc1.out.1
  have bm := BOc1.out.1
  have bn := RSc1.out.lt
  obtain ⟨⟨z0, q0⟩, y0⟩ := RSc1.out.at 0 (by omega)
  obtain ⟨⟨z1, q1⟩, y1⟩ := RSc1.out.at 1 (by omega)
  obtain ⟨⟨z2, q2⟩, y2⟩ := RSc1.out.at 2 (by omega)
  obtain ⟨⟨z3, q3⟩, y3⟩ := RSc1.out.at 3 (by omega)
  obtain ⟨⟨z4, q4⟩, y4⟩ := RSc1.out.at 4 (by omega)
  go_wp2
  (try simp only [Exit.inBlock, Exit.then])
  refine post_named fun w99 hw99 => ?_
  clear c0 o0 q0 y0 c1 o1 q1 y1 c2 o2 q2 y2 c3 o3 q3 y3 c4 o4 q4 y4 bl bm bn
  have HBs1 := Lib.hid (HBc1.out.setCell (p := ⟨w.heap.size + 2, 3, none⟩) (by simp) (.slice au3_0 nu3_0 ku3_0))
  have BXs1 := Lib.hid (BXc1.out.elsewhere (D := w.heap.size + 2) 3 (.slice au3_0 nu3_0 ku3_0) (by omega))
  have RSs1 := Lib.hid (RSc1.out.elsewhere (D := w.heap.size + 2) 3 (.slice au3_0 nu3_0 ku3_0) (by omega))
  have BOs1 := Lib.hid (BOc1.out.set 3 (.slice au3_0 nu3_0 ku3_0) (by simp))
  have O3_s1 := Lib.hid (O3_c1.out.touch ((Touch.refl (w.heap.size + 2) (w.heap.size + 3) _).setCell ⟨w.heap.size + 2, 3, none⟩ (.slice au3_0 nu3_0 ku3_0) (by simp) (by simp)) (.inr (by omega)))
  clear HBc1 BXc1 RSc1 BOc1 O3_c1
  have HBs2 := Lib.hid (HBs1.out.setCell (p := ⟨w.heap.size + 2, 4, none⟩) (by simp) (.bool x_Again))
  have BXs2 := Lib.hid (BXs1.out.elsewhere (D := w.heap.size + 2) 4 (.bool x_Again) (by omega))
  have RSs2 := Lib.hid (RSs1.out.elsewhere (D := w.heap.size + 2) 4 (.bool x_Again) (by omega))
  have BOs2 := Lib.hid (BOs1.out.set 4 (.bool x_Again) (by simp))
  have O3_s2 := Lib.hid (O3_s1.out.touch ((Touch.refl (w.heap.size + 2) (w.heap.size + 3) _).setCell ⟨w.heap.size + 2, 4, none⟩ (.bool x_Again) (by simp) (by simp)) (.inr (by omega)))
  clear HBs1 BXs1 RSs1 BOs1 O3_s1
  have HX9 := RSs2.out.put (vs := [.int .i64 x_Win, .int .i64 x_Draw, .int .i64 x_Loss, .slice au3_0 nu3_0 ku3_0, .bool x_Again]) rfl
  have HB9 := Below.putCs (C := w.heap.size) (B := w.heap.size + 1) (by omega) [.int .i64 x_Win, .int .i64 x_Draw, .int .i64 x_Loss, .slice au3_0 nu3_0 ku3_0, .bool x_Again] 0 _ _ HBs2.out
  have O3_9 := O3_s2.out.touch (Touch.putCs (lo := w.heap.size + 1) (hi := w.heap.size + 2) (B := w.heap.size + 1) (by omega) (by omega) [.int .i64 x_Win, .int .i64 x_Draw, .int .i64 x_Loss, .slice au3_0 nu3_0 ku3_0, .bool x_Again] 0 _ _ (Touch.refl _ _ _)) (.inr (by omega))
  have e99 : w99 = putCs _ (w.heap.size + 1) 0 [.int .i64 x_Win, .int .i64 x_Draw, .int .i64 x_Loss, .slice au3_0 nu3_0 ku3_0, .bool x_Again] := hw99.out
  rw [← e99] at HX9 HB9 O3_9
  clear hw99 e99
  have h9 : w1.heap.size ≤ w99.heap.size := O3_9.hi_le
  have HD : OwN tRules w99 (w.heap.size + 3) w1.heap.size [.int .i64 x_Win, .int .i64 x_Draw, .int .i64 x_Loss, .slice au3_0 nu3_0 ku3_0, .bool x_Again] (x_Win, x_Draw, x_Loss, d.2.2.2.1, x_Again) := (OwN.two (OwN.int w99 x_Win (lo := w.heap.size + 3) (hi := w.heap.size + 3) (by omega)) (OwN.two (OwN.int w99 x_Draw (lo := w.heap.size + 3) (hi := w.heap.size + 3) (by omega)) (OwN.two (OwN.int w99 x_Loss (lo := w.heap.size + 3) (hi := w.heap.size + 3) (by omega)) (OwN.two O3_9 (OwN.bool w99 x_Again (lo := w1.heap.size) (hi := w1.heap.size) (by omega)) (by omega) (by omega)) (by omega) (by omega)) (by omega) (by omega)) (by omega) (by omega))
  have hd0 : d.1 = x_Win := scalar_int HP0.out
  have hd1 : d.2.1 = x_Draw := scalar_int HP1.out
  have hd2 : d.2.2.1 = x_Loss := scalar_int HP2.out
  have hd4 : d.2.2.2.2 = x_Again := scalar_bool HP4.out
  have hdd : ((x_Win, x_Draw, x_Loss, d.2.2.2.1, x_Again) : tRules.D) = d := by
    rw [← hd0, ← hd1, ← hd2, ← hd4]
    rfl
  rw [hdd] at HD
  have HD9 := Lib.hid (HD.mono (lo' := w.heap.size) (hi' := w99.heap.size) (by omega) h9 (Nat.le_refl _))
  have HB99 := Lib.hid HB9
  have HX99 := Lib.hid HX9
  clear HB9 HX9 HD hdd hd0 hd1 hd2 hd4
  have x0 := (HX99.out.2 0 _ rfl).1
  have x1 := (HX99.out.2 1 _ rfl).1
  have x2 := (HX99.out.2 2 _ rfl).1
  have x3 := (HX99.out.2 3 _ rfl).1
  have x4 := (HX99.out.2 4 _ rfl).1
  have x_lt := HX99.out.1
  refine bodyPost_ret (v := .agg #[.int .i64 x_Win, .int .i64 x_Draw, .int .i64 x_Loss, .slice au3_0 nu3_0 ku3_0, .bool x_Again]) ?_ rfl ⟨.slice au3_0 nu3_0 ku3_0, rfl, HD9.out, HB99.out⟩
  rw [results_cell rfl]
  go_simp
def cnt_Rules (d : tRules.D) : Nat := (0 + (0 + (0 + (tIntS.mks d.2.2.2.1 + 0))))
def top_Rules (k : Int) (d : tRules.D) : tRules.D := (d.1, d.2.1, d.2.2.1, tIntS.mkd (k) d.2.2.2.1, d.2.2.2.2)
set_option maxRecDepth 100000 in
set_option maxHeartbeats 2000000 in
theorem yb_mk_Rules (x_Win : Int) (x_Draw : Int) (x_Loss : Int) (vx_Ladder : Value) (x_Again : Bool) (d : tRules.D) (k : Int) (lo : Nat) (bs : List Nat) (w : World) (h : tRules.Ow w lo [.int .i64 x_Win, .int .i64 x_Draw, .int .i64 x_Loss, vx_Ladder, .bool x_Again] d bs) (hnd : bs.Nodup) (h0 : 0 < k) (hk : k + cnt_Rules d ≤ 1000000000000) : Calls Tryz.prog 57 #[.agg #[.int .i64 x_Win, .int .i64 x_Draw, .int .i64 x_Loss, vx_Ladder, .bool x_Again], .int .i64 k] w (MarkC tRules [.int .i64 x_Win, .int .i64 x_Draw, .int .i64 x_Loss, vx_Ladder, .bool x_Again] (top_Rules k d) (cnt_Rules d) k bs w) := by
  obtain ⟨b0, bt0, hbs0, p0, ht0⟩ := ow_split h
  have P0 : tInt.Ow w lo [.int .i64 x_Win] d.1 b0 := p0
  clear p0
  obtain ⟨b1, bt1, hbs1, p1, ht1⟩ := ow_split ht0
  have P1 : tInt.Ow w lo [.int .i64 x_Draw] d.2.1 b1 := p1
  clear p1
  obtain ⟨b2, bt2, hbs2, p2, ht2⟩ := ow_split ht1
  have P2 : tInt.Ow w lo [.int .i64 x_Loss] d.2.2.1 b2 := p2
  clear p2
  obtain ⟨b3, b4, hbs3, p3, ht3⟩ := ow_split ht2
  have P3 : tIntS.Ow w lo [vx_Ladder] d.2.2.2.1 b3 := p3
  clear p3
  have P4 : tBool.Ow w lo [.bool x_Again] d.2.2.2.2 b4 := ht3
  subst hbs3
  subst hbs2
  subst hbs1
  subst hbs0
  have HP0 := Lib.hid P0
  have HP1 := Lib.hid P1
  have HP2 := Lib.hid P2
  have HP3 := Lib.hid P3
  have HP4 := Lib.hid P4
  have HLT := Lib.hid (tRules.ow_lt h)
  have HMEM3 : Hid (∀ q, q ∈ b3 → q ∈ b0 ++ (b1 ++ (b2 ++ (b3 ++ (b4))))) := fun q hq => by simp only [List.mem_append]; simp [hq]
  have ND3 : Hid (b3.Nodup) := by
    have h7 := hnd
    simp only [List.nodup_append] at h7
    exact h7.2.1.2.1.2.1.1
  have hc : cnt_Rules d = (0 + (0 + (0 + (tIntS.mks d.2.2.2.1 + 0)))) := rfl
  unfold MarkC
  rw [hc]
  rw [hc] at hk
  obtain ⟨N3, hN3⟩ : ∃ z, tIntS.mks d.2.2.2.1 = z := ⟨_, rfl⟩
  have HN3 := Lib.hid hN3
  rw [hN3] at hk
  rw [hN3]
  have HE0 : Hid (KeepB (b0 ++ (b1 ++ (b2 ++ (b3 ++ (b4))))) w (w.alloc (.cells #[.int .i64 x_Win, .int .i64 x_Draw, .int .i64 x_Loss, vx_Ladder, .bool x_Again] 26))) := KeepB.of_below ((Below.refl _ _).alloc (Nat.le_refl _) _)
  have BX0 : Hid (BoxN (w.alloc (.cells #[.int .i64 x_Win, .int .i64 x_Draw, .int .i64 x_Loss, vx_Ladder, .bool x_Again] 26)) w.heap.size [.int .i64 x_Win, .int .i64 x_Draw, .int .i64 x_Loss, vx_Ladder, .bool x_Again]) := BoxN.made (Below.refl _ _) rfl
  have Q3_0 := Lib.hid (KeepB.ow (bs := []) HP3.out (KeepB.of_below ((Below.refl _ _).alloc (Nat.le_refl _) (.cells #[.int .i64 x_Win, .int .i64 x_Draw, .int .i64 x_Loss, vx_Ladder, .bool x_Again] 26))) (fun q _ hq => by cases hq))
  clear hc h hnd P0 P1 P2 P3 P4 hN3
  have c0 := BX0.out.2 0 _ rfl
  have c1 := BX0.out.2 1 _ rfl
  have c2 := BX0.out.2 2 _ rfl
  have c3 := BX0.out.2 3 _ rfl
  have c4 := BX0.out.2 4 _ rfl
  have bl := BX0.out.1
  go_enter Tryz.func57, Tryz.ntmps57
  go_wp2_with fail
  refine (yb_mk_IntS vx_Ladder d.2.2.2.1 (k) lo b3 _ Q3_0.out ND3.out (by omega) (by have := HN3.out; omega)).mono ?_
  rintro e w1 ⟨rfl, hr1, hk1⟩
  have HR3_1 := Lib.hid hr1
  have HE1 := Lib.hid (KeepB.mono (KeepB.trans HE0.out hk1) (b2 := b0 ++ (b1 ++ (b2 ++ (b3 ++ (b4))))) (fun q hq => (List.mem_append.1 hq).elim id (HMEM3.out q)))
  have BX1 := Lib.hid (KeepB.box BX0.out hk1 (fun hq => by have := (HLT.out _ (HMEM3.out _ hq)).2; omega))
  rw [HN3.out]
  clear c0 c1 c2 c3 c4 bl BX0 hr1 hk1 HE0 Q3_0
  have c0 := BX1.out.2 0 _ rfl
  have c1 := BX1.out.2 1 _ rfl
  have c2 := BX1.out.2 2 _ rfl
  have c3 := BX1.out.2 3 _ rfl
  have c4 := BX1.out.2 4 _ rfl
  have bl := BX1.out.1
  have HRR : Hid (tRules.Rd w1 (fun q => q ∈ b0 ++ (b1 ++ (b2 ++ (b3 ++ (b4))))) [.int .i64 x_Win, .int .i64 x_Draw, .int .i64 x_Loss, vx_Ladder, .bool x_Again] (top_Rules k d)) := by
    unfold top_Rules
    exact ⟨[.int .i64 x_Win], _, rfl, (scal_int HP0.out), ⟨[.int .i64 x_Draw], _, rfl, (scal_int HP1.out), ⟨[.int .i64 x_Loss], _, rfl, (scal_int HP2.out), ⟨[vx_Ladder], _, rfl, (tIntS.rd_mono HR3_1.out HMEM3.out), (scal_bool HP4.out)⟩⟩⟩⟩
  have HEE := Lib.hid HE1.out
  go_wp2
  go_ret
  exact ⟨ret_int (by omega), HRR.out, HEE.out⟩
theorem form_Rules {w : World} {B : Nat → Prop} {cs : List Value} {d : tRules.D} (h : tRules.Rd w B cs d) : ∃ (x_Win : Int) (x_Draw : Int) (x_Loss : Int) (vx_Ladder : Value) (x_Again : Bool), cs = [.int .i64 x_Win, .int .i64 x_Draw, .int .i64 x_Loss, vx_Ladder, .bool x_Again] := by
  obtain ⟨c0, r0, e0, h0, t0⟩ := h
  have g0 : c0 = [.int .i64 d.1] := h0
  obtain ⟨c1, r1, e1, h1, t1⟩ := t0
  have g1 : c1 = [.int .i64 d.2.1] := h1
  obtain ⟨c2, r2, e2, h2, t2⟩ := t1
  have g2 : c2 = [.int .i64 d.2.2.1] := h2
  obtain ⟨c3, r3, e3, h3, t3⟩ := t2
  obtain ⟨vx_Ladder, _, g3, _⟩ := h3
  have h4 := t3
  have g4 : r3 = [.bool d.2.2.2.2] := h4
  exact ⟨d.1, d.2.1, d.2.2.1, vx_Ladder, d.2.2.2.2, by rw [e0, e1, e2, e3, g0, g1, g2, g3, g4]; rfl⟩
theorem cntle_Rules (d : tRules.D) : cnt_Rules d ≤ tRules.mks d := by
  have e1 : cnt_Rules d = (0 + (0 + (0 + (tIntS.mks d.2.2.2.1 + 0)))) := rfl
  have e2 : tRules.mks d = (tInt.mks d.1 + (tInt.mks d.2.1 + (tInt.mks d.2.2.1 + (tIntS.mks d.2.2.2.1 + tBool.mks d.2.2.2.2)))) := rfl
  rw [e1, e2]
  omega
end Go.Proofs.YteciobkjfmddcaaGreat
set_option linter.unusedVariables false
namespace Go.Proofs.YteciobkjfmddcaaGreat
open Go.RowKit

def tGame : Ty := tTwo tInt (tTwo tInt (tTwo tInt (tTwo tInt tInt)))
def tGameS : Ty := tSl 127 tGame
theorem opens_Game : Opens Tryz.prog 129 tGame := opens_struct Tryz.underlying129 (by kernel_rfl) ⟨rfl, _, _, rfl, (opens_int Tryz.underlying3 (by kernel_rfl)), ⟨rfl, _, _, rfl, (opens_int Tryz.underlying3 (by kernel_rfl)), ⟨rfl, _, _, rfl, (opens_int Tryz.underlying3 (by kernel_rfl)), ⟨rfl, _, _, rfl, (opens_int Tryz.underlying3 (by kernel_rfl)), ⟨rfl, (opens_int Tryz.underlying3 (by kernel_rfl))⟩⟩⟩⟩⟩
theorem opens_GameS : Opens Tryz.prog 40 tGameS := opens_sl Tryz.underlying40 (by kernel_rfl) opens_Game
def ofGame (x : tGame.D) : GameD := ⟨x.1, x.2.1, x.2.2.1, x.2.2.2.1, x.2.2.2.2⟩
def atGame (d : List tGame.D) (i : Nat) : GameD := ((d[i]?).map ofGame).getD default
theorem flat_Game : FlatT tGame fun x => (ofGame x).cells := (flat_two flat_int (flat_two flat_int (flat_two flat_int (flat_two flat_int flat_int))))
theorem cells_Game {d : List tGame.D} {i : Nat} (hi : i < d.length) : cellsAt (fun x => (ofGame x).cells) d i = (atGame d i).cells := by
  refine (cellsAt_lt (List.getElem?_eq_getElem hi)).trans ?_
  unfold atGame; rw [List.getElem?_eq_getElem hi]; rfl
theorem rd_GameS {w : World} {v : Value} {d : List tGame.D} : RdA tGameS w [v] d ↔ GameRow w v d.length (atGame d) := by
  have e := fun i (hi : i < d.length) => cells_Game hi
  exact flat_Game.rdA.trans ⟨fun h => RecRow.congr h e, fun h => RecRow.congr h fun i hi => (e i hi).symm⟩
theorem rdN_GameS {w : World} {lo hi : Nat} {v : Value} {d : List tGame.D} (h : GameRow w v d.length (atGame d)) (hi2 : InW lo hi v) : RdN tGameS w lo hi [v] d :=
  flat_Game.reads (flat_Game.row (rd_GameS.2 h)) fun _ q hq => hi2 q hq
theorem wt_GameS (d : List tGame.D) : tGameS.wt d = d.length := by
  show d.length + (d.map tGame.wt).sum = d.length
  have := sum_zero (f := tGame.wt) (fun _ => rfl) d
  omega
theorem mks_GameS (d : List tGame.D) : tGameS.mks d = 5 * d.length := sum_const (f := tGame.mks) (fun _ => rfl) d
theorem mkl_GameS (d : List tGame.D) (k : Int) : List.length (α := tGame.D) (tGameS.mkd k d) = d.length := mkList_len _ _ _ _
theorem mk_GameS (d : List tGame.D) (k : Int) (i : Nat) (hi : i < d.length) : atGame (tGameS.mkd k d) i = gameMk k i := by
  have h := mkList_get (mks := tGame.mks) (mkd := tGame.mkd) (m := 5) (fun _ => rfl) d k i
  have h2 : (mkList tGame.mks tGame.mkd k d)[i]? = some (tGame.mkd (k + ((5 : Nat) : Int) * i) d[i]) := by
    rw [h, List.getElem?_eq_getElem hi]; rfl
  unfold atGame
  refine (congrArg (fun o => (Option.map ofGame o).getD default) h2).trans ?_
  rfl
theorem own_GameS {w : World} {lo hi : Nat} {v : Value} {d : List tGame.D} {xs : List Value} (h : w.ownsRow lo 127 5 v d.length xs) (hr : GameRow w v d.length (atGame d)) (h1 : ∀ q, v.ownBlock = some q → q < hi) (hh : hi ≤ w.heap.size) : OwN tGameS w lo hi [v] d :=
  flat_Game.made h (rd_GameS.2 hr) h1 hh
theorem y_sz_GameS (v : Value) (d : List tGame.D) (left : Int) (w : World) (hl0 : 0 ≤ left) (hl : left ≤ 1048576) (h : RdA tGameS w [v] d) : Calls Tryz.prog 42 #[v, .int .i64 left] w (SzT tGameS d left w) :=
  (x_sz_GameS v d.length (atGame d) left w hl0 hl (rd_GameS.1 h)).mono fun e w' ⟨⟨r, he, hr⟩, hb⟩ => ⟨⟨r, he, by rw [wt_GameS]; exact hr⟩, hb⟩
theorem y_to_GameS (v : Value) (d : List tGame.D) (w : World) (h : RdA tGameS w [v] d) (hw : tGameS.wt d ≤ 1048576) : Calls Tryz.prog 50 #[v] w (MadeT tGameS d w) :=
  (x_to_GameS v d.length (atGame d) w (rd_GameS.1 h) (by rw [wt_GameS] at hw; exact hw)).mono fun e w' ⟨v', he, hr, ⟨xs, ho⟩, hb⟩ => ⟨v', he, flat_Game.made ho (rd_GameS.2 hr) (fun q hq => (ho.lt q hq).2) (Nat.le_refl _), hb⟩
theorem y_eq_GameS (v v' : Value) (d : List tGame.D) (w : World) (h : RdA tGameS w [v] d) (h' : RdA tGameS w [v'] d) : Calls Tryz.prog 55 #[v, v'] w fun e w' => e = .returned (.bool true) ∧ Below w.heap.size w w' :=
  x_eq_GameS v d.length (atGame d) v' w (rd_GameS.1 h) (rd_GameS.1 h')
theorem y_mk_GameS (v : Value) (d : List tGame.D) (k : Int) (lo hi : Nat) (w : World) (h : OwN tGameS w lo hi [v] d) (h0 : 0 < k) (hk : k + tGameS.mks d ≤ 1000000000000) : Calls Tryz.prog 58 #[v, .int .i64 k] w (MarkT tGameS [v] d k lo hi w) := by
  obtain ⟨⟨xs, ho, _⟩, hin⟩ := flat_Game.owned h
  have hm := mks_GameS d
  have hm2 : k + 5 * (d.length : Int) ≤ 1000000000000 := by omega
  refine (x_mk_GameS v d.length k lo hi lo xs w ho hin h0 hm2).mono fun e w' ⟨he, hr, ht⟩ => ⟨by rw [he, hm]; congr 2 <;> omega, ?_, ht⟩
  refine rdN_GameS ?_ hin
  have h1 : RecRow 5 w' v d.length (fun i => (atGame (tGameS.mkd k d) i).cells) := RecRow.congr hr (fun i hi => by rw [mk_GameS d k i hi])
  rw [← mkl_GameS d k] at h1
  exact h1
theorem yb_mk_GameS (v : Value) (d : List tGame.D) (k : Int) (lo : Nat) (bs : List Nat) (w : World) (h : tGameS.Ow w lo [v] d bs) (hnd : bs.Nodup) (h0 : 0 < k) (hk : k + tGameS.mks d ≤ 1000000000000) : Calls Tryz.prog 58 #[v, .int .i64 k] w (MarkC tGameS [v] (tGameS.mkd k d) (tGameS.mks d) k bs w) :=
  flat_mark flat_Game h fun lo hi ho => y_mk_GameS v d k lo hi w ho h0 hk
end Go.Proofs.YteciobkjfmddcaaGreat
