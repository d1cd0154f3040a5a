/-
  The law FnExactReasonText holds for every argument, where the library's own tables are as its text lays them (the card ties that to the text).
-/
import Derived.Test.YteciobkjfmddcaaDoorCards
import Derived.Test.YteciobkjfmddcaaDoorTie
import Derived.WalkKit
import Derived.ProofKit
import Derived.OpenShut
import Derived.ShutString
import Derived.ChangeOld
import Derived.Below
import Derived.Lib.Hide
import Derived.Deep.DeepHandedRow
import Derived.Deep.DeepWitnessRowRef
import Derived.Lib.LaidTab
import Derived.LaidSub
import Derived.WalkSmall
import Derived.Deep.RegionHeld3
import Derived.Test.YteciobkjfmddcaaDoorQ1
import Derived.Test.YteciobkjfmddcaaDoorQ2
import Derived.Test.YteciobkjfmddcaaDoorQ3
import Derived.Test.YteciobkjfmddcaaDoorQ5
import Derived.Test.YteciobkjfmddcaaDoorQ7
import Derived.Test.YteciobkjfmddcaaDoorQ11
namespace Go.Proofs.YteciobkjfmddcaaDoor.fnExactReasonText
open Go.ChangeShapes Go.WideShapes Go.ChangeAt Go.RowKit
open Go.ChangeMaps (open_string shut_string)
set_option linter.unusedVariables false

theorem own : ownKnob Tryd.prog.godebug = none := by kernel_rfl
theorem laidOut : laidOutB Tryd.prog = true := by kernel_rfl
def nmAt (i : Nat) : String := (Rows.fnExactReasonTextRow.laid.map (·.1)).getD i (String.ofList [])
theorem gPow : Tryd.prog.globalNamed (nmAt 2) = some 0 := by kernel_rfl
theorem gPowType : (Tryd.prog.globals[0]?).map (·.type) = some 120 := by kernel_rfl
theorem cPow : Tryd.prog.cellsOf 120 = 20 := by kernel_rfl
theorem cU64 : Tryd.prog.cellsOf 112 = 1 := by kernel_rfl
theorem tabPow {W : World} (h : laidMetH Tryd.prog Rows.fnExactReasonTextRow.laid W) : PowTab W :=
  at_of_var gPow (Lib.tabIs_of_head (rest := []) gPow gPowType Tryd.underlying120 Tryd.underlying112 cU64 cPow
    (laidMetH.filter (l := Rows.fnExactReasonTextRow.laid) (fun x => x.1 == nmAt 2) h))
noncomputable def laidWorld (os : Os) : World :=
  let w0 := World.holding Tryd.prog os ⟨#[], #[], []⟩
  { w0 with heap := putAt (putAt (putAt w0.heap 2 (valsOf Rows.laid_math_bits_deBruijn32tab)) 3 (valsOf Rows.laid_math_bits_deBruijn64tab)) 0 (valsOf Rows.laid_internal_strconv_uint64pow10) }

set_option maxHeartbeats 4000000 in
set_option maxRecDepth 100000 in
theorem walk (vaB_Field : Value) (aB_Rules_Win : Int) (aB_Rules_Draw : Int) (aB_Rules_Loss : Int) (vaB_Rules_Ladder : Value) (aB_Rules_Again : Bool) (vaB_Games : Value) (vaB_Fair : Value) (vaB_Taken : Value) (d_aB : tBook.D) (aR_Key : Int) (vaR_Group : Value) (aR_First : Int) (aR_Other : Int) (d_aR : tReason.D) (w : World) (h_aB : RdA tBook w [vaB_Field, .int .i64 aB_Rules_Win, .int .i64 aB_Rules_Draw, .int .i64 aB_Rules_Loss, vaB_Rules_Ladder, .bool aB_Rules_Again, vaB_Games, vaB_Fair, vaB_Taken] d_aB) (f_aB : tBook.fit d_aB) (h_aR : RdA tReason w [.int .i64 aR_Key, vaR_Group, .int .i64 aR_First, .int .i64 aR_Other] d_aR) (f_aR : tReason.fit d_aR) (htab : PowTab w) :
    Calls Tryd.prog 3 #[.agg #[vaB_Field, .int .i64 aB_Rules_Win, .int .i64 aB_Rules_Draw, .int .i64 aB_Rules_Loss, vaB_Rules_Ladder, .bool aB_Rules_Again, vaB_Games, vaB_Fair, vaB_Taken], .agg #[.int .i64 aR_Key, vaR_Group, .int .i64 aR_First, .int .i64 aR_Other]] w fun e w' => e = .returned (.bool true) ∧ Below w.heap.size w w' := by
  obtain ⟨r0, CS, CI⟩ : ∃ (r0 : ByteArray), Hid (∀ (vaB_Field : Value) (vaB_Rules_Ladder : Value) (vaB_Games : Value) (vaB_Fair : Value) (vaB_Taken : Value) (vaR_Group : Value) (w1 : World), RdA tBook w1 [vaB_Field, .int .i64 aB_Rules_Win, .int .i64 aB_Rules_Draw, .int .i64 aB_Rules_Loss, vaB_Rules_Ladder, .bool aB_Rules_Again, vaB_Games, vaB_Fair, vaB_Taken] d_aB → RdA tReason w1 [.int .i64 aR_Key, vaR_Group, .int .i64 aR_First, .int .i64 aR_Other] d_aR → tBook.wt d_aB ≤ 1048576 → tReason.wt d_aR ≤ 1048576 → Calls Tryd.prog 6 #[.agg #[vaB_Field, .int .i64 aB_Rules_Win, .int .i64 aB_Rules_Draw, .int .i64 aB_Rules_Loss, vaB_Rules_Ladder, .bool aB_Rules_Again, vaB_Games, vaB_Fair, vaB_Taken], .agg #[.int .i64 aR_Key, vaR_Group, .int .i64 aR_First, .int .i64 aR_Other]] w1 fun e w' => e = .returned (.string r0) ∧ Below w1.heap.size w1 w') ∧ Hid (∀ (vaB_Field : Value) (vaB_Rules_Ladder : Value) (vaB_Games : Value) (vaB_Fair : Value) (vaB_Taken : Value) (vaR_Group : Value) (w1 : World), RdA tBook w1 [vaB_Field, .int .i64 aB_Rules_Win, .int .i64 aB_Rules_Draw, .int .i64 aB_Rules_Loss, vaB_Rules_Ladder, .bool aB_Rules_Again, vaB_Games, vaB_Fair, vaB_Taken] d_aB → RdA tReason w1 [.int .i64 aR_Key, vaR_Group, .int .i64 aR_First, .int .i64 aR_Other] d_aR → tBook.wt d_aB ≤ 1048576 → tReason.wt d_aR ≤ 1048576 → PowTab w1 → Calls Tryd.prog 9 #[.agg #[vaB_Field, .int .i64 aB_Rules_Win, .int .i64 aB_Rules_Draw, .int .i64 aB_Rules_Loss, vaB_Rules_Ladder, .bool aB_Rules_Again, vaB_Games, vaB_Fair, vaB_Taken], .agg #[.int .i64 aR_Key, vaR_Group, .int .i64 aR_First, .int .i64 aR_Other]] w1 fun e w' => e = .returned (.string r0) ∧ Below w1.heap.size w1 w') := by
    obtain ⟨R, hR⟩ := boolEx (textP (bookOf aB_Rules_Win aB_Rules_Draw aB_Rules_Loss aB_Rules_Again d_aB) aR_Key (List.length (α := Int) d_aR.2.1) (getI d_aR.2.1))
    exact ⟨_, fun v0 v1 v2 v3 v4 v5 w1 h h' s s' => reasonText_spec v0 v1 v2 v3 v4 (bookOf aB_Rules_Win aB_Rules_Draw aB_Rules_Loss aB_Rules_Again d_aB) aR_Key aR_First aR_Other v5 (List.length (α := Int) d_aR.2.1) (getI d_aR.2.1) R w1 hR (bookRow h) (bookNames f_aB) (rsn_ints h') (rsn_n s') (rsn_key h' f_aR).1 (rsn_key h' f_aR).2, fun v0 v1 v2 v3 v4 v5 w1 h h' s s' ht => reasonText_impl v0 v1 v2 v3 v4 (bookOf aB_Rules_Win aB_Rules_Draw aB_Rules_Loss aB_Rules_Again d_aB) aR_Key aR_First aR_Other v5 (List.length (α := Int) d_aR.2.1) (getI d_aR.2.1) R w1 hR (bookRow h) (bookNames f_aB) (rsn_ints h') (rsn_n s') (rsn_key h' f_aR).1 (rsn_key h' f_aR).2 ht⟩
  have HTAB := Lib.hid htab
  clear htab
  have HB : Hid (Below w.heap.size w w) := Below.refl _ _
  have HA_aB := Lib.hid h_aB
  have HF_aB := Lib.hid f_aB
  clear h_aB f_aB
  have hsp := HA_aB.out
  obtain ⟨avaB_Field, nvaB_Field, kvaB_Field, hvaB_Field⟩ := rd_slice (rd_splitB hsp).1
  replace hsp := (rd_splitB hsp).2
  have hsq := (rd_splitB hsp).1
  replace hsq := (rd_splitB hsq).2
  replace hsq := (rd_splitB hsq).2
  replace hsq := (rd_splitB hsq).2
  obtain ⟨avaB_Rules_Ladder, nvaB_Rules_Ladder, kvaB_Rules_Ladder, hvaB_Rules_Ladder⟩ := rd_slice (rd_splitB hsq).1
  replace hsq := (rd_splitB hsq).2
  clear hsq
  replace hsp := (rd_splitB hsp).2
  obtain ⟨avaB_Games, nvaB_Games, kvaB_Games, hvaB_Games⟩ := rd_slice (rd_splitB hsp).1
  replace hsp := (rd_splitB hsp).2
  obtain ⟨avaB_Fair, nvaB_Fair, kvaB_Fair, hvaB_Fair⟩ := rd_slice (rd_splitB hsp).1
  replace hsp := (rd_splitB hsp).2
  obtain ⟨avaB_Taken, nvaB_Taken, kvaB_Taken, hvaB_Taken⟩ := rd_slice hsp
  clear hsp
  subst hvaB_Field
  subst hvaB_Rules_Ladder
  subst hvaB_Games
  subst hvaB_Fair
  subst hvaB_Taken
  have HA_aR := Lib.hid h_aR
  have HF_aR := Lib.hid f_aR
  clear h_aR f_aR
  have hsp := HA_aR.out
  replace hsp := (rd_splitB hsp).2
  obtain ⟨avaR_Group, nvaR_Group, kvaR_Group, hvaR_Group⟩ := rd_slice (rd_splitB hsp).1
  replace hsp := (rd_splitB hsp).2
  replace hsp := (rd_splitB hsp).2
  clear hsp
  subst hvaR_Group
  replace HB := Lib.hid (HB.out.trans (((Below.refl w.heap.size w).alloc (Nat.le_refl _) (.cells #[.slice avaB_Field nvaB_Field kvaB_Field, .int .i64 aB_Rules_Win, .int .i64 aB_Rules_Draw, .int .i64 aB_Rules_Loss, .slice avaB_Rules_Ladder nvaB_Rules_Ladder kvaB_Rules_Ladder, .bool aB_Rules_Again, .slice avaB_Games nvaB_Games kvaB_Games, .slice avaB_Fair nvaB_Fair kvaB_Fair, .slice avaB_Taken nvaB_Taken kvaB_Taken] 28)).mono HB.out.size))
  have BX_aB : Hid (BoxN (w.alloc (.cells #[.slice avaB_Field nvaB_Field kvaB_Field, .int .i64 aB_Rules_Win, .int .i64 aB_Rules_Draw, .int .i64 aB_Rules_Loss, .slice avaB_Rules_Ladder nvaB_Rules_Ladder kvaB_Rules_Ladder, .bool aB_Rules_Again, .slice avaB_Games nvaB_Games kvaB_Games, .slice avaB_Fair nvaB_Fair kvaB_Fair, .slice avaB_Taken nvaB_Taken kvaB_Taken] 28)) (w.heap.size) [.slice avaB_Field nvaB_Field kvaB_Field, .int .i64 aB_Rules_Win, .int .i64 aB_Rules_Draw, .int .i64 aB_Rules_Loss, .slice avaB_Rules_Ladder nvaB_Rules_Ladder kvaB_Rules_Ladder, .bool aB_Rules_Again, .slice avaB_Games nvaB_Games kvaB_Games, .slice avaB_Fair nvaB_Fair kvaB_Fair, .slice avaB_Taken nvaB_Taken kvaB_Taken]) := BoxN.made (Below.refl _ _) (by first | rfl | simp | (simp; done))
  replace HB := Lib.hid (HB.out.trans (((Below.refl (w.alloc (.cells #[.slice avaB_Field nvaB_Field kvaB_Field, .int .i64 aB_Rules_Win, .int .i64 aB_Rules_Draw, .int .i64 aB_Rules_Loss, .slice avaB_Rules_Ladder nvaB_Rules_Ladder kvaB_Rules_Ladder, .bool aB_Rules_Again, .slice avaB_Games nvaB_Games kvaB_Games, .slice avaB_Fair nvaB_Fair kvaB_Fair, .slice avaB_Taken nvaB_Taken kvaB_Taken] 28)).heap.size (w.alloc (.cells #[.slice avaB_Field nvaB_Field kvaB_Field, .int .i64 aB_Rules_Win, .int .i64 aB_Rules_Draw, .int .i64 aB_Rules_Loss, .slice avaB_Rules_Ladder nvaB_Rules_Ladder kvaB_Rules_Ladder, .bool aB_Rules_Again, .slice avaB_Games nvaB_Games kvaB_Games, .slice avaB_Fair nvaB_Fair kvaB_Fair, .slice avaB_Taken nvaB_Taken kvaB_Taken] 28))).alloc (Nat.le_refl _) (.cells #[.int .i64 aR_Key, .slice avaR_Group nvaR_Group kvaR_Group, .int .i64 aR_First, .int .i64 aR_Other] 30)).mono HB.out.size))
  replace BX_aB := Lib.hid (BX_aB.out.below ((Below.refl (w.alloc (.cells #[.slice avaB_Field nvaB_Field kvaB_Field, .int .i64 aB_Rules_Win, .int .i64 aB_Rules_Draw, .int .i64 aB_Rules_Loss, .slice avaB_Rules_Ladder nvaB_Rules_Ladder kvaB_Rules_Ladder, .bool aB_Rules_Again, .slice avaB_Games nvaB_Games kvaB_Games, .slice avaB_Fair nvaB_Fair kvaB_Fair, .slice avaB_Taken nvaB_Taken kvaB_Taken] 28)).heap.size (w.alloc (.cells #[.slice avaB_Field nvaB_Field kvaB_Field, .int .i64 aB_Rules_Win, .int .i64 aB_Rules_Draw, .int .i64 aB_Rules_Loss, .slice avaB_Rules_Ladder nvaB_Rules_Ladder kvaB_Rules_Ladder, .bool aB_Rules_Again, .slice avaB_Games nvaB_Games kvaB_Games, .slice avaB_Fair nvaB_Fair kvaB_Fair, .slice avaB_Taken nvaB_Taken kvaB_Taken] 28))).alloc (Nat.le_refl _) (.cells #[.int .i64 aR_Key, .slice avaR_Group nvaR_Group kvaR_Group, .int .i64 aR_First, .int .i64 aR_Other] 30)))
  have BX_aR : Hid (BoxN ((w.alloc (.cells #[.slice avaB_Field nvaB_Field kvaB_Field, .int .i64 aB_Rules_Win, .int .i64 aB_Rules_Draw, .int .i64 aB_Rules_Loss, .slice avaB_Rules_Ladder nvaB_Rules_Ladder kvaB_Rules_Ladder, .bool aB_Rules_Again, .slice avaB_Games nvaB_Games kvaB_Games, .slice avaB_Fair nvaB_Fair kvaB_Fair, .slice avaB_Taken nvaB_Taken kvaB_Taken] 28)).alloc (.cells #[.int .i64 aR_Key, .slice avaR_Group nvaR_Group kvaR_Group, .int .i64 aR_First, .int .i64 aR_Other] 30)) (w.heap.size + 1) [.int .i64 aR_Key, .slice avaR_Group nvaR_Group kvaR_Group, .int .i64 aR_First, .int .i64 aR_Other]) := BoxN.made (Below.refl _ _) (by first | rfl | simp | (simp; done))
  go_enter Tryd.func3, Tryd.ntmps3
  have caB_0 := BX_aB.out.2 0 _ rfl
  have caB_1 := BX_aB.out.2 1 _ rfl
  have caB_2 := BX_aB.out.2 2 _ rfl
  have caB_3 := BX_aB.out.2 3 _ rfl
  have caB_4 := BX_aB.out.2 4 _ rfl
  have caB_5 := BX_aB.out.2 5 _ rfl
  have caB_6 := BX_aB.out.2 6 _ rfl
  have caB_7 := BX_aB.out.2 7 _ rfl
  have caB_8 := BX_aB.out.2 8 _ rfl
  have caB_lt := BX_aB.out.1
  go_wp2_with fail
  refine (y_sz_Book (.slice avaB_Field nvaB_Field kvaB_Field) aB_Rules_Win aB_Rules_Draw aB_Rules_Loss (.slice avaB_Rules_Ladder nvaB_Rules_Ladder kvaB_Rules_Ladder) aB_Rules_Again (.slice avaB_Games nvaB_Games kvaB_Games) (.slice avaB_Fair nvaB_Fair kvaB_Fair) (.slice avaB_Taken nvaB_Taken kvaB_Taken) d_aB (1048576) _ (by omega) (by omega) (RdA.below HA_aB.out HB.out) HF_aB.out).mono ?_
  rintro e w1 ⟨⟨r1, rfl, hr1⟩, b1⟩
  clear caB_0 caB_1 caB_2 caB_3 caB_4 caB_5 caB_6 caB_7 caB_8 caB_lt
  have Z1 : Hid (w.heap.size + 2 ≤ w1.heap.size) := (by have := b1.size; simp at this; show _ ≤ _; omega)
  replace HB := Lib.hid (HB.out.trans (b1.mono HB.out.size))
  replace BX_aB := Lib.hid (BX_aB.out.below b1)
  replace BX_aR := Lib.hid (BX_aR.out.below b1)
  by_cases hn1 : r1 < 0
  · have g2 : decide (r1 < 0) = true := decide_eq_true hn1
    clear hr1
    go_wp2
    go_ret
    exact ⟨rfl, HB.out⟩
  have g1 : decide (r1 < 0) = false := decide_eq_false hn1
  have SM_aB : Hid (tBook.wt d_aB ≤ 1048576) := (by show _ ≤ _; omega)
  replace hn1 : 0 ≤ r1 ∧ r1 ≤ 1048576 := by omega
  clear hr1
  have caR_0 := BX_aR.out.2 0 _ rfl
  have caR_1 := BX_aR.out.2 1 _ rfl
  have caR_2 := BX_aR.out.2 2 _ rfl
  have caR_3 := BX_aR.out.2 3 _ rfl
  have caR_lt := BX_aR.out.1
  go_wp2_with fail
  refine (y_sz_Reason aR_Key (.slice avaR_Group nvaR_Group kvaR_Group) aR_First aR_Other d_aR (r1) _ (by omega) (by omega) (RdA.below HA_aR.out HB.out)).mono ?_
  rintro e w2 ⟨⟨r2, rfl, hr2⟩, b2⟩
  clear caR_0 caR_1 caR_2 caR_3 caR_lt
  have Z2 : Hid (w1.heap.size ≤ w2.heap.size) := (by have := b2.size; show _ ≤ _; omega)
  replace HB := Lib.hid (HB.out.trans (b2.mono HB.out.size))
  replace BX_aB := Lib.hid (BX_aB.out.below b2)
  replace BX_aR := Lib.hid (BX_aR.out.below b2)
  by_cases hn2 : r2 < 0
  · have g2 : decide (r2 < 0) = true := decide_eq_true hn2
    clear hr2
    go_wp2
    go_ret
    exact ⟨rfl, HB.out⟩
  have g2 : decide (r2 < 0) = false := decide_eq_false hn2
  have SM_aR : Hid (tReason.wt d_aR ≤ 1048576) := (by show _ ≤ _; omega)
  replace hn2 : 0 ≤ r2 ∧ r2 ≤ 1048576 := by omega
  clear hr2
  have LE : Hid (w2.heap.size ≤ w2.heap.size) := (by show _ ≤ _; first | exact Nat.le_refl _ | simp)
  obtain ⟨S, HSd⟩ : ∃ S : World → Prop, S = fun w' => Below w.heap.size w w' ∧ BoxN w' (w.heap.size) [.slice avaB_Field nvaB_Field kvaB_Field, .int .i64 aB_Rules_Win, .int .i64 aB_Rules_Draw, .int .i64 aB_Rules_Loss, .slice avaB_Rules_Ladder nvaB_Rules_Ladder kvaB_Rules_Ladder, .bool aB_Rules_Again, .slice avaB_Games nvaB_Games kvaB_Games, .slice avaB_Fair nvaB_Fair kvaB_Fair, .slice avaB_Taken nvaB_Taken kvaB_Taken] ∧ BoxN w' (w.heap.size + 1) [.int .i64 aR_Key, .slice avaR_Group nvaR_Group kvaR_Group, .int .i64 aR_First, .int .i64 aR_Other] ∧ w2.heap.size ≤ w'.heap.size := ⟨_, rfl⟩
  have KS : Hid (∀ wa wb, S wa → Below wa.heap.size wa wb → S wb) := by subst HSd; exact fun wa wb h b => ⟨h.1.trans (b.mono h.1.size), h.2.1.below b, h.2.2.1.below b, Nat.le_trans h.2.2.2 b.size⟩
  have OS : Hid (∀ wa, S wa → Below w.heap.size w wa ∧ BoxN wa (w.heap.size) [.slice avaB_Field nvaB_Field kvaB_Field, .int .i64 aB_Rules_Win, .int .i64 aB_Rules_Draw, .int .i64 aB_Rules_Loss, .slice avaB_Rules_Ladder nvaB_Rules_Ladder kvaB_Rules_Ladder, .bool aB_Rules_Again, .slice avaB_Games nvaB_Games kvaB_Games, .slice avaB_Fair nvaB_Fair kvaB_Fair, .slice avaB_Taken nvaB_Taken kvaB_Taken] ∧ BoxN wa (w.heap.size + 1) [.int .i64 aR_Key, .slice avaR_Group nvaR_Group kvaR_Group, .int .i64 aR_First, .int .i64 aR_Other] ∧ w2.heap.size ≤ wa.heap.size) := by subst HSd; exact fun wa h => h
  have IS : Hid (∀ wa, Below w.heap.size w wa ∧ BoxN wa (w.heap.size) [.slice avaB_Field nvaB_Field kvaB_Field, .int .i64 aB_Rules_Win, .int .i64 aB_Rules_Draw, .int .i64 aB_Rules_Loss, .slice avaB_Rules_Ladder nvaB_Rules_Ladder kvaB_Rules_Ladder, .bool aB_Rules_Again, .slice avaB_Games nvaB_Games kvaB_Games, .slice avaB_Fair nvaB_Fair kvaB_Fair, .slice avaB_Taken nvaB_Taken kvaB_Taken] ∧ BoxN wa (w.heap.size + 1) [.int .i64 aR_Key, .slice avaR_Group nvaR_Group kvaR_Group, .int .i64 aR_First, .int .i64 aR_Other] ∧ w2.heap.size ≤ wa.heap.size → S wa) := by subst HSd; exact fun wa h => h
  clear HSd
  go_wp2_with fail
  refine wp_region_held_drew (S := S) (by kernel_rfl) ?_ (fun hHeld => ?_)
  · exact IS.out _ ((fun (b : Below w2.heap.size w2 _) => ⟨HB.out.trans (b.mono HB.out.size), BX_aB.out.below b, BX_aR.out.below b, Nat.le_trans LE.out b.size⟩) (Below.refl _ _).drew)
  refine wpAnyH_take (i := 0) (v := ?_) rfl (by kernel_rfl) (by kernel_rfl) (by kernel_rfl) (fun _ _ _ h => h) (Or.inl ⟨by rfl, ?_⟩) hHeld ?_
  rotate_left
  · (intro wa hSw; have K := OS.out _ hSw; have caB_0 := (K.2.1).2 0 _ rfl; have caB_1 := (K.2.1).2 1 _ rfl; have caB_2 := (K.2.1).2 2 _ rfl; have caB_3 := (K.2.1).2 3 _ rfl; have caB_4 := (K.2.1).2 4 _ rfl; have caB_5 := (K.2.1).2 5 _ rfl; have caB_6 := (K.2.1).2 6 _ rfl; have caB_7 := (K.2.1).2 7 _ rfl; have caB_8 := (K.2.1).2 8 _ rfl; have caR_0 := (K.2.2.1).2 0 _ rfl; have caR_1 := (K.2.2.1).2 1 _ rfl; have caR_2 := (K.2.2.1).2 2 _ rfl; have caR_3 := (K.2.2.1).2 3 _ rfl; go_simp; try with_reducible rfl)
  simp only [Act.put, List.getElem_toArray, List.getElem_cons_zero, List.setIfInBounds_toArray, List.set_cons_zero, List.set_cons_succ]
  refine wpAnyH_take (i := 2) (v := ?_) rfl (by kernel_rfl) (by kernel_rfl) (by kernel_rfl) (fun _ _ _ h => h) (Or.inl ⟨by rfl, ?_⟩) hHeld ?_
  rotate_left
  · (intro wa hSw; have K := OS.out _ hSw; have caB_0 := (K.2.1).2 0 _ rfl; have caB_1 := (K.2.1).2 1 _ rfl; have caB_2 := (K.2.1).2 2 _ rfl; have caB_3 := (K.2.1).2 3 _ rfl; have caB_4 := (K.2.1).2 4 _ rfl; have caB_5 := (K.2.1).2 5 _ rfl; have caB_6 := (K.2.1).2 6 _ rfl; have caB_7 := (K.2.1).2 7 _ rfl; have caB_8 := (K.2.1).2 8 _ rfl; have caR_0 := (K.2.2.1).2 0 _ rfl; have caR_1 := (K.2.2.1).2 1 _ rfl; have caR_2 := (K.2.2.1).2 2 _ rfl; have caR_3 := (K.2.2.1).2 3 _ rfl; go_simp; try with_reducible rfl)
  simp only [Act.put, List.getElem_toArray, List.getElem_cons_zero, List.getElem_cons_succ, List.setIfInBounds_toArray, List.set_cons_zero, List.set_cons_succ]
  refine wpAnyH_ready (rs := [1]) (by kernel_rfl) (by simp) ?_
  refine AllReadyH.cons (o := _) rfl (fun K hK => ?_) AllReadyH.nil
  go_simp
  have KK := OS.out _ hHeld
  refine (y_to_Book (.slice avaB_Field nvaB_Field kvaB_Field) aB_Rules_Win aB_Rules_Draw aB_Rules_Loss (.slice avaB_Rules_Ladder nvaB_Rules_Ladder kvaB_Rules_Ladder) aB_Rules_Again (.slice avaB_Games nvaB_Games kvaB_Games) (.slice avaB_Fair nvaB_Fair kvaB_Fair) (.slice avaB_Taken nvaB_Taken kvaB_Taken) d_aB _ (RdA.below HA_aB.out (KK.1)) SM_aB.out).mono ?_
  rintro e w103 ⟨vaB_Fieldt1, vaB_Rules_Laddert1, vaB_Gamest1, vaB_Fairt1, vaB_Takent1, rfl, ho, b103⟩
  have HT_aBt1 := Lib.hid ho.rdA
  clear ho
  clear KK
  (try go_wp2_with fail)
  refine hK.out _ _ ?_ (fun hHeld103 => ?_)
  · exact KS.out _ _ hHeld b103
  clear hK K
  refine wpAnyH_ready (rs := [3]) (by kernel_rfl) (by simp) ?_
  refine AllReadyH.cons (o := _) rfl (fun K hK => ?_) AllReadyH.nil
  go_simp
  have KK := OS.out _ hHeld103
  refine (y_to_Reason aR_Key (.slice avaR_Group nvaR_Group kvaR_Group) aR_First aR_Other d_aR _ (RdA.below HA_aR.out (KK.1)) SM_aR.out).mono ?_
  rintro e w104 ⟨vaR_Groupt2, rfl, ho, b104⟩
  replace HT_aBt1 := Lib.hid (HT_aBt1.out.below b104)
  have HT_aRt2 := Lib.hid ho.rdA
  clear ho
  clear KK
  (try go_wp2_with fail)
  refine hK.out _ _ ?_ (fun hHeld104 => ?_)
  · exact KS.out _ _ hHeld103 b104
  clear hK K
  clear hHeld103
  refine wpAnyH_ready (rs := [4]) (by kernel_rfl) (by simp) ?_
  refine AllReadyH.cons (o := _) rfl (fun K hK => ?_) AllReadyH.nil
  go_simp
  have KK := OS.out _ hHeld104
  refine (CS.out (vaB_Fieldt1) (vaB_Rules_Laddert1) (vaB_Gamest1) (vaB_Fairt1) (vaB_Takent1) (vaR_Groupt2) _ HT_aBt1.out HT_aRt2.out SM_aB.out SM_aR.out).mono ?_
  rintro e w105 ⟨rfl, b105⟩
  clear HT_aBt1 HT_aRt2
  clear KK
  (try go_wp2_with fail)
  refine hK.out _ _ ?_ (fun hHeld105 => ?_)
  · exact KS.out _ _ hHeld104 b105
  clear hK K
  clear hHeld104
  refine wpAnyH_take (i := 5) (v := ?_) rfl (by kernel_rfl) (by kernel_rfl) (by kernel_rfl) (fun _ _ _ h => h) (Or.inl ⟨by rfl, ?_⟩) hHeld105 ?_
  rotate_left
  · (intro wa hSw; go_simp; try with_reducible rfl)
  simp only [Act.put, List.getElem_toArray, List.getElem_cons_zero, List.getElem_cons_succ, List.setIfInBounds_toArray, List.set_cons_zero, List.set_cons_succ]
  refine wpAnyH_done (by kernel_rfl) ?_ _
  have KE := Lib.hid (OS.out _ hHeld105)
  clear KS OS IS hHeld hHeld105
  have Z105 := Lib.hid (KE.out.2.2.2)
  replace HB := Lib.hid (KE.out.1)
  replace BX_aB := Lib.hid (KE.out.2.1)
  replace BX_aR := Lib.hid (KE.out.2.2.1)
  clear KE LE
  have caB_0 := BX_aB.out.2 0 _ rfl
  have caB_1 := BX_aB.out.2 1 _ rfl
  have caB_2 := BX_aB.out.2 2 _ rfl
  have caB_3 := BX_aB.out.2 3 _ rfl
  have caB_4 := BX_aB.out.2 4 _ rfl
  have caB_5 := BX_aB.out.2 5 _ rfl
  have caB_6 := BX_aB.out.2 6 _ rfl
  have caB_7 := BX_aB.out.2 7 _ rfl
  have caB_8 := BX_aB.out.2 8 _ rfl
  have caB_lt := BX_aB.out.1
  go_wp2_with fail
  refine (y_to_Book (.slice avaB_Field nvaB_Field kvaB_Field) aB_Rules_Win aB_Rules_Draw aB_Rules_Loss (.slice avaB_Rules_Ladder nvaB_Rules_Ladder kvaB_Rules_Ladder) aB_Rules_Again (.slice avaB_Games nvaB_Games kvaB_Games) (.slice avaB_Fair nvaB_Fair kvaB_Fair) (.slice avaB_Taken nvaB_Taken kvaB_Taken) d_aB _ (RdA.below HA_aB.out HB.out) SM_aB.out).mono ?_
  rintro e w106 ⟨vaB_Fieldx, vaB_Rules_Ladderx, vaB_Gamesx, vaB_Fairx, vaB_Takenx, rfl, ho, b106⟩
  clear caB_0 caB_1 caB_2 caB_3 caB_4 caB_5 caB_6 caB_7 caB_8 caB_lt
  have Z106 : Hid (w105.heap.size ≤ w106.heap.size) := (by have := b106.size; show _ ≤ _; omega)
  replace HB := Lib.hid (HB.out.trans (b106.mono HB.out.size))
  replace BX_aB := Lib.hid (BX_aB.out.below b106)
  replace BX_aR := Lib.hid (BX_aR.out.below b106)
  have OW_aBx := Lib.hid (ho.mono (lo' := w105.heap.size) (hi' := w106.heap.size) (by have := Z1.out; have := Z2.out; have := Z105.out; have := Z106.out; (try simp only [World.alloc, Array.size_push]); omega) (Nat.le_refl _) (Nat.le_refl _))
  clear ho
  have hsp := OW_aBx.out.rd
  obtain ⟨avaB_Fieldx, nvaB_Fieldx, kvaB_Fieldx, hvaB_Fieldx⟩ := rd_slice (rd_splitB hsp).1
  replace hsp := (rd_splitB hsp).2
  have hsq := (rd_splitB hsp).1
  replace hsq := (rd_splitB hsq).2
  replace hsq := (rd_splitB hsq).2
  replace hsq := (rd_splitB hsq).2
  obtain ⟨avaB_Rules_Ladderx, nvaB_Rules_Ladderx, kvaB_Rules_Ladderx, hvaB_Rules_Ladderx⟩ := rd_slice (rd_splitB hsq).1
  replace hsq := (rd_splitB hsq).2
  clear hsq
  replace hsp := (rd_splitB hsp).2
  obtain ⟨avaB_Gamesx, nvaB_Gamesx, kvaB_Gamesx, hvaB_Gamesx⟩ := rd_slice (rd_splitB hsp).1
  replace hsp := (rd_splitB hsp).2
  obtain ⟨avaB_Fairx, nvaB_Fairx, kvaB_Fairx, hvaB_Fairx⟩ := rd_slice (rd_splitB hsp).1
  replace hsp := (rd_splitB hsp).2
  obtain ⟨avaB_Takenx, nvaB_Takenx, kvaB_Takenx, hvaB_Takenx⟩ := rd_slice hsp
  clear hsp
  subst hvaB_Fieldx
  subst hvaB_Rules_Ladderx
  subst hvaB_Gamesx
  subst hvaB_Fairx
  subst hvaB_Takenx
  replace HB := Lib.hid (HB.out.trans (((Below.refl w106.heap.size w106).alloc (Nat.le_refl _) (.cells #[.slice avaB_Fieldx nvaB_Fieldx kvaB_Fieldx, .int .i64 aB_Rules_Win, .int .i64 aB_Rules_Draw, .int .i64 aB_Rules_Loss, .slice avaB_Rules_Ladderx nvaB_Rules_Ladderx kvaB_Rules_Ladderx, .bool aB_Rules_Again, .slice avaB_Gamesx nvaB_Gamesx kvaB_Gamesx, .slice avaB_Fairx nvaB_Fairx kvaB_Fairx, .slice avaB_Takenx nvaB_Takenx kvaB_Takenx] 38)).mono HB.out.size))
  replace BX_aB := Lib.hid (BX_aB.out.below ((Below.refl w106.heap.size w106).alloc (Nat.le_refl _) (.cells #[.slice avaB_Fieldx nvaB_Fieldx kvaB_Fieldx, .int .i64 aB_Rules_Win, .int .i64 aB_Rules_Draw, .int .i64 aB_Rules_Loss, .slice avaB_Rules_Ladderx nvaB_Rules_Ladderx kvaB_Rules_Ladderx, .bool aB_Rules_Again, .slice avaB_Gamesx nvaB_Gamesx kvaB_Gamesx, .slice avaB_Fairx nvaB_Fairx kvaB_Fairx, .slice avaB_Takenx nvaB_Takenx kvaB_Takenx] 38)))
  replace BX_aR := Lib.hid (BX_aR.out.below ((Below.refl w106.heap.size w106).alloc (Nat.le_refl _) (.cells #[.slice avaB_Fieldx nvaB_Fieldx kvaB_Fieldx, .int .i64 aB_Rules_Win, .int .i64 aB_Rules_Draw, .int .i64 aB_Rules_Loss, .slice avaB_Rules_Ladderx nvaB_Rules_Ladderx kvaB_Rules_Ladderx, .bool aB_Rules_Again, .slice avaB_Gamesx nvaB_Gamesx kvaB_Gamesx, .slice avaB_Fairx nvaB_Fairx kvaB_Fairx, .slice avaB_Takenx nvaB_Takenx kvaB_Takenx] 38)))
  replace OW_aBx := Lib.hid (OW_aBx.out.below ((Below.refl w106.heap.size w106).alloc (Nat.le_refl _) (.cells #[.slice avaB_Fieldx nvaB_Fieldx kvaB_Fieldx, .int .i64 aB_Rules_Win, .int .i64 aB_Rules_Draw, .int .i64 aB_Rules_Loss, .slice avaB_Rules_Ladderx nvaB_Rules_Ladderx kvaB_Rules_Ladderx, .bool aB_Rules_Again, .slice avaB_Gamesx nvaB_Gamesx kvaB_Gamesx, .slice avaB_Fairx nvaB_Fairx kvaB_Fairx, .slice avaB_Takenx nvaB_Takenx kvaB_Takenx] 38)))
  have BX_aBx : Hid (BoxN (w106.alloc (.cells #[.slice avaB_Fieldx nvaB_Fieldx kvaB_Fieldx, .int .i64 aB_Rules_Win, .int .i64 aB_Rules_Draw, .int .i64 aB_Rules_Loss, .slice avaB_Rules_Ladderx nvaB_Rules_Ladderx kvaB_Rules_Ladderx, .bool aB_Rules_Again, .slice avaB_Gamesx nvaB_Gamesx kvaB_Gamesx, .slice avaB_Fairx nvaB_Fairx kvaB_Fairx, .slice avaB_Takenx nvaB_Takenx kvaB_Takenx] 38)) (w106.heap.size) [.slice avaB_Fieldx nvaB_Fieldx kvaB_Fieldx, .int .i64 aB_Rules_Win, .int .i64 aB_Rules_Draw, .int .i64 aB_Rules_Loss, .slice avaB_Rules_Ladderx nvaB_Rules_Ladderx kvaB_Rules_Ladderx, .bool aB_Rules_Again, .slice avaB_Gamesx nvaB_Gamesx kvaB_Gamesx, .slice avaB_Fairx nvaB_Fairx kvaB_Fairx, .slice avaB_Takenx nvaB_Takenx kvaB_Takenx]) := BoxN.made (Below.refl _ _) (by first | rfl | simp | (simp; done))
  have caR_0 := BX_aR.out.2 0 _ rfl
  have caR_1 := BX_aR.out.2 1 _ rfl
  have caR_2 := BX_aR.out.2 2 _ rfl
  have caR_3 := BX_aR.out.2 3 _ rfl
  have caR_lt := BX_aR.out.1
  go_wp2_with fail
  refine (y_to_Reason aR_Key (.slice avaR_Group nvaR_Group kvaR_Group) aR_First aR_Other d_aR _ (RdA.below HA_aR.out HB.out) SM_aR.out).mono ?_
  rintro e w107 ⟨vaR_Groupx, rfl, ho, b107⟩
  clear caR_0 caR_1 caR_2 caR_3 caR_lt
  have Z107 : Hid (w106.heap.size + 1 ≤ w107.heap.size) := (by have := b107.size; simp at this; show _ ≤ _; omega)
  replace HB := Lib.hid (HB.out.trans (b107.mono HB.out.size))
  replace BX_aB := Lib.hid (BX_aB.out.below b107)
  replace BX_aR := Lib.hid (BX_aR.out.below b107)
  replace OW_aBx := Lib.hid (OW_aBx.out.below b107)
  replace BX_aBx := Lib.hid (BX_aBx.out.below b107)
  have OW_aRx := Lib.hid (ho.mono (lo' := w106.heap.size + 1) (hi' := w107.heap.size) (by have := Z1.out; have := Z2.out; have := Z105.out; have := Z106.out; have := Z107.out; (try simp only [World.alloc, Array.size_push]); omega) (Nat.le_refl _) (Nat.le_refl _))
  clear ho
  have hsp := OW_aRx.out.rd
  replace hsp := (rd_splitB hsp).2
  obtain ⟨avaR_Groupx, nvaR_Groupx, kvaR_Groupx, hvaR_Groupx⟩ := rd_slice (rd_splitB hsp).1
  replace hsp := (rd_splitB hsp).2
  replace hsp := (rd_splitB hsp).2
  clear hsp
  subst hvaR_Groupx
  replace HB := Lib.hid (HB.out.trans (((Below.refl w107.heap.size w107).alloc (Nat.le_refl _) (.cells #[.int .i64 aR_Key, .slice avaR_Groupx nvaR_Groupx kvaR_Groupx, .int .i64 aR_First, .int .i64 aR_Other] 40)).mono HB.out.size))
  replace BX_aB := Lib.hid (BX_aB.out.below ((Below.refl w107.heap.size w107).alloc (Nat.le_refl _) (.cells #[.int .i64 aR_Key, .slice avaR_Groupx nvaR_Groupx kvaR_Groupx, .int .i64 aR_First, .int .i64 aR_Other] 40)))
  replace BX_aR := Lib.hid (BX_aR.out.below ((Below.refl w107.heap.size w107).alloc (Nat.le_refl _) (.cells #[.int .i64 aR_Key, .slice avaR_Groupx nvaR_Groupx kvaR_Groupx, .int .i64 aR_First, .int .i64 aR_Other] 40)))
  replace OW_aBx := Lib.hid (OW_aBx.out.below ((Below.refl w107.heap.size w107).alloc (Nat.le_refl _) (.cells #[.int .i64 aR_Key, .slice avaR_Groupx nvaR_Groupx kvaR_Groupx, .int .i64 aR_First, .int .i64 aR_Other] 40)))
  replace BX_aBx := Lib.hid (BX_aBx.out.below ((Below.refl w107.heap.size w107).alloc (Nat.le_refl _) (.cells #[.int .i64 aR_Key, .slice avaR_Groupx nvaR_Groupx kvaR_Groupx, .int .i64 aR_First, .int .i64 aR_Other] 40)))
  replace OW_aRx := Lib.hid (OW_aRx.out.below ((Below.refl w107.heap.size w107).alloc (Nat.le_refl _) (.cells #[.int .i64 aR_Key, .slice avaR_Groupx nvaR_Groupx kvaR_Groupx, .int .i64 aR_First, .int .i64 aR_Other] 40)))
  have BX_aRx : Hid (BoxN (w107.alloc (.cells #[.int .i64 aR_Key, .slice avaR_Groupx nvaR_Groupx kvaR_Groupx, .int .i64 aR_First, .int .i64 aR_Other] 40)) (w107.heap.size) [.int .i64 aR_Key, .slice avaR_Groupx nvaR_Groupx kvaR_Groupx, .int .i64 aR_First, .int .i64 aR_Other]) := BoxN.made (Below.refl _ _) (by first | rfl | simp | (simp; done))
  have caBx_0 := BX_aBx.out.2 0 _ rfl
  have caBx_1 := BX_aBx.out.2 1 _ rfl
  have caBx_2 := BX_aBx.out.2 2 _ rfl
  have caBx_3 := BX_aBx.out.2 3 _ rfl
  have caBx_4 := BX_aBx.out.2 4 _ rfl
  have caBx_5 := BX_aBx.out.2 5 _ rfl
  have caBx_6 := BX_aBx.out.2 6 _ rfl
  have caBx_7 := BX_aBx.out.2 7 _ rfl
  have caBx_8 := BX_aBx.out.2 8 _ rfl
  have caBx_lt := BX_aBx.out.1
  have caRx_0 := BX_aRx.out.2 0 _ rfl
  have caRx_1 := BX_aRx.out.2 1 _ rfl
  have caRx_2 := BX_aRx.out.2 2 _ rfl
  have caRx_3 := BX_aRx.out.2 3 _ rfl
  have caRx_lt := BX_aRx.out.1
  go_wp2_with fail
  refine (CI.out (.slice avaB_Fieldx nvaB_Fieldx kvaB_Fieldx) (.slice avaB_Rules_Ladderx nvaB_Rules_Ladderx kvaB_Rules_Ladderx) (.slice avaB_Gamesx nvaB_Gamesx kvaB_Gamesx) (.slice avaB_Fairx nvaB_Fairx kvaB_Fairx) (.slice avaB_Takenx nvaB_Takenx kvaB_Takenx) (.slice avaR_Groupx nvaR_Groupx kvaR_Groupx) _ OW_aBx.out.rdA OW_aRx.out.rdA SM_aB.out SM_aR.out (VarAt.below HTAB.out HB.out (Nat.le_refl _))).mono ?_
  rintro e w108 ⟨rfl, b108⟩
  clear caBx_0 caBx_1 caBx_2 caBx_3 caBx_4 caBx_5 caBx_6 caBx_7 caBx_8 caBx_lt caRx_0 caRx_1 caRx_2 caRx_3 caRx_lt
  have Z108 : Hid (w107.heap.size + 1 ≤ w108.heap.size) := (by have := b108.size; simp at this; show _ ≤ _; omega)
  replace HB := Lib.hid (HB.out.trans (b108.mono HB.out.size))
  replace BX_aB := Lib.hid (BX_aB.out.below b108)
  replace BX_aR := Lib.hid (BX_aR.out.below b108)
  replace OW_aBx := Lib.hid (OW_aBx.out.below b108)
  replace BX_aBx := Lib.hid (BX_aBx.out.below b108)
  replace OW_aRx := Lib.hid (OW_aRx.out.below b108)
  replace BX_aRx := Lib.hid (BX_aRx.out.below b108)
  have LE : Hid (w108.heap.size ≤ w108.heap.size) := (by show _ ≤ _; first | exact Nat.le_refl _ | simp)
  obtain ⟨S, HSd⟩ : ∃ S : World → Prop, S = fun w' => Below w.heap.size w w' ∧ BoxN w' (w.heap.size) [.slice avaB_Field nvaB_Field kvaB_Field, .int .i64 aB_Rules_Win, .int .i64 aB_Rules_Draw, .int .i64 aB_Rules_Loss, .slice avaB_Rules_Ladder nvaB_Rules_Ladder kvaB_Rules_Ladder, .bool aB_Rules_Again, .slice avaB_Games nvaB_Games kvaB_Games, .slice avaB_Fair nvaB_Fair kvaB_Fair, .slice avaB_Taken nvaB_Taken kvaB_Taken] ∧ BoxN w' (w.heap.size + 1) [.int .i64 aR_Key, .slice avaR_Group nvaR_Group kvaR_Group, .int .i64 aR_First, .int .i64 aR_Other] ∧ OwN tBook w' (w105.heap.size) (w106.heap.size) [.slice avaB_Fieldx nvaB_Fieldx kvaB_Fieldx, .int .i64 aB_Rules_Win, .int .i64 aB_Rules_Draw, .int .i64 aB_Rules_Loss, .slice avaB_Rules_Ladderx nvaB_Rules_Ladderx kvaB_Rules_Ladderx, .bool aB_Rules_Again, .slice avaB_Gamesx nvaB_Gamesx kvaB_Gamesx, .slice avaB_Fairx nvaB_Fairx kvaB_Fairx, .slice avaB_Takenx nvaB_Takenx kvaB_Takenx] d_aB ∧ BoxN w' (w106.heap.size) [.slice avaB_Fieldx nvaB_Fieldx kvaB_Fieldx, .int .i64 aB_Rules_Win, .int .i64 aB_Rules_Draw, .int .i64 aB_Rules_Loss, .slice avaB_Rules_Ladderx nvaB_Rules_Ladderx kvaB_Rules_Ladderx, .bool aB_Rules_Again, .slice avaB_Gamesx nvaB_Gamesx kvaB_Gamesx, .slice avaB_Fairx nvaB_Fairx kvaB_Fairx, .slice avaB_Takenx nvaB_Takenx kvaB_Takenx] ∧ OwN tReason w' (w106.heap.size + 1) (w107.heap.size) [.int .i64 aR_Key, .slice avaR_Groupx nvaR_Groupx kvaR_Groupx, .int .i64 aR_First, .int .i64 aR_Other] d_aR ∧ BoxN w' (w107.heap.size) [.int .i64 aR_Key, .slice avaR_Groupx nvaR_Groupx kvaR_Groupx, .int .i64 aR_First, .int .i64 aR_Other] ∧ w108.heap.size ≤ w'.heap.size := ⟨_, rfl⟩
  have KS : Hid (∀ wa wb, S wa → Below wa.heap.size wa wb → S wb) := by subst HSd; exact fun wa wb h b => ⟨h.1.trans (b.mono h.1.size), h.2.1.below b, h.2.2.1.below b, h.2.2.2.1.below b, h.2.2.2.2.1.below b, h.2.2.2.2.2.1.below b, h.2.2.2.2.2.2.1.below b, Nat.le_trans h.2.2.2.2.2.2.2 b.size⟩
  have OS : Hid (∀ wa, S wa → Below w.heap.size w wa ∧ BoxN wa (w.heap.size) [.slice avaB_Field nvaB_Field kvaB_Field, .int .i64 aB_Rules_Win, .int .i64 aB_Rules_Draw, .int .i64 aB_Rules_Loss, .slice avaB_Rules_Ladder nvaB_Rules_Ladder kvaB_Rules_Ladder, .bool aB_Rules_Again, .slice avaB_Games nvaB_Games kvaB_Games, .slice avaB_Fair nvaB_Fair kvaB_Fair, .slice avaB_Taken nvaB_Taken kvaB_Taken] ∧ BoxN wa (w.heap.size + 1) [.int .i64 aR_Key, .slice avaR_Group nvaR_Group kvaR_Group, .int .i64 aR_First, .int .i64 aR_Other] ∧ OwN tBook wa (w105.heap.size) (w106.heap.size) [.slice avaB_Fieldx nvaB_Fieldx kvaB_Fieldx, .int .i64 aB_Rules_Win, .int .i64 aB_Rules_Draw, .int .i64 aB_Rules_Loss, .slice avaB_Rules_Ladderx nvaB_Rules_Ladderx kvaB_Rules_Ladderx, .bool aB_Rules_Again, .slice avaB_Gamesx nvaB_Gamesx kvaB_Gamesx, .slice avaB_Fairx nvaB_Fairx kvaB_Fairx, .slice avaB_Takenx nvaB_Takenx kvaB_Takenx] d_aB ∧ BoxN wa (w106.heap.size) [.slice avaB_Fieldx nvaB_Fieldx kvaB_Fieldx, .int .i64 aB_Rules_Win, .int .i64 aB_Rules_Draw, .int .i64 aB_Rules_Loss, .slice avaB_Rules_Ladderx nvaB_Rules_Ladderx kvaB_Rules_Ladderx, .bool aB_Rules_Again, .slice avaB_Gamesx nvaB_Gamesx kvaB_Gamesx, .slice avaB_Fairx nvaB_Fairx kvaB_Fairx, .slice avaB_Takenx nvaB_Takenx kvaB_Takenx] ∧ OwN tReason wa (w106.heap.size + 1) (w107.heap.size) [.int .i64 aR_Key, .slice avaR_Groupx nvaR_Groupx kvaR_Groupx, .int .i64 aR_First, .int .i64 aR_Other] d_aR ∧ BoxN wa (w107.heap.size) [.int .i64 aR_Key, .slice avaR_Groupx nvaR_Groupx kvaR_Groupx, .int .i64 aR_First, .int .i64 aR_Other] ∧ w108.heap.size ≤ wa.heap.size) := by subst HSd; exact fun wa h => h
  have IS : Hid (∀ wa, Below w.heap.size w wa ∧ BoxN wa (w.heap.size) [.slice avaB_Field nvaB_Field kvaB_Field, .int .i64 aB_Rules_Win, .int .i64 aB_Rules_Draw, .int .i64 aB_Rules_Loss, .slice avaB_Rules_Ladder nvaB_Rules_Ladder kvaB_Rules_Ladder, .bool aB_Rules_Again, .slice avaB_Games nvaB_Games kvaB_Games, .slice avaB_Fair nvaB_Fair kvaB_Fair, .slice avaB_Taken nvaB_Taken kvaB_Taken] ∧ BoxN wa (w.heap.size + 1) [.int .i64 aR_Key, .slice avaR_Group nvaR_Group kvaR_Group, .int .i64 aR_First, .int .i64 aR_Other] ∧ OwN tBook wa (w105.heap.size) (w106.heap.size) [.slice avaB_Fieldx nvaB_Fieldx kvaB_Fieldx, .int .i64 aB_Rules_Win, .int .i64 aB_Rules_Draw, .int .i64 aB_Rules_Loss, .slice avaB_Rules_Ladderx nvaB_Rules_Ladderx kvaB_Rules_Ladderx, .bool aB_Rules_Again, .slice avaB_Gamesx nvaB_Gamesx kvaB_Gamesx, .slice avaB_Fairx nvaB_Fairx kvaB_Fairx, .slice avaB_Takenx nvaB_Takenx kvaB_Takenx] d_aB ∧ BoxN wa (w106.heap.size) [.slice avaB_Fieldx nvaB_Fieldx kvaB_Fieldx, .int .i64 aB_Rules_Win, .int .i64 aB_Rules_Draw, .int .i64 aB_Rules_Loss, .slice avaB_Rules_Ladderx nvaB_Rules_Ladderx kvaB_Rules_Ladderx, .bool aB_Rules_Again, .slice avaB_Gamesx nvaB_Gamesx kvaB_Gamesx, .slice avaB_Fairx nvaB_Fairx kvaB_Fairx, .slice avaB_Takenx nvaB_Takenx kvaB_Takenx] ∧ OwN tReason wa (w106.heap.size + 1) (w107.heap.size) [.int .i64 aR_Key, .slice avaR_Groupx nvaR_Groupx kvaR_Groupx, .int .i64 aR_First, .int .i64 aR_Other] d_aR ∧ BoxN wa (w107.heap.size) [.int .i64 aR_Key, .slice avaR_Groupx nvaR_Groupx kvaR_Groupx, .int .i64 aR_First, .int .i64 aR_Other] ∧ w108.heap.size ≤ wa.heap.size → S wa) := by subst HSd; exact fun wa h => h
  clear HSd
  go_wp2_with fail
  refine wp_region_held_drew (S := S) (by kernel_rfl) ?_ (fun hHeld => ?_)
  · exact IS.out _ ((fun (b : Below w108.heap.size w108 _) => ⟨HB.out.trans (b.mono HB.out.size), BX_aB.out.below b, BX_aR.out.below b, OW_aBx.out.below b, BX_aBx.out.below b, OW_aRx.out.below b, BX_aRx.out.below b, Nat.le_trans LE.out b.size⟩) (Below.refl _ _).drew)
  refine wpAnyH_take (i := 0) (v := ?_) rfl (by kernel_rfl) (by kernel_rfl) (by kernel_rfl) (fun _ _ _ h => h) (Or.inl ⟨by rfl, ?_⟩) hHeld ?_
  rotate_left
  · (intro wa hSw; have K := OS.out _ hSw; have caBx_0 := (K.2.2.2.2.1).2 0 _ rfl; have caBx_1 := (K.2.2.2.2.1).2 1 _ rfl; have caBx_2 := (K.2.2.2.2.1).2 2 _ rfl; have caBx_3 := (K.2.2.2.2.1).2 3 _ rfl; have caBx_4 := (K.2.2.2.2.1).2 4 _ rfl; have caBx_5 := (K.2.2.2.2.1).2 5 _ rfl; have caBx_6 := (K.2.2.2.2.1).2 6 _ rfl; have caBx_7 := (K.2.2.2.2.1).2 7 _ rfl; have caBx_8 := (K.2.2.2.2.1).2 8 _ rfl; have caB_0 := (K.2.1).2 0 _ rfl; have caB_1 := (K.2.1).2 1 _ rfl; have caB_2 := (K.2.1).2 2 _ rfl; have caB_3 := (K.2.1).2 3 _ rfl; have caB_4 := (K.2.1).2 4 _ rfl; have caB_5 := (K.2.1).2 5 _ rfl; have caB_6 := (K.2.1).2 6 _ rfl; have caB_7 := (K.2.1).2 7 _ rfl; have caB_8 := (K.2.1).2 8 _ rfl; go_simp; try with_reducible rfl)
  simp only [Act.put, List.getElem_toArray, List.getElem_cons_zero, List.setIfInBounds_toArray, List.set_cons_zero, List.set_cons_succ]
  refine wpAnyH_take (i := 1) (v := ?_) rfl (by kernel_rfl) (by kernel_rfl) (by kernel_rfl) (fun _ _ _ h => h) (Or.inl ⟨by rfl, ?_⟩) hHeld ?_
  rotate_left
  · (intro wa hSw; have K := OS.out _ hSw; have caBx_0 := (K.2.2.2.2.1).2 0 _ rfl; have caBx_1 := (K.2.2.2.2.1).2 1 _ rfl; have caBx_2 := (K.2.2.2.2.1).2 2 _ rfl; have caBx_3 := (K.2.2.2.2.1).2 3 _ rfl; have caBx_4 := (K.2.2.2.2.1).2 4 _ rfl; have caBx_5 := (K.2.2.2.2.1).2 5 _ rfl; have caBx_6 := (K.2.2.2.2.1).2 6 _ rfl; have caBx_7 := (K.2.2.2.2.1).2 7 _ rfl; have caBx_8 := (K.2.2.2.2.1).2 8 _ rfl; have caB_0 := (K.2.1).2 0 _ rfl; have caB_1 := (K.2.1).2 1 _ rfl; have caB_2 := (K.2.1).2 2 _ rfl; have caB_3 := (K.2.1).2 3 _ rfl; have caB_4 := (K.2.1).2 4 _ rfl; have caB_5 := (K.2.1).2 5 _ rfl; have caB_6 := (K.2.1).2 6 _ rfl; have caB_7 := (K.2.1).2 7 _ rfl; have caB_8 := (K.2.1).2 8 _ rfl; go_simp; try with_reducible rfl)
  simp only [Act.put, List.getElem_toArray, List.getElem_cons_zero, List.getElem_cons_succ, List.setIfInBounds_toArray, List.set_cons_zero, List.set_cons_succ]
  refine wpAnyH_ready (rs := [2]) (by kernel_rfl) (by simp) ?_
  refine AllReadyH.cons (o := _) rfl (fun K hK => ?_) AllReadyH.nil
  go_simp
  have KK := OS.out _ hHeld
  refine (y_to_Book (.slice avaB_Field nvaB_Field kvaB_Field) aB_Rules_Win aB_Rules_Draw aB_Rules_Loss (.slice avaB_Rules_Ladder nvaB_Rules_Ladder kvaB_Rules_Ladder) aB_Rules_Again (.slice avaB_Games nvaB_Games kvaB_Games) (.slice avaB_Fair nvaB_Fair kvaB_Fair) (.slice avaB_Taken nvaB_Taken kvaB_Taken) d_aB _ (RdA.below HA_aB.out (KK.1)) SM_aB.out).mono ?_
  rintro e w209 ⟨vaB_Fieldt3, vaB_Rules_Laddert3, vaB_Gamest3, vaB_Fairt3, vaB_Takent3, rfl, ho, b209⟩
  have HT_aBt3 := Lib.hid ho.rdA
  clear ho
  clear KK
  (try go_wp2_with fail)
  refine hK.out _ _ ?_ (fun hHeld209 => ?_)
  · exact KS.out _ _ hHeld b209
  clear hK K
  refine wpAnyH_ready (rs := [3]) (by kernel_rfl) (by simp) ?_
  refine AllReadyH.cons (o := _) rfl (fun K hK => ?_) AllReadyH.nil
  go_simp
  have KK := OS.out _ hHeld209
  refine (y_eq_Book (.slice avaB_Fieldx nvaB_Fieldx kvaB_Fieldx) aB_Rules_Win aB_Rules_Draw aB_Rules_Loss (.slice avaB_Rules_Ladderx nvaB_Rules_Ladderx kvaB_Rules_Ladderx) aB_Rules_Again (.slice avaB_Gamesx nvaB_Gamesx kvaB_Gamesx) (.slice avaB_Fairx nvaB_Fairx kvaB_Fairx) (.slice avaB_Takenx nvaB_Takenx kvaB_Takenx) (vaB_Fieldt3) (vaB_Rules_Laddert3) (vaB_Gamest3) (vaB_Fairt3) (vaB_Takent3) d_aB _ (KK.2.2.2.1).rdA HT_aBt3.out).mono ?_
  rintro e w210 ⟨rfl, b210⟩
  clear HT_aBt3
  clear KK
  (try go_wp2_with fail)
  refine hK.out _ _ ?_ (fun hHeld210 => ?_)
  · exact KS.out _ _ hHeld209 b210
  clear hK K
  clear hHeld209
  refine wpAnyH_take (i := 4) (v := ?_) rfl (by kernel_rfl) (by kernel_rfl) (by kernel_rfl) (fun _ _ _ h => h) (Or.inl ⟨by rfl, ?_⟩) hHeld210 ?_
  rotate_left
  · (intro wa hSw; go_simp; try with_reducible rfl)
  simp only [Act.put, List.getElem_toArray, List.getElem_cons_zero, List.getElem_cons_succ, List.setIfInBounds_toArray, List.set_cons_zero, List.set_cons_succ]
  refine wpAnyH_done (by kernel_rfl) ?_ _
  have KE := Lib.hid (OS.out _ hHeld210)
  clear KS OS IS hHeld hHeld210
  have Z210 := Lib.hid (KE.out.2.2.2.2.2.2.2)
  replace HB := Lib.hid (KE.out.1)
  replace BX_aB := Lib.hid (KE.out.2.1)
  replace BX_aR := Lib.hid (KE.out.2.2.1)
  replace OW_aBx := Lib.hid (KE.out.2.2.2.1)
  replace BX_aBx := Lib.hid (KE.out.2.2.2.2.1)
  replace OW_aRx := Lib.hid (KE.out.2.2.2.2.2.1)
  replace BX_aRx := Lib.hid (KE.out.2.2.2.2.2.2.1)
  clear KE LE
  have LE : Hid (w210.heap.size ≤ w210.heap.size) := (by show _ ≤ _; first | exact Nat.le_refl _ | simp)
  obtain ⟨S, HSd⟩ : ∃ S : World → Prop, S = fun w' => Below w.heap.size w w' ∧ BoxN w' (w.heap.size) [.slice avaB_Field nvaB_Field kvaB_Field, .int .i64 aB_Rules_Win, .int .i64 aB_Rules_Draw, .int .i64 aB_Rules_Loss, .slice avaB_Rules_Ladder nvaB_Rules_Ladder kvaB_Rules_Ladder, .bool aB_Rules_Again, .slice avaB_Games nvaB_Games kvaB_Games, .slice avaB_Fair nvaB_Fair kvaB_Fair, .slice avaB_Taken nvaB_Taken kvaB_Taken] ∧ BoxN w' (w.heap.size + 1) [.int .i64 aR_Key, .slice avaR_Group nvaR_Group kvaR_Group, .int .i64 aR_First, .int .i64 aR_Other] ∧ OwN tBook w' (w105.heap.size) (w106.heap.size) [.slice avaB_Fieldx nvaB_Fieldx kvaB_Fieldx, .int .i64 aB_Rules_Win, .int .i64 aB_Rules_Draw, .int .i64 aB_Rules_Loss, .slice avaB_Rules_Ladderx nvaB_Rules_Ladderx kvaB_Rules_Ladderx, .bool aB_Rules_Again, .slice avaB_Gamesx nvaB_Gamesx kvaB_Gamesx, .slice avaB_Fairx nvaB_Fairx kvaB_Fairx, .slice avaB_Takenx nvaB_Takenx kvaB_Takenx] d_aB ∧ BoxN w' (w106.heap.size) [.slice avaB_Fieldx nvaB_Fieldx kvaB_Fieldx, .int .i64 aB_Rules_Win, .int .i64 aB_Rules_Draw, .int .i64 aB_Rules_Loss, .slice avaB_Rules_Ladderx nvaB_Rules_Ladderx kvaB_Rules_Ladderx, .bool aB_Rules_Again, .slice avaB_Gamesx nvaB_Gamesx kvaB_Gamesx, .slice avaB_Fairx nvaB_Fairx kvaB_Fairx, .slice avaB_Takenx nvaB_Takenx kvaB_Takenx] ∧ OwN tReason w' (w106.heap.size + 1) (w107.heap.size) [.int .i64 aR_Key, .slice avaR_Groupx nvaR_Groupx kvaR_Groupx, .int .i64 aR_First, .int .i64 aR_Other] d_aR ∧ BoxN w' (w107.heap.size) [.int .i64 aR_Key, .slice avaR_Groupx nvaR_Groupx kvaR_Groupx, .int .i64 aR_First, .int .i64 aR_Other] ∧ w210.heap.size ≤ w'.heap.size := ⟨_, rfl⟩
  have KS : Hid (∀ wa wb, S wa → Below wa.heap.size wa wb → S wb) := by subst HSd; exact fun wa wb h b => ⟨h.1.trans (b.mono h.1.size), h.2.1.below b, h.2.2.1.below b, h.2.2.2.1.below b, h.2.2.2.2.1.below b, h.2.2.2.2.2.1.below b, h.2.2.2.2.2.2.1.below b, Nat.le_trans h.2.2.2.2.2.2.2 b.size⟩
  have OS : Hid (∀ wa, S wa → Below w.heap.size w wa ∧ BoxN wa (w.heap.size) [.slice avaB_Field nvaB_Field kvaB_Field, .int .i64 aB_Rules_Win, .int .i64 aB_Rules_Draw, .int .i64 aB_Rules_Loss, .slice avaB_Rules_Ladder nvaB_Rules_Ladder kvaB_Rules_Ladder, .bool aB_Rules_Again, .slice avaB_Games nvaB_Games kvaB_Games, .slice avaB_Fair nvaB_Fair kvaB_Fair, .slice avaB_Taken nvaB_Taken kvaB_Taken] ∧ BoxN wa (w.heap.size + 1) [.int .i64 aR_Key, .slice avaR_Group nvaR_Group kvaR_Group, .int .i64 aR_First, .int .i64 aR_Other] ∧ OwN tBook wa (w105.heap.size) (w106.heap.size) [.slice avaB_Fieldx nvaB_Fieldx kvaB_Fieldx, .int .i64 aB_Rules_Win, .int .i64 aB_Rules_Draw, .int .i64 aB_Rules_Loss, .slice avaB_Rules_Ladderx nvaB_Rules_Ladderx kvaB_Rules_Ladderx, .bool aB_Rules_Again, .slice avaB_Gamesx nvaB_Gamesx kvaB_Gamesx, .slice avaB_Fairx nvaB_Fairx kvaB_Fairx, .slice avaB_Takenx nvaB_Takenx kvaB_Takenx] d_aB ∧ BoxN wa (w106.heap.size) [.slice avaB_Fieldx nvaB_Fieldx kvaB_Fieldx, .int .i64 aB_Rules_Win, .int .i64 aB_Rules_Draw, .int .i64 aB_Rules_Loss, .slice avaB_Rules_Ladderx nvaB_Rules_Ladderx kvaB_Rules_Ladderx, .bool aB_Rules_Again, .slice avaB_Gamesx nvaB_Gamesx kvaB_Gamesx, .slice avaB_Fairx nvaB_Fairx kvaB_Fairx, .slice avaB_Takenx nvaB_Takenx kvaB_Takenx] ∧ OwN tReason wa (w106.heap.size + 1) (w107.heap.size) [.int .i64 aR_Key, .slice avaR_Groupx nvaR_Groupx kvaR_Groupx, .int .i64 aR_First, .int .i64 aR_Other] d_aR ∧ BoxN wa (w107.heap.size) [.int .i64 aR_Key, .slice avaR_Groupx nvaR_Groupx kvaR_Groupx, .int .i64 aR_First, .int .i64 aR_Other] ∧ w210.heap.size ≤ wa.heap.size) := by subst HSd; exact fun wa h => h
  have IS : Hid (∀ wa, Below w.heap.size w wa ∧ BoxN wa (w.heap.size) [.slice avaB_Field nvaB_Field kvaB_Field, .int .i64 aB_Rules_Win, .int .i64 aB_Rules_Draw, .int .i64 aB_Rules_Loss, .slice avaB_Rules_Ladder nvaB_Rules_Ladder kvaB_Rules_Ladder, .bool aB_Rules_Again, .slice avaB_Games nvaB_Games kvaB_Games, .slice avaB_Fair nvaB_Fair kvaB_Fair, .slice avaB_Taken nvaB_Taken kvaB_Taken] ∧ BoxN wa (w.heap.size + 1) [.int .i64 aR_Key, .slice avaR_Group nvaR_Group kvaR_Group, .int .i64 aR_First, .int .i64 aR_Other] ∧ OwN tBook wa (w105.heap.size) (w106.heap.size) [.slice avaB_Fieldx nvaB_Fieldx kvaB_Fieldx, .int .i64 aB_Rules_Win, .int .i64 aB_Rules_Draw, .int .i64 aB_Rules_Loss, .slice avaB_Rules_Ladderx nvaB_Rules_Ladderx kvaB_Rules_Ladderx, .bool aB_Rules_Again, .slice avaB_Gamesx nvaB_Gamesx kvaB_Gamesx, .slice avaB_Fairx nvaB_Fairx kvaB_Fairx, .slice avaB_Takenx nvaB_Takenx kvaB_Takenx] d_aB ∧ BoxN wa (w106.heap.size) [.slice avaB_Fieldx nvaB_Fieldx kvaB_Fieldx, .int .i64 aB_Rules_Win, .int .i64 aB_Rules_Draw, .int .i64 aB_Rules_Loss, .slice avaB_Rules_Ladderx nvaB_Rules_Ladderx kvaB_Rules_Ladderx, .bool aB_Rules_Again, .slice avaB_Gamesx nvaB_Gamesx kvaB_Gamesx, .slice avaB_Fairx nvaB_Fairx kvaB_Fairx, .slice avaB_Takenx nvaB_Takenx kvaB_Takenx] ∧ OwN tReason wa (w106.heap.size + 1) (w107.heap.size) [.int .i64 aR_Key, .slice avaR_Groupx nvaR_Groupx kvaR_Groupx, .int .i64 aR_First, .int .i64 aR_Other] d_aR ∧ BoxN wa (w107.heap.size) [.int .i64 aR_Key, .slice avaR_Groupx nvaR_Groupx kvaR_Groupx, .int .i64 aR_First, .int .i64 aR_Other] ∧ w210.heap.size ≤ wa.heap.size → S wa) := by subst HSd; exact fun wa h => h
  clear HSd
  go_wp2_with fail
  refine wp_region_held_drew (S := S) (by kernel_rfl) ?_ (fun hHeld => ?_)
  · exact IS.out _ ((fun (b : Below w210.heap.size w210 _) => ⟨HB.out.trans (b.mono HB.out.size), BX_aB.out.below b, BX_aR.out.below b, OW_aBx.out.below b, BX_aBx.out.below b, OW_aRx.out.below b, BX_aRx.out.below b, Nat.le_trans LE.out b.size⟩) (Below.refl _ _).drew)
  refine wpAnyH_take (i := 0) (v := ?_) rfl (by kernel_rfl) (by kernel_rfl) (by kernel_rfl) (fun _ _ _ h => h) (Or.inl ⟨by rfl, ?_⟩) hHeld ?_
  rotate_left
  · (intro wa hSw; have K := OS.out _ hSw; have caRx_0 := (K.2.2.2.2.2.2.1).2 0 _ rfl; have caRx_1 := (K.2.2.2.2.2.2.1).2 1 _ rfl; have caRx_2 := (K.2.2.2.2.2.2.1).2 2 _ rfl; have caRx_3 := (K.2.2.2.2.2.2.1).2 3 _ rfl; have caR_0 := (K.2.2.1).2 0 _ rfl; have caR_1 := (K.2.2.1).2 1 _ rfl; have caR_2 := (K.2.2.1).2 2 _ rfl; have caR_3 := (K.2.2.1).2 3 _ rfl; go_simp; try with_reducible rfl)
  simp only [Act.put, List.getElem_toArray, List.getElem_cons_zero, List.setIfInBounds_toArray, List.set_cons_zero, List.set_cons_succ]
  refine wpAnyH_take (i := 1) (v := ?_) rfl (by kernel_rfl) (by kernel_rfl) (by kernel_rfl) (fun _ _ _ h => h) (Or.inl ⟨by rfl, ?_⟩) hHeld ?_
  rotate_left
  · (intro wa hSw; have K := OS.out _ hSw; have caRx_0 := (K.2.2.2.2.2.2.1).2 0 _ rfl; have caRx_1 := (K.2.2.2.2.2.2.1).2 1 _ rfl; have caRx_2 := (K.2.2.2.2.2.2.1).2 2 _ rfl; have caRx_3 := (K.2.2.2.2.2.2.1).2 3 _ rfl; have caR_0 := (K.2.2.1).2 0 _ rfl; have caR_1 := (K.2.2.1).2 1 _ rfl; have caR_2 := (K.2.2.1).2 2 _ rfl; have caR_3 := (K.2.2.1).2 3 _ rfl; go_simp; try with_reducible rfl)
  simp only [Act.put, List.getElem_toArray, List.getElem_cons_zero, List.getElem_cons_succ, List.setIfInBounds_toArray, List.set_cons_zero, List.set_cons_succ]
  refine wpAnyH_ready (rs := [2]) (by kernel_rfl) (by simp) ?_
  refine AllReadyH.cons (o := _) rfl (fun K hK => ?_) AllReadyH.nil
  go_simp
  have KK := OS.out _ hHeld
  refine (y_to_Reason aR_Key (.slice avaR_Group nvaR_Group kvaR_Group) aR_First aR_Other d_aR _ (RdA.below HA_aR.out (KK.1)) SM_aR.out).mono ?_
  rintro e w311 ⟨vaR_Groupt4, rfl, ho, b311⟩
  have HT_aRt4 := Lib.hid ho.rdA
  clear ho
  clear KK
  (try go_wp2_with fail)
  refine hK.out _ _ ?_ (fun hHeld311 => ?_)
  · exact KS.out _ _ hHeld b311
  clear hK K
  refine wpAnyH_ready (rs := [3]) (by kernel_rfl) (by simp) ?_
  refine AllReadyH.cons (o := _) rfl (fun K hK => ?_) AllReadyH.nil
  go_simp
  have KK := OS.out _ hHeld311
  refine (y_eq_Reason aR_Key (.slice avaR_Groupx nvaR_Groupx kvaR_Groupx) aR_First aR_Other (vaR_Groupt4) d_aR _ (KK.2.2.2.2.2.1).rdA HT_aRt4.out).mono ?_
  rintro e w312 ⟨rfl, b312⟩
  clear HT_aRt4
  clear KK
  (try go_wp2_with fail)
  refine hK.out _ _ ?_ (fun hHeld312 => ?_)
  · exact KS.out _ _ hHeld311 b312
  clear hK K
  clear hHeld311
  refine wpAnyH_take (i := 4) (v := ?_) rfl (by kernel_rfl) (by kernel_rfl) (by kernel_rfl) (fun _ _ _ h => h) (Or.inl ⟨by rfl, ?_⟩) hHeld312 ?_
  rotate_left
  · (intro wa hSw; go_simp; try with_reducible rfl)
  simp only [Act.put, List.getElem_toArray, List.getElem_cons_zero, List.getElem_cons_succ, List.setIfInBounds_toArray, List.set_cons_zero, List.set_cons_succ]
  refine wpAnyH_done (by kernel_rfl) ?_ _
  have KE := Lib.hid (OS.out _ hHeld312)
  clear KS OS IS hHeld hHeld312
  have Z312 := Lib.hid (KE.out.2.2.2.2.2.2.2)
  replace HB := Lib.hid (KE.out.1)
  replace BX_aB := Lib.hid (KE.out.2.1)
  replace BX_aR := Lib.hid (KE.out.2.2.1)
  replace OW_aBx := Lib.hid (KE.out.2.2.2.1)
  replace BX_aBx := Lib.hid (KE.out.2.2.2.2.1)
  replace OW_aRx := Lib.hid (KE.out.2.2.2.2.2.1)
  replace BX_aRx := Lib.hid (KE.out.2.2.2.2.2.2.1)
  clear KE LE
  go_wp2
  go_ret
  exact ⟨rfl, HB.out⟩
theorem laid_met (os : Os) : laidMet Tryd.prog Rows.fnExactReasonTextRow.laid ((laidWorld os).forCall (fun _ _ => 0) ⟨#[], #[.agg #[.slice none 0 0, .int .i64 0, .int .i64 0, .int .i64 0, .slice none 0 0, .bool false, .slice none 0 0, .slice none 0 0, .slice none 0 0], .agg #[.int .i64 0, .slice none 0 0, .int .i64 0, .int .i64 0]], []⟩).memory :=
  laidMet_of_run' 8 (by kernel_rfl) (by kernel_rfl)
set_option maxRecDepth 100000 in
theorem lifted (os : Os) (started : os.Started) (H : Type) (enc : TypeId × Value → H) (FF : Stop.Interp) :
    ReturnsInHanded {} Tryd.checked os 3 .any ((OpenSpec.ofChange Rows.fnExactReasonTextSpec).preRow enc Tryd.prog Tryd.f3 Rows.fnExactReasonTextRow.domain false Rows.fnExactReasonTextRow.laid) (((OpenSpec.ofChange Rows.fnExactReasonTextSpec).at FF).post enc Tryd.prog Tryd.f3 false true false false) := by
  have hw : (DataW.whole enc Tryd.prog ((laidWorld os).forCall (fun _ _ => 0) ⟨#[], #[.agg #[.slice none 0 0, .int .i64 0, .int .i64 0, .int .i64 0, .slice none 0 0, .bool false, .slice none 0 0, .slice none 0 0, .slice none 0 0], .agg #[.int .i64 0, .slice none 0 0, .int .i64 0, .int .i64 0]], []⟩).memory Tryd.f3.params.toList Rows.fnExactReasonTextSpec.vars false [.agg #[.slice none 0 0, .int .i64 0, .int .i64 0, .int .i64 0, .slice none 0 0, .bool false, .slice none 0 0, .slice none 0 0, .slice none 0 0], .agg #[.int .i64 0, .slice none 0 0, .int .i64 0, .int .i64 0]] 8).isSome = true := by kernel_rfl
  obtain ⟨x, hx⟩ := Option.isSome_iff_exists.1 hw
  refine returnsInHanded_of_row (C := Tryd.checked) (s := OpenSpec.ofChange Rows.fnExactReasonTextSpec) own started (by kernel_rfl) Tryd.func3
    (witness_row_at (enc := enc) (C := Tryd.checked) false (laidWorld os) #[.agg #[.slice none 0 0, .int .i64 0, .int .i64 0, .int .i64 0, .slice none 0 0, .bool false, .slice none 0 0, .slice none 0 0, .slice none 0 0], .agg #[.int .i64 0, .slice none 0 0, .int .i64 0, .int .i64 0]] rfl (by kernel_rfl) (by kernel_rfl) (by kernel_rfl)
      (OpenSpec.preRow_of_cond 8 hx (by kernel_rfl) (fun k hk => by cases hk) (by kernel_rfl) (laid_met os))) ?_
  intro W base args ds gs before hval0 hW _ _ _ hL _ _
  have hval : ∀ (j : Nat) t v, Tryd.f3.params[j]? = some t → args[j]? = some v → Value.okWide Tryd.prog W .any base t v := hval0
  have hW' := hW
  obtain ⟨p, q, hA0, hV, rfl, hfz, hnd⟩ := hW
  have hA : DataW.TrodAll enc Tryd.prog W 0 (fun _ => true) true Tryd.f3.params.toList args.toList ds p := hA0
  rw [Tryd.params3] at hA hval
  obtain ⟨v0, vs0, d0, ds0, p0, q0, hargs, rfl, rfl, h0, r0⟩ := trodAll_cons hA
  obtain ⟨v1, vs1, d1, ds1, p1, q1, rfl, rfl, rfl, h1, r1⟩ := trodAll_cons r0
  obtain ⟨rfl, rfl, rfl⟩ := trodAll_nil r1
  obtain rfl : args = #[v0, v1] := by cases args; simp_all
  obtain ⟨rfl, rfl⟩ := trodVars_none hV
  have k0 := h0
  have lt0 : ∀ x ∈ p0, x.block < W.heap.size := by obtain ⟨m, hm⟩ := k0; exact DataW.trod_lt m _ _ _ hm
  obtain ⟨cs0, rfl, x0, y0, f0⟩ := open_arg opens_Book Tryd.underlying28 (hval 0 28 v0 rfl rfl) h0
  obtain ⟨vz0_Field, z0_Rules_Win, z0_Rules_Draw, z0_Rules_Loss, vz0_Rules_Ladder, z0_Rules_Again, vz0_Games, vz0_Fair, vz0_Taken, e0⟩ := form_Book y0
  obtain rfl : cs0 = #[vz0_Field, .int .i64 z0_Rules_Win, .int .i64 z0_Rules_Draw, .int .i64 z0_Rules_Loss, vz0_Rules_Ladder, .bool z0_Rules_Again, vz0_Games, vz0_Fair, vz0_Taken] := Array.toList_inj.1 e0
  have k1 := h1
  have lt1 : ∀ x ∈ p1, x.block < W.heap.size := by obtain ⟨m, hm⟩ := k1; exact DataW.trod_lt m _ _ _ hm
  obtain ⟨cs1, rfl, x1, y1, f1⟩ := open_arg opens_Reason Tryd.underlying30 (hval 1 30 v1 rfl rfl) h1
  obtain ⟨z1_Key, vz1_Group, z1_First, z1_Other, e1⟩ := form_Reason y1
  obtain rfl : cs1 = #[.int .i64 z1_Key, vz1_Group, .int .i64 z1_First, .int .i64 z1_Other] := Array.toList_inj.1 e1
  clear hA0 hval0
  simp only [List.append_nil] at hW'
  refine (walk vz0_Field z0_Rules_Win z0_Rules_Draw z0_Rules_Loss vz0_Rules_Ladder z0_Rules_Again vz0_Games vz0_Fair vz0_Taken x0 z1_Key vz1_Group z1_First z1_Other x1 W y0 f0 y1 f1 (tabPow hL)).mono fun e W' ⟨he, bel⟩ => ?_
  subst he
  exact ⟨_, rfl, _, _, _, [], _, [], hW', trodAll_mk1 (shut_bool Tryd.underlying4 _), (trodAll_cons_mk (Below.trod laidOut (by kernel_rfl) (of_decide_eq_true (by kernel_rfl)) k0 bel lt0) (trodAll_cons_mk (Below.trod laidOut (by kernel_rfl) (of_decide_eq_true (by kernel_rfl)) k1 bel lt1) trodAll_mk0)), rfl, bel.frame _, fun h => by cases h⟩

theorem said : Rows.FnExactReasonTextSaid :=
  OpenClaim.holds_of_cond 3 Tryd.f3 rfl rfl rfl rfl rfl rfl rfl ⟨rfl, rfl, rfl, rfl, rfl⟩ rfl rfl rfl rfl rfl (by kernel_rfl) Tryd.func3 (by kernel_rfl)
    (of_decide_eq_true (by kernel_rfl)) (by unfold Func.isWrapper; first | (rw [if_pos (by decide +kernel)]; kernel_rfl) | (rw [if_neg (by decide +kernel)]; exact ⟨rfl, rfl⟩))
    (fun os started H enc _ FF => by rw [OpenClaim.pre_eq_preRow]; exact lifted os started H enc FF)
theorem plain (f : FuncId) (fn : Func) (hf : Tryd.pinned.checked.prog.funcNamed Rows.fnExactReasonTextRow.func = some f) (hfn : Tryd.pinned.checked.prog.funcs[f]? = some fn) :
    false = Tryd.pinned.checked.prog.looks [] ∧ ∀ (j : Nat) t, fn.params[j]? = some t → Tryd.pinned.checked.prog.wantsStandIn t = false := by
  obtain rfl : f = 3 := Option.some.inj ((show Tryd.prog.funcNamed Rows.fnExactReasonTextRow.func = some 3 by kernel_rfl).symm.trans hf) |>.symm
  obtain rfl : fn = Tryd.f3 := (Option.some.inj (Tryd.func3.symm.trans hfn)).symm
  refine ⟨by kernel_rfl, fun j t ht => ?_⟩
  rw [Tryd.params3] at ht
  have hm := Array.mem_of_getElem? ht
  simp only [List.mem_toArray, List.mem_cons, List.not_mem_nil, or_false] at hm
  rcases hm with rfl | rfl
  · exact (show Tryd.prog.wantsStandIn 28 = false by kernel_rfl)
  · exact (show Tryd.prog.wantsStandIn 30 = false by kernel_rfl)
theorem card : Rows.FnExactReasonTextCardSaid :=
  Claim7.holds_tied_plain_at .later [] _ _ _ _ said (fun _ h => by cases h) (by kernel_rfl) (fun _ h => by cases h) fnExactReasonText_row_tie rfl ⟨rfl, rfl⟩ (by kernel_rfl) rfl plain (by kernel_rfl)
end Go.Proofs.YteciobkjfmddcaaDoor.fnExactReasonText
