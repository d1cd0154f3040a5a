/-
  The law FnExactSameReason holds for every argument: the program answers as the model does.
-/
import Derived.Test.YteciobkjfmddcaaRows
import Derived.WalkKit
import Derived.ProofKit
import Derived.OpenShut
import Derived.ShutString
import Derived.ChangeOld
import Derived.Below
import Derived.Lib.Hide
import Derived.Deep.RegionHeld3
import Derived.Test.YteciobkjfmddcaaQ1
import Derived.Test.YteciobkjfmddcaaQ2
import Derived.Test.YteciobkjfmddcaaQ3
import Derived.Test.YteciobkjfmddcaaQ7
namespace Go.Proofs.Yteciobkjfmddcaa.fnExactSameReason
open Go.ChangeShapes Go.WideShapes Go.ChangeAt Go.RowKit
open Go.ChangeMaps (open_string shut_string)
set_option linter.unusedVariables false

theorem own : ownKnob Try.prog.godebug = none := by kernel_rfl
theorem laidOut : laidOutB Try.prog = true := by kernel_rfl

set_option maxHeartbeats 4000000 in
set_option maxRecDepth 100000 in
theorem walk (aA_Key : Int) (vaA_Group : Value) (aA_First : Int) (aA_Other : Int) (d_aA : tReason.D) (aB_Key : Int) (vaB_Group : Value) (aB_First : Int) (aB_Other : Int) (d_aB : tReason.D) (w : World) (h_aA : RdA tReason w [.int .i64 aA_Key, vaA_Group, .int .i64 aA_First, .int .i64 aA_Other] d_aA) (f_aA : tReason.fit d_aA) (h_aB : RdA tReason w [.int .i64 aB_Key, vaB_Group, .int .i64 aB_First, .int .i64 aB_Other] d_aB) (f_aB : tReason.fit d_aB) :
    Calls Try.prog 3 #[.agg #[.int .i64 aA_Key, vaA_Group, .int .i64 aA_First, .int .i64 aA_Other], .agg #[.int .i64 aB_Key, vaB_Group, .int .i64 aB_First, .int .i64 aB_Other]] w fun e w' => e = .returned (.bool true) ∧ Below w.heap.size w w' := by
  obtain ⟨r0, CS, CI⟩ : ∃ (r0 : Bool), Hid (∀ (vaA_Group : Value) (vaB_Group : Value) (w1 : World), RdA tReason w1 [.int .i64 aA_Key, vaA_Group, .int .i64 aA_First, .int .i64 aA_Other] d_aA → RdA tReason w1 [.int .i64 aB_Key, vaB_Group, .int .i64 aB_First, .int .i64 aB_Other] d_aB → tReason.wt d_aA ≤ 1048576 → tReason.wt d_aB ≤ 1048576 → Calls Try.prog 5 #[.agg #[.int .i64 aA_Key, vaA_Group, .int .i64 aA_First, .int .i64 aA_Other], .agg #[.int .i64 aB_Key, vaB_Group, .int .i64 aB_First, .int .i64 aB_Other]] w1 fun e w' => e = .returned (.bool r0) ∧ Below w1.heap.size w1 w') ∧ Hid (∀ (vaA_Group : Value) (vaB_Group : Value) (w1 : World), RdA tReason w1 [.int .i64 aA_Key, vaA_Group, .int .i64 aA_First, .int .i64 aA_Other] d_aA → RdA tReason w1 [.int .i64 aB_Key, vaB_Group, .int .i64 aB_First, .int .i64 aB_Other] d_aB → tReason.wt d_aA ≤ 1048576 → tReason.wt d_aB ≤ 1048576 → Calls Try.prog 7 #[.agg #[.int .i64 aA_Key, vaA_Group, .int .i64 aA_First, .int .i64 aA_Other], .agg #[.int .i64 aB_Key, vaB_Group, .int .i64 aB_First, .int .i64 aB_Other]] w1 fun e w' => e = .returned (.bool r0) ∧ Below w1.heap.size w1 w') := by
    obtain ⟨R, hR⟩ := boolEx (aA_Key = aB_Key ∧ aA_First = aB_First ∧ aA_Other = aB_Other ∧ List.length (α := Int) d_aA.2.1 = List.length (α := Int) d_aB.2.1 ∧ ∀ i, i < List.length (α := Int) d_aA.2.1 → getI d_aA.2.1 i = getI d_aB.2.1 i)
    exact ⟨_, fun va vb w1 h h' _ _ => sameReason_spec aA_Key aA_First aA_Other aB_Key aB_First aB_Other va vb _ _ _ _ R w1 hR (rsn_ints h) (rsn_ints h'), fun va vb w1 h h' _ _ => sameReason_impl aA_Key aA_First aA_Other aB_Key aB_First aB_Other va vb _ _ _ _ R w1 hR (rsn_ints h) (rsn_ints h')⟩
  have HB : Hid (Below w.heap.size w w) := Below.refl _ _
  have HA_aA := Lib.hid h_aA
  have HF_aA := Lib.hid f_aA
  clear h_aA f_aA
  have hsp := HA_aA.out
  replace hsp := (rd_splitB hsp).2
  obtain ⟨avaA_Group, nvaA_Group, kvaA_Group, hvaA_Group⟩ := rd_slice (rd_splitB hsp).1
  replace hsp := (rd_splitB hsp).2
  replace hsp := (rd_splitB hsp).2
  clear hsp
  subst hvaA_Group
  have HA_aB := Lib.hid h_aB
  have HF_aB := Lib.hid f_aB
  clear h_aB f_aB
  have hsp := HA_aB.out
  replace hsp := (rd_splitB hsp).2
  obtain ⟨avaB_Group, nvaB_Group, kvaB_Group, hvaB_Group⟩ := rd_slice (rd_splitB hsp).1
  replace hsp := (rd_splitB hsp).2
  replace hsp := (rd_splitB hsp).2
  clear hsp
  subst hvaB_Group
  replace HB := Lib.hid (HB.out.trans (((Below.refl w.heap.size w).alloc (Nat.le_refl _) (.cells #[.int .i64 aA_Key, .slice avaA_Group nvaA_Group kvaA_Group, .int .i64 aA_First, .int .i64 aA_Other] 24)).mono HB.out.size))
  have BX_aA : Hid (BoxN (w.alloc (.cells #[.int .i64 aA_Key, .slice avaA_Group nvaA_Group kvaA_Group, .int .i64 aA_First, .int .i64 aA_Other] 24)) (w.heap.size) [.int .i64 aA_Key, .slice avaA_Group nvaA_Group kvaA_Group, .int .i64 aA_First, .int .i64 aA_Other]) := BoxN.made (Below.refl _ _) (by first | rfl | simp | (simp; done))
  replace HB := Lib.hid (HB.out.trans (((Below.refl (w.alloc (.cells #[.int .i64 aA_Key, .slice avaA_Group nvaA_Group kvaA_Group, .int .i64 aA_First, .int .i64 aA_Other] 24)).heap.size (w.alloc (.cells #[.int .i64 aA_Key, .slice avaA_Group nvaA_Group kvaA_Group, .int .i64 aA_First, .int .i64 aA_Other] 24))).alloc (Nat.le_refl _) (.cells #[.int .i64 aB_Key, .slice avaB_Group nvaB_Group kvaB_Group, .int .i64 aB_First, .int .i64 aB_Other] 24)).mono HB.out.size))
  replace BX_aA := Lib.hid (BX_aA.out.below ((Below.refl (w.alloc (.cells #[.int .i64 aA_Key, .slice avaA_Group nvaA_Group kvaA_Group, .int .i64 aA_First, .int .i64 aA_Other] 24)).heap.size (w.alloc (.cells #[.int .i64 aA_Key, .slice avaA_Group nvaA_Group kvaA_Group, .int .i64 aA_First, .int .i64 aA_Other] 24))).alloc (Nat.le_refl _) (.cells #[.int .i64 aB_Key, .slice avaB_Group nvaB_Group kvaB_Group, .int .i64 aB_First, .int .i64 aB_Other] 24)))
  have BX_aB : Hid (BoxN ((w.alloc (.cells #[.int .i64 aA_Key, .slice avaA_Group nvaA_Group kvaA_Group, .int .i64 aA_First, .int .i64 aA_Other] 24)).alloc (.cells #[.int .i64 aB_Key, .slice avaB_Group nvaB_Group kvaB_Group, .int .i64 aB_First, .int .i64 aB_Other] 24)) (w.heap.size + 1) [.int .i64 aB_Key, .slice avaB_Group nvaB_Group kvaB_Group, .int .i64 aB_First, .int .i64 aB_Other]) := BoxN.made (Below.refl _ _) (by first | rfl | simp | (simp; done))
  go_enter Try.func3, Try.ntmps3
  have caA_0 := BX_aA.out.2 0 _ rfl
  have caA_1 := BX_aA.out.2 1 _ rfl
  have caA_2 := BX_aA.out.2 2 _ rfl
  have caA_3 := BX_aA.out.2 3 _ rfl
  have caA_lt := BX_aA.out.1
  go_wp2_with fail
  refine (y_sz_Reason aA_Key (.slice avaA_Group nvaA_Group kvaA_Group) aA_First aA_Other d_aA (1048576) _ (by omega) (by omega) (RdA.below HA_aA.out HB.out)).mono ?_
  rintro e w1 ⟨⟨r1, rfl, hr1⟩, b1⟩
  clear caA_0 caA_1 caA_2 caA_3 caA_lt
  have Z1 : Hid (w.heap.size + 2 ≤ w1.heap.size) := (by have := b1.size; simp at this; show _ ≤ _; omega)
  replace HB := Lib.hid (HB.out.trans (b1.mono HB.out.size))
  replace BX_aA := Lib.hid (BX_aA.out.below b1)
  replace BX_aB := Lib.hid (BX_aB.out.below b1)
  by_cases hn1 : r1 < 0
  · have g2 : decide (r1 < 0) = true := decide_eq_true hn1
    clear hr1
    go_wp2
    go_ret
    exact ⟨rfl, HB.out⟩
  have g1 : decide (r1 < 0) = false := decide_eq_false hn1
  have SM_aA : Hid (tReason.wt d_aA ≤ 1048576) := (by show _ ≤ _; omega)
  replace hn1 : 0 ≤ r1 ∧ r1 ≤ 1048576 := by omega
  clear hr1
  have caB_0 := BX_aB.out.2 0 _ rfl
  have caB_1 := BX_aB.out.2 1 _ rfl
  have caB_2 := BX_aB.out.2 2 _ rfl
  have caB_3 := BX_aB.out.2 3 _ rfl
  have caB_lt := BX_aB.out.1
  go_wp2_with fail
  refine (y_sz_Reason aB_Key (.slice avaB_Group nvaB_Group kvaB_Group) aB_First aB_Other d_aB (r1) _ (by omega) (by omega) (RdA.below HA_aB.out HB.out)).mono ?_
  rintro e w2 ⟨⟨r2, rfl, hr2⟩, b2⟩
  clear caB_0 caB_1 caB_2 caB_3 caB_lt
  have Z2 : Hid (w1.heap.size ≤ w2.heap.size) := (by have := b2.size; show _ ≤ _; omega)
  replace HB := Lib.hid (HB.out.trans (b2.mono HB.out.size))
  replace BX_aA := Lib.hid (BX_aA.out.below b2)
  replace BX_aB := Lib.hid (BX_aB.out.below b2)
  by_cases hn2 : r2 < 0
  · have g2 : decide (r2 < 0) = true := decide_eq_true hn2
    clear hr2
    go_wp2
    go_ret
    exact ⟨rfl, HB.out⟩
  have g2 : decide (r2 < 0) = false := decide_eq_false hn2
  have SM_aB : Hid (tReason.wt d_aB ≤ 1048576) := (by show _ ≤ _; omega)
  replace hn2 : 0 ≤ r2 ∧ r2 ≤ 1048576 := by omega
  clear hr2
  have LE : Hid (w2.heap.size ≤ w2.heap.size) := (by show _ ≤ _; first | exact Nat.le_refl _ | simp)
  obtain ⟨S, HSd⟩ : ∃ S : World → Prop, S = fun w' => Below w.heap.size w w' ∧ BoxN w' (w.heap.size) [.int .i64 aA_Key, .slice avaA_Group nvaA_Group kvaA_Group, .int .i64 aA_First, .int .i64 aA_Other] ∧ BoxN w' (w.heap.size + 1) [.int .i64 aB_Key, .slice avaB_Group nvaB_Group kvaB_Group, .int .i64 aB_First, .int .i64 aB_Other] ∧ w2.heap.size ≤ w'.heap.size := ⟨_, rfl⟩
  have KS : Hid (∀ wa wb, S wa → Below wa.heap.size wa wb → S wb) := by subst HSd; exact fun wa wb h b => ⟨h.1.trans (b.mono h.1.size), h.2.1.below b, h.2.2.1.below b, Nat.le_trans h.2.2.2 b.size⟩
  have OS : Hid (∀ wa, S wa → Below w.heap.size w wa ∧ BoxN wa (w.heap.size) [.int .i64 aA_Key, .slice avaA_Group nvaA_Group kvaA_Group, .int .i64 aA_First, .int .i64 aA_Other] ∧ BoxN wa (w.heap.size + 1) [.int .i64 aB_Key, .slice avaB_Group nvaB_Group kvaB_Group, .int .i64 aB_First, .int .i64 aB_Other] ∧ w2.heap.size ≤ wa.heap.size) := by subst HSd; exact fun wa h => h
  have IS : Hid (∀ wa, Below w.heap.size w wa ∧ BoxN wa (w.heap.size) [.int .i64 aA_Key, .slice avaA_Group nvaA_Group kvaA_Group, .int .i64 aA_First, .int .i64 aA_Other] ∧ BoxN wa (w.heap.size + 1) [.int .i64 aB_Key, .slice avaB_Group nvaB_Group kvaB_Group, .int .i64 aB_First, .int .i64 aB_Other] ∧ w2.heap.size ≤ wa.heap.size → S wa) := by subst HSd; exact fun wa h => h
  clear HSd
  go_wp2_with fail
  refine wp_region_held_drew (S := S) (by kernel_rfl) ?_ (fun hHeld => ?_)
  · exact IS.out _ ((fun (b : Below w2.heap.size w2 _) => ⟨HB.out.trans (b.mono HB.out.size), BX_aA.out.below b, BX_aB.out.below b, Nat.le_trans LE.out b.size⟩) (Below.refl _ _).drew)
  refine wpAnyH_take (i := 0) (v := ?_) rfl (by kernel_rfl) (by kernel_rfl) (by kernel_rfl) (fun _ _ _ h => h) (Or.inl ⟨by rfl, ?_⟩) hHeld ?_
  rotate_left
  · (intro wa hSw; have K := OS.out _ hSw; have caA_0 := (K.2.1).2 0 _ rfl; have caA_1 := (K.2.1).2 1 _ rfl; have caA_2 := (K.2.1).2 2 _ rfl; have caA_3 := (K.2.1).2 3 _ rfl; have caB_0 := (K.2.2.1).2 0 _ rfl; have caB_1 := (K.2.2.1).2 1 _ rfl; have caB_2 := (K.2.2.1).2 2 _ rfl; have caB_3 := (K.2.2.1).2 3 _ rfl; go_simp; try with_reducible rfl)
  simp only [Act.put, List.getElem_toArray, List.getElem_cons_zero, List.setIfInBounds_toArray, List.set_cons_zero, List.set_cons_succ]
  refine wpAnyH_take (i := 2) (v := ?_) rfl (by kernel_rfl) (by kernel_rfl) (by kernel_rfl) (fun _ _ _ h => h) (Or.inl ⟨by rfl, ?_⟩) hHeld ?_
  rotate_left
  · (intro wa hSw; have K := OS.out _ hSw; have caA_0 := (K.2.1).2 0 _ rfl; have caA_1 := (K.2.1).2 1 _ rfl; have caA_2 := (K.2.1).2 2 _ rfl; have caA_3 := (K.2.1).2 3 _ rfl; have caB_0 := (K.2.2.1).2 0 _ rfl; have caB_1 := (K.2.2.1).2 1 _ rfl; have caB_2 := (K.2.2.1).2 2 _ rfl; have caB_3 := (K.2.2.1).2 3 _ rfl; go_simp; try with_reducible rfl)
  simp only [Act.put, List.getElem_toArray, List.getElem_cons_zero, List.getElem_cons_succ, List.setIfInBounds_toArray, List.set_cons_zero, List.set_cons_succ]
  refine wpAnyH_ready (rs := [1]) (by kernel_rfl) (by simp) ?_
  refine AllReadyH.cons (o := _) rfl (fun K hK => ?_) AllReadyH.nil
  go_simp
  have KK := OS.out _ hHeld
  refine (y_to_Reason aA_Key (.slice avaA_Group nvaA_Group kvaA_Group) aA_First aA_Other d_aA _ (RdA.below HA_aA.out (KK.1)) SM_aA.out).mono ?_
  rintro e w103 ⟨vaA_Groupt1, rfl, ho, b103⟩
  have HT_aAt1 := Lib.hid ho.rdA
  clear ho
  clear KK
  (try go_wp2_with fail)
  refine hK.out _ _ ?_ (fun hHeld103 => ?_)
  · exact KS.out _ _ hHeld b103
  clear hK K
  refine wpAnyH_ready (rs := [3]) (by kernel_rfl) (by simp) ?_
  refine AllReadyH.cons (o := _) rfl (fun K hK => ?_) AllReadyH.nil
  go_simp
  have KK := OS.out _ hHeld103
  refine (y_to_Reason aB_Key (.slice avaB_Group nvaB_Group kvaB_Group) aB_First aB_Other d_aB _ (RdA.below HA_aB.out (KK.1)) SM_aB.out).mono ?_
  rintro e w104 ⟨vaB_Groupt2, rfl, ho, b104⟩
  replace HT_aAt1 := Lib.hid (HT_aAt1.out.below b104)
  have HT_aBt2 := Lib.hid ho.rdA
  clear ho
  clear KK
  (try go_wp2_with fail)
  refine hK.out _ _ ?_ (fun hHeld104 => ?_)
  · exact KS.out _ _ hHeld103 b104
  clear hK K
  clear hHeld103
  refine wpAnyH_ready (rs := [4]) (by kernel_rfl) (by simp) ?_
  refine AllReadyH.cons (o := _) rfl (fun K hK => ?_) AllReadyH.nil
  go_simp
  have KK := OS.out _ hHeld104
  refine (CS.out (vaA_Groupt1) (vaB_Groupt2) _ HT_aAt1.out HT_aBt2.out SM_aA.out SM_aB.out).mono ?_
  rintro e w105 ⟨rfl, b105⟩
  clear HT_aAt1 HT_aBt2
  clear KK
  (try go_wp2_with fail)
  refine hK.out _ _ ?_ (fun hHeld105 => ?_)
  · exact KS.out _ _ hHeld104 b105
  clear hK K
  clear hHeld104
  refine wpAnyH_take (i := 5) (v := ?_) rfl (by kernel_rfl) (by kernel_rfl) (by kernel_rfl) (fun _ _ _ h => h) (Or.inl ⟨by rfl, ?_⟩) hHeld105 ?_
  rotate_left
  · (intro wa hSw; go_simp; try with_reducible rfl)
  simp only [Act.put, List.getElem_toArray, List.getElem_cons_zero, List.getElem_cons_succ, List.setIfInBounds_toArray, List.set_cons_zero, List.set_cons_succ]
  refine wpAnyH_done (by kernel_rfl) ?_ _
  have KE := Lib.hid (OS.out _ hHeld105)
  clear KS OS IS hHeld hHeld105
  have Z105 := Lib.hid (KE.out.2.2.2)
  replace HB := Lib.hid (KE.out.1)
  replace BX_aA := Lib.hid (KE.out.2.1)
  replace BX_aB := Lib.hid (KE.out.2.2.1)
  clear KE LE
  have caA_0 := BX_aA.out.2 0 _ rfl
  have caA_1 := BX_aA.out.2 1 _ rfl
  have caA_2 := BX_aA.out.2 2 _ rfl
  have caA_3 := BX_aA.out.2 3 _ rfl
  have caA_lt := BX_aA.out.1
  go_wp2_with fail
  refine (y_to_Reason aA_Key (.slice avaA_Group nvaA_Group kvaA_Group) aA_First aA_Other d_aA _ (RdA.below HA_aA.out HB.out) SM_aA.out).mono ?_
  rintro e w106 ⟨vaA_Groupx, rfl, ho, b106⟩
  clear caA_0 caA_1 caA_2 caA_3 caA_lt
  have Z106 : Hid (w105.heap.size ≤ w106.heap.size) := (by have := b106.size; show _ ≤ _; omega)
  replace HB := Lib.hid (HB.out.trans (b106.mono HB.out.size))
  replace BX_aA := Lib.hid (BX_aA.out.below b106)
  replace BX_aB := Lib.hid (BX_aB.out.below b106)
  have OW_aAx := Lib.hid (ho.mono (lo' := w105.heap.size) (hi' := w106.heap.size) (by have := Z1.out; have := Z2.out; have := Z105.out; have := Z106.out; (try simp only [World.alloc, Array.size_push]); omega) (Nat.le_refl _) (Nat.le_refl _))
  clear ho
  have hsp := OW_aAx.out.rd
  replace hsp := (rd_splitB hsp).2
  obtain ⟨avaA_Groupx, nvaA_Groupx, kvaA_Groupx, hvaA_Groupx⟩ := rd_slice (rd_splitB hsp).1
  replace hsp := (rd_splitB hsp).2
  replace hsp := (rd_splitB hsp).2
  clear hsp
  subst hvaA_Groupx
  replace HB := Lib.hid (HB.out.trans (((Below.refl w106.heap.size w106).alloc (Nat.le_refl _) (.cells #[.int .i64 aA_Key, .slice avaA_Groupx nvaA_Groupx kvaA_Groupx, .int .i64 aA_First, .int .i64 aA_Other] 27)).mono HB.out.size))
  replace BX_aA := Lib.hid (BX_aA.out.below ((Below.refl w106.heap.size w106).alloc (Nat.le_refl _) (.cells #[.int .i64 aA_Key, .slice avaA_Groupx nvaA_Groupx kvaA_Groupx, .int .i64 aA_First, .int .i64 aA_Other] 27)))
  replace BX_aB := Lib.hid (BX_aB.out.below ((Below.refl w106.heap.size w106).alloc (Nat.le_refl _) (.cells #[.int .i64 aA_Key, .slice avaA_Groupx nvaA_Groupx kvaA_Groupx, .int .i64 aA_First, .int .i64 aA_Other] 27)))
  replace OW_aAx := Lib.hid (OW_aAx.out.below ((Below.refl w106.heap.size w106).alloc (Nat.le_refl _) (.cells #[.int .i64 aA_Key, .slice avaA_Groupx nvaA_Groupx kvaA_Groupx, .int .i64 aA_First, .int .i64 aA_Other] 27)))
  have BX_aAx : Hid (BoxN (w106.alloc (.cells #[.int .i64 aA_Key, .slice avaA_Groupx nvaA_Groupx kvaA_Groupx, .int .i64 aA_First, .int .i64 aA_Other] 27)) (w106.heap.size) [.int .i64 aA_Key, .slice avaA_Groupx nvaA_Groupx kvaA_Groupx, .int .i64 aA_First, .int .i64 aA_Other]) := BoxN.made (Below.refl _ _) (by first | rfl | simp | (simp; done))
  have caB_0 := BX_aB.out.2 0 _ rfl
  have caB_1 := BX_aB.out.2 1 _ rfl
  have caB_2 := BX_aB.out.2 2 _ rfl
  have caB_3 := BX_aB.out.2 3 _ rfl
  have caB_lt := BX_aB.out.1
  go_wp2_with fail
  refine (y_to_Reason aB_Key (.slice avaB_Group nvaB_Group kvaB_Group) aB_First aB_Other d_aB _ (RdA.below HA_aB.out HB.out) SM_aB.out).mono ?_
  rintro e w107 ⟨vaB_Groupx, rfl, ho, b107⟩
  clear caB_0 caB_1 caB_2 caB_3 caB_lt
  have Z107 : Hid (w106.heap.size + 1 ≤ w107.heap.size) := (by have := b107.size; simp at this; show _ ≤ _; omega)
  replace HB := Lib.hid (HB.out.trans (b107.mono HB.out.size))
  replace BX_aA := Lib.hid (BX_aA.out.below b107)
  replace BX_aB := Lib.hid (BX_aB.out.below b107)
  replace OW_aAx := Lib.hid (OW_aAx.out.below b107)
  replace BX_aAx := Lib.hid (BX_aAx.out.below b107)
  have OW_aBx := Lib.hid (ho.mono (lo' := w106.heap.size + 1) (hi' := w107.heap.size) (by have := Z1.out; have := Z2.out; have := Z105.out; have := Z106.out; have := Z107.out; (try simp only [World.alloc, Array.size_push]); omega) (Nat.le_refl _) (Nat.le_refl _))
  clear ho
  have hsp := OW_aBx.out.rd
  replace hsp := (rd_splitB hsp).2
  obtain ⟨avaB_Groupx, nvaB_Groupx, kvaB_Groupx, hvaB_Groupx⟩ := rd_slice (rd_splitB hsp).1
  replace hsp := (rd_splitB hsp).2
  replace hsp := (rd_splitB hsp).2
  clear hsp
  subst hvaB_Groupx
  replace HB := Lib.hid (HB.out.trans (((Below.refl w107.heap.size w107).alloc (Nat.le_refl _) (.cells #[.int .i64 aB_Key, .slice avaB_Groupx nvaB_Groupx kvaB_Groupx, .int .i64 aB_First, .int .i64 aB_Other] 27)).mono HB.out.size))
  replace BX_aA := Lib.hid (BX_aA.out.below ((Below.refl w107.heap.size w107).alloc (Nat.le_refl _) (.cells #[.int .i64 aB_Key, .slice avaB_Groupx nvaB_Groupx kvaB_Groupx, .int .i64 aB_First, .int .i64 aB_Other] 27)))
  replace BX_aB := Lib.hid (BX_aB.out.below ((Below.refl w107.heap.size w107).alloc (Nat.le_refl _) (.cells #[.int .i64 aB_Key, .slice avaB_Groupx nvaB_Groupx kvaB_Groupx, .int .i64 aB_First, .int .i64 aB_Other] 27)))
  replace OW_aAx := Lib.hid (OW_aAx.out.below ((Below.refl w107.heap.size w107).alloc (Nat.le_refl _) (.cells #[.int .i64 aB_Key, .slice avaB_Groupx nvaB_Groupx kvaB_Groupx, .int .i64 aB_First, .int .i64 aB_Other] 27)))
  replace BX_aAx := Lib.hid (BX_aAx.out.below ((Below.refl w107.heap.size w107).alloc (Nat.le_refl _) (.cells #[.int .i64 aB_Key, .slice avaB_Groupx nvaB_Groupx kvaB_Groupx, .int .i64 aB_First, .int .i64 aB_Other] 27)))
  replace OW_aBx := Lib.hid (OW_aBx.out.below ((Below.refl w107.heap.size w107).alloc (Nat.le_refl _) (.cells #[.int .i64 aB_Key, .slice avaB_Groupx nvaB_Groupx kvaB_Groupx, .int .i64 aB_First, .int .i64 aB_Other] 27)))
  have BX_aBx : Hid (BoxN (w107.alloc (.cells #[.int .i64 aB_Key, .slice avaB_Groupx nvaB_Groupx kvaB_Groupx, .int .i64 aB_First, .int .i64 aB_Other] 27)) (w107.heap.size) [.int .i64 aB_Key, .slice avaB_Groupx nvaB_Groupx kvaB_Groupx, .int .i64 aB_First, .int .i64 aB_Other]) := BoxN.made (Below.refl _ _) (by first | rfl | simp | (simp; done))
  have caAx_0 := BX_aAx.out.2 0 _ rfl
  have caAx_1 := BX_aAx.out.2 1 _ rfl
  have caAx_2 := BX_aAx.out.2 2 _ rfl
  have caAx_3 := BX_aAx.out.2 3 _ rfl
  have caAx_lt := BX_aAx.out.1
  have caBx_0 := BX_aBx.out.2 0 _ rfl
  have caBx_1 := BX_aBx.out.2 1 _ rfl
  have caBx_2 := BX_aBx.out.2 2 _ rfl
  have caBx_3 := BX_aBx.out.2 3 _ rfl
  have caBx_lt := BX_aBx.out.1
  go_wp2_with fail
  refine (CI.out (.slice avaA_Groupx nvaA_Groupx kvaA_Groupx) (.slice avaB_Groupx nvaB_Groupx kvaB_Groupx) _ OW_aAx.out.rdA OW_aBx.out.rdA SM_aA.out SM_aB.out).mono ?_
  rintro e w108 ⟨rfl, b108⟩
  clear caAx_0 caAx_1 caAx_2 caAx_3 caAx_lt caBx_0 caBx_1 caBx_2 caBx_3 caBx_lt
  have Z108 : Hid (w107.heap.size + 1 ≤ w108.heap.size) := (by have := b108.size; simp at this; show _ ≤ _; omega)
  replace HB := Lib.hid (HB.out.trans (b108.mono HB.out.size))
  replace BX_aA := Lib.hid (BX_aA.out.below b108)
  replace BX_aB := Lib.hid (BX_aB.out.below b108)
  replace OW_aAx := Lib.hid (OW_aAx.out.below b108)
  replace BX_aAx := Lib.hid (BX_aAx.out.below b108)
  replace OW_aBx := Lib.hid (OW_aBx.out.below b108)
  replace BX_aBx := Lib.hid (BX_aBx.out.below b108)
  have LE : Hid (w108.heap.size ≤ w108.heap.size) := (by show _ ≤ _; first | exact Nat.le_refl _ | simp)
  obtain ⟨S, HSd⟩ : ∃ S : World → Prop, S = fun w' => Below w.heap.size w w' ∧ BoxN w' (w.heap.size) [.int .i64 aA_Key, .slice avaA_Group nvaA_Group kvaA_Group, .int .i64 aA_First, .int .i64 aA_Other] ∧ BoxN w' (w.heap.size + 1) [.int .i64 aB_Key, .slice avaB_Group nvaB_Group kvaB_Group, .int .i64 aB_First, .int .i64 aB_Other] ∧ OwN tReason w' (w105.heap.size) (w106.heap.size) [.int .i64 aA_Key, .slice avaA_Groupx nvaA_Groupx kvaA_Groupx, .int .i64 aA_First, .int .i64 aA_Other] d_aA ∧ BoxN w' (w106.heap.size) [.int .i64 aA_Key, .slice avaA_Groupx nvaA_Groupx kvaA_Groupx, .int .i64 aA_First, .int .i64 aA_Other] ∧ OwN tReason w' (w106.heap.size + 1) (w107.heap.size) [.int .i64 aB_Key, .slice avaB_Groupx nvaB_Groupx kvaB_Groupx, .int .i64 aB_First, .int .i64 aB_Other] d_aB ∧ BoxN w' (w107.heap.size) [.int .i64 aB_Key, .slice avaB_Groupx nvaB_Groupx kvaB_Groupx, .int .i64 aB_First, .int .i64 aB_Other] ∧ w108.heap.size ≤ w'.heap.size := ⟨_, rfl⟩
  have KS : Hid (∀ wa wb, S wa → Below wa.heap.size wa wb → S wb) := by subst HSd; exact fun wa wb h b => ⟨h.1.trans (b.mono h.1.size), h.2.1.below b, h.2.2.1.below b, h.2.2.2.1.below b, h.2.2.2.2.1.below b, h.2.2.2.2.2.1.below b, h.2.2.2.2.2.2.1.below b, Nat.le_trans h.2.2.2.2.2.2.2 b.size⟩
  have OS : Hid (∀ wa, S wa → Below w.heap.size w wa ∧ BoxN wa (w.heap.size) [.int .i64 aA_Key, .slice avaA_Group nvaA_Group kvaA_Group, .int .i64 aA_First, .int .i64 aA_Other] ∧ BoxN wa (w.heap.size + 1) [.int .i64 aB_Key, .slice avaB_Group nvaB_Group kvaB_Group, .int .i64 aB_First, .int .i64 aB_Other] ∧ OwN tReason wa (w105.heap.size) (w106.heap.size) [.int .i64 aA_Key, .slice avaA_Groupx nvaA_Groupx kvaA_Groupx, .int .i64 aA_First, .int .i64 aA_Other] d_aA ∧ BoxN wa (w106.heap.size) [.int .i64 aA_Key, .slice avaA_Groupx nvaA_Groupx kvaA_Groupx, .int .i64 aA_First, .int .i64 aA_Other] ∧ OwN tReason wa (w106.heap.size + 1) (w107.heap.size) [.int .i64 aB_Key, .slice avaB_Groupx nvaB_Groupx kvaB_Groupx, .int .i64 aB_First, .int .i64 aB_Other] d_aB ∧ BoxN wa (w107.heap.size) [.int .i64 aB_Key, .slice avaB_Groupx nvaB_Groupx kvaB_Groupx, .int .i64 aB_First, .int .i64 aB_Other] ∧ w108.heap.size ≤ wa.heap.size) := by subst HSd; exact fun wa h => h
  have IS : Hid (∀ wa, Below w.heap.size w wa ∧ BoxN wa (w.heap.size) [.int .i64 aA_Key, .slice avaA_Group nvaA_Group kvaA_Group, .int .i64 aA_First, .int .i64 aA_Other] ∧ BoxN wa (w.heap.size + 1) [.int .i64 aB_Key, .slice avaB_Group nvaB_Group kvaB_Group, .int .i64 aB_First, .int .i64 aB_Other] ∧ OwN tReason wa (w105.heap.size) (w106.heap.size) [.int .i64 aA_Key, .slice avaA_Groupx nvaA_Groupx kvaA_Groupx, .int .i64 aA_First, .int .i64 aA_Other] d_aA ∧ BoxN wa (w106.heap.size) [.int .i64 aA_Key, .slice avaA_Groupx nvaA_Groupx kvaA_Groupx, .int .i64 aA_First, .int .i64 aA_Other] ∧ OwN tReason wa (w106.heap.size + 1) (w107.heap.size) [.int .i64 aB_Key, .slice avaB_Groupx nvaB_Groupx kvaB_Groupx, .int .i64 aB_First, .int .i64 aB_Other] d_aB ∧ BoxN wa (w107.heap.size) [.int .i64 aB_Key, .slice avaB_Groupx nvaB_Groupx kvaB_Groupx, .int .i64 aB_First, .int .i64 aB_Other] ∧ w108.heap.size ≤ wa.heap.size → S wa) := by subst HSd; exact fun wa h => h
  clear HSd
  go_wp2_with fail
  refine wp_region_held_drew (S := S) (by kernel_rfl) ?_ (fun hHeld => ?_)
  · exact IS.out _ ((fun (b : Below w108.heap.size w108 _) => ⟨HB.out.trans (b.mono HB.out.size), BX_aA.out.below b, BX_aB.out.below b, OW_aAx.out.below b, BX_aAx.out.below b, OW_aBx.out.below b, BX_aBx.out.below b, Nat.le_trans LE.out b.size⟩) (Below.refl _ _).drew)
  refine wpAnyH_take (i := 0) (v := ?_) rfl (by kernel_rfl) (by kernel_rfl) (by kernel_rfl) (fun _ _ _ h => h) (Or.inl ⟨by rfl, ?_⟩) hHeld ?_
  rotate_left
  · (intro wa hSw; have K := OS.out _ hSw; have caAx_0 := (K.2.2.2.2.1).2 0 _ rfl; have caAx_1 := (K.2.2.2.2.1).2 1 _ rfl; have caAx_2 := (K.2.2.2.2.1).2 2 _ rfl; have caAx_3 := (K.2.2.2.2.1).2 3 _ rfl; have caA_0 := (K.2.1).2 0 _ rfl; have caA_1 := (K.2.1).2 1 _ rfl; have caA_2 := (K.2.1).2 2 _ rfl; have caA_3 := (K.2.1).2 3 _ rfl; go_simp; try with_reducible rfl)
  simp only [Act.put, List.getElem_toArray, List.getElem_cons_zero, List.setIfInBounds_toArray, List.set_cons_zero, List.set_cons_succ]
  refine wpAnyH_take (i := 1) (v := ?_) rfl (by kernel_rfl) (by kernel_rfl) (by kernel_rfl) (fun _ _ _ h => h) (Or.inl ⟨by rfl, ?_⟩) hHeld ?_
  rotate_left
  · (intro wa hSw; have K := OS.out _ hSw; have caAx_0 := (K.2.2.2.2.1).2 0 _ rfl; have caAx_1 := (K.2.2.2.2.1).2 1 _ rfl; have caAx_2 := (K.2.2.2.2.1).2 2 _ rfl; have caAx_3 := (K.2.2.2.2.1).2 3 _ rfl; have caA_0 := (K.2.1).2 0 _ rfl; have caA_1 := (K.2.1).2 1 _ rfl; have caA_2 := (K.2.1).2 2 _ rfl; have caA_3 := (K.2.1).2 3 _ rfl; go_simp; try with_reducible rfl)
  simp only [Act.put, List.getElem_toArray, List.getElem_cons_zero, List.getElem_cons_succ, List.setIfInBounds_toArray, List.set_cons_zero, List.set_cons_succ]
  refine wpAnyH_ready (rs := [2]) (by kernel_rfl) (by simp) ?_
  refine AllReadyH.cons (o := _) rfl (fun K hK => ?_) AllReadyH.nil
  go_simp
  have KK := OS.out _ hHeld
  refine (y_to_Reason aA_Key (.slice avaA_Group nvaA_Group kvaA_Group) aA_First aA_Other d_aA _ (RdA.below HA_aA.out (KK.1)) SM_aA.out).mono ?_
  rintro e w209 ⟨vaA_Groupt3, rfl, ho, b209⟩
  have HT_aAt3 := Lib.hid ho.rdA
  clear ho
  clear KK
  (try go_wp2_with fail)
  refine hK.out _ _ ?_ (fun hHeld209 => ?_)
  · exact KS.out _ _ hHeld b209
  clear hK K
  refine wpAnyH_ready (rs := [3]) (by kernel_rfl) (by simp) ?_
  refine AllReadyH.cons (o := _) rfl (fun K hK => ?_) AllReadyH.nil
  go_simp
  have KK := OS.out _ hHeld209
  refine (y_eq_Reason aA_Key (.slice avaA_Groupx nvaA_Groupx kvaA_Groupx) aA_First aA_Other (vaA_Groupt3) d_aA _ (KK.2.2.2.1).rdA HT_aAt3.out).mono ?_
  rintro e w210 ⟨rfl, b210⟩
  clear HT_aAt3
  clear KK
  (try go_wp2_with fail)
  refine hK.out _ _ ?_ (fun hHeld210 => ?_)
  · exact KS.out _ _ hHeld209 b210
  clear hK K
  clear hHeld209
  refine wpAnyH_take (i := 4) (v := ?_) rfl (by kernel_rfl) (by kernel_rfl) (by kernel_rfl) (fun _ _ _ h => h) (Or.inl ⟨by rfl, ?_⟩) hHeld210 ?_
  rotate_left
  · (intro wa hSw; go_simp; try with_reducible rfl)
  simp only [Act.put, List.getElem_toArray, List.getElem_cons_zero, List.getElem_cons_succ, List.setIfInBounds_toArray, List.set_cons_zero, List.set_cons_succ]
  refine wpAnyH_done (by kernel_rfl) ?_ _
  have KE := Lib.hid (OS.out _ hHeld210)
  clear KS OS IS hHeld hHeld210
  have Z210 := Lib.hid (KE.out.2.2.2.2.2.2.2)
  replace HB := Lib.hid (KE.out.1)
  replace BX_aA := Lib.hid (KE.out.2.1)
  replace BX_aB := Lib.hid (KE.out.2.2.1)
  replace OW_aAx := Lib.hid (KE.out.2.2.2.1)
  replace BX_aAx := Lib.hid (KE.out.2.2.2.2.1)
  replace OW_aBx := Lib.hid (KE.out.2.2.2.2.2.1)
  replace BX_aBx := Lib.hid (KE.out.2.2.2.2.2.2.1)
  clear KE LE
  have LE : Hid (w210.heap.size ≤ w210.heap.size) := (by show _ ≤ _; first | exact Nat.le_refl _ | simp)
  obtain ⟨S, HSd⟩ : ∃ S : World → Prop, S = fun w' => Below w.heap.size w w' ∧ BoxN w' (w.heap.size) [.int .i64 aA_Key, .slice avaA_Group nvaA_Group kvaA_Group, .int .i64 aA_First, .int .i64 aA_Other] ∧ BoxN w' (w.heap.size + 1) [.int .i64 aB_Key, .slice avaB_Group nvaB_Group kvaB_Group, .int .i64 aB_First, .int .i64 aB_Other] ∧ OwN tReason w' (w105.heap.size) (w106.heap.size) [.int .i64 aA_Key, .slice avaA_Groupx nvaA_Groupx kvaA_Groupx, .int .i64 aA_First, .int .i64 aA_Other] d_aA ∧ BoxN w' (w106.heap.size) [.int .i64 aA_Key, .slice avaA_Groupx nvaA_Groupx kvaA_Groupx, .int .i64 aA_First, .int .i64 aA_Other] ∧ OwN tReason w' (w106.heap.size + 1) (w107.heap.size) [.int .i64 aB_Key, .slice avaB_Groupx nvaB_Groupx kvaB_Groupx, .int .i64 aB_First, .int .i64 aB_Other] d_aB ∧ BoxN w' (w107.heap.size) [.int .i64 aB_Key, .slice avaB_Groupx nvaB_Groupx kvaB_Groupx, .int .i64 aB_First, .int .i64 aB_Other] ∧ w210.heap.size ≤ w'.heap.size := ⟨_, rfl⟩
  have KS : Hid (∀ wa wb, S wa → Below wa.heap.size wa wb → S wb) := by subst HSd; exact fun wa wb h b => ⟨h.1.trans (b.mono h.1.size), h.2.1.below b, h.2.2.1.below b, h.2.2.2.1.below b, h.2.2.2.2.1.below b, h.2.2.2.2.2.1.below b, h.2.2.2.2.2.2.1.below b, Nat.le_trans h.2.2.2.2.2.2.2 b.size⟩
  have OS : Hid (∀ wa, S wa → Below w.heap.size w wa ∧ BoxN wa (w.heap.size) [.int .i64 aA_Key, .slice avaA_Group nvaA_Group kvaA_Group, .int .i64 aA_First, .int .i64 aA_Other] ∧ BoxN wa (w.heap.size + 1) [.int .i64 aB_Key, .slice avaB_Group nvaB_Group kvaB_Group, .int .i64 aB_First, .int .i64 aB_Other] ∧ OwN tReason wa (w105.heap.size) (w106.heap.size) [.int .i64 aA_Key, .slice avaA_Groupx nvaA_Groupx kvaA_Groupx, .int .i64 aA_First, .int .i64 aA_Other] d_aA ∧ BoxN wa (w106.heap.size) [.int .i64 aA_Key, .slice avaA_Groupx nvaA_Groupx kvaA_Groupx, .int .i64 aA_First, .int .i64 aA_Other] ∧ OwN tReason wa (w106.heap.size + 1) (w107.heap.size) [.int .i64 aB_Key, .slice avaB_Groupx nvaB_Groupx kvaB_Groupx, .int .i64 aB_First, .int .i64 aB_Other] d_aB ∧ BoxN wa (w107.heap.size) [.int .i64 aB_Key, .slice avaB_Groupx nvaB_Groupx kvaB_Groupx, .int .i64 aB_First, .int .i64 aB_Other] ∧ w210.heap.size ≤ wa.heap.size) := by subst HSd; exact fun wa h => h
  have IS : Hid (∀ wa, Below w.heap.size w wa ∧ BoxN wa (w.heap.size) [.int .i64 aA_Key, .slice avaA_Group nvaA_Group kvaA_Group, .int .i64 aA_First, .int .i64 aA_Other] ∧ BoxN wa (w.heap.size + 1) [.int .i64 aB_Key, .slice avaB_Group nvaB_Group kvaB_Group, .int .i64 aB_First, .int .i64 aB_Other] ∧ OwN tReason wa (w105.heap.size) (w106.heap.size) [.int .i64 aA_Key, .slice avaA_Groupx nvaA_Groupx kvaA_Groupx, .int .i64 aA_First, .int .i64 aA_Other] d_aA ∧ BoxN wa (w106.heap.size) [.int .i64 aA_Key, .slice avaA_Groupx nvaA_Groupx kvaA_Groupx, .int .i64 aA_First, .int .i64 aA_Other] ∧ OwN tReason wa (w106.heap.size + 1) (w107.heap.size) [.int .i64 aB_Key, .slice avaB_Groupx nvaB_Groupx kvaB_Groupx, .int .i64 aB_First, .int .i64 aB_Other] d_aB ∧ BoxN wa (w107.heap.size) [.int .i64 aB_Key, .slice avaB_Groupx nvaB_Groupx kvaB_Groupx, .int .i64 aB_First, .int .i64 aB_Other] ∧ w210.heap.size ≤ wa.heap.size → S wa) := by subst HSd; exact fun wa h => h
  clear HSd
  go_wp2_with fail
  refine wp_region_held_drew (S := S) (by kernel_rfl) ?_ (fun hHeld => ?_)
  · exact IS.out _ ((fun (b : Below w210.heap.size w210 _) => ⟨HB.out.trans (b.mono HB.out.size), BX_aA.out.below b, BX_aB.out.below b, OW_aAx.out.below b, BX_aAx.out.below b, OW_aBx.out.below b, BX_aBx.out.below b, Nat.le_trans LE.out b.size⟩) (Below.refl _ _).drew)
  refine wpAnyH_take (i := 0) (v := ?_) rfl (by kernel_rfl) (by kernel_rfl) (by kernel_rfl) (fun _ _ _ h => h) (Or.inl ⟨by rfl, ?_⟩) hHeld ?_
  rotate_left
  · (intro wa hSw; have K := OS.out _ hSw; have caBx_0 := (K.2.2.2.2.2.2.1).2 0 _ rfl; have caBx_1 := (K.2.2.2.2.2.2.1).2 1 _ rfl; have caBx_2 := (K.2.2.2.2.2.2.1).2 2 _ rfl; have caBx_3 := (K.2.2.2.2.2.2.1).2 3 _ rfl; have caB_0 := (K.2.2.1).2 0 _ rfl; have caB_1 := (K.2.2.1).2 1 _ rfl; have caB_2 := (K.2.2.1).2 2 _ rfl; have caB_3 := (K.2.2.1).2 3 _ rfl; go_simp; try with_reducible rfl)
  simp only [Act.put, List.getElem_toArray, List.getElem_cons_zero, List.setIfInBounds_toArray, List.set_cons_zero, List.set_cons_succ]
  refine wpAnyH_take (i := 1) (v := ?_) rfl (by kernel_rfl) (by kernel_rfl) (by kernel_rfl) (fun _ _ _ h => h) (Or.inl ⟨by rfl, ?_⟩) hHeld ?_
  rotate_left
  · (intro wa hSw; have K := OS.out _ hSw; have caBx_0 := (K.2.2.2.2.2.2.1).2 0 _ rfl; have caBx_1 := (K.2.2.2.2.2.2.1).2 1 _ rfl; have caBx_2 := (K.2.2.2.2.2.2.1).2 2 _ rfl; have caBx_3 := (K.2.2.2.2.2.2.1).2 3 _ rfl; have caB_0 := (K.2.2.1).2 0 _ rfl; have caB_1 := (K.2.2.1).2 1 _ rfl; have caB_2 := (K.2.2.1).2 2 _ rfl; have caB_3 := (K.2.2.1).2 3 _ rfl; go_simp; try with_reducible rfl)
  simp only [Act.put, List.getElem_toArray, List.getElem_cons_zero, List.getElem_cons_succ, List.setIfInBounds_toArray, List.set_cons_zero, List.set_cons_succ]
  refine wpAnyH_ready (rs := [2]) (by kernel_rfl) (by simp) ?_
  refine AllReadyH.cons (o := _) rfl (fun K hK => ?_) AllReadyH.nil
  go_simp
  have KK := OS.out _ hHeld
  refine (y_to_Reason aB_Key (.slice avaB_Group nvaB_Group kvaB_Group) aB_First aB_Other d_aB _ (RdA.below HA_aB.out (KK.1)) SM_aB.out).mono ?_
  rintro e w311 ⟨vaB_Groupt4, rfl, ho, b311⟩
  have HT_aBt4 := Lib.hid ho.rdA
  clear ho
  clear KK
  (try go_wp2_with fail)
  refine hK.out _ _ ?_ (fun hHeld311 => ?_)
  · exact KS.out _ _ hHeld b311
  clear hK K
  refine wpAnyH_ready (rs := [3]) (by kernel_rfl) (by simp) ?_
  refine AllReadyH.cons (o := _) rfl (fun K hK => ?_) AllReadyH.nil
  go_simp
  have KK := OS.out _ hHeld311
  refine (y_eq_Reason aB_Key (.slice avaB_Groupx nvaB_Groupx kvaB_Groupx) aB_First aB_Other (vaB_Groupt4) d_aB _ (KK.2.2.2.2.2.1).rdA HT_aBt4.out).mono ?_
  rintro e w312 ⟨rfl, b312⟩
  clear HT_aBt4
  clear KK
  (try go_wp2_with fail)
  refine hK.out _ _ ?_ (fun hHeld312 => ?_)
  · exact KS.out _ _ hHeld311 b312
  clear hK K
  clear hHeld311
  refine wpAnyH_take (i := 4) (v := ?_) rfl (by kernel_rfl) (by kernel_rfl) (by kernel_rfl) (fun _ _ _ h => h) (Or.inl ⟨by rfl, ?_⟩) hHeld312 ?_
  rotate_left
  · (intro wa hSw; go_simp; try with_reducible rfl)
  simp only [Act.put, List.getElem_toArray, List.getElem_cons_zero, List.getElem_cons_succ, List.setIfInBounds_toArray, List.set_cons_zero, List.set_cons_succ]
  refine wpAnyH_done (by kernel_rfl) ?_ _
  have KE := Lib.hid (OS.out _ hHeld312)
  clear KS OS IS hHeld hHeld312
  have Z312 := Lib.hid (KE.out.2.2.2.2.2.2.2)
  replace HB := Lib.hid (KE.out.1)
  replace BX_aA := Lib.hid (KE.out.2.1)
  replace BX_aB := Lib.hid (KE.out.2.2.1)
  replace OW_aAx := Lib.hid (KE.out.2.2.2.1)
  replace BX_aAx := Lib.hid (KE.out.2.2.2.2.1)
  replace OW_aBx := Lib.hid (KE.out.2.2.2.2.2.1)
  replace BX_aBx := Lib.hid (KE.out.2.2.2.2.2.2.1)
  clear KE LE
  go_wp2
  go_ret
  exact ⟨rfl, HB.out⟩
set_option maxRecDepth 100000 in
theorem lifted (os : Os) (started : os.Started) (H : Type) (enc : TypeId × Value → H) :
    ReturnsInHanded {} Try.checked os 3 .any (Rows.fnExactSameReasonSpec.pre6 enc Try.prog Try.f3 Rows.fnExactSameReasonRow.domain false) (Rows.fnExactSameReasonSpec.post enc Try.prog Try.f3 false true false false) := by
  refine returnsInHanded_of_change (C := Try.checked) own started (by kernel_rfl) Try.func3
    (ChangeSpec.witness6 (enc := enc) (C := Try.checked) false ⟨#[], #[.agg #[.int .i64 0, .slice none 0 0, .int .i64 0, .int .i64 0], .agg #[.int .i64 0, .slice none 0 0, .int .i64 0, .int .i64 0]], []⟩ 8 (by kernel_rfl) (by kernel_rfl) (by kernel_rfl) (by kernel_rfl)) ?_
  intro W base args ds gs before hval0 hW hcnd _
  have hval : ∀ (j : Nat) t v, Try.f3.params[j]? = some t → args[j]? = some v → Value.okWide Try.prog W .any base t v := hval0
  have hW' := hW
  obtain ⟨p, q, hA0, hV, rfl, hfz, hnd⟩ := hW
  have hA : DataW.TrodAll enc Try.prog W 0 (fun _ => true) true Try.f3.params.toList args.toList ds p := hA0
  rw [Try.params3] at hA hval
  obtain ⟨v0, vs0, d0, ds0, p0, q0, hargs, rfl, rfl, h0, r0⟩ := trodAll_cons hA
  obtain ⟨v1, vs1, d1, ds1, p1, q1, rfl, rfl, rfl, h1, r1⟩ := trodAll_cons r0
  obtain ⟨rfl, rfl, rfl⟩ := trodAll_nil r1
  obtain rfl : args = #[v0, v1] := by cases args; simp_all
  obtain ⟨rfl, rfl⟩ := trodVars_none hV
  have k0 := h0
  have lt0 : ∀ x ∈ p0, x.block < W.heap.size := by obtain ⟨m, hm⟩ := k0; exact DataW.trod_lt m _ _ _ hm
  obtain ⟨cs0, rfl, x0, y0, f0⟩ := open_arg opens_Reason Try.underlying24 (hval 0 24 v0 rfl rfl) h0
  obtain ⟨z0_Key, vz0_Group, z0_First, z0_Other, e0⟩ := form_Reason y0
  obtain rfl : cs0 = #[.int .i64 z0_Key, vz0_Group, .int .i64 z0_First, .int .i64 z0_Other] := Array.toList_inj.1 e0
  have k1 := h1
  have lt1 : ∀ x ∈ p1, x.block < W.heap.size := by obtain ⟨m, hm⟩ := k1; exact DataW.trod_lt m _ _ _ hm
  obtain ⟨cs1, rfl, x1, y1, f1⟩ := open_arg opens_Reason Try.underlying24 (hval 1 24 v1 rfl rfl) h1
  obtain ⟨z1_Key, vz1_Group, z1_First, z1_Other, e1⟩ := form_Reason y1
  obtain rfl : cs1 = #[.int .i64 z1_Key, vz1_Group, .int .i64 z1_First, .int .i64 z1_Other] := Array.toList_inj.1 e1
  clear hA0 hval0
  simp only [List.append_nil] at hW'
  refine (walk z0_Key vz0_Group z0_First z0_Other x0 z1_Key vz1_Group z1_First z1_Other x1 W y0 f0 y1 f1).mono fun e W' ⟨he, bel⟩ => ?_
  subst he
  exact ⟨_, rfl, _, _, _, [], _, [], hW', trodAll_mk1 (shut_bool Try.underlying4 _), (trodAll_cons_mk (Below.trod laidOut (by kernel_rfl) (of_decide_eq_true (by kernel_rfl)) k0 bel lt0) (trodAll_cons_mk (Below.trod laidOut (by kernel_rfl) (of_decide_eq_true (by kernel_rfl)) k1 bel lt1) trodAll_mk0)), rfl, bel.frame _, fun h => by cases h⟩

theorem over : Rows.fnExactSameReasonRow.holds Try.pinned (OpenSpec.ofChange Rows.fnExactSameReasonSpec) :=
  OpenClaim.holds_of_wide 3 Try.f3 rfl rfl rfl rfl rfl rfl rfl ⟨rfl, rfl, rfl, rfl, rfl⟩ rfl rfl rfl rfl rfl (by kernel_rfl) Try.func3 (by kernel_rfl)
    (of_decide_eq_true (by kernel_rfl)) (by unfold Func.isWrapper; first | (rw [if_pos (by decide +kernel)]; kernel_rfl) | (rw [if_neg (by decide +kernel)]; exact ⟨rfl, rfl⟩))
    (fun os started H enc _ => lifted os started H enc)

theorem proved : Rows.FnExactSameReasonSaid := over
end Go.Proofs.Yteciobkjfmddcaa.fnExactSameReason
