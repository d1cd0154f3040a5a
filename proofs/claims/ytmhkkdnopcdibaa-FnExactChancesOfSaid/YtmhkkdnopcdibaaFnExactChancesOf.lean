/-
  The law FnExactChancesOf holds for every argument: the program answers as the model does.
-/
import Derived.Test.YtmhkkdnopcdibaaRows
import Derived.WalkKit
import Derived.ProofKit
import Derived.OpenShut
import Derived.ShutString
import Derived.ChangeOld
import Derived.Below
import Derived.Lib.Hide
import Derived.Deep.RegionHeld3
import Derived.Test.YtmhkkdnopcdibaaQ1
import Derived.Test.YtmhkkdnopcdibaaQ2
import Derived.Test.YtmhkkdnopcdibaaQ3
import Derived.Test.YtmhkkdnopcdibaaQ4
import Derived.Test.YtmhkkdnopcdibaaQ11
import Derived.Test.YtmhkkdnopcdibaaQ12
import Derived.Test.YtmhkkdnopcdibaaQ13
import Derived.Test.YtmhkkdnopcdibaaQ15
import Derived.Test.YtmhkkdnopcdibaaQ17
import Derived.Test.YtmhkkdnopcdibaaQ18
namespace Go.Proofs.Ytmhkkdnopcdibaa.fnExactChancesOf
open Go.ChangeShapes Go.WideShapes Go.ChangeAt Go.RowKit
open Go.ChangeMaps (open_string shut_string)
set_option linter.unusedVariables false

theorem own : ownKnob Try.prog.godebug = none := by kernel_rfl
theorem laidOut : laidOutB Try.prog = true := by kernel_rfl

set_option maxHeartbeats 4000000 in
set_option maxRecDepth 100000 in
theorem walk (vaField : Value) (d_aField : tTeamS.D) (vaP_Pots : Value) (aP_Groups : Int) (aP_Most : Int) (d_aP : tPots.D) (aTeam : Int) (w : World) (h_aField : RdA tTeamS w [vaField] d_aField) (f_aField : tTeamS.fit d_aField) (h_aP : RdA tPots w [vaP_Pots, .int .i64 aP_Groups, .int .i64 aP_Most] d_aP) (f_aP : tPots.fit d_aP) (f_aTeam : IntFit aTeam) :
    Calls Try.prog 11 #[vaField, .agg #[vaP_Pots, .int .i64 aP_Groups, .int .i64 aP_Most], .int .i64 aTeam] w fun e w' => e = .returned (.bool true) ∧ Below w.heap.size w w' := by
  obtain ⟨d_r0, nb0, CS, CI⟩ : ∃ (d_r0 : tIntS.D), (tTeamS.wt d_aField ≤ 1048576 → tPots.wt d_aP ≤ 1048576 → tIntS.mks d_r0 ≤ 100000000000) ∧ Hid (∀ (vaField : Value) (vaP_Pots : Value) (w1 : World), RdA tTeamS w1 [vaField] d_aField → RdA tPots w1 [vaP_Pots, .int .i64 aP_Groups, .int .i64 aP_Most] d_aP → tTeamS.wt d_aField ≤ 1048576 → tPots.wt d_aP ≤ 1048576 → Calls Try.prog 40 #[vaField, .agg #[vaP_Pots, .int .i64 aP_Groups, .int .i64 aP_Most], .int .i64 aTeam] w1 fun e w' => ∃ vr0 : Value, e = .returned (vr0) ∧ OwN tIntS w' w1.heap.size w'.heap.size [vr0] d_r0 ∧ Below w1.heap.size w1 w') ∧ Hid (∀ (vaField : Value) (vaP_Pots : Value) (w1 : World), RdA tTeamS w1 [vaField] d_aField → RdA tPots w1 [vaP_Pots, .int .i64 aP_Groups, .int .i64 aP_Most] d_aP → tTeamS.wt d_aField ≤ 1048576 → tPots.wt d_aP ≤ 1048576 → Calls Try.prog 21 #[vaField, .agg #[vaP_Pots, .int .i64 aP_Groups, .int .i64 aP_Most], .int .i64 aTeam] w1 fun e w' => ∃ vr0 : Value, e = .returned (vr0) ∧ OwN tIntS w' w1.heap.size w'.heap.size [vr0] d_r0 ∧ Below w1.heap.size w1 w') := by
    obtain ⟨R, hR, hR0, hm⟩ := ch_ex (List.length (α := tTeam.D) d_aField) (atTeam d_aField) d_aP.1 aP_Groups aP_Most aTeam
    exact ⟨R, fun sf sp => hm, fun vf vp w1 hf hp sf sp => (chancesOf_spec vf (List.length (α := tTeam.D) d_aField) (atTeam d_aField) vp aP_Groups aP_Most d_aP.1 aTeam R w1 hR hR0 (rd_TeamS.1 hf) (atTeam_size f_aField) (pots_rd hp) (pots_wt sp)).mono fun e w' h => IntsL.owND h, fun vf vp w1 hf hp sf sp => (chancesOf_impl vf (List.length (α := tTeam.D) d_aField) (atTeam d_aField) vp aP_Groups aP_Most d_aP.1 aTeam R w1 hR hR0 (rd_TeamS.1 hf) (atTeam_size f_aField) (pots_rd hp) (pots_wt sp)).mono fun e w' h => IntsL.owND h⟩
  have HB : Hid (Below w.heap.size w w) := Below.refl _ _
  have HNB0 := Lib.hid nb0
  clear nb0
  have HA_aField := Lib.hid h_aField
  have HF_aField := Lib.hid f_aField
  clear h_aField f_aField
  have HA_aP := Lib.hid h_aP
  have HF_aP := Lib.hid f_aP
  clear h_aP f_aP
  have hsp := HA_aP.out
  obtain ⟨avaP_Pots, nvaP_Pots, kvaP_Pots, hvaP_Pots⟩ := rd_slice (rd_splitB hsp).1
  replace hsp := (rd_splitB hsp).2
  replace hsp := (rd_splitB hsp).2
  clear hsp
  subst hvaP_Pots
  replace HB := Lib.hid (HB.out.trans (((Below.refl w.heap.size w).alloc (Nat.le_refl _) (.cells #[.slice avaP_Pots nvaP_Pots kvaP_Pots, .int .i64 aP_Groups, .int .i64 aP_Most] 41)).mono HB.out.size))
  have BX_aP : Hid (BoxN (w.alloc (.cells #[.slice avaP_Pots nvaP_Pots kvaP_Pots, .int .i64 aP_Groups, .int .i64 aP_Most] 41)) (w.heap.size) [.slice avaP_Pots nvaP_Pots kvaP_Pots, .int .i64 aP_Groups, .int .i64 aP_Most]) := BoxN.made (Below.refl _ _) (by first | rfl | simp | (simp; done))
  go_enter Try.func11, Try.ntmps11
  go_wp2_with fail
  refine (y_sz_TeamS (vaField) d_aField (1048576) _ (by omega) (by omega) (RdA.below HA_aField.out HB.out) HF_aField.out).mono ?_
  rintro e w1 ⟨⟨r1, rfl, hr1⟩, b1⟩
  have Z1 : Hid (w.heap.size + 1 ≤ w1.heap.size) := (by have := b1.size; simp at this; show _ ≤ _; omega)
  replace HB := Lib.hid (HB.out.trans (b1.mono HB.out.size))
  replace BX_aP := Lib.hid (BX_aP.out.below b1)
  by_cases hn1 : r1 < 0
  · have g2 : decide (r1 < 0) = true := decide_eq_true hn1
    clear hr1
    go_wp2
    go_ret
    exact ⟨rfl, HB.out⟩
  have g1 : decide (r1 < 0) = false := decide_eq_false hn1
  have SM_aField : Hid (tTeamS.wt d_aField ≤ 1048576) := (by show _ ≤ _; omega)
  replace hn1 : 0 ≤ r1 ∧ r1 ≤ 1048576 := by omega
  clear hr1
  have caP_0 := BX_aP.out.2 0 _ rfl
  have caP_1 := BX_aP.out.2 1 _ rfl
  have caP_2 := BX_aP.out.2 2 _ rfl
  have caP_lt := BX_aP.out.1
  go_wp2_with fail
  refine (y_sz_Pots (.slice avaP_Pots nvaP_Pots kvaP_Pots) aP_Groups aP_Most d_aP (r1) _ (by omega) (by omega) (RdA.below HA_aP.out HB.out)).mono ?_
  rintro e w2 ⟨⟨r2, rfl, hr2⟩, b2⟩
  clear caP_0 caP_1 caP_2 caP_lt
  have Z2 : Hid (w1.heap.size ≤ w2.heap.size) := (by have := b2.size; show _ ≤ _; omega)
  replace HB := Lib.hid (HB.out.trans (b2.mono HB.out.size))
  replace BX_aP := Lib.hid (BX_aP.out.below b2)
  by_cases hn2 : r2 < 0
  · have g2 : decide (r2 < 0) = true := decide_eq_true hn2
    clear hr2
    go_wp2
    go_ret
    exact ⟨rfl, HB.out⟩
  have g2 : decide (r2 < 0) = false := decide_eq_false hn2
  have SM_aP : Hid (tPots.wt d_aP ≤ 1048576) := (by show _ ≤ _; omega)
  replace hn2 : 0 ≤ r2 ∧ r2 ≤ 1048576 := by omega
  clear hr2
  have LE : Hid (w2.heap.size ≤ w2.heap.size) := (by show _ ≤ _; first | exact Nat.le_refl _ | simp)
  obtain ⟨S, HSd⟩ : ∃ S : World → Prop, S = fun w' => Below w.heap.size w w' ∧ BoxN w' (w.heap.size) [.slice avaP_Pots nvaP_Pots kvaP_Pots, .int .i64 aP_Groups, .int .i64 aP_Most] ∧ w2.heap.size ≤ w'.heap.size := ⟨_, rfl⟩
  have KS : Hid (∀ wa wb, S wa → Below wa.heap.size wa wb → S wb) := by subst HSd; exact fun wa wb h b => ⟨h.1.trans (b.mono h.1.size), h.2.1.below b, Nat.le_trans h.2.2 b.size⟩
  have OS : Hid (∀ wa, S wa → Below w.heap.size w wa ∧ BoxN wa (w.heap.size) [.slice avaP_Pots nvaP_Pots kvaP_Pots, .int .i64 aP_Groups, .int .i64 aP_Most] ∧ w2.heap.size ≤ wa.heap.size) := by subst HSd; exact fun wa h => h
  have IS : Hid (∀ wa, Below w.heap.size w wa ∧ BoxN wa (w.heap.size) [.slice avaP_Pots nvaP_Pots kvaP_Pots, .int .i64 aP_Groups, .int .i64 aP_Most] ∧ w2.heap.size ≤ wa.heap.size → S wa) := by subst HSd; exact fun wa h => h
  clear HSd
  go_wp2_with fail
  refine wp_region_held_drew (S := S) (by kernel_rfl) ?_ (fun hHeld => ?_)
  · exact IS.out _ ((fun (b : Below w2.heap.size w2 _) => ⟨HB.out.trans (b.mono HB.out.size), BX_aP.out.below b, Nat.le_trans LE.out b.size⟩) (Below.refl _ _).drew)
  refine wpAnyH_take (i := 0) (v := ?_) rfl (by kernel_rfl) (by kernel_rfl) (by kernel_rfl) (fun _ _ _ h => h) (Or.inl ⟨by rfl, ?_⟩) hHeld ?_
  rotate_left
  · (intro wa hSw; go_simp; try with_reducible rfl)
  simp only [Act.put, List.getElem_toArray, List.getElem_cons_zero, List.setIfInBounds_toArray, List.set_cons_zero, List.set_cons_succ]
  refine wpAnyH_take (i := 2) (v := ?_) rfl (by kernel_rfl) (by kernel_rfl) (by kernel_rfl) (fun _ _ _ h => h) (Or.inl ⟨by rfl, ?_⟩) hHeld ?_
  rotate_left
  · (intro wa hSw; have K := OS.out _ hSw; have caP_0 := (K.2.1).2 0 _ rfl; have caP_1 := (K.2.1).2 1 _ rfl; have caP_2 := (K.2.1).2 2 _ rfl; go_simp; try with_reducible rfl)
  simp only [Act.put, List.getElem_toArray, List.getElem_cons_zero, List.getElem_cons_succ, List.setIfInBounds_toArray, List.set_cons_zero, List.set_cons_succ]
  refine wpAnyH_take (i := 4) (v := ?_) rfl (by kernel_rfl) (by kernel_rfl) (by kernel_rfl) (fun _ _ _ h => h) (Or.inl ⟨by rfl, ?_⟩) hHeld ?_
  rotate_left
  · (intro wa hSw; go_simp; try with_reducible rfl)
  simp only [Act.put, List.getElem_toArray, List.getElem_cons_zero, List.getElem_cons_succ, List.setIfInBounds_toArray, List.set_cons_zero, List.set_cons_succ]
  refine wpAnyH_ready (rs := [1]) (by kernel_rfl) (by simp) ?_
  refine AllReadyH.cons (o := _) rfl (fun K hK => ?_) AllReadyH.nil
  go_simp
  have KK := OS.out _ hHeld
  refine (y_to_TeamS (vaField) d_aField _ (RdA.below HA_aField.out (KK.1)) SM_aField.out).mono ?_
  rintro e w103 ⟨vaFieldt1, rfl, ho, b103⟩
  have HT_aFieldt1 := Lib.hid ho.rdA
  clear ho
  clear KK
  (try go_wp2_with fail)
  refine hK.out _ _ ?_ (fun hHeld103 => ?_)
  · exact KS.out _ _ hHeld b103
  clear hK K
  refine wpAnyH_ready (rs := [3]) (by kernel_rfl) (by simp) ?_
  refine AllReadyH.cons (o := _) rfl (fun K hK => ?_) AllReadyH.nil
  go_simp
  have KK := OS.out _ hHeld103
  refine (y_to_Pots (.slice avaP_Pots nvaP_Pots kvaP_Pots) aP_Groups aP_Most d_aP _ (RdA.below HA_aP.out (KK.1)) SM_aP.out).mono ?_
  rintro e w104 ⟨vaP_Potst2, rfl, ho, b104⟩
  replace HT_aFieldt1 := Lib.hid (HT_aFieldt1.out.below b104)
  have HT_aPt2 := Lib.hid ho.rdA
  clear ho
  clear KK
  (try go_wp2_with fail)
  refine hK.out _ _ ?_ (fun hHeld104 => ?_)
  · exact KS.out _ _ hHeld103 b104
  clear hK K
  clear hHeld103
  refine wpAnyH_ready (rs := [5]) (by kernel_rfl) (by simp) ?_
  refine AllReadyH.cons (o := _) rfl (fun K hK => ?_) AllReadyH.nil
  go_simp
  have KK := OS.out _ hHeld104
  refine (CS.out (vaFieldt1) (vaP_Potst2) _ HT_aFieldt1.out HT_aPt2.out SM_aField.out SM_aP.out).mono ?_
  rintro e w105 ⟨vr0s, rfl, ho, b105⟩
  have HO := Lib.hid (ho.mono (lo' := w2.heap.size) (KK.2.2) (Nat.le_refl _) (Nat.le_refl _))
  clear ho
  clear HT_aFieldt1 HT_aPt2
  clear KK
  (try go_wp2_with fail)
  refine hK.out _ _ ?_ (fun hHeld105 => ?_)
  · exact KS.out _ _ hHeld104 b105
  clear hK K
  clear hHeld104
  refine wpAnyH_take (i := 6) (v := ?_) rfl (by kernel_rfl) (by kernel_rfl) (by kernel_rfl) (fun _ _ _ h => h) (Or.inl ⟨by rfl, ?_⟩) hHeld105 ?_
  rotate_left
  · (intro wa hSw; go_simp; try with_reducible rfl)
  simp only [Act.put, List.getElem_toArray, List.getElem_cons_zero, List.getElem_cons_succ, List.setIfInBounds_toArray, List.set_cons_zero, List.set_cons_succ]
  refine wpAnyH_done (by kernel_rfl) ?_ _
  have KE := Lib.hid (OS.out _ hHeld105)
  clear KS OS IS hHeld hHeld105
  have Z105 := Lib.hid (KE.out.2.2)
  replace HB := Lib.hid (KE.out.1)
  replace BX_aP := Lib.hid (KE.out.2.1)
  clear KE LE
  have ho := HO.out
  clear HO
  have OW_r0s := Lib.hid (ho.mono (lo' := w2.heap.size) (hi' := w105.heap.size) (by have := Z1.out; have := Z2.out; have := Z105.out; (try simp only [World.alloc, Array.size_push]); omega) (Nat.le_refl _) (Nat.le_refl _))
  clear ho
  go_wp2_with fail
  refine (y_to_TeamS (vaField) d_aField _ (RdA.below HA_aField.out HB.out) SM_aField.out).mono ?_
  rintro e w106 ⟨vaFieldx, rfl, ho, b106⟩
  have Z106 : Hid (w105.heap.size ≤ w106.heap.size) := (by have := b106.size; show _ ≤ _; omega)
  replace HB := Lib.hid (HB.out.trans (b106.mono HB.out.size))
  replace BX_aP := Lib.hid (BX_aP.out.below b106)
  replace OW_r0s := Lib.hid (OW_r0s.out.below b106)
  have OW_aFieldx := Lib.hid (ho.mono (lo' := w105.heap.size) (hi' := w106.heap.size) (by have := Z1.out; have := Z2.out; have := Z105.out; have := Z106.out; (try simp only [World.alloc, Array.size_push]); omega) (Nat.le_refl _) (Nat.le_refl _))
  clear ho
  have caP_0 := BX_aP.out.2 0 _ rfl
  have caP_1 := BX_aP.out.2 1 _ rfl
  have caP_2 := BX_aP.out.2 2 _ rfl
  have caP_lt := BX_aP.out.1
  go_wp2_with fail
  refine (y_to_Pots (.slice avaP_Pots nvaP_Pots kvaP_Pots) aP_Groups aP_Most d_aP _ (RdA.below HA_aP.out HB.out) SM_aP.out).mono ?_
  rintro e w107 ⟨vaP_Potsx, rfl, ho, b107⟩
  clear caP_0 caP_1 caP_2 caP_lt
  have Z107 : Hid (w106.heap.size ≤ w107.heap.size) := (by have := b107.size; show _ ≤ _; omega)
  replace HB := Lib.hid (HB.out.trans (b107.mono HB.out.size))
  replace BX_aP := Lib.hid (BX_aP.out.below b107)
  replace OW_r0s := Lib.hid (OW_r0s.out.below b107)
  replace OW_aFieldx := Lib.hid (OW_aFieldx.out.below b107)
  have OW_aPx := Lib.hid (ho.mono (lo' := w106.heap.size) (hi' := w107.heap.size) (by have := Z1.out; have := Z2.out; have := Z105.out; have := Z106.out; have := Z107.out; (try simp only [World.alloc, Array.size_push]); omega) (Nat.le_refl _) (Nat.le_refl _))
  clear ho
  have hsp := OW_aPx.out.rd
  obtain ⟨avaP_Potsx, nvaP_Potsx, kvaP_Potsx, hvaP_Potsx⟩ := rd_slice (rd_splitB hsp).1
  replace hsp := (rd_splitB hsp).2
  replace hsp := (rd_splitB hsp).2
  clear hsp
  subst hvaP_Potsx
  replace HB := Lib.hid (HB.out.trans (((Below.refl w107.heap.size w107).alloc (Nat.le_refl _) (.cells #[.slice avaP_Potsx nvaP_Potsx kvaP_Potsx, .int .i64 aP_Groups, .int .i64 aP_Most] 26)).mono HB.out.size))
  replace BX_aP := Lib.hid (BX_aP.out.below ((Below.refl w107.heap.size w107).alloc (Nat.le_refl _) (.cells #[.slice avaP_Potsx nvaP_Potsx kvaP_Potsx, .int .i64 aP_Groups, .int .i64 aP_Most] 26)))
  replace OW_r0s := Lib.hid (OW_r0s.out.below ((Below.refl w107.heap.size w107).alloc (Nat.le_refl _) (.cells #[.slice avaP_Potsx nvaP_Potsx kvaP_Potsx, .int .i64 aP_Groups, .int .i64 aP_Most] 26)))
  replace OW_aFieldx := Lib.hid (OW_aFieldx.out.below ((Below.refl w107.heap.size w107).alloc (Nat.le_refl _) (.cells #[.slice avaP_Potsx nvaP_Potsx kvaP_Potsx, .int .i64 aP_Groups, .int .i64 aP_Most] 26)))
  replace OW_aPx := Lib.hid (OW_aPx.out.below ((Below.refl w107.heap.size w107).alloc (Nat.le_refl _) (.cells #[.slice avaP_Potsx nvaP_Potsx kvaP_Potsx, .int .i64 aP_Groups, .int .i64 aP_Most] 26)))
  have BX_aPx : Hid (BoxN (w107.alloc (.cells #[.slice avaP_Potsx nvaP_Potsx kvaP_Potsx, .int .i64 aP_Groups, .int .i64 aP_Most] 26)) (w107.heap.size) [.slice avaP_Potsx nvaP_Potsx kvaP_Potsx, .int .i64 aP_Groups, .int .i64 aP_Most]) := BoxN.made (Below.refl _ _) (by first | rfl | simp | (simp; done))
  have caPx_0 := BX_aPx.out.2 0 _ rfl
  have caPx_1 := BX_aPx.out.2 1 _ rfl
  have caPx_2 := BX_aPx.out.2 2 _ rfl
  have caPx_lt := BX_aPx.out.1
  go_wp2_with fail
  refine (CI.out (vaFieldx) (.slice avaP_Potsx nvaP_Potsx kvaP_Potsx) _ OW_aFieldx.out.rdA OW_aPx.out.rdA SM_aField.out SM_aP.out).mono ?_
  rintro e w108 ⟨vr0i, rfl, ho, b108⟩
  clear caPx_0 caPx_1 caPx_2 caPx_lt
  have Z108 : Hid (w107.heap.size + 1 ≤ w108.heap.size) := (by have := b108.size; simp at this; show _ ≤ _; omega)
  replace HB := Lib.hid (HB.out.trans (b108.mono HB.out.size))
  replace BX_aP := Lib.hid (BX_aP.out.below b108)
  replace OW_r0s := Lib.hid (OW_r0s.out.below b108)
  replace OW_aFieldx := Lib.hid (OW_aFieldx.out.below b108)
  replace OW_aPx := Lib.hid (OW_aPx.out.below b108)
  replace BX_aPx := Lib.hid (BX_aPx.out.below b108)
  have OW_r0i := Lib.hid (ho.mono (lo' := w107.heap.size + 1) (hi' := w108.heap.size) (by have := Z1.out; have := Z2.out; have := Z105.out; have := Z106.out; have := Z107.out; have := Z108.out; (try simp only [World.alloc, Array.size_push]); omega) (Nat.le_refl _) (Nat.le_refl _))
  clear ho
  go_wp2_with fail
  refine (y_eq_IntS (vr0i) (vr0s) d_r0 _ OW_r0i.out.rdA OW_r0s.out.rdA).mono ?_
  rintro e w109 ⟨rfl, b109⟩
  have Z109 : Hid (w108.heap.size ≤ w109.heap.size) := (by have := b109.size; show _ ≤ _; omega)
  replace HB := Lib.hid (HB.out.trans (b109.mono HB.out.size))
  replace BX_aP := Lib.hid (BX_aP.out.below b109)
  replace OW_r0s := Lib.hid (OW_r0s.out.below b109)
  replace OW_aFieldx := Lib.hid (OW_aFieldx.out.below b109)
  replace OW_aPx := Lib.hid (OW_aPx.out.below b109)
  replace BX_aPx := Lib.hid (BX_aPx.out.below b109)
  replace OW_r0i := Lib.hid (OW_r0i.out.below b109)
  go_wp2_with fail
  refine (y_to_TeamS (vaField) d_aField _ (RdA.below HA_aField.out HB.out) SM_aField.out).mono ?_
  rintro e w110 ⟨vaFieldt3, rfl, ho, b110⟩
  have Z110 : Hid (w109.heap.size ≤ w110.heap.size) := (by have := b110.size; show _ ≤ _; omega)
  replace HB := Lib.hid (HB.out.trans (b110.mono HB.out.size))
  replace BX_aP := Lib.hid (BX_aP.out.below b110)
  replace OW_r0s := Lib.hid (OW_r0s.out.below b110)
  replace OW_aFieldx := Lib.hid (OW_aFieldx.out.below b110)
  replace OW_aPx := Lib.hid (OW_aPx.out.below b110)
  replace BX_aPx := Lib.hid (BX_aPx.out.below b110)
  replace OW_r0i := Lib.hid (OW_r0i.out.below b110)
  have OW_aFieldt3 := Lib.hid (ho.mono (lo' := w109.heap.size) (hi' := w110.heap.size) (by have := Z1.out; have := Z2.out; have := Z105.out; have := Z106.out; have := Z107.out; have := Z108.out; have := Z109.out; have := Z110.out; (try simp only [World.alloc, Array.size_push]); omega) (Nat.le_refl _) (Nat.le_refl _))
  clear ho
  go_wp2_with fail
  refine (y_eq_TeamS (vaFieldx) (vaFieldt3) d_aField _ OW_aFieldx.out.rdA OW_aFieldt3.out.rdA).mono ?_
  rintro e w111 ⟨rfl, b111⟩
  have Z111 : Hid (w110.heap.size ≤ w111.heap.size) := (by have := b111.size; show _ ≤ _; omega)
  replace HB := Lib.hid (HB.out.trans (b111.mono HB.out.size))
  replace BX_aP := Lib.hid (BX_aP.out.below b111)
  replace OW_r0s := Lib.hid (OW_r0s.out.below b111)
  replace OW_aFieldx := Lib.hid (OW_aFieldx.out.below b111)
  replace OW_aPx := Lib.hid (OW_aPx.out.below b111)
  replace BX_aPx := Lib.hid (BX_aPx.out.below b111)
  replace OW_r0i := Lib.hid (OW_r0i.out.below b111)
  replace OW_aFieldt3 := Lib.hid (OW_aFieldt3.out.below b111)
  clear OW_aFieldt3
  have LE : Hid (w111.heap.size ≤ w111.heap.size) := (by show _ ≤ _; first | exact Nat.le_refl _ | simp)
  obtain ⟨S, HSd⟩ : ∃ S : World → Prop, S = fun w' => Below w.heap.size w w' ∧ BoxN w' (w.heap.size) [.slice avaP_Pots nvaP_Pots kvaP_Pots, .int .i64 aP_Groups, .int .i64 aP_Most] ∧ OwN tIntS w' (w2.heap.size) (w105.heap.size) [vr0s] d_r0 ∧ OwN tTeamS w' (w105.heap.size) (w106.heap.size) [vaFieldx] d_aField ∧ OwN tPots w' (w106.heap.size) (w107.heap.size) [.slice avaP_Potsx nvaP_Potsx kvaP_Potsx, .int .i64 aP_Groups, .int .i64 aP_Most] d_aP ∧ BoxN w' (w107.heap.size) [.slice avaP_Potsx nvaP_Potsx kvaP_Potsx, .int .i64 aP_Groups, .int .i64 aP_Most] ∧ OwN tIntS w' (w107.heap.size + 1) (w108.heap.size) [vr0i] d_r0 ∧ w111.heap.size ≤ w'.heap.size := ⟨_, rfl⟩
  have KS : Hid (∀ wa wb, S wa → Below wa.heap.size wa wb → S wb) := by subst HSd; exact fun wa wb h b => ⟨h.1.trans (b.mono h.1.size), h.2.1.below b, h.2.2.1.below b, h.2.2.2.1.below b, h.2.2.2.2.1.below b, h.2.2.2.2.2.1.below b, h.2.2.2.2.2.2.1.below b, Nat.le_trans h.2.2.2.2.2.2.2 b.size⟩
  have OS : Hid (∀ wa, S wa → Below w.heap.size w wa ∧ BoxN wa (w.heap.size) [.slice avaP_Pots nvaP_Pots kvaP_Pots, .int .i64 aP_Groups, .int .i64 aP_Most] ∧ OwN tIntS wa (w2.heap.size) (w105.heap.size) [vr0s] d_r0 ∧ OwN tTeamS wa (w105.heap.size) (w106.heap.size) [vaFieldx] d_aField ∧ OwN tPots wa (w106.heap.size) (w107.heap.size) [.slice avaP_Potsx nvaP_Potsx kvaP_Potsx, .int .i64 aP_Groups, .int .i64 aP_Most] d_aP ∧ BoxN wa (w107.heap.size) [.slice avaP_Potsx nvaP_Potsx kvaP_Potsx, .int .i64 aP_Groups, .int .i64 aP_Most] ∧ OwN tIntS wa (w107.heap.size + 1) (w108.heap.size) [vr0i] d_r0 ∧ w111.heap.size ≤ wa.heap.size) := by subst HSd; exact fun wa h => h
  have IS : Hid (∀ wa, Below w.heap.size w wa ∧ BoxN wa (w.heap.size) [.slice avaP_Pots nvaP_Pots kvaP_Pots, .int .i64 aP_Groups, .int .i64 aP_Most] ∧ OwN tIntS wa (w2.heap.size) (w105.heap.size) [vr0s] d_r0 ∧ OwN tTeamS wa (w105.heap.size) (w106.heap.size) [vaFieldx] d_aField ∧ OwN tPots wa (w106.heap.size) (w107.heap.size) [.slice avaP_Potsx nvaP_Potsx kvaP_Potsx, .int .i64 aP_Groups, .int .i64 aP_Most] d_aP ∧ BoxN wa (w107.heap.size) [.slice avaP_Potsx nvaP_Potsx kvaP_Potsx, .int .i64 aP_Groups, .int .i64 aP_Most] ∧ OwN tIntS wa (w107.heap.size + 1) (w108.heap.size) [vr0i] d_r0 ∧ w111.heap.size ≤ wa.heap.size → S wa) := by subst HSd; exact fun wa h => h
  clear HSd
  go_wp2_with fail
  refine wp_region_held_drew (S := S) (by kernel_rfl) ?_ (fun hHeld => ?_)
  · exact IS.out _ ((fun (b : Below w111.heap.size w111 _) => ⟨HB.out.trans (b.mono HB.out.size), BX_aP.out.below b, OW_r0s.out.below b, OW_aFieldx.out.below b, OW_aPx.out.below b, BX_aPx.out.below b, OW_r0i.out.below b, Nat.le_trans LE.out b.size⟩) (Below.refl _ _).drew)
  refine wpAnyH_take (i := 0) (v := ?_) rfl (by kernel_rfl) (by kernel_rfl) (by kernel_rfl) (fun _ _ _ h => h) (Or.inl ⟨by rfl, ?_⟩) hHeld ?_
  rotate_left
  · (intro wa hSw; have K := OS.out _ hSw; have caPx_0 := (K.2.2.2.2.2.1).2 0 _ rfl; have caPx_1 := (K.2.2.2.2.2.1).2 1 _ rfl; have caPx_2 := (K.2.2.2.2.2.1).2 2 _ rfl; have caP_0 := (K.2.1).2 0 _ rfl; have caP_1 := (K.2.1).2 1 _ rfl; have caP_2 := (K.2.1).2 2 _ rfl; go_simp; try with_reducible rfl)
  simp only [Act.put, List.getElem_toArray, List.getElem_cons_zero, List.setIfInBounds_toArray, List.set_cons_zero, List.set_cons_succ]
  refine wpAnyH_take (i := 1) (v := ?_) rfl (by kernel_rfl) (by kernel_rfl) (by kernel_rfl) (fun _ _ _ h => h) (Or.inl ⟨by rfl, ?_⟩) hHeld ?_
  rotate_left
  · (intro wa hSw; have K := OS.out _ hSw; have caPx_0 := (K.2.2.2.2.2.1).2 0 _ rfl; have caPx_1 := (K.2.2.2.2.2.1).2 1 _ rfl; have caPx_2 := (K.2.2.2.2.2.1).2 2 _ rfl; have caP_0 := (K.2.1).2 0 _ rfl; have caP_1 := (K.2.1).2 1 _ rfl; have caP_2 := (K.2.1).2 2 _ rfl; go_simp; try with_reducible rfl)
  simp only [Act.put, List.getElem_toArray, List.getElem_cons_zero, List.getElem_cons_succ, List.setIfInBounds_toArray, List.set_cons_zero, List.set_cons_succ]
  refine wpAnyH_ready (rs := [2]) (by kernel_rfl) (by simp) ?_
  refine AllReadyH.cons (o := _) rfl (fun K hK => ?_) AllReadyH.nil
  go_simp
  have KK := OS.out _ hHeld
  refine (y_to_Pots (.slice avaP_Pots nvaP_Pots kvaP_Pots) aP_Groups aP_Most d_aP _ (RdA.below HA_aP.out (KK.1)) SM_aP.out).mono ?_
  rintro e w212 ⟨vaP_Potst4, rfl, ho, b212⟩
  have HT_aPt4 := Lib.hid ho.rdA
  clear ho
  clear KK
  (try go_wp2_with fail)
  refine hK.out _ _ ?_ (fun hHeld212 => ?_)
  · exact KS.out _ _ hHeld b212
  clear hK K
  refine wpAnyH_ready (rs := [3]) (by kernel_rfl) (by simp) ?_
  refine AllReadyH.cons (o := _) rfl (fun K hK => ?_) AllReadyH.nil
  go_simp
  have KK := OS.out _ hHeld212
  refine (y_eq_Pots (.slice avaP_Potsx nvaP_Potsx kvaP_Potsx) aP_Groups aP_Most (vaP_Potst4) d_aP _ (KK.2.2.2.2.1).rdA HT_aPt4.out).mono ?_
  rintro e w213 ⟨rfl, b213⟩
  clear HT_aPt4
  clear KK
  (try go_wp2_with fail)
  refine hK.out _ _ ?_ (fun hHeld213 => ?_)
  · exact KS.out _ _ hHeld212 b213
  clear hK K
  clear hHeld212
  refine wpAnyH_take (i := 4) (v := ?_) rfl (by kernel_rfl) (by kernel_rfl) (by kernel_rfl) (fun _ _ _ h => h) (Or.inl ⟨by rfl, ?_⟩) hHeld213 ?_
  rotate_left
  · (intro wa hSw; go_simp; try with_reducible rfl)
  simp only [Act.put, List.getElem_toArray, List.getElem_cons_zero, List.getElem_cons_succ, List.setIfInBounds_toArray, List.set_cons_zero, List.set_cons_succ]
  refine wpAnyH_done (by kernel_rfl) ?_ _
  have KE := Lib.hid (OS.out _ hHeld213)
  clear KS OS IS hHeld hHeld213
  have Z213 := Lib.hid (KE.out.2.2.2.2.2.2.2)
  replace HB := Lib.hid (KE.out.1)
  replace BX_aP := Lib.hid (KE.out.2.1)
  replace OW_r0s := Lib.hid (KE.out.2.2.1)
  replace OW_aFieldx := Lib.hid (KE.out.2.2.2.1)
  replace OW_aPx := Lib.hid (KE.out.2.2.2.2.1)
  replace BX_aPx := Lib.hid (KE.out.2.2.2.2.2.1)
  replace OW_r0i := Lib.hid (KE.out.2.2.2.2.2.2.1)
  clear KE LE
  obtain ⟨M_aFieldx, hM⟩ : ∃ z, tTeamS.mks d_aField = z := ⟨_, rfl⟩
  have HM_aFieldx := Lib.hid hM
  have hM2_aFieldx : M_aFieldx ≤ 100000000000 := (by have h7 : tTeamS.mks d_aField ≤ 2000000000 := (Bnd.le ((bnd_sl (bnd_two bnd_str (bnd_two bnd_int bnd_int))) : Bnd tTeamS 3) SM_aField.out (by decide)); rw [hM] at h7; omega)
  clear hM
  go_wp2_with fail
  refine (mark_windowC OW_aFieldx.out fun bs ho hnd => yb_mk_TeamS (vaFieldx) d_aField ((1 : Int)) _ bs _ ho hnd (by omega) (by have := HM_aFieldx.out; omega)).mono ?_
  rintro e w214 ⟨rfl, hr, b214⟩
  rw [HM_aFieldx.out]
  clear OW_aFieldx
  clear hr
  have Z214 : Hid (w213.heap.size ≤ w214.heap.size) := (by have := b214.size; show _ ≤ _; omega)
  replace HB := Lib.hid (HB.out.trans (b214.below (by have := Z1.out; have := Z2.out; have := Z105.out; have := Z106.out; have := Z107.out; have := Z108.out; have := Z109.out; have := Z110.out; have := Z111.out; have := Z213.out; omega) HB.out.size))
  replace BX_aP := Lib.hid (BX_aP.out.touch b214 (by have := Z1.out; have := Z2.out; have := Z105.out; have := Z106.out; have := Z107.out; have := Z108.out; have := Z109.out; have := Z110.out; have := Z111.out; have := Z213.out; omega))
  replace OW_r0s := Lib.hid (OW_r0s.out.touch b214 (by have := Z1.out; have := Z2.out; have := Z105.out; have := Z106.out; have := Z107.out; have := Z108.out; have := Z109.out; have := Z110.out; have := Z111.out; have := Z213.out; omega))
  replace OW_aPx := Lib.hid (OW_aPx.out.touch b214 (by have := Z1.out; have := Z2.out; have := Z105.out; have := Z106.out; have := Z107.out; have := Z108.out; have := Z109.out; have := Z110.out; have := Z111.out; have := Z213.out; omega))
  replace BX_aPx := Lib.hid (BX_aPx.out.touch b214 (by have := Z1.out; have := Z2.out; have := Z105.out; have := Z106.out; have := Z107.out; have := Z108.out; have := Z109.out; have := Z110.out; have := Z111.out; have := Z213.out; omega))
  replace OW_r0i := Lib.hid (OW_r0i.out.touch b214 (by have := Z1.out; have := Z2.out; have := Z105.out; have := Z106.out; have := Z107.out; have := Z108.out; have := Z109.out; have := Z110.out; have := Z111.out; have := Z213.out; omega))
  obtain ⟨M_aPx, hM⟩ : ∃ z, cnt_Pots d_aP = z := ⟨_, rfl⟩
  have HM_aPx := Lib.hid hM
  have hM2_aPx : M_aPx ≤ 100000000000 := (by have h7 : cnt_Pots d_aP ≤ 2000000000 := (Nat.le_trans (cntle_Pots d_aP) (Bnd.le ((bnd_two (bnd_sl (bnd_sl bnd_int)) (bnd_two bnd_int bnd_int)) : Bnd tPots 3) SM_aP.out (by decide))); rw [hM] at h7; omega)
  clear hM
  have caPx_0 := BX_aPx.out.2 0 _ rfl
  have caPx_1 := BX_aPx.out.2 1 _ rfl
  have caPx_2 := BX_aPx.out.2 2 _ rfl
  have caPx_lt := BX_aPx.out.1
  go_wp2_with fail
  refine (mark_windowC OW_aPx.out fun bs ho hnd => yb_mk_Pots (.slice avaP_Potsx nvaP_Potsx kvaP_Potsx) aP_Groups aP_Most d_aP ((1 : Int) + (M_aFieldx : Int)) _ bs _ ho hnd (by omega) (by have := HM_aPx.out; omega)).mono ?_
  rintro e w215 ⟨rfl, hr, b215⟩
  clear caPx_0 caPx_1 caPx_2 caPx_lt
  rw [HM_aPx.out]
  clear OW_aPx
  clear hr
  have Z215 : Hid (w214.heap.size ≤ w215.heap.size) := (by have := b215.size; show _ ≤ _; omega)
  replace HB := Lib.hid (HB.out.trans (b215.below (by have := Z1.out; have := Z2.out; have := Z105.out; have := Z106.out; have := Z107.out; have := Z108.out; have := Z109.out; have := Z110.out; have := Z111.out; have := Z213.out; have := Z214.out; omega) HB.out.size))
  replace BX_aP := Lib.hid (BX_aP.out.touch b215 (by have := Z1.out; have := Z2.out; have := Z105.out; have := Z106.out; have := Z107.out; have := Z108.out; have := Z109.out; have := Z110.out; have := Z111.out; have := Z213.out; have := Z214.out; omega))
  replace OW_r0s := Lib.hid (OW_r0s.out.touch b215 (by have := Z1.out; have := Z2.out; have := Z105.out; have := Z106.out; have := Z107.out; have := Z108.out; have := Z109.out; have := Z110.out; have := Z111.out; have := Z213.out; have := Z214.out; omega))
  replace BX_aPx := Lib.hid (BX_aPx.out.touch b215 (by have := Z1.out; have := Z2.out; have := Z105.out; have := Z106.out; have := Z107.out; have := Z108.out; have := Z109.out; have := Z110.out; have := Z111.out; have := Z213.out; have := Z214.out; omega))
  replace OW_r0i := Lib.hid (OW_r0i.out.touch b215 (by have := Z1.out; have := Z2.out; have := Z105.out; have := Z106.out; have := Z107.out; have := Z108.out; have := Z109.out; have := Z110.out; have := Z111.out; have := Z213.out; have := Z214.out; omega))
  have kd4528 : decide ((1 : Int) + (M_aFieldx : Int) + (M_aPx : Int) < 0) = false := decide_eq_false (by omega)
  go_wp2_with fail
  refine (y_eq_IntS (vr0i) (vr0s) d_r0 _ OW_r0i.out.rdA OW_r0s.out.rdA).mono ?_
  rintro e w216 ⟨rfl, b216⟩
  have Z216 : Hid (w215.heap.size ≤ w216.heap.size) := (by have := b216.size; show _ ≤ _; omega)
  replace HB := Lib.hid (HB.out.trans (b216.mono HB.out.size))
  replace BX_aP := Lib.hid (BX_aP.out.below b216)
  replace OW_r0s := Lib.hid (OW_r0s.out.below b216)
  replace BX_aPx := Lib.hid (BX_aPx.out.below b216)
  replace OW_r0i := Lib.hid (OW_r0i.out.below b216)
  obtain ⟨M_r0i, hM⟩ : ∃ z, tIntS.mks d_r0 = z := ⟨_, rfl⟩
  have HM_r0i := Lib.hid hM
  have hM2_r0i : M_r0i ≤ 100000000000 := (by have h7 : tIntS.mks d_r0 ≤ 100000000000 := (HNB0.out SM_aField.out SM_aP.out); rw [hM] at h7; omega)
  clear hM
  go_wp2_with fail
  refine (mark_windowC OW_r0i.out fun bs ho hnd => yb_mk_IntS (vr0i) d_r0 ((1 : Int)) _ bs _ ho hnd (by omega) (by have := HM_r0i.out; omega)).mono ?_
  rintro e w217 ⟨rfl, hr, b217⟩
  rw [HM_r0i.out]
  clear OW_r0i
  have Z217 : Hid (w216.heap.size ≤ w217.heap.size) := (by have := b217.size; show _ ≤ _; omega)
  replace HB := Lib.hid (HB.out.trans (b217.below (by have := Z1.out; have := Z2.out; have := Z105.out; have := Z106.out; have := Z107.out; have := Z108.out; have := Z109.out; have := Z110.out; have := Z111.out; have := Z213.out; have := Z214.out; have := Z215.out; have := Z216.out; omega) HB.out.size))
  replace BX_aP := Lib.hid (BX_aP.out.touch b217 (by have := Z1.out; have := Z2.out; have := Z105.out; have := Z106.out; have := Z107.out; have := Z108.out; have := Z109.out; have := Z110.out; have := Z111.out; have := Z213.out; have := Z214.out; have := Z215.out; have := Z216.out; omega))
  replace OW_r0s := Lib.hid (OW_r0s.out.touch b217 (by have := Z1.out; have := Z2.out; have := Z105.out; have := Z106.out; have := Z107.out; have := Z108.out; have := Z109.out; have := Z110.out; have := Z111.out; have := Z213.out; have := Z214.out; have := Z215.out; have := Z216.out; omega))
  replace BX_aPx := Lib.hid (BX_aPx.out.touch b217 (by have := Z1.out; have := Z2.out; have := Z105.out; have := Z106.out; have := Z107.out; have := Z108.out; have := Z109.out; have := Z110.out; have := Z111.out; have := Z213.out; have := Z214.out; have := Z215.out; have := Z216.out; omega))
  have RN_r0i := Lib.hid hr
  clear hr
  have qd4534 : decide ((1 : Int) + (M_r0i : Int) < 0) = false := decide_eq_false (by omega)
  go_wp2_with fail
  refine (y_hd_IntS (vr0i) d_r0 (1 : Int) _ (RN_r0i.out.all (by have := Z1.out; have := Z2.out; have := Z105.out; have := Z106.out; have := Z107.out; have := Z108.out; have := Z109.out; have := Z110.out; have := Z111.out; have := Z213.out; have := Z214.out; have := Z215.out; have := Z216.out; have := Z217.out; (try simp only [World.alloc, Array.size_push]); omega)) (by omega) (by have := HM_r0i.out; omega)).mono ?_
  rintro e w218 ⟨rfl, b218⟩
  rw [HM_r0i.out]
  have Z218 : Hid (w217.heap.size ≤ w218.heap.size) := (by have := b218.size; show _ ≤ _; omega)
  replace HB := Lib.hid (HB.out.trans (b218.mono HB.out.size))
  replace BX_aP := Lib.hid (BX_aP.out.below b218)
  replace OW_r0s := Lib.hid (OW_r0s.out.below b218)
  replace BX_aPx := Lib.hid (BX_aPx.out.below b218)
  replace RN_r0i := Lib.hid (RN_r0i.out.below b218)
  have LE : Hid (w218.heap.size ≤ w218.heap.size) := (by show _ ≤ _; first | exact Nat.le_refl _ | simp)
  obtain ⟨S, HSd⟩ : ∃ S : World → Prop, S = fun w' => Below w.heap.size w w' ∧ BoxN w' (w.heap.size) [.slice avaP_Pots nvaP_Pots kvaP_Pots, .int .i64 aP_Groups, .int .i64 aP_Most] ∧ OwN tIntS w' (w2.heap.size) (w105.heap.size) [vr0s] d_r0 ∧ BoxN w' (w107.heap.size) [.slice avaP_Potsx nvaP_Potsx kvaP_Potsx, .int .i64 aP_Groups, .int .i64 aP_Most] ∧ RdN tIntS w' (w107.heap.size + 1) (w108.heap.size) [vr0i] (tIntS.mkd ((1 : Int)) d_r0) ∧ w218.heap.size ≤ w'.heap.size := ⟨_, rfl⟩
  have KS : Hid (∀ wa wb, S wa → Below wa.heap.size wa wb → S wb) := by subst HSd; exact fun wa wb h b => ⟨h.1.trans (b.mono h.1.size), h.2.1.below b, h.2.2.1.below b, h.2.2.2.1.below b, h.2.2.2.2.1.below b, Nat.le_trans h.2.2.2.2.2 b.size⟩
  have OS : Hid (∀ wa, S wa → Below w.heap.size w wa ∧ BoxN wa (w.heap.size) [.slice avaP_Pots nvaP_Pots kvaP_Pots, .int .i64 aP_Groups, .int .i64 aP_Most] ∧ OwN tIntS wa (w2.heap.size) (w105.heap.size) [vr0s] d_r0 ∧ BoxN wa (w107.heap.size) [.slice avaP_Potsx nvaP_Potsx kvaP_Potsx, .int .i64 aP_Groups, .int .i64 aP_Most] ∧ RdN tIntS wa (w107.heap.size + 1) (w108.heap.size) [vr0i] (tIntS.mkd ((1 : Int)) d_r0) ∧ w218.heap.size ≤ wa.heap.size) := by subst HSd; exact fun wa h => h
  have IS : Hid (∀ wa, Below w.heap.size w wa ∧ BoxN wa (w.heap.size) [.slice avaP_Pots nvaP_Pots kvaP_Pots, .int .i64 aP_Groups, .int .i64 aP_Most] ∧ OwN tIntS wa (w2.heap.size) (w105.heap.size) [vr0s] d_r0 ∧ BoxN wa (w107.heap.size) [.slice avaP_Potsx nvaP_Potsx kvaP_Potsx, .int .i64 aP_Groups, .int .i64 aP_Most] ∧ RdN tIntS wa (w107.heap.size + 1) (w108.heap.size) [vr0i] (tIntS.mkd ((1 : Int)) d_r0) ∧ w218.heap.size ≤ wa.heap.size → S wa) := by subst HSd; exact fun wa h => h
  clear HSd
  go_wp2_with fail
  refine wp_region_held_drew (S := S) (by kernel_rfl) ?_ (fun hHeld => ?_)
  · exact IS.out _ ((fun (b : Below w218.heap.size w218 _) => ⟨HB.out.trans (b.mono HB.out.size), BX_aP.out.below b, OW_r0s.out.below b, BX_aPx.out.below b, RN_r0i.out.below b, Nat.le_trans LE.out b.size⟩) (Below.refl _ _).drew)
  refine wpAnyH_take (i := 0) (v := ?_) rfl (by kernel_rfl) (by kernel_rfl) (by kernel_rfl) (fun _ _ _ h => h) (Or.inl ⟨by rfl, ?_⟩) hHeld ?_
  rotate_left
  · (intro wa hSw; go_simp; try with_reducible rfl)
  simp only [Act.put, List.getElem_toArray, List.getElem_cons_zero, List.setIfInBounds_toArray, List.set_cons_zero, List.set_cons_succ]
  refine wpAnyH_take (i := 2) (v := ?_) rfl (by kernel_rfl) (by kernel_rfl) (by kernel_rfl) (fun _ _ _ h => h) (Or.inl ⟨by rfl, ?_⟩) hHeld ?_
  rotate_left
  · (intro wa hSw; have K := OS.out _ hSw; have caP_0 := (K.2.1).2 0 _ rfl; have caP_1 := (K.2.1).2 1 _ rfl; have caP_2 := (K.2.1).2 2 _ rfl; go_simp; try with_reducible rfl)
  simp only [Act.put, List.getElem_toArray, List.getElem_cons_zero, List.getElem_cons_succ, List.setIfInBounds_toArray, List.set_cons_zero, List.set_cons_succ]
  refine wpAnyH_take (i := 4) (v := ?_) rfl (by kernel_rfl) (by kernel_rfl) (by kernel_rfl) (fun _ _ _ h => h) (Or.inl ⟨by rfl, ?_⟩) hHeld ?_
  rotate_left
  · (intro wa hSw; go_simp; try with_reducible rfl)
  simp only [Act.put, List.getElem_toArray, List.getElem_cons_zero, List.getElem_cons_succ, List.setIfInBounds_toArray, List.set_cons_zero, List.set_cons_succ]
  refine wpAnyH_ready (rs := [1]) (by kernel_rfl) (by simp) ?_
  refine AllReadyH.cons (o := _) rfl (fun K hK => ?_) AllReadyH.nil
  go_simp
  have KK := OS.out _ hHeld
  refine (y_to_TeamS (vaField) d_aField _ (RdA.below HA_aField.out (KK.1)) SM_aField.out).mono ?_
  rintro e w319 ⟨vaFieldt5, rfl, ho, b319⟩
  have HT_aFieldt5 := Lib.hid ho.rdA
  clear ho
  clear KK
  (try go_wp2_with fail)
  refine hK.out _ _ ?_ (fun hHeld319 => ?_)
  · exact KS.out _ _ hHeld b319
  clear hK K
  refine wpAnyH_ready (rs := [3]) (by kernel_rfl) (by simp) ?_
  refine AllReadyH.cons (o := _) rfl (fun K hK => ?_) AllReadyH.nil
  go_simp
  have KK := OS.out _ hHeld319
  refine (y_to_Pots (.slice avaP_Pots nvaP_Pots kvaP_Pots) aP_Groups aP_Most d_aP _ (RdA.below HA_aP.out (KK.1)) SM_aP.out).mono ?_
  rintro e w320 ⟨vaP_Potst6, rfl, ho, b320⟩
  replace HT_aFieldt5 := Lib.hid (HT_aFieldt5.out.below b320)
  have HT_aPt6 := Lib.hid ho.rdA
  clear ho
  clear KK
  (try go_wp2_with fail)
  refine hK.out _ _ ?_ (fun hHeld320 => ?_)
  · exact KS.out _ _ hHeld319 b320
  clear hK K
  clear hHeld319
  refine wpAnyH_ready (rs := [5]) (by kernel_rfl) (by simp) ?_
  refine AllReadyH.cons (o := _) rfl (fun K hK => ?_) AllReadyH.nil
  go_simp
  have KK := OS.out _ hHeld320
  refine (CI.out (vaFieldt5) (vaP_Potst6) _ HT_aFieldt5.out HT_aPt6.out SM_aField.out SM_aP.out).mono ?_
  rintro e w321 ⟨vr0j, rfl, ho, b321⟩
  have HO := Lib.hid (ho.mono (lo' := w218.heap.size) (KK.2.2.2.2.2) (Nat.le_refl _) (Nat.le_refl _))
  clear ho
  clear HT_aFieldt5 HT_aPt6
  clear KK
  (try go_wp2_with fail)
  refine hK.out _ _ ?_ (fun hHeld321 => ?_)
  · exact KS.out _ _ hHeld320 b321
  clear hK K
  clear hHeld320
  refine wpAnyH_take (i := 6) (v := ?_) rfl (by kernel_rfl) (by kernel_rfl) (by kernel_rfl) (fun _ _ _ h => h) (Or.inl ⟨by rfl, ?_⟩) hHeld321 ?_
  rotate_left
  · (intro wa hSw; go_simp; try with_reducible rfl)
  simp only [Act.put, List.getElem_toArray, List.getElem_cons_zero, List.getElem_cons_succ, List.setIfInBounds_toArray, List.set_cons_zero, List.set_cons_succ]
  refine wpAnyH_done (by kernel_rfl) ?_ _
  have KE := Lib.hid (OS.out _ hHeld321)
  clear KS OS IS hHeld hHeld321
  have Z321 := Lib.hid (KE.out.2.2.2.2.2)
  replace HB := Lib.hid (KE.out.1)
  replace BX_aP := Lib.hid (KE.out.2.1)
  replace OW_r0s := Lib.hid (KE.out.2.2.1)
  replace BX_aPx := Lib.hid (KE.out.2.2.2.1)
  replace RN_r0i := Lib.hid (KE.out.2.2.2.2.1)
  clear KE LE
  have ho := HO.out
  clear HO
  have OW_r0j := Lib.hid (ho.mono (lo' := w218.heap.size) (hi' := w321.heap.size) (by have := Z1.out; have := Z2.out; have := Z105.out; have := Z106.out; have := Z107.out; have := Z108.out; have := Z109.out; have := Z110.out; have := Z111.out; have := Z213.out; have := Z214.out; have := Z215.out; have := Z216.out; have := Z217.out; have := Z218.out; have := Z321.out; (try simp only [World.alloc, Array.size_push]); omega) (Nat.le_refl _) (Nat.le_refl _))
  clear ho
  go_wp2_with fail
  refine (y_eq_IntS (vr0j) (vr0s) d_r0 _ OW_r0j.out.rdA OW_r0s.out.rdA).mono ?_
  rintro e w322 ⟨rfl, b322⟩
  have Z322 : Hid (w321.heap.size ≤ w322.heap.size) := (by have := b322.size; show _ ≤ _; omega)
  replace HB := Lib.hid (HB.out.trans (b322.mono HB.out.size))
  replace BX_aP := Lib.hid (BX_aP.out.below b322)
  replace OW_r0s := Lib.hid (OW_r0s.out.below b322)
  replace BX_aPx := Lib.hid (BX_aPx.out.below b322)
  replace RN_r0i := Lib.hid (RN_r0i.out.below b322)
  replace OW_r0j := Lib.hid (OW_r0j.out.below b322)
  have qd4546 : decide ((1 : Int) + (M_r0i : Int) < 0) = false := decide_eq_false (by omega)
  go_wp2_with fail
  refine (y_hd_IntS (vr0i) d_r0 (1 : Int) _ (RN_r0i.out.all (by have := Z1.out; have := Z2.out; have := Z105.out; have := Z106.out; have := Z107.out; have := Z108.out; have := Z109.out; have := Z110.out; have := Z111.out; have := Z213.out; have := Z214.out; have := Z215.out; have := Z216.out; have := Z217.out; have := Z218.out; have := Z321.out; have := Z322.out; (try simp only [World.alloc, Array.size_push]); omega)) (by omega) (by have := HM_r0i.out; omega)).mono ?_
  rintro e w323 ⟨rfl, b323⟩
  rw [HM_r0i.out]
  have Z323 : Hid (w322.heap.size ≤ w323.heap.size) := (by have := b323.size; show _ ≤ _; omega)
  replace HB := Lib.hid (HB.out.trans (b323.mono HB.out.size))
  replace BX_aP := Lib.hid (BX_aP.out.below b323)
  replace OW_r0s := Lib.hid (OW_r0s.out.below b323)
  replace BX_aPx := Lib.hid (BX_aPx.out.below b323)
  replace RN_r0i := Lib.hid (RN_r0i.out.below b323)
  replace OW_r0j := Lib.hid (OW_r0j.out.below b323)
  go_wp2
  go_ret
  exact ⟨rfl, HB.out⟩
set_option maxRecDepth 100000 in
theorem lifted (os : Os) (started : os.Started) (H : Type) (enc : TypeId × Value → H) :
    ReturnsInHanded {} Try.checked os 11 .any (Rows.fnExactChancesOfSpec.pre6 enc Try.prog Try.f11 Rows.fnExactChancesOfRow.domain false) (Rows.fnExactChancesOfSpec.post enc Try.prog Try.f11 false true false false) := by
  refine returnsInHanded_of_change (C := Try.checked) own started (by kernel_rfl) Try.func11
    (ChangeSpec.witness6 (enc := enc) (C := Try.checked) false ⟨#[], #[.slice none 0 0, .agg #[.slice none 0 0, .int .i64 0, .int .i64 0], .int .i64 0], []⟩ 8 (by kernel_rfl) (by kernel_rfl) (by kernel_rfl) (by kernel_rfl)) ?_
  intro W base args ds gs before hval0 hW hcnd _
  have hval : ∀ (j : Nat) t v, Try.f11.params[j]? = some t → args[j]? = some v → Value.okWide Try.prog W .any base t v := hval0
  have hW' := hW
  obtain ⟨p, q, hA0, hV, rfl, hfz, hnd⟩ := hW
  have hA : DataW.TrodAll enc Try.prog W 0 (fun _ => true) true Try.f11.params.toList args.toList ds p := hA0
  rw [Try.params11] at hA hval
  obtain ⟨v0, vs0, d0, ds0, p0, q0, hargs, rfl, rfl, h0, r0⟩ := trodAll_cons hA
  obtain ⟨v1, vs1, d1, ds1, p1, q1, rfl, rfl, rfl, h1, r1⟩ := trodAll_cons r0
  obtain ⟨v2, vs2, d2, ds2, p2, q2, rfl, rfl, rfl, h2, r2⟩ := trodAll_cons r1
  obtain ⟨rfl, rfl, rfl⟩ := trodAll_nil r2
  obtain rfl : args = #[v0, v1, v2] := by cases args; simp_all
  obtain ⟨rfl, rfl⟩ := trodVars_none hV
  have k0 := h0
  have lt0 : ∀ x ∈ p0, x.block < W.heap.size := by obtain ⟨m, hm⟩ := k0; exact DataW.trod_lt m _ _ _ hm
  obtain ⟨x0, y0, f0⟩ := open_arg1 opens_TeamS Try.underlying40 (hval 0 40 v0 rfl rfl) h0
  have k1 := h1
  have lt1 : ∀ x ∈ p1, x.block < W.heap.size := by obtain ⟨m, hm⟩ := k1; exact DataW.trod_lt m _ _ _ hm
  obtain ⟨cs1, rfl, x1, y1, f1⟩ := open_arg opens_Pots Try.underlying41 (hval 1 41 v1 rfl rfl) h1
  obtain ⟨vz1_Pots, z1_Groups, z1_Most, e1⟩ := form_Pots y1
  obtain rfl : cs1 = #[vz1_Pots, .int .i64 z1_Groups, .int .i64 z1_Most] := Array.toList_inj.1 e1
  obtain ⟨a2, rfl, rfl, rfl, w2⟩ := open_int Try.underlying3 (hval 2 3 v2 rfl rfl) h2
  clear hA0 hval0
  simp only [List.append_nil] at hW'
  refine (walk v0 x0 vz1_Pots z1_Groups z1_Most x1 a2 W y0 f0 y1 f1 (intFit_of w2)).mono fun e W' ⟨he, bel⟩ => ?_
  subst he
  exact ⟨_, rfl, _, _, _, [], _, [], hW', trodAll_mk1 (shut_bool Try.underlying4 _), (trodAll_cons_mk (Below.trod laidOut (by kernel_rfl) (of_decide_eq_true (by kernel_rfl)) k0 bel lt0) (trodAll_cons_mk (Below.trod laidOut (by kernel_rfl) (of_decide_eq_true (by kernel_rfl)) k1 bel lt1) (trodAll_cons_mk (shut_int Try.underlying3 w2) trodAll_mk0))), rfl, bel.frame _, fun h => by cases h⟩

theorem over : Rows.fnExactChancesOfRow.holds Try.pinned (OpenSpec.ofChange Rows.fnExactChancesOfSpec) :=
  OpenClaim.holds_of_wide 11 Try.f11 rfl rfl rfl rfl rfl rfl rfl ⟨rfl, rfl, rfl, rfl, rfl⟩ rfl rfl rfl rfl rfl (by kernel_rfl) Try.func11 (by kernel_rfl)
    (of_decide_eq_true (by kernel_rfl)) (by unfold Func.isWrapper; first | (rw [if_pos (by decide +kernel)]; kernel_rfl) | (rw [if_neg (by decide +kernel)]; exact ⟨rfl, rfl⟩))
    (fun os started H enc _ => lifted os started H enc)

theorem proved : Rows.FnExactChancesOfSaid := over
end Go.Proofs.Ytmhkkdnopcdibaa.fnExactChancesOf
