/-
  The law FnExactCountDraws holds for every argument: the program answers as the model does.
-/
import Derived.Test.YtmhkkdnopcdibaaRows
import Derived.WalkKit
import Derived.ProofKit
import Derived.OpenShut
import Derived.ShutString
import Derived.ChangeOld
import Derived.Below
import Derived.Lib.Hide
import Derived.Deep.RegionHeld3
import Derived.Test.YtmhkkdnopcdibaaQ1
import Derived.Test.YtmhkkdnopcdibaaQ2
import Derived.Test.YtmhkkdnopcdibaaQ3
import Derived.Test.YtmhkkdnopcdibaaQ4
import Derived.Test.YtmhkkdnopcdibaaQ10
import Derived.Test.YtmhkkdnopcdibaaQ11
import Derived.Test.YtmhkkdnopcdibaaQ18
namespace Go.Proofs.Ytmhkkdnopcdibaa.fnExactCountDraws
open Go.ChangeShapes Go.WideShapes Go.ChangeAt Go.RowKit
open Go.ChangeMaps (open_string shut_string)
set_option linter.unusedVariables false

theorem own : ownKnob Try.prog.godebug = none := by kernel_rfl
theorem laidOut : laidOutB Try.prog = true := by kernel_rfl

set_option maxHeartbeats 4000000 in
set_option maxRecDepth 100000 in
theorem walk (vaField : Value) (d_aField : tTeamS.D) (vaP_Pots : Value) (aP_Groups : Int) (aP_Most : Int) (d_aP : tPots.D) (vaPrefix : Value) (d_aPrefix : tIntS.D) (w : World) (h_aField : RdA tTeamS w [vaField] d_aField) (f_aField : tTeamS.fit d_aField) (h_aP : RdA tPots w [vaP_Pots, .int .i64 aP_Groups, .int .i64 aP_Most] d_aP) (f_aP : tPots.fit d_aP) (h_aPrefix : RdA tIntS w [vaPrefix] d_aPrefix) (f_aPrefix : tIntS.fit d_aPrefix) :
    Calls Try.prog 7 #[vaField, .agg #[vaP_Pots, .int .i64 aP_Groups, .int .i64 aP_Most], vaPrefix] w fun e w' => e = .returned (.bool true) ∧ Below w.heap.size w w' := by
  obtain ⟨r0, CS, CI⟩ : ∃ (r0 : Int), Hid (∀ (vaField : Value) (vaP_Pots : Value) (vaPrefix : Value) (w1 : World), RdA tTeamS w1 [vaField] d_aField → RdA tPots w1 [vaP_Pots, .int .i64 aP_Groups, .int .i64 aP_Most] d_aP → RdA tIntS w1 [vaPrefix] d_aPrefix → tTeamS.wt d_aField ≤ 1048576 → tPots.wt d_aP ≤ 1048576 → tIntS.wt d_aPrefix ≤ 1048576 → Calls Try.prog 32 #[vaField, .agg #[vaP_Pots, .int .i64 aP_Groups, .int .i64 aP_Most], vaPrefix] w1 fun e w' => e = .returned (.int .i64 r0) ∧ Below w1.heap.size w1 w') ∧ Hid (∀ (vaField : Value) (vaP_Pots : Value) (vaPrefix : Value) (w1 : World), RdA tTeamS w1 [vaField] d_aField → RdA tPots w1 [vaP_Pots, .int .i64 aP_Groups, .int .i64 aP_Most] d_aP → RdA tIntS w1 [vaPrefix] d_aPrefix → tTeamS.wt d_aField ≤ 1048576 → tPots.wt d_aP ≤ 1048576 → tIntS.wt d_aPrefix ≤ 1048576 → Calls Try.prog 13 #[vaField, .agg #[vaP_Pots, .int .i64 aP_Groups, .int .i64 aP_Most], vaPrefix] w1 fun e w' => e = .returned (.int .i64 r0) ∧ Below w1.heap.size w1 w') := by
    obtain ⟨R, hR, hR0⟩ := num_ex (potsP (List.length (α := tTeam.D) d_aField) (atTeam d_aField) d_aP.1 aP_Groups aP_Most) (cdN (atTeam d_aField) d_aP.1 aP_Groups aP_Most d_aPrefix) 0
    exact ⟨R, fun vf vp vd w1 hf hp hd sf sp sd => countDraws_spec l12New_spec vf (List.length (α := tTeam.D) d_aField) (atTeam d_aField) vp aP_Groups aP_Most d_aP.1 vd d_aPrefix R w1 hR hR0 (rd_TeamS.1 hf) (atTeam_size f_aField) (pots_rd hp) (pots_wt sp) (rd_IntS.1 hd), fun vf vp vd w1 hf hp hd sf sp sd => countDraws_impl vf (List.length (α := tTeam.D) d_aField) (atTeam d_aField) vp aP_Groups aP_Most d_aP.1 vd d_aPrefix R w1 hR hR0 (rd_TeamS.1 hf) (atTeam_size f_aField) (pots_rd hp) (pots_wt sp) (rd_IntS.1 hd)⟩
  have HB : Hid (Below w.heap.size w w) := Below.refl _ _
  have HA_aField := Lib.hid h_aField
  have HF_aField := Lib.hid f_aField
  clear h_aField f_aField
  have HA_aP := Lib.hid h_aP
  have HF_aP := Lib.hid f_aP
  clear h_aP f_aP
  have hsp := HA_aP.out
  obtain ⟨avaP_Pots, nvaP_Pots, kvaP_Pots, hvaP_Pots⟩ := rd_slice (rd_splitB hsp).1
  replace hsp := (rd_splitB hsp).2
  replace hsp := (rd_splitB hsp).2
  clear hsp
  subst hvaP_Pots
  obtain ⟨sa_aPrefix, sc_aPrefix, hv_aPrefix, hm_aPrefix⟩ := rd_row_form h_aPrefix
  obtain ⟨n_aPrefix, hn_aPrefix⟩ : ∃ n, List.length d_aPrefix = n := ⟨_, rfl⟩
  rw [hn_aPrefix] at hv_aPrefix hm_aPrefix
  subst hv_aPrefix
  have HN_aPrefix := Lib.hid hn_aPrefix
  clear hn_aPrefix
  have HA_aPrefix := Lib.hid h_aPrefix
  have HF_aPrefix := Lib.hid f_aPrefix
  clear h_aPrefix f_aPrefix
  replace HB := Lib.hid (HB.out.trans (((Below.refl w.heap.size w).alloc (Nat.le_refl _) (.cells #[.slice avaP_Pots nvaP_Pots kvaP_Pots, .int .i64 aP_Groups, .int .i64 aP_Most] 41)).mono HB.out.size))
  have BX_aP : Hid (BoxN (w.alloc (.cells #[.slice avaP_Pots nvaP_Pots kvaP_Pots, .int .i64 aP_Groups, .int .i64 aP_Most] 41)) (w.heap.size) [.slice avaP_Pots nvaP_Pots kvaP_Pots, .int .i64 aP_Groups, .int .i64 aP_Most]) := BoxN.made (Below.refl _ _) (by first | rfl | simp | (simp; done))
  by_cases hl_aPrefix : 1048576 < n_aPrefix
  · have g0 : decide ((1048576 : Int) < (n_aPrefix : Int)) = true := decide_eq_true (by omega)
    have g0' : decide (1048576 < n_aPrefix) = true := decide_eq_true (by omega)
    go_enter Try.func7, Try.ntmps7
    go_wp2
    go_ret
    exact ⟨rfl, HB.out⟩
  have hs_aPrefix : n_aPrefix ≤ 1048576 := by omega
  have hg_aPrefix : decide ((1048576 : Int) < (n_aPrefix : Int)) = false := decide_eq_false (by omega)
  have hg2_aPrefix : decide (1048576 < n_aPrefix) = false := decide_eq_false (by omega)
  have SM_aPrefix : Hid (tIntS.wt d_aPrefix ≤ 1048576) := Nat.le_trans (Nat.le_of_eq ((wt_IntS d_aPrefix).trans HN_aPrefix.out)) hs_aPrefix
  clear hl_aPrefix
  go_enter Try.func7, Try.ntmps7
  go_wp2_with fail
  refine (y_sz_TeamS (vaField) d_aField (1048576) _ (by omega) (by omega) (RdA.below HA_aField.out HB.out) HF_aField.out).mono ?_
  rintro e w1 ⟨⟨r1, rfl, hr1⟩, b1⟩
  have Z1 : Hid (w.heap.size + 1 ≤ w1.heap.size) := (by have := b1.size; simp at this; show _ ≤ _; omega)
  replace HB := Lib.hid (HB.out.trans (b1.mono HB.out.size))
  replace BX_aP := Lib.hid (BX_aP.out.below b1)
  by_cases hn1 : r1 < 0
  · have g2 : decide (r1 < 0) = true := decide_eq_true hn1
    clear hr1
    go_wp2
    go_ret
    exact ⟨rfl, HB.out⟩
  have g1 : decide (r1 < 0) = false := decide_eq_false hn1
  have SM_aField : Hid (tTeamS.wt d_aField ≤ 1048576) := (by show _ ≤ _; omega)
  replace hn1 : 0 ≤ r1 ∧ r1 ≤ 1048576 := by omega
  clear hr1
  have caP_0 := BX_aP.out.2 0 _ rfl
  have caP_1 := BX_aP.out.2 1 _ rfl
  have caP_2 := BX_aP.out.2 2 _ rfl
  have caP_lt := BX_aP.out.1
  go_wp2_with fail
  refine (y_sz_Pots (.slice avaP_Pots nvaP_Pots kvaP_Pots) aP_Groups aP_Most d_aP (r1) _ (by omega) (by omega) (RdA.below HA_aP.out HB.out)).mono ?_
  rintro e w2 ⟨⟨r2, rfl, hr2⟩, b2⟩
  clear caP_0 caP_1 caP_2 caP_lt
  have Z2 : Hid (w1.heap.size ≤ w2.heap.size) := (by have := b2.size; show _ ≤ _; omega)
  replace HB := Lib.hid (HB.out.trans (b2.mono HB.out.size))
  replace BX_aP := Lib.hid (BX_aP.out.below b2)
  by_cases hn2 : r2 < 0
  · have g2 : decide (r2 < 0) = true := decide_eq_true hn2
    clear hr2
    go_wp2
    go_ret
    exact ⟨rfl, HB.out⟩
  have g2 : decide (r2 < 0) = false := decide_eq_false hn2
  have SM_aP : Hid (tPots.wt d_aP ≤ 1048576) := (by show _ ≤ _; omega)
  replace hn2 : 0 ≤ r2 ∧ r2 ≤ 1048576 := by omega
  clear hr2
  have LE : Hid (w2.heap.size ≤ w2.heap.size) := (by show _ ≤ _; first | exact Nat.le_refl _ | simp)
  obtain ⟨S, HSd⟩ : ∃ S : World → Prop, S = fun w' => Below w.heap.size w w' ∧ BoxN w' (w.heap.size) [.slice avaP_Pots nvaP_Pots kvaP_Pots, .int .i64 aP_Groups, .int .i64 aP_Most] ∧ w2.heap.size ≤ w'.heap.size := ⟨_, rfl⟩
  have KS : Hid (∀ wa wb, S wa → Below wa.heap.size wa wb → S wb) := by subst HSd; exact fun wa wb h b => ⟨h.1.trans (b.mono h.1.size), h.2.1.below b, Nat.le_trans h.2.2 b.size⟩
  have OS : Hid (∀ wa, S wa → Below w.heap.size w wa ∧ BoxN wa (w.heap.size) [.slice avaP_Pots nvaP_Pots kvaP_Pots, .int .i64 aP_Groups, .int .i64 aP_Most] ∧ w2.heap.size ≤ wa.heap.size) := by subst HSd; exact fun wa h => h
  have IS : Hid (∀ wa, Below w.heap.size w wa ∧ BoxN wa (w.heap.size) [.slice avaP_Pots nvaP_Pots kvaP_Pots, .int .i64 aP_Groups, .int .i64 aP_Most] ∧ w2.heap.size ≤ wa.heap.size → S wa) := by subst HSd; exact fun wa h => h
  clear HSd
  go_wp2_with fail
  refine wp_region_held_drew (S := S) (by kernel_rfl) ?_ (fun hHeld => ?_)
  · exact IS.out _ ((fun (b : Below w2.heap.size w2 _) => ⟨HB.out.trans (b.mono HB.out.size), BX_aP.out.below b, Nat.le_trans LE.out b.size⟩) (Below.refl _ _).drew)
  refine wpAnyH_take (i := 0) (v := ?_) rfl (by kernel_rfl) (by kernel_rfl) (by kernel_rfl) (fun _ _ _ h => h) (Or.inl ⟨by rfl, ?_⟩) hHeld ?_
  rotate_left
  · (intro wa hSw; go_simp; try with_reducible rfl)
  simp only [Act.put, List.getElem_toArray, List.getElem_cons_zero, List.setIfInBounds_toArray, List.set_cons_zero, List.set_cons_succ]
  refine wpAnyH_take (i := 2) (v := ?_) rfl (by kernel_rfl) (by kernel_rfl) (by kernel_rfl) (fun _ _ _ h => h) (Or.inl ⟨by rfl, ?_⟩) hHeld ?_
  rotate_left
  · (intro wa hSw; have K := OS.out _ hSw; have caP_0 := (K.2.1).2 0 _ rfl; have caP_1 := (K.2.1).2 1 _ rfl; have caP_2 := (K.2.1).2 2 _ rfl; go_simp; try with_reducible rfl)
  simp only [Act.put, List.getElem_toArray, List.getElem_cons_zero, List.getElem_cons_succ, List.setIfInBounds_toArray, List.set_cons_zero, List.set_cons_succ]
  refine wpAnyH_take (i := 4) (v := ?_) rfl (by kernel_rfl) (by kernel_rfl) (by kernel_rfl) (fun _ _ _ h => h) (Or.inl ⟨by rfl, ?_⟩) hHeld ?_
  rotate_left
  · (intro wa hSw; go_simp; try with_reducible rfl)
  simp only [Act.put, List.getElem_toArray, List.getElem_cons_zero, List.getElem_cons_succ, List.setIfInBounds_toArray, List.set_cons_zero, List.set_cons_succ]
  refine wpAnyH_ready (rs := [1]) (by kernel_rfl) (by simp) ?_
  refine AllReadyH.cons (o := _) rfl (fun K hK => ?_) AllReadyH.nil
  go_simp
  have KK := OS.out _ hHeld
  refine (y_to_TeamS (vaField) d_aField _ (RdA.below HA_aField.out (KK.1)) SM_aField.out).mono ?_
  rintro e w103 ⟨vaFieldt1, rfl, ho, b103⟩
  have HT_aFieldt1 := Lib.hid ho.rdA
  clear ho
  clear KK
  (try go_wp2_with fail)
  refine hK.out _ _ ?_ (fun hHeld103 => ?_)
  · exact KS.out _ _ hHeld b103
  clear hK K
  refine wpAnyH_ready (rs := [3]) (by kernel_rfl) (by simp) ?_
  refine AllReadyH.cons (o := _) rfl (fun K hK => ?_) AllReadyH.nil
  go_simp
  have KK := OS.out _ hHeld103
  refine (y_to_Pots (.slice avaP_Pots nvaP_Pots kvaP_Pots) aP_Groups aP_Most d_aP _ (RdA.below HA_aP.out (KK.1)) SM_aP.out).mono ?_
  rintro e w104 ⟨vaP_Potst2, rfl, ho, b104⟩
  replace HT_aFieldt1 := Lib.hid (HT_aFieldt1.out.below b104)
  have HT_aPt2 := Lib.hid ho.rdA
  clear ho
  clear KK
  (try go_wp2_with fail)
  refine hK.out _ _ ?_ (fun hHeld104 => ?_)
  · exact KS.out _ _ hHeld103 b104
  clear hK K
  clear hHeld103
  refine wpAnyH_ready (rs := [5]) (by kernel_rfl) (by simp) ?_
  refine AllReadyH.cons (o := _) rfl (fun K hK => ?_) AllReadyH.nil
  go_simp
  have KK := OS.out _ hHeld104
  refine (y_to_IntS (.slice sa_aPrefix n_aPrefix sc_aPrefix) d_aPrefix _ (RdA.below HA_aPrefix.out (KK.1)) SM_aPrefix.out).mono ?_
  rintro e w105 ⟨vaPrefixt3, rfl, ho, b105⟩
  replace HT_aFieldt1 := Lib.hid (HT_aFieldt1.out.below b105)
  replace HT_aPt2 := Lib.hid (HT_aPt2.out.below b105)
  have HT_aPrefixt3 := Lib.hid ho.rdA
  clear ho
  clear KK
  (try go_wp2_with fail)
  refine hK.out _ _ ?_ (fun hHeld105 => ?_)
  · exact KS.out _ _ hHeld104 b105
  clear hK K
  clear hHeld104
  refine wpAnyH_ready (rs := [6]) (by kernel_rfl) (by simp) ?_
  refine AllReadyH.cons (o := _) rfl (fun K hK => ?_) AllReadyH.nil
  go_simp
  have KK := OS.out _ hHeld105
  refine (CS.out (vaFieldt1) (vaP_Potst2) (vaPrefixt3) _ HT_aFieldt1.out HT_aPt2.out HT_aPrefixt3.out SM_aField.out SM_aP.out SM_aPrefix.out).mono ?_
  rintro e w106 ⟨rfl, b106⟩
  clear HT_aFieldt1 HT_aPt2 HT_aPrefixt3
  clear KK
  (try go_wp2_with fail)
  refine hK.out _ _ ?_ (fun hHeld106 => ?_)
  · exact KS.out _ _ hHeld105 b106
  clear hK K
  clear hHeld105
  refine wpAnyH_take (i := 7) (v := ?_) rfl (by kernel_rfl) (by kernel_rfl) (by kernel_rfl) (fun _ _ _ h => h) (Or.inl ⟨by rfl, ?_⟩) hHeld106 ?_
  rotate_left
  · (intro wa hSw; go_simp; try with_reducible rfl)
  simp only [Act.put, List.getElem_toArray, List.getElem_cons_zero, List.getElem_cons_succ, List.setIfInBounds_toArray, List.set_cons_zero, List.set_cons_succ]
  refine wpAnyH_done (by kernel_rfl) ?_ _
  have KE := Lib.hid (OS.out _ hHeld106)
  clear KS OS IS hHeld hHeld106
  have Z106 := Lib.hid (KE.out.2.2)
  replace HB := Lib.hid (KE.out.1)
  replace BX_aP := Lib.hid (KE.out.2.1)
  clear KE LE
  go_wp2_with fail
  refine (y_to_TeamS (vaField) d_aField _ (RdA.below HA_aField.out HB.out) SM_aField.out).mono ?_
  rintro e w107 ⟨vaFieldx, rfl, ho, b107⟩
  have Z107 : Hid (w106.heap.size ≤ w107.heap.size) := (by have := b107.size; show _ ≤ _; omega)
  replace HB := Lib.hid (HB.out.trans (b107.mono HB.out.size))
  replace BX_aP := Lib.hid (BX_aP.out.below b107)
  have OW_aFieldx := Lib.hid (ho.mono (lo' := w106.heap.size) (hi' := w107.heap.size) (by have := Z1.out; have := Z2.out; have := Z106.out; have := Z107.out; (try simp only [World.alloc, Array.size_push]); omega) (Nat.le_refl _) (Nat.le_refl _))
  clear ho
  have caP_0 := BX_aP.out.2 0 _ rfl
  have caP_1 := BX_aP.out.2 1 _ rfl
  have caP_2 := BX_aP.out.2 2 _ rfl
  have caP_lt := BX_aP.out.1
  go_wp2_with fail
  refine (y_to_Pots (.slice avaP_Pots nvaP_Pots kvaP_Pots) aP_Groups aP_Most d_aP _ (RdA.below HA_aP.out HB.out) SM_aP.out).mono ?_
  rintro e w108 ⟨vaP_Potsx, rfl, ho, b108⟩
  clear caP_0 caP_1 caP_2 caP_lt
  have Z108 : Hid (w107.heap.size ≤ w108.heap.size) := (by have := b108.size; show _ ≤ _; omega)
  replace HB := Lib.hid (HB.out.trans (b108.mono HB.out.size))
  replace BX_aP := Lib.hid (BX_aP.out.below b108)
  replace OW_aFieldx := Lib.hid (OW_aFieldx.out.below b108)
  have OW_aPx := Lib.hid (ho.mono (lo' := w107.heap.size) (hi' := w108.heap.size) (by have := Z1.out; have := Z2.out; have := Z106.out; have := Z107.out; have := Z108.out; (try simp only [World.alloc, Array.size_push]); omega) (Nat.le_refl _) (Nat.le_refl _))
  clear ho
  have hsp := OW_aPx.out.rd
  obtain ⟨avaP_Potsx, nvaP_Potsx, kvaP_Potsx, hvaP_Potsx⟩ := rd_slice (rd_splitB hsp).1
  replace hsp := (rd_splitB hsp).2
  replace hsp := (rd_splitB hsp).2
  clear hsp
  subst hvaP_Potsx
  replace HB := Lib.hid (HB.out.trans (((Below.refl w108.heap.size w108).alloc (Nat.le_refl _) (.cells #[.slice avaP_Potsx nvaP_Potsx kvaP_Potsx, .int .i64 aP_Groups, .int .i64 aP_Most] 26)).mono HB.out.size))
  replace BX_aP := Lib.hid (BX_aP.out.below ((Below.refl w108.heap.size w108).alloc (Nat.le_refl _) (.cells #[.slice avaP_Potsx nvaP_Potsx kvaP_Potsx, .int .i64 aP_Groups, .int .i64 aP_Most] 26)))
  replace OW_aFieldx := Lib.hid (OW_aFieldx.out.below ((Below.refl w108.heap.size w108).alloc (Nat.le_refl _) (.cells #[.slice avaP_Potsx nvaP_Potsx kvaP_Potsx, .int .i64 aP_Groups, .int .i64 aP_Most] 26)))
  replace OW_aPx := Lib.hid (OW_aPx.out.below ((Below.refl w108.heap.size w108).alloc (Nat.le_refl _) (.cells #[.slice avaP_Potsx nvaP_Potsx kvaP_Potsx, .int .i64 aP_Groups, .int .i64 aP_Most] 26)))
  have BX_aPx : Hid (BoxN (w108.alloc (.cells #[.slice avaP_Potsx nvaP_Potsx kvaP_Potsx, .int .i64 aP_Groups, .int .i64 aP_Most] 26)) (w108.heap.size) [.slice avaP_Potsx nvaP_Potsx kvaP_Potsx, .int .i64 aP_Groups, .int .i64 aP_Most]) := BoxN.made (Below.refl _ _) (by first | rfl | simp | (simp; done))
  go_wp2_with fail
  refine (y_to_IntS (.slice sa_aPrefix n_aPrefix sc_aPrefix) d_aPrefix _ (RdA.below HA_aPrefix.out HB.out) SM_aPrefix.out).mono ?_
  rintro e w109 ⟨vaPrefixx, rfl, ho, b109⟩
  have Z109 : Hid (w108.heap.size + 1 ≤ w109.heap.size) := (by have := b109.size; simp at this; show _ ≤ _; omega)
  replace HB := Lib.hid (HB.out.trans (b109.mono HB.out.size))
  replace BX_aP := Lib.hid (BX_aP.out.below b109)
  replace OW_aFieldx := Lib.hid (OW_aFieldx.out.below b109)
  replace OW_aPx := Lib.hid (OW_aPx.out.below b109)
  replace BX_aPx := Lib.hid (BX_aPx.out.below b109)
  have OW_aPrefixx := Lib.hid (ho.mono (lo' := w108.heap.size + 1) (hi' := w109.heap.size) (by have := Z1.out; have := Z2.out; have := Z106.out; have := Z107.out; have := Z108.out; have := Z109.out; (try simp only [World.alloc, Array.size_push]); omega) (Nat.le_refl _) (Nat.le_refl _))
  clear ho
  have caPx_0 := BX_aPx.out.2 0 _ rfl
  have caPx_1 := BX_aPx.out.2 1 _ rfl
  have caPx_2 := BX_aPx.out.2 2 _ rfl
  have caPx_lt := BX_aPx.out.1
  go_wp2_with fail
  refine (CI.out (vaFieldx) (.slice avaP_Potsx nvaP_Potsx kvaP_Potsx) (vaPrefixx) _ OW_aFieldx.out.rdA OW_aPx.out.rdA OW_aPrefixx.out.rdA SM_aField.out SM_aP.out SM_aPrefix.out).mono ?_
  rintro e w110 ⟨rfl, b110⟩
  clear caPx_0 caPx_1 caPx_2 caPx_lt
  have Z110 : Hid (w109.heap.size ≤ w110.heap.size) := (by have := b110.size; show _ ≤ _; omega)
  replace HB := Lib.hid (HB.out.trans (b110.mono HB.out.size))
  replace BX_aP := Lib.hid (BX_aP.out.below b110)
  replace OW_aFieldx := Lib.hid (OW_aFieldx.out.below b110)
  replace OW_aPx := Lib.hid (OW_aPx.out.below b110)
  replace BX_aPx := Lib.hid (BX_aPx.out.below b110)
  replace OW_aPrefixx := Lib.hid (OW_aPrefixx.out.below b110)
  go_wp2_with fail
  refine (y_to_TeamS (vaField) d_aField _ (RdA.below HA_aField.out HB.out) SM_aField.out).mono ?_
  rintro e w111 ⟨vaFieldt4, rfl, ho, b111⟩
  have Z111 : Hid (w110.heap.size ≤ w111.heap.size) := (by have := b111.size; show _ ≤ _; omega)
  replace HB := Lib.hid (HB.out.trans (b111.mono HB.out.size))
  replace BX_aP := Lib.hid (BX_aP.out.below b111)
  replace OW_aFieldx := Lib.hid (OW_aFieldx.out.below b111)
  replace OW_aPx := Lib.hid (OW_aPx.out.below b111)
  replace BX_aPx := Lib.hid (BX_aPx.out.below b111)
  replace OW_aPrefixx := Lib.hid (OW_aPrefixx.out.below b111)
  have OW_aFieldt4 := Lib.hid (ho.mono (lo' := w110.heap.size) (hi' := w111.heap.size) (by have := Z1.out; have := Z2.out; have := Z106.out; have := Z107.out; have := Z108.out; have := Z109.out; have := Z110.out; have := Z111.out; (try simp only [World.alloc, Array.size_push]); omega) (Nat.le_refl _) (Nat.le_refl _))
  clear ho
  go_wp2_with fail
  refine (y_eq_TeamS (vaFieldx) (vaFieldt4) d_aField _ OW_aFieldx.out.rdA OW_aFieldt4.out.rdA).mono ?_
  rintro e w112 ⟨rfl, b112⟩
  have Z112 : Hid (w111.heap.size ≤ w112.heap.size) := (by have := b112.size; show _ ≤ _; omega)
  replace HB := Lib.hid (HB.out.trans (b112.mono HB.out.size))
  replace BX_aP := Lib.hid (BX_aP.out.below b112)
  replace OW_aFieldx := Lib.hid (OW_aFieldx.out.below b112)
  replace OW_aPx := Lib.hid (OW_aPx.out.below b112)
  replace BX_aPx := Lib.hid (BX_aPx.out.below b112)
  replace OW_aPrefixx := Lib.hid (OW_aPrefixx.out.below b112)
  replace OW_aFieldt4 := Lib.hid (OW_aFieldt4.out.below b112)
  clear OW_aFieldt4
  have LE : Hid (w112.heap.size ≤ w112.heap.size) := (by show _ ≤ _; first | exact Nat.le_refl _ | simp)
  obtain ⟨S, HSd⟩ : ∃ S : World → Prop, S = fun w' => Below w.heap.size w w' ∧ BoxN w' (w.heap.size) [.slice avaP_Pots nvaP_Pots kvaP_Pots, .int .i64 aP_Groups, .int .i64 aP_Most] ∧ OwN tTeamS w' (w106.heap.size) (w107.heap.size) [vaFieldx] d_aField ∧ OwN tPots w' (w107.heap.size) (w108.heap.size) [.slice avaP_Potsx nvaP_Potsx kvaP_Potsx, .int .i64 aP_Groups, .int .i64 aP_Most] d_aP ∧ BoxN w' (w108.heap.size) [.slice avaP_Potsx nvaP_Potsx kvaP_Potsx, .int .i64 aP_Groups, .int .i64 aP_Most] ∧ OwN tIntS w' (w108.heap.size + 1) (w109.heap.size) [vaPrefixx] d_aPrefix ∧ w112.heap.size ≤ w'.heap.size := ⟨_, rfl⟩
  have KS : Hid (∀ wa wb, S wa → Below wa.heap.size wa wb → S wb) := by subst HSd; exact fun wa wb h b => ⟨h.1.trans (b.mono h.1.size), h.2.1.below b, h.2.2.1.below b, h.2.2.2.1.below b, h.2.2.2.2.1.below b, h.2.2.2.2.2.1.below b, Nat.le_trans h.2.2.2.2.2.2 b.size⟩
  have OS : Hid (∀ wa, S wa → Below w.heap.size w wa ∧ BoxN wa (w.heap.size) [.slice avaP_Pots nvaP_Pots kvaP_Pots, .int .i64 aP_Groups, .int .i64 aP_Most] ∧ OwN tTeamS wa (w106.heap.size) (w107.heap.size) [vaFieldx] d_aField ∧ OwN tPots wa (w107.heap.size) (w108.heap.size) [.slice avaP_Potsx nvaP_Potsx kvaP_Potsx, .int .i64 aP_Groups, .int .i64 aP_Most] d_aP ∧ BoxN wa (w108.heap.size) [.slice avaP_Potsx nvaP_Potsx kvaP_Potsx, .int .i64 aP_Groups, .int .i64 aP_Most] ∧ OwN tIntS wa (w108.heap.size + 1) (w109.heap.size) [vaPrefixx] d_aPrefix ∧ w112.heap.size ≤ wa.heap.size) := by subst HSd; exact fun wa h => h
  have IS : Hid (∀ wa, Below w.heap.size w wa ∧ BoxN wa (w.heap.size) [.slice avaP_Pots nvaP_Pots kvaP_Pots, .int .i64 aP_Groups, .int .i64 aP_Most] ∧ OwN tTeamS wa (w106.heap.size) (w107.heap.size) [vaFieldx] d_aField ∧ OwN tPots wa (w107.heap.size) (w108.heap.size) [.slice avaP_Potsx nvaP_Potsx kvaP_Potsx, .int .i64 aP_Groups, .int .i64 aP_Most] d_aP ∧ BoxN wa (w108.heap.size) [.slice avaP_Potsx nvaP_Potsx kvaP_Potsx, .int .i64 aP_Groups, .int .i64 aP_Most] ∧ OwN tIntS wa (w108.heap.size + 1) (w109.heap.size) [vaPrefixx] d_aPrefix ∧ w112.heap.size ≤ wa.heap.size → S wa) := by subst HSd; exact fun wa h => h
  clear HSd
  go_wp2_with fail
  refine wp_region_held_drew (S := S) (by kernel_rfl) ?_ (fun hHeld => ?_)
  · exact IS.out _ ((fun (b : Below w112.heap.size w112 _) => ⟨HB.out.trans (b.mono HB.out.size), BX_aP.out.below b, OW_aFieldx.out.below b, OW_aPx.out.below b, BX_aPx.out.below b, OW_aPrefixx.out.below b, Nat.le_trans LE.out b.size⟩) (Below.refl _ _).drew)
  refine wpAnyH_take (i := 0) (v := ?_) rfl (by kernel_rfl) (by kernel_rfl) (by kernel_rfl) (fun _ _ _ h => h) (Or.inl ⟨by rfl, ?_⟩) hHeld ?_
  rotate_left
  · (intro wa hSw; have K := OS.out _ hSw; have caPx_0 := (K.2.2.2.2.1).2 0 _ rfl; have caPx_1 := (K.2.2.2.2.1).2 1 _ rfl; have caPx_2 := (K.2.2.2.2.1).2 2 _ rfl; have caP_0 := (K.2.1).2 0 _ rfl; have caP_1 := (K.2.1).2 1 _ rfl; have caP_2 := (K.2.1).2 2 _ rfl; go_simp; try with_reducible rfl)
  simp only [Act.put, List.getElem_toArray, List.getElem_cons_zero, List.setIfInBounds_toArray, List.set_cons_zero, List.set_cons_succ]
  refine wpAnyH_take (i := 1) (v := ?_) rfl (by kernel_rfl) (by kernel_rfl) (by kernel_rfl) (fun _ _ _ h => h) (Or.inl ⟨by rfl, ?_⟩) hHeld ?_
  rotate_left
  · (intro wa hSw; have K := OS.out _ hSw; have caPx_0 := (K.2.2.2.2.1).2 0 _ rfl; have caPx_1 := (K.2.2.2.2.1).2 1 _ rfl; have caPx_2 := (K.2.2.2.2.1).2 2 _ rfl; have caP_0 := (K.2.1).2 0 _ rfl; have caP_1 := (K.2.1).2 1 _ rfl; have caP_2 := (K.2.1).2 2 _ rfl; go_simp; try with_reducible rfl)
  simp only [Act.put, List.getElem_toArray, List.getElem_cons_zero, List.getElem_cons_succ, List.setIfInBounds_toArray, List.set_cons_zero, List.set_cons_succ]
  refine wpAnyH_ready (rs := [2]) (by kernel_rfl) (by simp) ?_
  refine AllReadyH.cons (o := _) rfl (fun K hK => ?_) AllReadyH.nil
  go_simp
  have KK := OS.out _ hHeld
  refine (y_to_Pots (.slice avaP_Pots nvaP_Pots kvaP_Pots) aP_Groups aP_Most d_aP _ (RdA.below HA_aP.out (KK.1)) SM_aP.out).mono ?_
  rintro e w213 ⟨vaP_Potst5, rfl, ho, b213⟩
  have HT_aPt5 := Lib.hid ho.rdA
  clear ho
  clear KK
  (try go_wp2_with fail)
  refine hK.out _ _ ?_ (fun hHeld213 => ?_)
  · exact KS.out _ _ hHeld b213
  clear hK K
  refine wpAnyH_ready (rs := [3]) (by kernel_rfl) (by simp) ?_
  refine AllReadyH.cons (o := _) rfl (fun K hK => ?_) AllReadyH.nil
  go_simp
  have KK := OS.out _ hHeld213
  refine (y_eq_Pots (.slice avaP_Potsx nvaP_Potsx kvaP_Potsx) aP_Groups aP_Most (vaP_Potst5) d_aP _ (KK.2.2.2.1).rdA HT_aPt5.out).mono ?_
  rintro e w214 ⟨rfl, b214⟩
  clear HT_aPt5
  clear KK
  (try go_wp2_with fail)
  refine hK.out _ _ ?_ (fun hHeld214 => ?_)
  · exact KS.out _ _ hHeld213 b214
  clear hK K
  clear hHeld213
  refine wpAnyH_take (i := 4) (v := ?_) rfl (by kernel_rfl) (by kernel_rfl) (by kernel_rfl) (fun _ _ _ h => h) (Or.inl ⟨by rfl, ?_⟩) hHeld214 ?_
  rotate_left
  · (intro wa hSw; go_simp; try with_reducible rfl)
  simp only [Act.put, List.getElem_toArray, List.getElem_cons_zero, List.getElem_cons_succ, List.setIfInBounds_toArray, List.set_cons_zero, List.set_cons_succ]
  refine wpAnyH_done (by kernel_rfl) ?_ _
  have KE := Lib.hid (OS.out _ hHeld214)
  clear KS OS IS hHeld hHeld214
  have Z214 := Lib.hid (KE.out.2.2.2.2.2.2)
  replace HB := Lib.hid (KE.out.1)
  replace BX_aP := Lib.hid (KE.out.2.1)
  replace OW_aFieldx := Lib.hid (KE.out.2.2.1)
  replace OW_aPx := Lib.hid (KE.out.2.2.2.1)
  replace BX_aPx := Lib.hid (KE.out.2.2.2.2.1)
  replace OW_aPrefixx := Lib.hid (KE.out.2.2.2.2.2.1)
  clear KE LE
  go_wp2_with fail
  refine (y_to_IntS (.slice sa_aPrefix n_aPrefix sc_aPrefix) d_aPrefix _ (RdA.below HA_aPrefix.out HB.out) SM_aPrefix.out).mono ?_
  rintro e w215 ⟨vaPrefixt6, rfl, ho, b215⟩
  have Z215 : Hid (w214.heap.size ≤ w215.heap.size) := (by have := b215.size; show _ ≤ _; omega)
  replace HB := Lib.hid (HB.out.trans (b215.mono HB.out.size))
  replace BX_aP := Lib.hid (BX_aP.out.below b215)
  replace OW_aFieldx := Lib.hid (OW_aFieldx.out.below b215)
  replace OW_aPx := Lib.hid (OW_aPx.out.below b215)
  replace BX_aPx := Lib.hid (BX_aPx.out.below b215)
  replace OW_aPrefixx := Lib.hid (OW_aPrefixx.out.below b215)
  have OW_aPrefixt6 := Lib.hid (ho.mono (lo' := w214.heap.size) (hi' := w215.heap.size) (by have := Z1.out; have := Z2.out; have := Z106.out; have := Z107.out; have := Z108.out; have := Z109.out; have := Z110.out; have := Z111.out; have := Z112.out; have := Z214.out; have := Z215.out; (try simp only [World.alloc, Array.size_push]); omega) (Nat.le_refl _) (Nat.le_refl _))
  clear ho
  go_wp2_with fail
  refine (y_eq_IntS (vaPrefixx) (vaPrefixt6) d_aPrefix _ OW_aPrefixx.out.rdA OW_aPrefixt6.out.rdA).mono ?_
  rintro e w216 ⟨rfl, b216⟩
  have Z216 : Hid (w215.heap.size ≤ w216.heap.size) := (by have := b216.size; show _ ≤ _; omega)
  replace HB := Lib.hid (HB.out.trans (b216.mono HB.out.size))
  replace BX_aP := Lib.hid (BX_aP.out.below b216)
  replace OW_aFieldx := Lib.hid (OW_aFieldx.out.below b216)
  replace OW_aPx := Lib.hid (OW_aPx.out.below b216)
  replace BX_aPx := Lib.hid (BX_aPx.out.below b216)
  replace OW_aPrefixx := Lib.hid (OW_aPrefixx.out.below b216)
  replace OW_aPrefixt6 := Lib.hid (OW_aPrefixt6.out.below b216)
  clear OW_aPrefixt6
  go_wp2
  go_ret
  exact ⟨rfl, HB.out⟩
set_option maxRecDepth 100000 in
theorem lifted (os : Os) (started : os.Started) (H : Type) (enc : TypeId × Value → H) :
    ReturnsInHanded {} Try.checked os 7 .any (Rows.fnExactCountDrawsSpec.pre6 enc Try.prog Try.f7 Rows.fnExactCountDrawsRow.domain false) (Rows.fnExactCountDrawsSpec.post enc Try.prog Try.f7 false true false false) := by
  refine returnsInHanded_of_change (C := Try.checked) own started (by kernel_rfl) Try.func7
    (ChangeSpec.witness6 (enc := enc) (C := Try.checked) false ⟨#[], #[.slice none 0 0, .agg #[.slice none 0 0, .int .i64 0, .int .i64 0], .slice none 0 0], []⟩ 8 (by kernel_rfl) (by kernel_rfl) (by kernel_rfl) (by kernel_rfl)) ?_
  intro W base args ds gs before hval0 hW hcnd _
  have hval : ∀ (j : Nat) t v, Try.f7.params[j]? = some t → args[j]? = some v → Value.okWide Try.prog W .any base t v := hval0
  have hW' := hW
  obtain ⟨p, q, hA0, hV, rfl, hfz, hnd⟩ := hW
  have hA : DataW.TrodAll enc Try.prog W 0 (fun _ => true) true Try.f7.params.toList args.toList ds p := hA0
  rw [Try.params7] at hA hval
  obtain ⟨v0, vs0, d0, ds0, p0, q0, hargs, rfl, rfl, h0, r0⟩ := trodAll_cons hA
  obtain ⟨v1, vs1, d1, ds1, p1, q1, rfl, rfl, rfl, h1, r1⟩ := trodAll_cons r0
  obtain ⟨v2, vs2, d2, ds2, p2, q2, rfl, rfl, rfl, h2, r2⟩ := trodAll_cons r1
  obtain ⟨rfl, rfl, rfl⟩ := trodAll_nil r2
  obtain rfl : args = #[v0, v1, v2] := by cases args; simp_all
  obtain ⟨rfl, rfl⟩ := trodVars_none hV
  have k0 := h0
  have lt0 : ∀ x ∈ p0, x.block < W.heap.size := by obtain ⟨m, hm⟩ := k0; exact DataW.trod_lt m _ _ _ hm
  obtain ⟨x0, y0, f0⟩ := open_arg1 opens_TeamS Try.underlying40 (hval 0 40 v0 rfl rfl) h0
  have k1 := h1
  have lt1 : ∀ x ∈ p1, x.block < W.heap.size := by obtain ⟨m, hm⟩ := k1; exact DataW.trod_lt m _ _ _ hm
  obtain ⟨cs1, rfl, x1, y1, f1⟩ := open_arg opens_Pots Try.underlying41 (hval 1 41 v1 rfl rfl) h1
  obtain ⟨vz1_Pots, z1_Groups, z1_Most, e1⟩ := form_Pots y1
  obtain rfl : cs1 = #[vz1_Pots, .int .i64 z1_Groups, .int .i64 z1_Most] := Array.toList_inj.1 e1
  have k2 := h2
  have lt2 : ∀ x ∈ p2, x.block < W.heap.size := by obtain ⟨m, hm⟩ := k2; exact DataW.trod_lt m _ _ _ hm
  obtain ⟨x2, y2, f2⟩ := open_arg1 opens_IntS Try.underlying31 (hval 2 31 v2 rfl rfl) h2
  clear hA0 hval0
  simp only [List.append_nil] at hW'
  refine (walk v0 x0 vz1_Pots z1_Groups z1_Most x1 v2 x2 W y0 f0 y1 f1 y2 f2).mono fun e W' ⟨he, bel⟩ => ?_
  subst he
  exact ⟨_, rfl, _, _, _, [], _, [], hW', trodAll_mk1 (shut_bool Try.underlying4 _), (trodAll_cons_mk (Below.trod laidOut (by kernel_rfl) (of_decide_eq_true (by kernel_rfl)) k0 bel lt0) (trodAll_cons_mk (Below.trod laidOut (by kernel_rfl) (of_decide_eq_true (by kernel_rfl)) k1 bel lt1) (trodAll_cons_mk (Below.trod laidOut (by kernel_rfl) (of_decide_eq_true (by kernel_rfl)) k2 bel lt2) trodAll_mk0))), rfl, bel.frame _, fun h => by cases h⟩

theorem over : Rows.fnExactCountDrawsRow.holds Try.pinned (OpenSpec.ofChange Rows.fnExactCountDrawsSpec) :=
  OpenClaim.holds_of_wide 7 Try.f7 rfl rfl rfl rfl rfl rfl rfl ⟨rfl, rfl, rfl, rfl, rfl⟩ rfl rfl rfl rfl rfl (by kernel_rfl) Try.func7 (by kernel_rfl)
    (of_decide_eq_true (by kernel_rfl)) (by unfold Func.isWrapper; first | (rw [if_pos (by decide +kernel)]; kernel_rfl) | (rw [if_neg (by decide +kernel)]; exact ⟨rfl, rfl⟩))
    (fun os started H enc _ => lifted os started H enc)

theorem proved : Rows.FnExactCountDrawsSaid := over
end Go.Proofs.Ytmhkkdnopcdibaa.fnExactCountDraws
