/-
  The law FnExactGroupOf holds for every argument: the program answers as the model does.
-/
import Derived.Test.YtmhkkdnopcdibaaRows
import Derived.WalkKit
import Derived.ProofKit
import Derived.OpenShut
import Derived.ShutString
import Derived.ChangeOld
import Derived.Below
import Derived.Lib.Hide
import Derived.Deep.RegionHeld3
import Derived.Test.YtmhkkdnopcdibaaQ1
import Derived.Test.YtmhkkdnopcdibaaQ2
import Derived.Test.YtmhkkdnopcdibaaQ3
import Derived.Test.YtmhkkdnopcdibaaQ4
import Derived.Test.YtmhkkdnopcdibaaQ10
import Derived.Test.YtmhkkdnopcdibaaQ12
import Derived.Test.YtmhkkdnopcdibaaQ13
import Derived.Test.YtmhkkdnopcdibaaQ15
namespace Go.Proofs.Ytmhkkdnopcdibaa.fnExactGroupOf
open Go.ChangeShapes Go.WideShapes Go.ChangeAt Go.RowKit
open Go.ChangeMaps (open_string shut_string)
set_option linter.unusedVariables false

theorem own : ownKnob Try.prog.godebug = none := by kernel_rfl
theorem laidOut : laidOutB Try.prog = true := by kernel_rfl

set_option maxHeartbeats 4000000 in
set_option maxRecDepth 100000 in
theorem walk (vaP_Pots : Value) (aP_Groups : Int) (aP_Most : Int) (d_aP : tPots.D) (vaDraw : Value) (d_aDraw : tIntS.D) (aGroup : Int) (w : World) (h_aP : RdA tPots w [vaP_Pots, .int .i64 aP_Groups, .int .i64 aP_Most] d_aP) (f_aP : tPots.fit d_aP) (h_aDraw : RdA tIntS w [vaDraw] d_aDraw) (f_aDraw : tIntS.fit d_aDraw) (f_aGroup : IntFit aGroup) :
    Calls Try.prog 10 #[.agg #[vaP_Pots, .int .i64 aP_Groups, .int .i64 aP_Most], vaDraw, .int .i64 aGroup] w fun e w' => e = .returned (.bool true) ∧ Below w.heap.size w w' := by
  obtain ⟨d_r0, nb0, CS, CI⟩ : ∃ (d_r0 : tIntS.D), (tPots.wt d_aP ≤ 1048576 → tIntS.wt d_aDraw ≤ 1048576 → tIntS.mks d_r0 ≤ 100000000000) ∧ Hid (∀ (vaP_Pots : Value) (vaDraw : Value) (w1 : World), RdA tPots w1 [vaP_Pots, .int .i64 aP_Groups, .int .i64 aP_Most] d_aP → RdA tIntS w1 [vaDraw] d_aDraw → tPots.wt d_aP ≤ 1048576 → tIntS.wt d_aDraw ≤ 1048576 → Calls Try.prog 39 #[.agg #[vaP_Pots, .int .i64 aP_Groups, .int .i64 aP_Most], vaDraw, .int .i64 aGroup] w1 fun e w' => ∃ vr0 : Value, e = .returned (vr0) ∧ OwN tIntS w' w1.heap.size w'.heap.size [vr0] d_r0 ∧ Below w1.heap.size w1 w') ∧ Hid (∀ (vaP_Pots : Value) (vaDraw : Value) (w1 : World), RdA tPots w1 [vaP_Pots, .int .i64 aP_Groups, .int .i64 aP_Most] d_aP → RdA tIntS w1 [vaDraw] d_aDraw → tPots.wt d_aP ≤ 1048576 → tIntS.wt d_aDraw ≤ 1048576 → Calls Try.prog 20 #[.agg #[vaP_Pots, .int .i64 aP_Groups, .int .i64 aP_Most], vaDraw, .int .i64 aGroup] w1 fun e w' => ∃ vr0 : Value, e = .returned (vr0) ∧ OwN tIntS w' w1.heap.size w'.heap.size [vr0] d_r0 ∧ Below w1.heap.size w1 w') := by
    exact ⟨_, fun sp sd => marks_grp (pots_wt sp), fun vp vd w1 hp hd sp sd => (groupOf_spec vp aP_Groups aP_Most d_aP.1 vd d_aDraw aGroup w1 (pots_rd hp) (pots_wt sp) (rd_IntS.1 hd)).mono fun e w' h => IntsL.owND h, fun vp vd w1 hp hd sp sd => (groupOf_impl vp aP_Groups aP_Most d_aP.1 vd d_aDraw aGroup w1 (pots_rd hp) (pots_wt sp) (rd_IntS.1 hd)).mono fun e w' h => IntsL.owND h⟩
  have HB : Hid (Below w.heap.size w w) := Below.refl _ _
  have HNB0 := Lib.hid nb0
  clear nb0
  have HA_aP := Lib.hid h_aP
  have HF_aP := Lib.hid f_aP
  clear h_aP f_aP
  have hsp := HA_aP.out
  obtain ⟨avaP_Pots, nvaP_Pots, kvaP_Pots, hvaP_Pots⟩ := rd_slice (rd_splitB hsp).1
  replace hsp := (rd_splitB hsp).2
  replace hsp := (rd_splitB hsp).2
  clear hsp
  subst hvaP_Pots
  obtain ⟨sa_aDraw, sc_aDraw, hv_aDraw, hm_aDraw⟩ := rd_row_form h_aDraw
  obtain ⟨n_aDraw, hn_aDraw⟩ : ∃ n, List.length d_aDraw = n := ⟨_, rfl⟩
  rw [hn_aDraw] at hv_aDraw hm_aDraw
  subst hv_aDraw
  have HN_aDraw := Lib.hid hn_aDraw
  clear hn_aDraw
  have HA_aDraw := Lib.hid h_aDraw
  have HF_aDraw := Lib.hid f_aDraw
  clear h_aDraw f_aDraw
  replace HB := Lib.hid (HB.out.trans (((Below.refl w.heap.size w).alloc (Nat.le_refl _) (.cells #[.slice avaP_Pots nvaP_Pots kvaP_Pots, .int .i64 aP_Groups, .int .i64 aP_Most] 41)).mono HB.out.size))
  have BX_aP : Hid (BoxN (w.alloc (.cells #[.slice avaP_Pots nvaP_Pots kvaP_Pots, .int .i64 aP_Groups, .int .i64 aP_Most] 41)) (w.heap.size) [.slice avaP_Pots nvaP_Pots kvaP_Pots, .int .i64 aP_Groups, .int .i64 aP_Most]) := BoxN.made (Below.refl _ _) (by first | rfl | simp | (simp; done))
  by_cases hl_aDraw : 1048576 < n_aDraw
  · have g0 : decide ((1048576 : Int) < (n_aDraw : Int)) = true := decide_eq_true (by omega)
    have g0' : decide (1048576 < n_aDraw) = true := decide_eq_true (by omega)
    go_enter Try.func10, Try.ntmps10
    go_wp2
    go_ret
    exact ⟨rfl, HB.out⟩
  have hs_aDraw : n_aDraw ≤ 1048576 := by omega
  have hg_aDraw : decide ((1048576 : Int) < (n_aDraw : Int)) = false := decide_eq_false (by omega)
  have hg2_aDraw : decide (1048576 < n_aDraw) = false := decide_eq_false (by omega)
  have SM_aDraw : Hid (tIntS.wt d_aDraw ≤ 1048576) := Nat.le_trans (Nat.le_of_eq ((wt_IntS d_aDraw).trans HN_aDraw.out)) hs_aDraw
  clear hl_aDraw
  go_enter Try.func10, Try.ntmps10
  have caP_0 := BX_aP.out.2 0 _ rfl
  have caP_1 := BX_aP.out.2 1 _ rfl
  have caP_2 := BX_aP.out.2 2 _ rfl
  have caP_lt := BX_aP.out.1
  go_wp2_with fail
  refine (y_sz_Pots (.slice avaP_Pots nvaP_Pots kvaP_Pots) aP_Groups aP_Most d_aP (1048576) _ (by omega) (by omega) (RdA.below HA_aP.out HB.out)).mono ?_
  rintro e w1 ⟨⟨r1, rfl, hr1⟩, b1⟩
  clear caP_0 caP_1 caP_2 caP_lt
  have Z1 : Hid (w.heap.size + 1 ≤ w1.heap.size) := (by have := b1.size; simp at this; show _ ≤ _; omega)
  replace HB := Lib.hid (HB.out.trans (b1.mono HB.out.size))
  replace BX_aP := Lib.hid (BX_aP.out.below b1)
  by_cases hn1 : r1 < 0
  · have g2 : decide (r1 < 0) = true := decide_eq_true hn1
    clear hr1
    go_wp2
    go_ret
    exact ⟨rfl, HB.out⟩
  have g1 : decide (r1 < 0) = false := decide_eq_false hn1
  have SM_aP : Hid (tPots.wt d_aP ≤ 1048576) := (by show _ ≤ _; omega)
  replace hn1 : 0 ≤ r1 ∧ r1 ≤ 1048576 := by omega
  clear hr1
  have caP_0 := BX_aP.out.2 0 _ rfl
  have caP_1 := BX_aP.out.2 1 _ rfl
  have caP_2 := BX_aP.out.2 2 _ rfl
  have caP_lt := BX_aP.out.1
  go_wp2_with fail
  refine (y_to_Pots (.slice avaP_Pots nvaP_Pots kvaP_Pots) aP_Groups aP_Most d_aP _ (RdA.below HA_aP.out HB.out) SM_aP.out).mono ?_
  rintro e w2 ⟨vaP_Potst1, rfl, ho, b2⟩
  clear caP_0 caP_1 caP_2 caP_lt
  have Z2 : Hid (w1.heap.size ≤ w2.heap.size) := (by have := b2.size; show _ ≤ _; omega)
  replace HB := Lib.hid (HB.out.trans (b2.mono HB.out.size))
  replace BX_aP := Lib.hid (BX_aP.out.below b2)
  have OW_aPt1 := Lib.hid (ho.mono (lo' := w1.heap.size) (hi' := w2.heap.size) (by have := Z1.out; have := Z2.out; (try simp only [World.alloc, Array.size_push]); omega) (Nat.le_refl _) (Nat.le_refl _))
  clear ho
  have caP_0 := BX_aP.out.2 0 _ rfl
  have caP_1 := BX_aP.out.2 1 _ rfl
  have caP_2 := BX_aP.out.2 2 _ rfl
  have caP_lt := BX_aP.out.1
  go_wp2_with fail
  refine (y_to_IntS (.slice sa_aDraw n_aDraw sc_aDraw) d_aDraw _ (RdA.below HA_aDraw.out HB.out) SM_aDraw.out).mono ?_
  rintro e w3 ⟨vaDrawt2, rfl, ho, b3⟩
  clear caP_0 caP_1 caP_2 caP_lt
  have Z3 : Hid (w2.heap.size ≤ w3.heap.size) := (by have := b3.size; show _ ≤ _; omega)
  replace HB := Lib.hid (HB.out.trans (b3.mono HB.out.size))
  replace BX_aP := Lib.hid (BX_aP.out.below b3)
  replace OW_aPt1 := Lib.hid (OW_aPt1.out.below b3)
  have OW_aDrawt2 := Lib.hid (ho.mono (lo' := w2.heap.size) (hi' := w3.heap.size) (by have := Z1.out; have := Z2.out; have := Z3.out; (try simp only [World.alloc, Array.size_push]); omega) (Nat.le_refl _) (Nat.le_refl _))
  clear ho
  go_wp2_with fail
  refine (CS.out (vaP_Potst1) (vaDrawt2) _ OW_aPt1.out.rdA OW_aDrawt2.out.rdA SM_aP.out SM_aDraw.out).mono ?_
  rintro e w4 ⟨vr0s, rfl, ho, b4⟩
  have Z4 : Hid (w3.heap.size ≤ w4.heap.size) := (by have := b4.size; show _ ≤ _; omega)
  replace HB := Lib.hid (HB.out.trans (b4.mono HB.out.size))
  replace BX_aP := Lib.hid (BX_aP.out.below b4)
  replace OW_aPt1 := Lib.hid (OW_aPt1.out.below b4)
  replace OW_aDrawt2 := Lib.hid (OW_aDrawt2.out.below b4)
  clear OW_aPt1 OW_aDrawt2
  have OW_r0s := Lib.hid (ho.mono (lo' := w1.heap.size) (hi' := w4.heap.size) (by have := Z1.out; have := Z2.out; have := Z3.out; have := Z4.out; (try simp only [World.alloc, Array.size_push]); omega) (Nat.le_refl _) (Nat.le_refl _))
  clear ho
  have caP_0 := BX_aP.out.2 0 _ rfl
  have caP_1 := BX_aP.out.2 1 _ rfl
  have caP_2 := BX_aP.out.2 2 _ rfl
  have caP_lt := BX_aP.out.1
  go_wp2_with fail
  refine (y_to_Pots (.slice avaP_Pots nvaP_Pots kvaP_Pots) aP_Groups aP_Most d_aP _ (RdA.below HA_aP.out HB.out) SM_aP.out).mono ?_
  rintro e w5 ⟨vaP_Potsx, rfl, ho, b5⟩
  clear caP_0 caP_1 caP_2 caP_lt
  have Z5 : Hid (w4.heap.size ≤ w5.heap.size) := (by have := b5.size; show _ ≤ _; omega)
  replace HB := Lib.hid (HB.out.trans (b5.mono HB.out.size))
  replace BX_aP := Lib.hid (BX_aP.out.below b5)
  replace OW_r0s := Lib.hid (OW_r0s.out.below b5)
  have OW_aPx := Lib.hid (ho.mono (lo' := w4.heap.size) (hi' := w5.heap.size) (by have := Z1.out; have := Z2.out; have := Z3.out; have := Z4.out; have := Z5.out; (try simp only [World.alloc, Array.size_push]); omega) (Nat.le_refl _) (Nat.le_refl _))
  clear ho
  have hsp := OW_aPx.out.rd
  obtain ⟨avaP_Potsx, nvaP_Potsx, kvaP_Potsx, hvaP_Potsx⟩ := rd_slice (rd_splitB hsp).1
  replace hsp := (rd_splitB hsp).2
  replace hsp := (rd_splitB hsp).2
  clear hsp
  subst hvaP_Potsx
  replace HB := Lib.hid (HB.out.trans (((Below.refl w5.heap.size w5).alloc (Nat.le_refl _) (.cells #[.slice avaP_Potsx nvaP_Potsx kvaP_Potsx, .int .i64 aP_Groups, .int .i64 aP_Most] 26)).mono HB.out.size))
  replace BX_aP := Lib.hid (BX_aP.out.below ((Below.refl w5.heap.size w5).alloc (Nat.le_refl _) (.cells #[.slice avaP_Potsx nvaP_Potsx kvaP_Potsx, .int .i64 aP_Groups, .int .i64 aP_Most] 26)))
  replace OW_r0s := Lib.hid (OW_r0s.out.below ((Below.refl w5.heap.size w5).alloc (Nat.le_refl _) (.cells #[.slice avaP_Potsx nvaP_Potsx kvaP_Potsx, .int .i64 aP_Groups, .int .i64 aP_Most] 26)))
  replace OW_aPx := Lib.hid (OW_aPx.out.below ((Below.refl w5.heap.size w5).alloc (Nat.le_refl _) (.cells #[.slice avaP_Potsx nvaP_Potsx kvaP_Potsx, .int .i64 aP_Groups, .int .i64 aP_Most] 26)))
  have BX_aPx : Hid (BoxN (w5.alloc (.cells #[.slice avaP_Potsx nvaP_Potsx kvaP_Potsx, .int .i64 aP_Groups, .int .i64 aP_Most] 26)) (w5.heap.size) [.slice avaP_Potsx nvaP_Potsx kvaP_Potsx, .int .i64 aP_Groups, .int .i64 aP_Most]) := BoxN.made (Below.refl _ _) (by first | rfl | simp | (simp; done))
  go_wp2_with fail
  refine (y_to_IntS (.slice sa_aDraw n_aDraw sc_aDraw) d_aDraw _ (RdA.below HA_aDraw.out HB.out) SM_aDraw.out).mono ?_
  rintro e w6 ⟨vaDrawx, rfl, ho, b6⟩
  have Z6 : Hid (w5.heap.size + 1 ≤ w6.heap.size) := (by have := b6.size; simp at this; show _ ≤ _; omega)
  replace HB := Lib.hid (HB.out.trans (b6.mono HB.out.size))
  replace BX_aP := Lib.hid (BX_aP.out.below b6)
  replace OW_r0s := Lib.hid (OW_r0s.out.below b6)
  replace OW_aPx := Lib.hid (OW_aPx.out.below b6)
  replace BX_aPx := Lib.hid (BX_aPx.out.below b6)
  have OW_aDrawx := Lib.hid (ho.mono (lo' := w5.heap.size + 1) (hi' := w6.heap.size) (by have := Z1.out; have := Z2.out; have := Z3.out; have := Z4.out; have := Z5.out; have := Z6.out; (try simp only [World.alloc, Array.size_push]); omega) (Nat.le_refl _) (Nat.le_refl _))
  clear ho
  have caPx_0 := BX_aPx.out.2 0 _ rfl
  have caPx_1 := BX_aPx.out.2 1 _ rfl
  have caPx_2 := BX_aPx.out.2 2 _ rfl
  have caPx_lt := BX_aPx.out.1
  go_wp2_with fail
  refine (CI.out (.slice avaP_Potsx nvaP_Potsx kvaP_Potsx) (vaDrawx) _ OW_aPx.out.rdA OW_aDrawx.out.rdA SM_aP.out SM_aDraw.out).mono ?_
  rintro e w7 ⟨vr0i, rfl, ho, b7⟩
  clear caPx_0 caPx_1 caPx_2 caPx_lt
  have Z7 : Hid (w6.heap.size ≤ w7.heap.size) := (by have := b7.size; show _ ≤ _; omega)
  replace HB := Lib.hid (HB.out.trans (b7.mono HB.out.size))
  replace BX_aP := Lib.hid (BX_aP.out.below b7)
  replace OW_r0s := Lib.hid (OW_r0s.out.below b7)
  replace OW_aPx := Lib.hid (OW_aPx.out.below b7)
  replace BX_aPx := Lib.hid (BX_aPx.out.below b7)
  replace OW_aDrawx := Lib.hid (OW_aDrawx.out.below b7)
  have OW_r0i := Lib.hid (ho.mono (lo' := w6.heap.size) (hi' := w7.heap.size) (by have := Z1.out; have := Z2.out; have := Z3.out; have := Z4.out; have := Z5.out; have := Z6.out; have := Z7.out; (try simp only [World.alloc, Array.size_push]); omega) (Nat.le_refl _) (Nat.le_refl _))
  clear ho
  go_wp2_with fail
  refine (y_eq_IntS (vr0i) (vr0s) d_r0 _ OW_r0i.out.rdA OW_r0s.out.rdA).mono ?_
  rintro e w8 ⟨rfl, b8⟩
  have Z8 : Hid (w7.heap.size ≤ w8.heap.size) := (by have := b8.size; show _ ≤ _; omega)
  replace HB := Lib.hid (HB.out.trans (b8.mono HB.out.size))
  replace BX_aP := Lib.hid (BX_aP.out.below b8)
  replace OW_r0s := Lib.hid (OW_r0s.out.below b8)
  replace OW_aPx := Lib.hid (OW_aPx.out.below b8)
  replace BX_aPx := Lib.hid (BX_aPx.out.below b8)
  replace OW_aDrawx := Lib.hid (OW_aDrawx.out.below b8)
  replace OW_r0i := Lib.hid (OW_r0i.out.below b8)
  have LE : Hid (w8.heap.size ≤ w8.heap.size) := (by show _ ≤ _; first | exact Nat.le_refl _ | simp)
  obtain ⟨S, HSd⟩ : ∃ S : World → Prop, S = fun w' => Below w.heap.size w w' ∧ BoxN w' (w.heap.size) [.slice avaP_Pots nvaP_Pots kvaP_Pots, .int .i64 aP_Groups, .int .i64 aP_Most] ∧ OwN tIntS w' (w1.heap.size) (w4.heap.size) [vr0s] d_r0 ∧ OwN tPots w' (w4.heap.size) (w5.heap.size) [.slice avaP_Potsx nvaP_Potsx kvaP_Potsx, .int .i64 aP_Groups, .int .i64 aP_Most] d_aP ∧ BoxN w' (w5.heap.size) [.slice avaP_Potsx nvaP_Potsx kvaP_Potsx, .int .i64 aP_Groups, .int .i64 aP_Most] ∧ OwN tIntS w' (w5.heap.size + 1) (w6.heap.size) [vaDrawx] d_aDraw ∧ OwN tIntS w' (w6.heap.size) (w7.heap.size) [vr0i] d_r0 ∧ w8.heap.size ≤ w'.heap.size := ⟨_, rfl⟩
  have KS : Hid (∀ wa wb, S wa → Below wa.heap.size wa wb → S wb) := by subst HSd; exact fun wa wb h b => ⟨h.1.trans (b.mono h.1.size), h.2.1.below b, h.2.2.1.below b, h.2.2.2.1.below b, h.2.2.2.2.1.below b, h.2.2.2.2.2.1.below b, h.2.2.2.2.2.2.1.below b, Nat.le_trans h.2.2.2.2.2.2.2 b.size⟩
  have OS : Hid (∀ wa, S wa → Below w.heap.size w wa ∧ BoxN wa (w.heap.size) [.slice avaP_Pots nvaP_Pots kvaP_Pots, .int .i64 aP_Groups, .int .i64 aP_Most] ∧ OwN tIntS wa (w1.heap.size) (w4.heap.size) [vr0s] d_r0 ∧ OwN tPots wa (w4.heap.size) (w5.heap.size) [.slice avaP_Potsx nvaP_Potsx kvaP_Potsx, .int .i64 aP_Groups, .int .i64 aP_Most] d_aP ∧ BoxN wa (w5.heap.size) [.slice avaP_Potsx nvaP_Potsx kvaP_Potsx, .int .i64 aP_Groups, .int .i64 aP_Most] ∧ OwN tIntS wa (w5.heap.size + 1) (w6.heap.size) [vaDrawx] d_aDraw ∧ OwN tIntS wa (w6.heap.size) (w7.heap.size) [vr0i] d_r0 ∧ w8.heap.size ≤ wa.heap.size) := by subst HSd; exact fun wa h => h
  have IS : Hid (∀ wa, Below w.heap.size w wa ∧ BoxN wa (w.heap.size) [.slice avaP_Pots nvaP_Pots kvaP_Pots, .int .i64 aP_Groups, .int .i64 aP_Most] ∧ OwN tIntS wa (w1.heap.size) (w4.heap.size) [vr0s] d_r0 ∧ OwN tPots wa (w4.heap.size) (w5.heap.size) [.slice avaP_Potsx nvaP_Potsx kvaP_Potsx, .int .i64 aP_Groups, .int .i64 aP_Most] d_aP ∧ BoxN wa (w5.heap.size) [.slice avaP_Potsx nvaP_Potsx kvaP_Potsx, .int .i64 aP_Groups, .int .i64 aP_Most] ∧ OwN tIntS wa (w5.heap.size + 1) (w6.heap.size) [vaDrawx] d_aDraw ∧ OwN tIntS wa (w6.heap.size) (w7.heap.size) [vr0i] d_r0 ∧ w8.heap.size ≤ wa.heap.size → S wa) := by subst HSd; exact fun wa h => h
  clear HSd
  go_wp2_with fail
  refine wp_region_held_drew (S := S) (by kernel_rfl) ?_ (fun hHeld => ?_)
  · exact IS.out _ ((fun (b : Below w8.heap.size w8 _) => ⟨HB.out.trans (b.mono HB.out.size), BX_aP.out.below b, OW_r0s.out.below b, OW_aPx.out.below b, BX_aPx.out.below b, OW_aDrawx.out.below b, OW_r0i.out.below b, Nat.le_trans LE.out b.size⟩) (Below.refl _ _).drew)
  refine wpAnyH_take (i := 0) (v := ?_) rfl (by kernel_rfl) (by kernel_rfl) (by kernel_rfl) (fun _ _ _ h => h) (Or.inl ⟨by rfl, ?_⟩) hHeld ?_
  rotate_left
  · (intro wa hSw; have K := OS.out _ hSw; have caPx_0 := (K.2.2.2.2.1).2 0 _ rfl; have caPx_1 := (K.2.2.2.2.1).2 1 _ rfl; have caPx_2 := (K.2.2.2.2.1).2 2 _ rfl; have caP_0 := (K.2.1).2 0 _ rfl; have caP_1 := (K.2.1).2 1 _ rfl; have caP_2 := (K.2.1).2 2 _ rfl; go_simp; try with_reducible rfl)
  simp only [Act.put, List.getElem_toArray, List.getElem_cons_zero, List.setIfInBounds_toArray, List.set_cons_zero, List.set_cons_succ]
  refine wpAnyH_take (i := 1) (v := ?_) rfl (by kernel_rfl) (by kernel_rfl) (by kernel_rfl) (fun _ _ _ h => h) (Or.inl ⟨by rfl, ?_⟩) hHeld ?_
  rotate_left
  · (intro wa hSw; have K := OS.out _ hSw; have caPx_0 := (K.2.2.2.2.1).2 0 _ rfl; have caPx_1 := (K.2.2.2.2.1).2 1 _ rfl; have caPx_2 := (K.2.2.2.2.1).2 2 _ rfl; have caP_0 := (K.2.1).2 0 _ rfl; have caP_1 := (K.2.1).2 1 _ rfl; have caP_2 := (K.2.1).2 2 _ rfl; go_simp; try with_reducible rfl)
  simp only [Act.put, List.getElem_toArray, List.getElem_cons_zero, List.getElem_cons_succ, List.setIfInBounds_toArray, List.set_cons_zero, List.set_cons_succ]
  refine wpAnyH_ready (rs := [2]) (by kernel_rfl) (by simp) ?_
  refine AllReadyH.cons (o := _) rfl (fun K hK => ?_) AllReadyH.nil
  go_simp
  have KK := OS.out _ hHeld
  refine (y_to_Pots (.slice avaP_Pots nvaP_Pots kvaP_Pots) aP_Groups aP_Most d_aP _ (RdA.below HA_aP.out (KK.1)) SM_aP.out).mono ?_
  rintro e w109 ⟨vaP_Potst3, rfl, ho, b109⟩
  have HT_aPt3 := Lib.hid ho.rdA
  clear ho
  clear KK
  (try go_wp2_with fail)
  refine hK.out _ _ ?_ (fun hHeld109 => ?_)
  · exact KS.out _ _ hHeld b109
  clear hK K
  refine wpAnyH_ready (rs := [3]) (by kernel_rfl) (by simp) ?_
  refine AllReadyH.cons (o := _) rfl (fun K hK => ?_) AllReadyH.nil
  go_simp
  have KK := OS.out _ hHeld109
  refine (y_eq_Pots (.slice avaP_Potsx nvaP_Potsx kvaP_Potsx) aP_Groups aP_Most (vaP_Potst3) d_aP _ (KK.2.2.2.1).rdA HT_aPt3.out).mono ?_
  rintro e w110 ⟨rfl, b110⟩
  clear HT_aPt3
  clear KK
  (try go_wp2_with fail)
  refine hK.out _ _ ?_ (fun hHeld110 => ?_)
  · exact KS.out _ _ hHeld109 b110
  clear hK K
  clear hHeld109
  refine wpAnyH_take (i := 4) (v := ?_) rfl (by kernel_rfl) (by kernel_rfl) (by kernel_rfl) (fun _ _ _ h => h) (Or.inl ⟨by rfl, ?_⟩) hHeld110 ?_
  rotate_left
  · (intro wa hSw; go_simp; try with_reducible rfl)
  simp only [Act.put, List.getElem_toArray, List.getElem_cons_zero, List.getElem_cons_succ, List.setIfInBounds_toArray, List.set_cons_zero, List.set_cons_succ]
  refine wpAnyH_done (by kernel_rfl) ?_ _
  have KE := Lib.hid (OS.out _ hHeld110)
  clear KS OS IS hHeld hHeld110
  have Z110 := Lib.hid (KE.out.2.2.2.2.2.2.2)
  replace HB := Lib.hid (KE.out.1)
  replace BX_aP := Lib.hid (KE.out.2.1)
  replace OW_r0s := Lib.hid (KE.out.2.2.1)
  replace OW_aPx := Lib.hid (KE.out.2.2.2.1)
  replace BX_aPx := Lib.hid (KE.out.2.2.2.2.1)
  replace OW_aDrawx := Lib.hid (KE.out.2.2.2.2.2.1)
  replace OW_r0i := Lib.hid (KE.out.2.2.2.2.2.2.1)
  clear KE LE
  go_wp2_with fail
  refine (y_to_IntS (.slice sa_aDraw n_aDraw sc_aDraw) d_aDraw _ (RdA.below HA_aDraw.out HB.out) SM_aDraw.out).mono ?_
  rintro e w111 ⟨vaDrawt4, rfl, ho, b111⟩
  have Z111 : Hid (w110.heap.size ≤ w111.heap.size) := (by have := b111.size; show _ ≤ _; omega)
  replace HB := Lib.hid (HB.out.trans (b111.mono HB.out.size))
  replace BX_aP := Lib.hid (BX_aP.out.below b111)
  replace OW_r0s := Lib.hid (OW_r0s.out.below b111)
  replace OW_aPx := Lib.hid (OW_aPx.out.below b111)
  replace BX_aPx := Lib.hid (BX_aPx.out.below b111)
  replace OW_aDrawx := Lib.hid (OW_aDrawx.out.below b111)
  replace OW_r0i := Lib.hid (OW_r0i.out.below b111)
  have OW_aDrawt4 := Lib.hid (ho.mono (lo' := w110.heap.size) (hi' := w111.heap.size) (by have := Z1.out; have := Z2.out; have := Z3.out; have := Z4.out; have := Z5.out; have := Z6.out; have := Z7.out; have := Z8.out; have := Z110.out; have := Z111.out; (try simp only [World.alloc, Array.size_push]); omega) (Nat.le_refl _) (Nat.le_refl _))
  clear ho
  go_wp2_with fail
  refine (y_eq_IntS (vaDrawx) (vaDrawt4) d_aDraw _ OW_aDrawx.out.rdA OW_aDrawt4.out.rdA).mono ?_
  rintro e w112 ⟨rfl, b112⟩
  have Z112 : Hid (w111.heap.size ≤ w112.heap.size) := (by have := b112.size; show _ ≤ _; omega)
  replace HB := Lib.hid (HB.out.trans (b112.mono HB.out.size))
  replace BX_aP := Lib.hid (BX_aP.out.below b112)
  replace OW_r0s := Lib.hid (OW_r0s.out.below b112)
  replace OW_aPx := Lib.hid (OW_aPx.out.below b112)
  replace BX_aPx := Lib.hid (BX_aPx.out.below b112)
  replace OW_aDrawx := Lib.hid (OW_aDrawx.out.below b112)
  replace OW_r0i := Lib.hid (OW_r0i.out.below b112)
  replace OW_aDrawt4 := Lib.hid (OW_aDrawt4.out.below b112)
  clear OW_aDrawt4
  obtain ⟨M_aPx, hM⟩ : ∃ z, cnt_Pots d_aP = z := ⟨_, rfl⟩
  have HM_aPx := Lib.hid hM
  have hM2_aPx : M_aPx ≤ 100000000000 := (by have h7 : cnt_Pots d_aP ≤ 2000000000 := (Nat.le_trans (cntle_Pots d_aP) (Bnd.le ((bnd_two (bnd_sl (bnd_sl bnd_int)) (bnd_two bnd_int bnd_int)) : Bnd tPots 3) SM_aP.out (by decide))); rw [hM] at h7; omega)
  clear hM
  have caPx_0 := BX_aPx.out.2 0 _ rfl
  have caPx_1 := BX_aPx.out.2 1 _ rfl
  have caPx_2 := BX_aPx.out.2 2 _ rfl
  have caPx_lt := BX_aPx.out.1
  go_wp2_with fail
  refine (mark_windowC OW_aPx.out fun bs ho hnd => yb_mk_Pots (.slice avaP_Potsx nvaP_Potsx kvaP_Potsx) aP_Groups aP_Most d_aP ((1 : Int)) _ bs _ ho hnd (by omega) (by have := HM_aPx.out; omega)).mono ?_
  rintro e w113 ⟨rfl, hr, b113⟩
  clear caPx_0 caPx_1 caPx_2 caPx_lt
  rw [HM_aPx.out]
  clear OW_aPx
  clear hr
  have Z113 : Hid (w112.heap.size ≤ w113.heap.size) := (by have := b113.size; show _ ≤ _; omega)
  replace HB := Lib.hid (HB.out.trans (b113.below (by have := Z1.out; have := Z2.out; have := Z3.out; have := Z4.out; have := Z5.out; have := Z6.out; have := Z7.out; have := Z8.out; have := Z110.out; have := Z111.out; have := Z112.out; omega) HB.out.size))
  replace BX_aP := Lib.hid (BX_aP.out.touch b113 (by have := Z1.out; have := Z2.out; have := Z3.out; have := Z4.out; have := Z5.out; have := Z6.out; have := Z7.out; have := Z8.out; have := Z110.out; have := Z111.out; have := Z112.out; omega))
  replace OW_r0s := Lib.hid (OW_r0s.out.touch b113 (by have := Z1.out; have := Z2.out; have := Z3.out; have := Z4.out; have := Z5.out; have := Z6.out; have := Z7.out; have := Z8.out; have := Z110.out; have := Z111.out; have := Z112.out; omega))
  replace BX_aPx := Lib.hid (BX_aPx.out.touch b113 (by have := Z1.out; have := Z2.out; have := Z3.out; have := Z4.out; have := Z5.out; have := Z6.out; have := Z7.out; have := Z8.out; have := Z110.out; have := Z111.out; have := Z112.out; omega))
  replace OW_aDrawx := Lib.hid (OW_aDrawx.out.touch b113 (by have := Z1.out; have := Z2.out; have := Z3.out; have := Z4.out; have := Z5.out; have := Z6.out; have := Z7.out; have := Z8.out; have := Z110.out; have := Z111.out; have := Z112.out; omega))
  replace OW_r0i := Lib.hid (OW_r0i.out.touch b113 (by have := Z1.out; have := Z2.out; have := Z3.out; have := Z4.out; have := Z5.out; have := Z6.out; have := Z7.out; have := Z8.out; have := Z110.out; have := Z111.out; have := Z112.out; omega))
  obtain ⟨M_aDrawx, hM⟩ : ∃ z, tIntS.mks d_aDraw = z := ⟨_, rfl⟩
  have HM_aDrawx := Lib.hid hM
  have hM2_aDrawx : M_aDrawx ≤ 100000000000 := (by have h7 : tIntS.mks d_aDraw ≤ 2000000000 := (Bnd.le ((bnd_sl bnd_int) : Bnd tIntS 1) SM_aDraw.out (by decide)); rw [hM] at h7; omega)
  clear hM
  go_wp2_with fail
  refine (mark_windowC OW_aDrawx.out fun bs ho hnd => yb_mk_IntS (vaDrawx) d_aDraw ((1 : Int) + (M_aPx : Int)) _ bs _ ho hnd (by omega) (by have := HM_aDrawx.out; omega)).mono ?_
  rintro e w114 ⟨rfl, hr, b114⟩
  rw [HM_aDrawx.out]
  clear OW_aDrawx
  clear hr
  have Z114 : Hid (w113.heap.size ≤ w114.heap.size) := (by have := b114.size; show _ ≤ _; omega)
  replace HB := Lib.hid (HB.out.trans (b114.below (by have := Z1.out; have := Z2.out; have := Z3.out; have := Z4.out; have := Z5.out; have := Z6.out; have := Z7.out; have := Z8.out; have := Z110.out; have := Z111.out; have := Z112.out; have := Z113.out; omega) HB.out.size))
  replace BX_aP := Lib.hid (BX_aP.out.touch b114 (by have := Z1.out; have := Z2.out; have := Z3.out; have := Z4.out; have := Z5.out; have := Z6.out; have := Z7.out; have := Z8.out; have := Z110.out; have := Z111.out; have := Z112.out; have := Z113.out; omega))
  replace OW_r0s := Lib.hid (OW_r0s.out.touch b114 (by have := Z1.out; have := Z2.out; have := Z3.out; have := Z4.out; have := Z5.out; have := Z6.out; have := Z7.out; have := Z8.out; have := Z110.out; have := Z111.out; have := Z112.out; have := Z113.out; omega))
  replace BX_aPx := Lib.hid (BX_aPx.out.touch b114 (by have := Z1.out; have := Z2.out; have := Z3.out; have := Z4.out; have := Z5.out; have := Z6.out; have := Z7.out; have := Z8.out; have := Z110.out; have := Z111.out; have := Z112.out; have := Z113.out; omega))
  replace OW_r0i := Lib.hid (OW_r0i.out.touch b114 (by have := Z1.out; have := Z2.out; have := Z3.out; have := Z4.out; have := Z5.out; have := Z6.out; have := Z7.out; have := Z8.out; have := Z110.out; have := Z111.out; have := Z112.out; have := Z113.out; omega))
  have kd4473 : decide ((1 : Int) + (M_aPx : Int) + (M_aDrawx : Int) < 0) = false := decide_eq_false (by omega)
  go_wp2_with fail
  refine (y_eq_IntS (vr0i) (vr0s) d_r0 _ OW_r0i.out.rdA OW_r0s.out.rdA).mono ?_
  rintro e w115 ⟨rfl, b115⟩
  have Z115 : Hid (w114.heap.size ≤ w115.heap.size) := (by have := b115.size; show _ ≤ _; omega)
  replace HB := Lib.hid (HB.out.trans (b115.mono HB.out.size))
  replace BX_aP := Lib.hid (BX_aP.out.below b115)
  replace OW_r0s := Lib.hid (OW_r0s.out.below b115)
  replace BX_aPx := Lib.hid (BX_aPx.out.below b115)
  replace OW_r0i := Lib.hid (OW_r0i.out.below b115)
  obtain ⟨M_r0i, hM⟩ : ∃ z, tIntS.mks d_r0 = z := ⟨_, rfl⟩
  have HM_r0i := Lib.hid hM
  have hM2_r0i : M_r0i ≤ 100000000000 := (by have h7 : tIntS.mks d_r0 ≤ 100000000000 := (HNB0.out SM_aP.out SM_aDraw.out); rw [hM] at h7; omega)
  clear hM
  go_wp2_with fail
  refine (mark_windowC OW_r0i.out fun bs ho hnd => yb_mk_IntS (vr0i) d_r0 ((1 : Int)) _ bs _ ho hnd (by omega) (by have := HM_r0i.out; omega)).mono ?_
  rintro e w116 ⟨rfl, hr, b116⟩
  rw [HM_r0i.out]
  clear OW_r0i
  have Z116 : Hid (w115.heap.size ≤ w116.heap.size) := (by have := b116.size; show _ ≤ _; omega)
  replace HB := Lib.hid (HB.out.trans (b116.below (by have := Z1.out; have := Z2.out; have := Z3.out; have := Z4.out; have := Z5.out; have := Z6.out; have := Z7.out; have := Z8.out; have := Z110.out; have := Z111.out; have := Z112.out; have := Z113.out; have := Z114.out; have := Z115.out; omega) HB.out.size))
  replace BX_aP := Lib.hid (BX_aP.out.touch b116 (by have := Z1.out; have := Z2.out; have := Z3.out; have := Z4.out; have := Z5.out; have := Z6.out; have := Z7.out; have := Z8.out; have := Z110.out; have := Z111.out; have := Z112.out; have := Z113.out; have := Z114.out; have := Z115.out; omega))
  replace OW_r0s := Lib.hid (OW_r0s.out.touch b116 (by have := Z1.out; have := Z2.out; have := Z3.out; have := Z4.out; have := Z5.out; have := Z6.out; have := Z7.out; have := Z8.out; have := Z110.out; have := Z111.out; have := Z112.out; have := Z113.out; have := Z114.out; have := Z115.out; omega))
  replace BX_aPx := Lib.hid (BX_aPx.out.touch b116 (by have := Z1.out; have := Z2.out; have := Z3.out; have := Z4.out; have := Z5.out; have := Z6.out; have := Z7.out; have := Z8.out; have := Z110.out; have := Z111.out; have := Z112.out; have := Z113.out; have := Z114.out; have := Z115.out; omega))
  have RN_r0i := Lib.hid hr
  clear hr
  have qd4479 : decide ((1 : Int) + (M_r0i : Int) < 0) = false := decide_eq_false (by omega)
  go_wp2_with fail
  refine (y_hd_IntS (vr0i) d_r0 (1 : Int) _ (RN_r0i.out.all (by have := Z1.out; have := Z2.out; have := Z3.out; have := Z4.out; have := Z5.out; have := Z6.out; have := Z7.out; have := Z8.out; have := Z110.out; have := Z111.out; have := Z112.out; have := Z113.out; have := Z114.out; have := Z115.out; have := Z116.out; (try simp only [World.alloc, Array.size_push]); omega)) (by omega) (by have := HM_r0i.out; omega)).mono ?_
  rintro e w117 ⟨rfl, b117⟩
  rw [HM_r0i.out]
  have Z117 : Hid (w116.heap.size ≤ w117.heap.size) := (by have := b117.size; show _ ≤ _; omega)
  replace HB := Lib.hid (HB.out.trans (b117.mono HB.out.size))
  replace BX_aP := Lib.hid (BX_aP.out.below b117)
  replace OW_r0s := Lib.hid (OW_r0s.out.below b117)
  replace BX_aPx := Lib.hid (BX_aPx.out.below b117)
  replace RN_r0i := Lib.hid (RN_r0i.out.below b117)
  have caP_0 := BX_aP.out.2 0 _ rfl
  have caP_1 := BX_aP.out.2 1 _ rfl
  have caP_2 := BX_aP.out.2 2 _ rfl
  have caP_lt := BX_aP.out.1
  go_wp2_with fail
  refine (y_to_Pots (.slice avaP_Pots nvaP_Pots kvaP_Pots) aP_Groups aP_Most d_aP _ (RdA.below HA_aP.out HB.out) SM_aP.out).mono ?_
  rintro e w118 ⟨vaP_Potst5, rfl, ho, b118⟩
  clear caP_0 caP_1 caP_2 caP_lt
  have Z118 : Hid (w117.heap.size ≤ w118.heap.size) := (by have := b118.size; show _ ≤ _; omega)
  replace HB := Lib.hid (HB.out.trans (b118.mono HB.out.size))
  replace BX_aP := Lib.hid (BX_aP.out.below b118)
  replace OW_r0s := Lib.hid (OW_r0s.out.below b118)
  replace BX_aPx := Lib.hid (BX_aPx.out.below b118)
  replace RN_r0i := Lib.hid (RN_r0i.out.below b118)
  have OW_aPt5 := Lib.hid (ho.mono (lo' := w117.heap.size) (hi' := w118.heap.size) (by have := Z1.out; have := Z2.out; have := Z3.out; have := Z4.out; have := Z5.out; have := Z6.out; have := Z7.out; have := Z8.out; have := Z110.out; have := Z111.out; have := Z112.out; have := Z113.out; have := Z114.out; have := Z115.out; have := Z116.out; have := Z117.out; have := Z118.out; (try simp only [World.alloc, Array.size_push]); omega) (Nat.le_refl _) (Nat.le_refl _))
  clear ho
  have caP_0 := BX_aP.out.2 0 _ rfl
  have caP_1 := BX_aP.out.2 1 _ rfl
  have caP_2 := BX_aP.out.2 2 _ rfl
  have caP_lt := BX_aP.out.1
  go_wp2_with fail
  refine (y_to_IntS (.slice sa_aDraw n_aDraw sc_aDraw) d_aDraw _ (RdA.below HA_aDraw.out HB.out) SM_aDraw.out).mono ?_
  rintro e w119 ⟨vaDrawt6, rfl, ho, b119⟩
  clear caP_0 caP_1 caP_2 caP_lt
  have Z119 : Hid (w118.heap.size ≤ w119.heap.size) := (by have := b119.size; show _ ≤ _; omega)
  replace HB := Lib.hid (HB.out.trans (b119.mono HB.out.size))
  replace BX_aP := Lib.hid (BX_aP.out.below b119)
  replace OW_r0s := Lib.hid (OW_r0s.out.below b119)
  replace BX_aPx := Lib.hid (BX_aPx.out.below b119)
  replace RN_r0i := Lib.hid (RN_r0i.out.below b119)
  replace OW_aPt5 := Lib.hid (OW_aPt5.out.below b119)
  have OW_aDrawt6 := Lib.hid (ho.mono (lo' := w118.heap.size) (hi' := w119.heap.size) (by have := Z1.out; have := Z2.out; have := Z3.out; have := Z4.out; have := Z5.out; have := Z6.out; have := Z7.out; have := Z8.out; have := Z110.out; have := Z111.out; have := Z112.out; have := Z113.out; have := Z114.out; have := Z115.out; have := Z116.out; have := Z117.out; have := Z118.out; have := Z119.out; (try simp only [World.alloc, Array.size_push]); omega) (Nat.le_refl _) (Nat.le_refl _))
  clear ho
  go_wp2_with fail
  refine (CI.out (vaP_Potst5) (vaDrawt6) _ OW_aPt5.out.rdA OW_aDrawt6.out.rdA SM_aP.out SM_aDraw.out).mono ?_
  rintro e w120 ⟨vr0j, rfl, ho, b120⟩
  have Z120 : Hid (w119.heap.size ≤ w120.heap.size) := (by have := b120.size; show _ ≤ _; omega)
  replace HB := Lib.hid (HB.out.trans (b120.mono HB.out.size))
  replace BX_aP := Lib.hid (BX_aP.out.below b120)
  replace OW_r0s := Lib.hid (OW_r0s.out.below b120)
  replace BX_aPx := Lib.hid (BX_aPx.out.below b120)
  replace RN_r0i := Lib.hid (RN_r0i.out.below b120)
  replace OW_aPt5 := Lib.hid (OW_aPt5.out.below b120)
  replace OW_aDrawt6 := Lib.hid (OW_aDrawt6.out.below b120)
  clear OW_aPt5 OW_aDrawt6
  have OW_r0j := Lib.hid (ho.mono (lo' := w117.heap.size) (hi' := w120.heap.size) (by have := Z1.out; have := Z2.out; have := Z3.out; have := Z4.out; have := Z5.out; have := Z6.out; have := Z7.out; have := Z8.out; have := Z110.out; have := Z111.out; have := Z112.out; have := Z113.out; have := Z114.out; have := Z115.out; have := Z116.out; have := Z117.out; have := Z118.out; have := Z119.out; have := Z120.out; (try simp only [World.alloc, Array.size_push]); omega) (Nat.le_refl _) (Nat.le_refl _))
  clear ho
  go_wp2_with fail
  refine (y_eq_IntS (vr0j) (vr0s) d_r0 _ OW_r0j.out.rdA OW_r0s.out.rdA).mono ?_
  rintro e w121 ⟨rfl, b121⟩
  have Z121 : Hid (w120.heap.size ≤ w121.heap.size) := (by have := b121.size; show _ ≤ _; omega)
  replace HB := Lib.hid (HB.out.trans (b121.mono HB.out.size))
  replace BX_aP := Lib.hid (BX_aP.out.below b121)
  replace OW_r0s := Lib.hid (OW_r0s.out.below b121)
  replace BX_aPx := Lib.hid (BX_aPx.out.below b121)
  replace RN_r0i := Lib.hid (RN_r0i.out.below b121)
  replace OW_r0j := Lib.hid (OW_r0j.out.below b121)
  have qd4491 : decide ((1 : Int) + (M_r0i : Int) < 0) = false := decide_eq_false (by omega)
  go_wp2_with fail
  refine (y_hd_IntS (vr0i) d_r0 (1 : Int) _ (RN_r0i.out.all (by have := Z1.out; have := Z2.out; have := Z3.out; have := Z4.out; have := Z5.out; have := Z6.out; have := Z7.out; have := Z8.out; have := Z110.out; have := Z111.out; have := Z112.out; have := Z113.out; have := Z114.out; have := Z115.out; have := Z116.out; have := Z117.out; have := Z118.out; have := Z119.out; have := Z120.out; have := Z121.out; (try simp only [World.alloc, Array.size_push]); omega)) (by omega) (by have := HM_r0i.out; omega)).mono ?_
  rintro e w122 ⟨rfl, b122⟩
  rw [HM_r0i.out]
  have Z122 : Hid (w121.heap.size ≤ w122.heap.size) := (by have := b122.size; show _ ≤ _; omega)
  replace HB := Lib.hid (HB.out.trans (b122.mono HB.out.size))
  replace BX_aP := Lib.hid (BX_aP.out.below b122)
  replace OW_r0s := Lib.hid (OW_r0s.out.below b122)
  replace BX_aPx := Lib.hid (BX_aPx.out.below b122)
  replace RN_r0i := Lib.hid (RN_r0i.out.below b122)
  replace OW_r0j := Lib.hid (OW_r0j.out.below b122)
  go_wp2
  go_ret
  exact ⟨rfl, HB.out⟩
set_option maxRecDepth 100000 in
theorem lifted (os : Os) (started : os.Started) (H : Type) (enc : TypeId × Value → H) :
    ReturnsInHanded {} Try.checked os 10 .any (Rows.fnExactGroupOfSpec.pre6 enc Try.prog Try.f10 Rows.fnExactGroupOfRow.domain false) (Rows.fnExactGroupOfSpec.post enc Try.prog Try.f10 false true false false) := by
  refine returnsInHanded_of_change (C := Try.checked) own started (by kernel_rfl) Try.func10
    (ChangeSpec.witness6 (enc := enc) (C := Try.checked) false ⟨#[], #[.agg #[.slice none 0 0, .int .i64 0, .int .i64 0], .slice none 0 0, .int .i64 0], []⟩ 8 (by kernel_rfl) (by kernel_rfl) (by kernel_rfl) (by kernel_rfl)) ?_
  intro W base args ds gs before hval0 hW hcnd _
  have hval : ∀ (j : Nat) t v, Try.f10.params[j]? = some t → args[j]? = some v → Value.okWide Try.prog W .any base t v := hval0
  have hW' := hW
  obtain ⟨p, q, hA0, hV, rfl, hfz, hnd⟩ := hW
  have hA : DataW.TrodAll enc Try.prog W 0 (fun _ => true) true Try.f10.params.toList args.toList ds p := hA0
  rw [Try.params10] at hA hval
  obtain ⟨v0, vs0, d0, ds0, p0, q0, hargs, rfl, rfl, h0, r0⟩ := trodAll_cons hA
  obtain ⟨v1, vs1, d1, ds1, p1, q1, rfl, rfl, rfl, h1, r1⟩ := trodAll_cons r0
  obtain ⟨v2, vs2, d2, ds2, p2, q2, rfl, rfl, rfl, h2, r2⟩ := trodAll_cons r1
  obtain ⟨rfl, rfl, rfl⟩ := trodAll_nil r2
  obtain rfl : args = #[v0, v1, v2] := by cases args; simp_all
  obtain ⟨rfl, rfl⟩ := trodVars_none hV
  have k0 := h0
  have lt0 : ∀ x ∈ p0, x.block < W.heap.size := by obtain ⟨m, hm⟩ := k0; exact DataW.trod_lt m _ _ _ hm
  obtain ⟨cs0, rfl, x0, y0, f0⟩ := open_arg opens_Pots Try.underlying41 (hval 0 41 v0 rfl rfl) h0
  obtain ⟨vz0_Pots, z0_Groups, z0_Most, e0⟩ := form_Pots y0
  obtain rfl : cs0 = #[vz0_Pots, .int .i64 z0_Groups, .int .i64 z0_Most] := Array.toList_inj.1 e0
  have k1 := h1
  have lt1 : ∀ x ∈ p1, x.block < W.heap.size := by obtain ⟨m, hm⟩ := k1; exact DataW.trod_lt m _ _ _ hm
  obtain ⟨x1, y1, f1⟩ := open_arg1 opens_IntS Try.underlying31 (hval 1 31 v1 rfl rfl) h1
  obtain ⟨a2, rfl, rfl, rfl, w2⟩ := open_int Try.underlying3 (hval 2 3 v2 rfl rfl) h2
  clear hA0 hval0
  simp only [List.append_nil] at hW'
  refine (walk vz0_Pots z0_Groups z0_Most x0 v1 x1 a2 W y0 f0 y1 f1 (intFit_of w2)).mono fun e W' ⟨he, bel⟩ => ?_
  subst he
  exact ⟨_, rfl, _, _, _, [], _, [], hW', trodAll_mk1 (shut_bool Try.underlying4 _), (trodAll_cons_mk (Below.trod laidOut (by kernel_rfl) (of_decide_eq_true (by kernel_rfl)) k0 bel lt0) (trodAll_cons_mk (Below.trod laidOut (by kernel_rfl) (of_decide_eq_true (by kernel_rfl)) k1 bel lt1) (trodAll_cons_mk (shut_int Try.underlying3 w2) trodAll_mk0))), rfl, bel.frame _, fun h => by cases h⟩

theorem over : Rows.fnExactGroupOfRow.holds Try.pinned (OpenSpec.ofChange Rows.fnExactGroupOfSpec) :=
  OpenClaim.holds_of_wide 10 Try.f10 rfl rfl rfl rfl rfl rfl rfl ⟨rfl, rfl, rfl, rfl, rfl⟩ rfl rfl rfl rfl rfl (by kernel_rfl) Try.func10 (by kernel_rfl)
    (of_decide_eq_true (by kernel_rfl)) (by unfold Func.isWrapper; first | (rw [if_pos (by decide +kernel)]; kernel_rfl) | (rw [if_neg (by decide +kernel)]; exact ⟨rfl, rfl⟩))
    (fun os started H enc _ => lifted os started H enc)

theorem proved : Rows.FnExactGroupOfSaid := over
end Go.Proofs.Ytmhkkdnopcdibaa.fnExactGroupOf
