/-
  The law FnExactRestOf holds for every argument: the program answers as the model does.
-/
import Derived.Test.YtcbpgbiannpfpaaRows
import Derived.WalkKit
import Derived.ProofKit
import Derived.OpenShut
import Derived.ShutString
import Derived.ChangeOld
import Derived.Below
import Derived.Lib.Hide
import Derived.Deep.RegionHeld3
import Derived.Test.YtcbpgbiannpfpaaQ1
import Derived.Test.YtcbpgbiannpfpaaQ2
import Derived.Test.YtcbpgbiannpfpaaQ4
import Derived.Test.YtcbpgbiannpfpaaQ7
import Derived.Test.YtcbpgbiannpfpaaQ9
import Derived.Test.YtcbpgbiannpfpaaQ10
import Derived.Test.YtcbpgbiannpfpaaQ11
import Derived.Test.YtcbpgbiannpfpaaQ12
namespace Go.Proofs.Ytcbpgbiannpfpaa.fnExactRestOf
open Go.ChangeShapes Go.WideShapes Go.ChangeAt Go.RowKit
open Go.ChangeMaps (open_string shut_string)
set_option linter.unusedVariables false

theorem own : ownKnob Try.prog.godebug = none := by kernel_rfl
theorem laidOut : laidOutB Try.prog = true := by kernel_rfl

set_option maxHeartbeats 4000000 in
set_option maxRecDepth 100000 in
theorem walk (vaS_Rounds : Value) (vaS_Days : Value) (aS_Rest : Int) (vaS_Closed : Value) (d_aS : tSeason.D) (vaDates : Value) (d_aDates : tIntS.D) (aTeam : Int) (w : World) (h_aS : RdA tSeason w [vaS_Rounds, vaS_Days, .int .i64 aS_Rest, vaS_Closed] d_aS) (f_aS : tSeason.fit d_aS) (h_aDates : RdA tIntS w [vaDates] d_aDates) (f_aDates : tIntS.fit d_aDates) (f_aTeam : IntFit aTeam) :
    Calls Try.prog 7 #[.agg #[vaS_Rounds, vaS_Days, .int .i64 aS_Rest, vaS_Closed], vaDates, .int .i64 aTeam] w fun e w' => e = .returned (.bool true) ∧ Below w.heap.size w w' := by
  obtain ⟨r0, CS, CI⟩ : ∃ (r0 : Int), Hid (∀ (vaS_Rounds : Value) (vaS_Days : Value) (vaS_Closed : Value) (vaDates : Value) (w1 : World), RdA tSeason w1 [vaS_Rounds, vaS_Days, .int .i64 aS_Rest, vaS_Closed] d_aS → RdA tIntS w1 [vaDates] d_aDates → tSeason.wt d_aS ≤ 1048576 → tIntS.wt d_aDates ≤ 1048576 → Calls Try.prog 27 #[.agg #[vaS_Rounds, vaS_Days, .int .i64 aS_Rest, vaS_Closed], vaDates, .int .i64 aTeam] w1 fun e w' => e = .returned (.int .i64 r0) ∧ Below w1.heap.size w1 w') ∧ Hid (∀ (vaS_Rounds : Value) (vaS_Days : Value) (vaS_Closed : Value) (vaDates : Value) (w1 : World), RdA tSeason w1 [vaS_Rounds, vaS_Days, .int .i64 aS_Rest, vaS_Closed] d_aS → RdA tIntS w1 [vaDates] d_aDates → tSeason.wt d_aS ≤ 1048576 → tIntS.wt d_aDates ≤ 1048576 → Calls Try.prog 28 #[.agg #[vaS_Rounds, vaS_Days, .int .i64 aS_Rest, vaS_Closed], vaDates, .int .i64 aTeam] w1 fun e w' => e = .returned (.int .i64 r0) ∧ Below w1.heap.size w1 w') := by
    obtain ⟨R, hR⟩ := boolEx (datesOk d_aS.1 d_aDates)
    exact ⟨_, fun v0 v1 v2 vt w1 h ht s st => restOf_spec v0 v1 aS_Rest v2 d_aS.1 d_aS.2.1 d_aS.2.2.2 vt d_aDates aTeam R w1 hR (sea_rd h).1 (sea_rd h).2.1 (sea_rd h).2.2 (rd_IntS.1 ht), fun v0 v1 v2 vt w1 h ht s st => restOf_impl v0 v1 aS_Rest v2 d_aS.1 d_aS.2.1 d_aS.2.2.2 vt d_aDates aTeam R w1 hR (sea_rd h).1 (sea_rd h).2.1 (sea_rd h).2.2 (rd_IntS.1 ht) (sea_wt s)⟩
  have HB : Hid (Below w.heap.size w w) := Below.refl _ _
  have HA_aS := Lib.hid h_aS
  have HF_aS := Lib.hid f_aS
  clear h_aS f_aS
  have hsp := HA_aS.out
  obtain ⟨avaS_Rounds, nvaS_Rounds, kvaS_Rounds, hvaS_Rounds⟩ := rd_slice (rd_splitB hsp).1
  replace hsp := (rd_splitB hsp).2
  obtain ⟨avaS_Days, nvaS_Days, kvaS_Days, hvaS_Days⟩ := rd_slice (rd_splitB hsp).1
  replace hsp := (rd_splitB hsp).2
  replace hsp := (rd_splitB hsp).2
  obtain ⟨avaS_Closed, nvaS_Closed, kvaS_Closed, hvaS_Closed⟩ := rd_slice hsp
  clear hsp
  subst hvaS_Rounds
  subst hvaS_Days
  subst hvaS_Closed
  obtain ⟨sa_aDates, sc_aDates, hv_aDates, hm_aDates⟩ := rd_row_form h_aDates
  obtain ⟨n_aDates, hn_aDates⟩ : ∃ n, List.length d_aDates = n := ⟨_, rfl⟩
  rw [hn_aDates] at hv_aDates hm_aDates
  subst hv_aDates
  have HN_aDates := Lib.hid hn_aDates
  clear hn_aDates
  have HA_aDates := Lib.hid h_aDates
  have HF_aDates := Lib.hid f_aDates
  clear h_aDates f_aDates
  replace HB := Lib.hid (HB.out.trans (((Below.refl w.heap.size w).alloc (Nat.le_refl _) (.cells #[.slice avaS_Rounds nvaS_Rounds kvaS_Rounds, .slice avaS_Days nvaS_Days kvaS_Days, .int .i64 aS_Rest, .slice avaS_Closed nvaS_Closed kvaS_Closed] 39)).mono HB.out.size))
  have BX_aS : Hid (BoxN (w.alloc (.cells #[.slice avaS_Rounds nvaS_Rounds kvaS_Rounds, .slice avaS_Days nvaS_Days kvaS_Days, .int .i64 aS_Rest, .slice avaS_Closed nvaS_Closed kvaS_Closed] 39)) (w.heap.size) [.slice avaS_Rounds nvaS_Rounds kvaS_Rounds, .slice avaS_Days nvaS_Days kvaS_Days, .int .i64 aS_Rest, .slice avaS_Closed nvaS_Closed kvaS_Closed]) := BoxN.made (Below.refl _ _) (by first | rfl | simp | (simp; done))
  by_cases hl_aDates : 1048576 < n_aDates
  · have g0 : decide ((1048576 : Int) < (n_aDates : Int)) = true := decide_eq_true (by omega)
    have g0' : decide (1048576 < n_aDates) = true := decide_eq_true (by omega)
    go_enter Try.func7, Try.ntmps7
    go_wp2
    go_ret
    exact ⟨rfl, HB.out⟩
  have hs_aDates : n_aDates ≤ 1048576 := by omega
  have hg_aDates : decide ((1048576 : Int) < (n_aDates : Int)) = false := decide_eq_false (by omega)
  have hg2_aDates : decide (1048576 < n_aDates) = false := decide_eq_false (by omega)
  have SM_aDates : Hid (tIntS.wt d_aDates ≤ 1048576) := Nat.le_trans (Nat.le_of_eq ((wt_IntS d_aDates).trans HN_aDates.out)) hs_aDates
  clear hl_aDates
  go_enter Try.func7, Try.ntmps7
  have caS_0 := BX_aS.out.2 0 _ rfl
  have caS_1 := BX_aS.out.2 1 _ rfl
  have caS_2 := BX_aS.out.2 2 _ rfl
  have caS_3 := BX_aS.out.2 3 _ rfl
  have caS_lt := BX_aS.out.1
  go_wp2_with fail
  refine (y_sz_Season (.slice avaS_Rounds nvaS_Rounds kvaS_Rounds) (.slice avaS_Days nvaS_Days kvaS_Days) aS_Rest (.slice avaS_Closed nvaS_Closed kvaS_Closed) d_aS (1048576) _ (by omega) (by omega) (RdA.below HA_aS.out HB.out)).mono ?_
  rintro e w1 ⟨⟨r1, rfl, hr1⟩, b1⟩
  clear caS_0 caS_1 caS_2 caS_3 caS_lt
  have Z1 : Hid (w.heap.size + 1 ≤ w1.heap.size) := (by have := b1.size; simp at this; show _ ≤ _; omega)
  replace HB := Lib.hid (HB.out.trans (b1.mono HB.out.size))
  replace BX_aS := Lib.hid (BX_aS.out.below b1)
  by_cases hn1 : r1 < 0
  · have g2 : decide (r1 < 0) = true := decide_eq_true hn1
    clear hr1
    go_wp2
    go_ret
    exact ⟨rfl, HB.out⟩
  have g1 : decide (r1 < 0) = false := decide_eq_false hn1
  have SM_aS : Hid (tSeason.wt d_aS ≤ 1048576) := (by show _ ≤ _; omega)
  replace hn1 : 0 ≤ r1 ∧ r1 ≤ 1048576 := by omega
  clear hr1
  have caS_0 := BX_aS.out.2 0 _ rfl
  have caS_1 := BX_aS.out.2 1 _ rfl
  have caS_2 := BX_aS.out.2 2 _ rfl
  have caS_3 := BX_aS.out.2 3 _ rfl
  have caS_lt := BX_aS.out.1
  go_wp2_with fail
  refine (y_to_Season (.slice avaS_Rounds nvaS_Rounds kvaS_Rounds) (.slice avaS_Days nvaS_Days kvaS_Days) aS_Rest (.slice avaS_Closed nvaS_Closed kvaS_Closed) d_aS _ (RdA.below HA_aS.out HB.out) SM_aS.out).mono ?_
  rintro e w2 ⟨vaS_Roundst1, vaS_Dayst1, vaS_Closedt1, rfl, ho, b2⟩
  clear caS_0 caS_1 caS_2 caS_3 caS_lt
  have Z2 : Hid (w1.heap.size ≤ w2.heap.size) := (by have := b2.size; show _ ≤ _; omega)
  replace HB := Lib.hid (HB.out.trans (b2.mono HB.out.size))
  replace BX_aS := Lib.hid (BX_aS.out.below b2)
  have OW_aSt1 := Lib.hid (ho.mono (lo' := w1.heap.size) (hi' := w2.heap.size) (by have := Z1.out; have := Z2.out; (try simp only [World.alloc, Array.size_push]); omega) (Nat.le_refl _) (Nat.le_refl _))
  clear ho
  have caS_0 := BX_aS.out.2 0 _ rfl
  have caS_1 := BX_aS.out.2 1 _ rfl
  have caS_2 := BX_aS.out.2 2 _ rfl
  have caS_3 := BX_aS.out.2 3 _ rfl
  have caS_lt := BX_aS.out.1
  go_wp2_with fail
  refine (y_to_IntS (.slice sa_aDates n_aDates sc_aDates) d_aDates _ (RdA.below HA_aDates.out HB.out) SM_aDates.out).mono ?_
  rintro e w3 ⟨vaDatest2, rfl, ho, b3⟩
  clear caS_0 caS_1 caS_2 caS_3 caS_lt
  have Z3 : Hid (w2.heap.size ≤ w3.heap.size) := (by have := b3.size; show _ ≤ _; omega)
  replace HB := Lib.hid (HB.out.trans (b3.mono HB.out.size))
  replace BX_aS := Lib.hid (BX_aS.out.below b3)
  replace OW_aSt1 := Lib.hid (OW_aSt1.out.below b3)
  have OW_aDatest2 := Lib.hid (ho.mono (lo' := w2.heap.size) (hi' := w3.heap.size) (by have := Z1.out; have := Z2.out; have := Z3.out; (try simp only [World.alloc, Array.size_push]); omega) (Nat.le_refl _) (Nat.le_refl _))
  clear ho
  go_wp2_with fail
  refine (CS.out (vaS_Roundst1) (vaS_Dayst1) (vaS_Closedt1) (vaDatest2) _ OW_aSt1.out.rdA OW_aDatest2.out.rdA SM_aS.out SM_aDates.out).mono ?_
  rintro e w4 ⟨rfl, b4⟩
  have Z4 : Hid (w3.heap.size ≤ w4.heap.size) := (by have := b4.size; show _ ≤ _; omega)
  replace HB := Lib.hid (HB.out.trans (b4.mono HB.out.size))
  replace BX_aS := Lib.hid (BX_aS.out.below b4)
  replace OW_aSt1 := Lib.hid (OW_aSt1.out.below b4)
  replace OW_aDatest2 := Lib.hid (OW_aDatest2.out.below b4)
  clear OW_aSt1 OW_aDatest2
  have caS_0 := BX_aS.out.2 0 _ rfl
  have caS_1 := BX_aS.out.2 1 _ rfl
  have caS_2 := BX_aS.out.2 2 _ rfl
  have caS_3 := BX_aS.out.2 3 _ rfl
  have caS_lt := BX_aS.out.1
  go_wp2_with fail
  refine (y_to_Season (.slice avaS_Rounds nvaS_Rounds kvaS_Rounds) (.slice avaS_Days nvaS_Days kvaS_Days) aS_Rest (.slice avaS_Closed nvaS_Closed kvaS_Closed) d_aS _ (RdA.below HA_aS.out HB.out) SM_aS.out).mono ?_
  rintro e w5 ⟨vaS_Roundsx, vaS_Daysx, vaS_Closedx, rfl, ho, b5⟩
  clear caS_0 caS_1 caS_2 caS_3 caS_lt
  have Z5 : Hid (w4.heap.size ≤ w5.heap.size) := (by have := b5.size; show _ ≤ _; omega)
  replace HB := Lib.hid (HB.out.trans (b5.mono HB.out.size))
  replace BX_aS := Lib.hid (BX_aS.out.below b5)
  have OW_aSx := Lib.hid (ho.mono (lo' := w4.heap.size) (hi' := w5.heap.size) (by have := Z1.out; have := Z2.out; have := Z3.out; have := Z4.out; have := Z5.out; (try simp only [World.alloc, Array.size_push]); omega) (Nat.le_refl _) (Nat.le_refl _))
  clear ho
  have hsp := OW_aSx.out.rd
  obtain ⟨avaS_Roundsx, nvaS_Roundsx, kvaS_Roundsx, hvaS_Roundsx⟩ := rd_slice (rd_splitB hsp).1
  replace hsp := (rd_splitB hsp).2
  obtain ⟨avaS_Daysx, nvaS_Daysx, kvaS_Daysx, hvaS_Daysx⟩ := rd_slice (rd_splitB hsp).1
  replace hsp := (rd_splitB hsp).2
  replace hsp := (rd_splitB hsp).2
  obtain ⟨avaS_Closedx, nvaS_Closedx, kvaS_Closedx, hvaS_Closedx⟩ := rd_slice hsp
  clear hsp
  subst hvaS_Roundsx
  subst hvaS_Daysx
  subst hvaS_Closedx
  replace HB := Lib.hid (HB.out.trans (((Below.refl w5.heap.size w5).alloc (Nat.le_refl _) (.cells #[.slice avaS_Roundsx nvaS_Roundsx kvaS_Roundsx, .slice avaS_Daysx nvaS_Daysx kvaS_Daysx, .int .i64 aS_Rest, .slice avaS_Closedx nvaS_Closedx kvaS_Closedx] 44)).mono HB.out.size))
  replace BX_aS := Lib.hid (BX_aS.out.below ((Below.refl w5.heap.size w5).alloc (Nat.le_refl _) (.cells #[.slice avaS_Roundsx nvaS_Roundsx kvaS_Roundsx, .slice avaS_Daysx nvaS_Daysx kvaS_Daysx, .int .i64 aS_Rest, .slice avaS_Closedx nvaS_Closedx kvaS_Closedx] 44)))
  replace OW_aSx := Lib.hid (OW_aSx.out.below ((Below.refl w5.heap.size w5).alloc (Nat.le_refl _) (.cells #[.slice avaS_Roundsx nvaS_Roundsx kvaS_Roundsx, .slice avaS_Daysx nvaS_Daysx kvaS_Daysx, .int .i64 aS_Rest, .slice avaS_Closedx nvaS_Closedx kvaS_Closedx] 44)))
  have BX_aSx : Hid (BoxN (w5.alloc (.cells #[.slice avaS_Roundsx nvaS_Roundsx kvaS_Roundsx, .slice avaS_Daysx nvaS_Daysx kvaS_Daysx, .int .i64 aS_Rest, .slice avaS_Closedx nvaS_Closedx kvaS_Closedx] 44)) (w5.heap.size) [.slice avaS_Roundsx nvaS_Roundsx kvaS_Roundsx, .slice avaS_Daysx nvaS_Daysx kvaS_Daysx, .int .i64 aS_Rest, .slice avaS_Closedx nvaS_Closedx kvaS_Closedx]) := BoxN.made (Below.refl _ _) (by first | rfl | simp | (simp; done))
  go_wp2_with fail
  refine (y_to_IntS (.slice sa_aDates n_aDates sc_aDates) d_aDates _ (RdA.below HA_aDates.out HB.out) SM_aDates.out).mono ?_
  rintro e w6 ⟨vaDatesx, rfl, ho, b6⟩
  have Z6 : Hid (w5.heap.size + 1 ≤ w6.heap.size) := (by have := b6.size; simp at this; show _ ≤ _; omega)
  replace HB := Lib.hid (HB.out.trans (b6.mono HB.out.size))
  replace BX_aS := Lib.hid (BX_aS.out.below b6)
  replace OW_aSx := Lib.hid (OW_aSx.out.below b6)
  replace BX_aSx := Lib.hid (BX_aSx.out.below b6)
  have OW_aDatesx := Lib.hid (ho.mono (lo' := w5.heap.size + 1) (hi' := w6.heap.size) (by have := Z1.out; have := Z2.out; have := Z3.out; have := Z4.out; have := Z5.out; have := Z6.out; (try simp only [World.alloc, Array.size_push]); omega) (Nat.le_refl _) (Nat.le_refl _))
  clear ho
  have caSx_0 := BX_aSx.out.2 0 _ rfl
  have caSx_1 := BX_aSx.out.2 1 _ rfl
  have caSx_2 := BX_aSx.out.2 2 _ rfl
  have caSx_3 := BX_aSx.out.2 3 _ rfl
  have caSx_lt := BX_aSx.out.1
  go_wp2_with fail
  refine (CI.out (.slice avaS_Roundsx nvaS_Roundsx kvaS_Roundsx) (.slice avaS_Daysx nvaS_Daysx kvaS_Daysx) (.slice avaS_Closedx nvaS_Closedx kvaS_Closedx) (vaDatesx) _ OW_aSx.out.rdA OW_aDatesx.out.rdA SM_aS.out SM_aDates.out).mono ?_
  rintro e w7 ⟨rfl, b7⟩
  clear caSx_0 caSx_1 caSx_2 caSx_3 caSx_lt
  have Z7 : Hid (w6.heap.size ≤ w7.heap.size) := (by have := b7.size; show _ ≤ _; omega)
  replace HB := Lib.hid (HB.out.trans (b7.mono HB.out.size))
  replace BX_aS := Lib.hid (BX_aS.out.below b7)
  replace OW_aSx := Lib.hid (OW_aSx.out.below b7)
  replace BX_aSx := Lib.hid (BX_aSx.out.below b7)
  replace OW_aDatesx := Lib.hid (OW_aDatesx.out.below b7)
  have LE : Hid (w7.heap.size ≤ w7.heap.size) := (by show _ ≤ _; first | exact Nat.le_refl _ | simp)
  obtain ⟨S, HSd⟩ : ∃ S : World → Prop, S = fun w' => Below w.heap.size w w' ∧ BoxN w' (w.heap.size) [.slice avaS_Rounds nvaS_Rounds kvaS_Rounds, .slice avaS_Days nvaS_Days kvaS_Days, .int .i64 aS_Rest, .slice avaS_Closed nvaS_Closed kvaS_Closed] ∧ OwN tSeason w' (w4.heap.size) (w5.heap.size) [.slice avaS_Roundsx nvaS_Roundsx kvaS_Roundsx, .slice avaS_Daysx nvaS_Daysx kvaS_Daysx, .int .i64 aS_Rest, .slice avaS_Closedx nvaS_Closedx kvaS_Closedx] d_aS ∧ BoxN w' (w5.heap.size) [.slice avaS_Roundsx nvaS_Roundsx kvaS_Roundsx, .slice avaS_Daysx nvaS_Daysx kvaS_Daysx, .int .i64 aS_Rest, .slice avaS_Closedx nvaS_Closedx kvaS_Closedx] ∧ OwN tIntS w' (w5.heap.size + 1) (w6.heap.size) [vaDatesx] d_aDates ∧ w7.heap.size ≤ w'.heap.size := ⟨_, rfl⟩
  have KS : Hid (∀ wa wb, S wa → Below wa.heap.size wa wb → S wb) := by subst HSd; exact fun wa wb h b => ⟨h.1.trans (b.mono h.1.size), h.2.1.below b, h.2.2.1.below b, h.2.2.2.1.below b, h.2.2.2.2.1.below b, Nat.le_trans h.2.2.2.2.2 b.size⟩
  have OS : Hid (∀ wa, S wa → Below w.heap.size w wa ∧ BoxN wa (w.heap.size) [.slice avaS_Rounds nvaS_Rounds kvaS_Rounds, .slice avaS_Days nvaS_Days kvaS_Days, .int .i64 aS_Rest, .slice avaS_Closed nvaS_Closed kvaS_Closed] ∧ OwN tSeason wa (w4.heap.size) (w5.heap.size) [.slice avaS_Roundsx nvaS_Roundsx kvaS_Roundsx, .slice avaS_Daysx nvaS_Daysx kvaS_Daysx, .int .i64 aS_Rest, .slice avaS_Closedx nvaS_Closedx kvaS_Closedx] d_aS ∧ BoxN wa (w5.heap.size) [.slice avaS_Roundsx nvaS_Roundsx kvaS_Roundsx, .slice avaS_Daysx nvaS_Daysx kvaS_Daysx, .int .i64 aS_Rest, .slice avaS_Closedx nvaS_Closedx kvaS_Closedx] ∧ OwN tIntS wa (w5.heap.size + 1) (w6.heap.size) [vaDatesx] d_aDates ∧ w7.heap.size ≤ wa.heap.size) := by subst HSd; exact fun wa h => h
  have IS : Hid (∀ wa, Below w.heap.size w wa ∧ BoxN wa (w.heap.size) [.slice avaS_Rounds nvaS_Rounds kvaS_Rounds, .slice avaS_Days nvaS_Days kvaS_Days, .int .i64 aS_Rest, .slice avaS_Closed nvaS_Closed kvaS_Closed] ∧ OwN tSeason wa (w4.heap.size) (w5.heap.size) [.slice avaS_Roundsx nvaS_Roundsx kvaS_Roundsx, .slice avaS_Daysx nvaS_Daysx kvaS_Daysx, .int .i64 aS_Rest, .slice avaS_Closedx nvaS_Closedx kvaS_Closedx] d_aS ∧ BoxN wa (w5.heap.size) [.slice avaS_Roundsx nvaS_Roundsx kvaS_Roundsx, .slice avaS_Daysx nvaS_Daysx kvaS_Daysx, .int .i64 aS_Rest, .slice avaS_Closedx nvaS_Closedx kvaS_Closedx] ∧ OwN tIntS wa (w5.heap.size + 1) (w6.heap.size) [vaDatesx] d_aDates ∧ w7.heap.size ≤ wa.heap.size → S wa) := by subst HSd; exact fun wa h => h
  clear HSd
  go_wp2_with fail
  refine wp_region_held_drew (S := S) (by kernel_rfl) ?_ (fun hHeld => ?_)
  · exact IS.out _ ((fun (b : Below w7.heap.size w7 _) => ⟨HB.out.trans (b.mono HB.out.size), BX_aS.out.below b, OW_aSx.out.below b, BX_aSx.out.below b, OW_aDatesx.out.below b, Nat.le_trans LE.out b.size⟩) (Below.refl _ _).drew)
  refine wpAnyH_take (i := 0) (v := ?_) rfl (by kernel_rfl) (by kernel_rfl) (by kernel_rfl) (fun _ _ _ h => h) (Or.inl ⟨by rfl, ?_⟩) hHeld ?_
  rotate_left
  · (intro wa hSw; have K := OS.out _ hSw; have caSx_0 := (K.2.2.2.1).2 0 _ rfl; have caSx_1 := (K.2.2.2.1).2 1 _ rfl; have caSx_2 := (K.2.2.2.1).2 2 _ rfl; have caSx_3 := (K.2.2.2.1).2 3 _ rfl; have caS_0 := (K.2.1).2 0 _ rfl; have caS_1 := (K.2.1).2 1 _ rfl; have caS_2 := (K.2.1).2 2 _ rfl; have caS_3 := (K.2.1).2 3 _ rfl; go_simp; try with_reducible rfl)
  simp only [Act.put, List.getElem_toArray, List.getElem_cons_zero, List.setIfInBounds_toArray, List.set_cons_zero, List.set_cons_succ]
  refine wpAnyH_take (i := 1) (v := ?_) rfl (by kernel_rfl) (by kernel_rfl) (by kernel_rfl) (fun _ _ _ h => h) (Or.inl ⟨by rfl, ?_⟩) hHeld ?_
  rotate_left
  · (intro wa hSw; have K := OS.out _ hSw; have caSx_0 := (K.2.2.2.1).2 0 _ rfl; have caSx_1 := (K.2.2.2.1).2 1 _ rfl; have caSx_2 := (K.2.2.2.1).2 2 _ rfl; have caSx_3 := (K.2.2.2.1).2 3 _ rfl; have caS_0 := (K.2.1).2 0 _ rfl; have caS_1 := (K.2.1).2 1 _ rfl; have caS_2 := (K.2.1).2 2 _ rfl; have caS_3 := (K.2.1).2 3 _ rfl; go_simp; try with_reducible rfl)
  simp only [Act.put, List.getElem_toArray, List.getElem_cons_zero, List.getElem_cons_succ, List.setIfInBounds_toArray, List.set_cons_zero, List.set_cons_succ]
  refine wpAnyH_ready (rs := [2]) (by kernel_rfl) (by simp) ?_
  refine AllReadyH.cons (o := _) rfl (fun K hK => ?_) AllReadyH.nil
  go_simp
  have KK := OS.out _ hHeld
  refine (y_to_Season (.slice avaS_Rounds nvaS_Rounds kvaS_Rounds) (.slice avaS_Days nvaS_Days kvaS_Days) aS_Rest (.slice avaS_Closed nvaS_Closed kvaS_Closed) d_aS _ (RdA.below HA_aS.out (KK.1)) SM_aS.out).mono ?_
  rintro e w108 ⟨vaS_Roundst3, vaS_Dayst3, vaS_Closedt3, rfl, ho, b108⟩
  have HT_aSt3 := Lib.hid ho.rdA
  clear ho
  clear KK
  (try go_wp2_with fail)
  refine hK.out _ _ ?_ (fun hHeld108 => ?_)
  · exact KS.out _ _ hHeld b108
  clear hK K
  refine wpAnyH_ready (rs := [3]) (by kernel_rfl) (by simp) ?_
  refine AllReadyH.cons (o := _) rfl (fun K hK => ?_) AllReadyH.nil
  go_simp
  have KK := OS.out _ hHeld108
  refine (y_eq_Season (.slice avaS_Roundsx nvaS_Roundsx kvaS_Roundsx) (.slice avaS_Daysx nvaS_Daysx kvaS_Daysx) aS_Rest (.slice avaS_Closedx nvaS_Closedx kvaS_Closedx) (vaS_Roundst3) (vaS_Dayst3) (vaS_Closedt3) d_aS _ (KK.2.2.1).rdA HT_aSt3.out).mono ?_
  rintro e w109 ⟨rfl, b109⟩
  clear HT_aSt3
  clear KK
  (try go_wp2_with fail)
  refine hK.out _ _ ?_ (fun hHeld109 => ?_)
  · exact KS.out _ _ hHeld108 b109
  clear hK K
  clear hHeld108
  refine wpAnyH_take (i := 4) (v := ?_) rfl (by kernel_rfl) (by kernel_rfl) (by kernel_rfl) (fun _ _ _ h => h) (Or.inl ⟨by rfl, ?_⟩) hHeld109 ?_
  rotate_left
  · (intro wa hSw; go_simp; try with_reducible rfl)
  simp only [Act.put, List.getElem_toArray, List.getElem_cons_zero, List.getElem_cons_succ, List.setIfInBounds_toArray, List.set_cons_zero, List.set_cons_succ]
  refine wpAnyH_done (by kernel_rfl) ?_ _
  have KE := Lib.hid (OS.out _ hHeld109)
  clear KS OS IS hHeld hHeld109
  have Z109 := Lib.hid (KE.out.2.2.2.2.2)
  replace HB := Lib.hid (KE.out.1)
  replace BX_aS := Lib.hid (KE.out.2.1)
  replace OW_aSx := Lib.hid (KE.out.2.2.1)
  replace BX_aSx := Lib.hid (KE.out.2.2.2.1)
  replace OW_aDatesx := Lib.hid (KE.out.2.2.2.2.1)
  clear KE LE
  go_wp2_with fail
  refine (y_to_IntS (.slice sa_aDates n_aDates sc_aDates) d_aDates _ (RdA.below HA_aDates.out HB.out) SM_aDates.out).mono ?_
  rintro e w110 ⟨vaDatest4, rfl, ho, b110⟩
  have Z110 : Hid (w109.heap.size ≤ w110.heap.size) := (by have := b110.size; show _ ≤ _; omega)
  replace HB := Lib.hid (HB.out.trans (b110.mono HB.out.size))
  replace BX_aS := Lib.hid (BX_aS.out.below b110)
  replace OW_aSx := Lib.hid (OW_aSx.out.below b110)
  replace BX_aSx := Lib.hid (BX_aSx.out.below b110)
  replace OW_aDatesx := Lib.hid (OW_aDatesx.out.below b110)
  have OW_aDatest4 := Lib.hid (ho.mono (lo' := w109.heap.size) (hi' := w110.heap.size) (by have := Z1.out; have := Z2.out; have := Z3.out; have := Z4.out; have := Z5.out; have := Z6.out; have := Z7.out; have := Z109.out; have := Z110.out; (try simp only [World.alloc, Array.size_push]); omega) (Nat.le_refl _) (Nat.le_refl _))
  clear ho
  go_wp2_with fail
  refine (y_eq_IntS (vaDatesx) (vaDatest4) d_aDates _ OW_aDatesx.out.rdA OW_aDatest4.out.rdA).mono ?_
  rintro e w111 ⟨rfl, b111⟩
  have Z111 : Hid (w110.heap.size ≤ w111.heap.size) := (by have := b111.size; show _ ≤ _; omega)
  replace HB := Lib.hid (HB.out.trans (b111.mono HB.out.size))
  replace BX_aS := Lib.hid (BX_aS.out.below b111)
  replace OW_aSx := Lib.hid (OW_aSx.out.below b111)
  replace BX_aSx := Lib.hid (BX_aSx.out.below b111)
  replace OW_aDatesx := Lib.hid (OW_aDatesx.out.below b111)
  replace OW_aDatest4 := Lib.hid (OW_aDatest4.out.below b111)
  clear OW_aDatest4
  go_wp2
  go_ret
  exact ⟨rfl, HB.out⟩
set_option maxRecDepth 100000 in
theorem lifted (os : Os) (started : os.Started) (H : Type) (enc : TypeId × Value → H) :
    ReturnsInHanded {} Try.checked os 7 .any (Rows.fnExactRestOfSpec.pre6 enc Try.prog Try.f7 Rows.fnExactRestOfRow.domain false) (Rows.fnExactRestOfSpec.post enc Try.prog Try.f7 false true false false) := by
  refine returnsInHanded_of_change (C := Try.checked) own started (by kernel_rfl) Try.func7
    (ChangeSpec.witness6 (enc := enc) (C := Try.checked) false ⟨#[], #[.agg #[.slice none 0 0, .slice none 0 0, .int .i64 0, .slice none 0 0], .slice none 0 0, .int .i64 0], []⟩ 8 (by kernel_rfl) (by kernel_rfl) (by kernel_rfl) (by kernel_rfl)) ?_
  intro W base args ds gs before hval0 hW hcnd _
  have hval : ∀ (j : Nat) t v, Try.f7.params[j]? = some t → args[j]? = some v → Value.okWide Try.prog W .any base t v := hval0
  have hW' := hW
  obtain ⟨p, q, hA0, hV, rfl, hfz, hnd⟩ := hW
  have hA : DataW.TrodAll enc Try.prog W 0 (fun _ => true) true Try.f7.params.toList args.toList ds p := hA0
  rw [Try.params7] at hA hval
  obtain ⟨v0, vs0, d0, ds0, p0, q0, hargs, rfl, rfl, h0, r0⟩ := trodAll_cons hA
  obtain ⟨v1, vs1, d1, ds1, p1, q1, rfl, rfl, rfl, h1, r1⟩ := trodAll_cons r0
  obtain ⟨v2, vs2, d2, ds2, p2, q2, rfl, rfl, rfl, h2, r2⟩ := trodAll_cons r1
  obtain ⟨rfl, rfl, rfl⟩ := trodAll_nil r2
  obtain rfl : args = #[v0, v1, v2] := by cases args; simp_all
  obtain ⟨rfl, rfl⟩ := trodVars_none hV
  have k0 := h0
  have lt0 : ∀ x ∈ p0, x.block < W.heap.size := by obtain ⟨m, hm⟩ := k0; exact DataW.trod_lt m _ _ _ hm
  obtain ⟨cs0, rfl, x0, y0, f0⟩ := open_arg opens_Season Try.underlying39 (hval 0 39 v0 rfl rfl) h0
  obtain ⟨vz0_Rounds, vz0_Days, z0_Rest, vz0_Closed, e0⟩ := form_Season y0
  obtain rfl : cs0 = #[vz0_Rounds, vz0_Days, .int .i64 z0_Rest, vz0_Closed] := Array.toList_inj.1 e0
  have k1 := h1
  have lt1 : ∀ x ∈ p1, x.block < W.heap.size := by obtain ⟨m, hm⟩ := k1; exact DataW.trod_lt m _ _ _ hm
  obtain ⟨x1, y1, f1⟩ := open_arg1 opens_IntS Try.underlying37 (hval 1 37 v1 rfl rfl) h1
  obtain ⟨a2, rfl, rfl, rfl, w2⟩ := open_int Try.underlying3 (hval 2 3 v2 rfl rfl) h2
  clear hA0 hval0
  simp only [List.append_nil] at hW'
  refine (walk vz0_Rounds vz0_Days z0_Rest vz0_Closed x0 v1 x1 a2 W y0 f0 y1 f1 (intFit_of w2)).mono fun e W' ⟨he, bel⟩ => ?_
  subst he
  exact ⟨_, rfl, _, _, _, [], _, [], hW', trodAll_mk1 (shut_bool Try.underlying4 _), (trodAll_cons_mk (Below.trod laidOut (by kernel_rfl) (of_decide_eq_true (by kernel_rfl)) k0 bel lt0) (trodAll_cons_mk (Below.trod laidOut (by kernel_rfl) (of_decide_eq_true (by kernel_rfl)) k1 bel lt1) (trodAll_cons_mk (shut_int Try.underlying3 w2) trodAll_mk0))), rfl, bel.frame _, fun h => by cases h⟩

theorem over : Rows.fnExactRestOfRow.holds Try.pinned (OpenSpec.ofChange Rows.fnExactRestOfSpec) :=
  OpenClaim.holds_of_wide 7 Try.f7 rfl rfl rfl rfl rfl rfl rfl ⟨rfl, rfl, rfl, rfl, rfl⟩ rfl rfl rfl rfl rfl (by kernel_rfl) Try.func7 (by kernel_rfl)
    (of_decide_eq_true (by kernel_rfl)) (by unfold Func.isWrapper; first | (rw [if_pos (by decide +kernel)]; kernel_rfl) | (rw [if_neg (by decide +kernel)]; exact ⟨rfl, rfl⟩))
    (fun os started H enc _ => lifted os started H enc)

theorem proved : Rows.FnExactRestOfSaid := over
end Go.Proofs.Ytcbpgbiannpfpaa.fnExactRestOf
