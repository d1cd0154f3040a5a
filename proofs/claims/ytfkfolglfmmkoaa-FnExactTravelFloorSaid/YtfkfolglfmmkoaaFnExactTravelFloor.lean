/-
  The law FnExactTravelFloor holds for every argument: the program answers as the model does.
-/
import Derived.Test.YtfkfolglfmmkoaaRows
import Derived.WalkKit
import Derived.ProofKit
import Derived.OpenShut
import Derived.ShutString
import Derived.ChangeOld
import Derived.Below
import Derived.Lib.Hide
import Derived.Deep.RegionHeld3
import Derived.Test.YtfkfolglfmmkoaaQ1
import Derived.Test.YtfkfolglfmmkoaaQ2
import Derived.Test.YtfkfolglfmmkoaaQ3
import Derived.Test.YtfkfolglfmmkoaaQ4
import Derived.Test.YtfkfolglfmmkoaaQ8
import Derived.Test.YtfkfolglfmmkoaaQ10
import Derived.Test.YtfkfolglfmmkoaaQ11
import Derived.Test.YtfkfolglfmmkoaaQ12
import Derived.Test.YtfkfolglfmmkoaaQ13
namespace Go.Proofs.Ytfkfolglfmmkoaa.fnExactTravelFloor
open Go.ChangeShapes Go.WideShapes Go.ChangeAt Go.RowKit
open Go.ChangeMaps (open_string shut_string)
set_option linter.unusedVariables false

theorem own : ownKnob Try.prog.godebug = none := by kernel_rfl
theorem laidOut : laidOutB Try.prog = true := by kernel_rfl

set_option maxHeartbeats 4000000 in
set_option maxRecDepth 100000 in
theorem walk (aM_Size : Int) (vaM_Km : Value) (d_aM : tMap.D) (vaRounds : Value) (d_aRounds : tPairSS.D) (w : World) (h_aM : RdA tMap w [.int .i64 aM_Size, vaM_Km] d_aM) (f_aM : tMap.fit d_aM) (h_aRounds : RdA tPairSS w [vaRounds] d_aRounds) (f_aRounds : tPairSS.fit d_aRounds) :
    Calls Try.prog 8 #[.agg #[.int .i64 aM_Size, vaM_Km], vaRounds] w fun e w' => e = .returned (.bool true) ∧ Below w.heap.size w w' := by
  obtain ⟨r0, CS, CI⟩ : ∃ (r0 : Int), Hid (∀ (vaM_Km : Value) (vaRounds : Value) (w1 : World), RdA tMap w1 [.int .i64 aM_Size, vaM_Km] d_aM → RdA tPairSS w1 [vaRounds] d_aRounds → tMap.wt d_aM ≤ 1048576 → tPairSS.wt d_aRounds ≤ 1048576 → Calls Try.prog 32 #[.agg #[.int .i64 aM_Size, vaM_Km], vaRounds] w1 fun e w' => e = .returned (.int .i64 r0) ∧ Below w1.heap.size w1 w') ∧ Hid (∀ (vaM_Km : Value) (vaRounds : Value) (w1 : World), RdA tMap w1 [.int .i64 aM_Size, vaM_Km] d_aM → RdA tPairSS w1 [vaRounds] d_aRounds → tMap.wt d_aM ≤ 1048576 → tPairSS.wt d_aRounds ≤ 1048576 → Calls Try.prog 15 #[.agg #[.int .i64 aM_Size, vaM_Km], vaRounds] w1 fun e w' => e = .returned (.int .i64 r0) ∧ Below w1.heap.size w1 w') := by
    obtain ⟨R, hR⟩ := boolEx (mapP aM_Size d_aM.2 ∧ schedP aM_Size d_aRounds)
    exact ⟨_, fun v vr w1 h hr s sr => travelFloor_spec aM_Size v d_aM.2 vr d_aRounds R w1 hR (map_rd h) hr sr, fun v vr w1 h hr s sr => travelFloor_impl aM_Size v d_aM.2 vr d_aRounds R w1 hR (map_rd h) hr sr⟩
  have HB : Hid (Below w.heap.size w w) := Below.refl _ _
  have HA_aM := Lib.hid h_aM
  have HF_aM := Lib.hid f_aM
  clear h_aM f_aM
  have hsp := HA_aM.out
  replace hsp := (rd_splitB hsp).2
  obtain ⟨avaM_Km, nvaM_Km, kvaM_Km, hvaM_Km⟩ := rd_slice hsp
  clear hsp
  subst hvaM_Km
  have HA_aRounds := Lib.hid h_aRounds
  have HF_aRounds := Lib.hid f_aRounds
  clear h_aRounds f_aRounds
  replace HB := Lib.hid (HB.out.trans (((Below.refl w.heap.size w).alloc (Nat.le_refl _) (.cells #[.int .i64 aM_Size, .slice avaM_Km nvaM_Km kvaM_Km] 40)).mono HB.out.size))
  have BX_aM : Hid (BoxN (w.alloc (.cells #[.int .i64 aM_Size, .slice avaM_Km nvaM_Km kvaM_Km] 40)) (w.heap.size) [.int .i64 aM_Size, .slice avaM_Km nvaM_Km kvaM_Km]) := BoxN.made (Below.refl _ _) (by first | rfl | simp | (simp; done))
  go_enter Try.func8, Try.ntmps8
  have caM_0 := BX_aM.out.2 0 _ rfl
  have caM_1 := BX_aM.out.2 1 _ rfl
  have caM_lt := BX_aM.out.1
  go_wp2_with fail
  refine (y_sz_Map aM_Size (.slice avaM_Km nvaM_Km kvaM_Km) d_aM (1048576) _ (by omega) (by omega) (RdA.below HA_aM.out HB.out)).mono ?_
  rintro e w1 ⟨⟨r1, rfl, hr1⟩, b1⟩
  clear caM_0 caM_1 caM_lt
  have Z1 : Hid (w.heap.size + 1 ≤ w1.heap.size) := (by have := b1.size; simp at this; show _ ≤ _; omega)
  replace HB := Lib.hid (HB.out.trans (b1.mono HB.out.size))
  replace BX_aM := Lib.hid (BX_aM.out.below b1)
  by_cases hn1 : r1 < 0
  · have g2 : decide (r1 < 0) = true := decide_eq_true hn1
    clear hr1
    go_wp2
    go_ret
    exact ⟨rfl, HB.out⟩
  have g1 : decide (r1 < 0) = false := decide_eq_false hn1
  have SM_aM : Hid (tMap.wt d_aM ≤ 1048576) := (by show _ ≤ _; omega)
  replace hn1 : 0 ≤ r1 ∧ r1 ≤ 1048576 := by omega
  clear hr1
  go_wp2_with fail
  refine (y_sz_PairSS (vaRounds) d_aRounds (r1) _ (by omega) (by omega) (RdA.below HA_aRounds.out HB.out)).mono ?_
  rintro e w2 ⟨⟨r2, rfl, hr2⟩, b2⟩
  have Z2 : Hid (w1.heap.size ≤ w2.heap.size) := (by have := b2.size; show _ ≤ _; omega)
  replace HB := Lib.hid (HB.out.trans (b2.mono HB.out.size))
  replace BX_aM := Lib.hid (BX_aM.out.below b2)
  by_cases hn2 : r2 < 0
  · have g2 : decide (r2 < 0) = true := decide_eq_true hn2
    clear hr2
    go_wp2
    go_ret
    exact ⟨rfl, HB.out⟩
  have g2 : decide (r2 < 0) = false := decide_eq_false hn2
  have SM_aRounds : Hid (tPairSS.wt d_aRounds ≤ 1048576) := (by show _ ≤ _; omega)
  replace hn2 : 0 ≤ r2 ∧ r2 ≤ 1048576 := by omega
  clear hr2
  have caM_0 := BX_aM.out.2 0 _ rfl
  have caM_1 := BX_aM.out.2 1 _ rfl
  have caM_lt := BX_aM.out.1
  go_wp2_with fail
  refine (y_to_Map aM_Size (.slice avaM_Km nvaM_Km kvaM_Km) d_aM _ (RdA.below HA_aM.out HB.out) SM_aM.out).mono ?_
  rintro e w3 ⟨vaM_Kmt1, rfl, ho, b3⟩
  clear caM_0 caM_1 caM_lt
  have Z3 : Hid (w2.heap.size ≤ w3.heap.size) := (by have := b3.size; show _ ≤ _; omega)
  replace HB := Lib.hid (HB.out.trans (b3.mono HB.out.size))
  replace BX_aM := Lib.hid (BX_aM.out.below b3)
  have OW_aMt1 := Lib.hid (ho.mono (lo' := w2.heap.size) (hi' := w3.heap.size) (by have := Z1.out; have := Z2.out; have := Z3.out; (try simp only [World.alloc, Array.size_push]); omega) (Nat.le_refl _) (Nat.le_refl _))
  clear ho
  have caM_0 := BX_aM.out.2 0 _ rfl
  have caM_1 := BX_aM.out.2 1 _ rfl
  have caM_lt := BX_aM.out.1
  go_wp2_with fail
  refine (y_to_PairSS (vaRounds) d_aRounds _ (RdA.below HA_aRounds.out HB.out) SM_aRounds.out).mono ?_
  rintro e w4 ⟨vaRoundst2, rfl, ho, b4⟩
  clear caM_0 caM_1 caM_lt
  have Z4 : Hid (w3.heap.size ≤ w4.heap.size) := (by have := b4.size; show _ ≤ _; omega)
  replace HB := Lib.hid (HB.out.trans (b4.mono HB.out.size))
  replace BX_aM := Lib.hid (BX_aM.out.below b4)
  replace OW_aMt1 := Lib.hid (OW_aMt1.out.below b4)
  have OW_aRoundst2 := Lib.hid (ho.mono (lo' := w3.heap.size) (hi' := w4.heap.size) (by have := Z1.out; have := Z2.out; have := Z3.out; have := Z4.out; (try simp only [World.alloc, Array.size_push]); omega) (Nat.le_refl _) (Nat.le_refl _))
  clear ho
  go_wp2_with fail
  refine (CS.out (vaM_Kmt1) (vaRoundst2) _ OW_aMt1.out.rdA OW_aRoundst2.out.rdA SM_aM.out SM_aRounds.out).mono ?_
  rintro e w5 ⟨rfl, b5⟩
  have Z5 : Hid (w4.heap.size ≤ w5.heap.size) := (by have := b5.size; show _ ≤ _; omega)
  replace HB := Lib.hid (HB.out.trans (b5.mono HB.out.size))
  replace BX_aM := Lib.hid (BX_aM.out.below b5)
  replace OW_aMt1 := Lib.hid (OW_aMt1.out.below b5)
  replace OW_aRoundst2 := Lib.hid (OW_aRoundst2.out.below b5)
  clear OW_aMt1 OW_aRoundst2
  have caM_0 := BX_aM.out.2 0 _ rfl
  have caM_1 := BX_aM.out.2 1 _ rfl
  have caM_lt := BX_aM.out.1
  go_wp2_with fail
  refine (y_to_Map aM_Size (.slice avaM_Km nvaM_Km kvaM_Km) d_aM _ (RdA.below HA_aM.out HB.out) SM_aM.out).mono ?_
  rintro e w6 ⟨vaM_Kmx, rfl, ho, b6⟩
  clear caM_0 caM_1 caM_lt
  have Z6 : Hid (w5.heap.size ≤ w6.heap.size) := (by have := b6.size; show _ ≤ _; omega)
  replace HB := Lib.hid (HB.out.trans (b6.mono HB.out.size))
  replace BX_aM := Lib.hid (BX_aM.out.below b6)
  have OW_aMx := Lib.hid (ho.mono (lo' := w5.heap.size) (hi' := w6.heap.size) (by have := Z1.out; have := Z2.out; have := Z3.out; have := Z4.out; have := Z5.out; have := Z6.out; (try simp only [World.alloc, Array.size_push]); omega) (Nat.le_refl _) (Nat.le_refl _))
  clear ho
  have hsp := OW_aMx.out.rd
  replace hsp := (rd_splitB hsp).2
  obtain ⟨avaM_Kmx, nvaM_Kmx, kvaM_Kmx, hvaM_Kmx⟩ := rd_slice hsp
  clear hsp
  subst hvaM_Kmx
  replace HB := Lib.hid (HB.out.trans (((Below.refl w6.heap.size w6).alloc (Nat.le_refl _) (.cells #[.int .i64 aM_Size, .slice avaM_Kmx nvaM_Kmx kvaM_Kmx] 26)).mono HB.out.size))
  replace BX_aM := Lib.hid (BX_aM.out.below ((Below.refl w6.heap.size w6).alloc (Nat.le_refl _) (.cells #[.int .i64 aM_Size, .slice avaM_Kmx nvaM_Kmx kvaM_Kmx] 26)))
  replace OW_aMx := Lib.hid (OW_aMx.out.below ((Below.refl w6.heap.size w6).alloc (Nat.le_refl _) (.cells #[.int .i64 aM_Size, .slice avaM_Kmx nvaM_Kmx kvaM_Kmx] 26)))
  have BX_aMx : Hid (BoxN (w6.alloc (.cells #[.int .i64 aM_Size, .slice avaM_Kmx nvaM_Kmx kvaM_Kmx] 26)) (w6.heap.size) [.int .i64 aM_Size, .slice avaM_Kmx nvaM_Kmx kvaM_Kmx]) := BoxN.made (Below.refl _ _) (by first | rfl | simp | (simp; done))
  go_wp2_with fail
  refine (y_to_PairSS (vaRounds) d_aRounds _ (RdA.below HA_aRounds.out HB.out) SM_aRounds.out).mono ?_
  rintro e w7 ⟨vaRoundsx, rfl, ho, b7⟩
  have Z7 : Hid (w6.heap.size + 1 ≤ w7.heap.size) := (by have := b7.size; simp at this; show _ ≤ _; omega)
  replace HB := Lib.hid (HB.out.trans (b7.mono HB.out.size))
  replace BX_aM := Lib.hid (BX_aM.out.below b7)
  replace OW_aMx := Lib.hid (OW_aMx.out.below b7)
  replace BX_aMx := Lib.hid (BX_aMx.out.below b7)
  have OW_aRoundsx := Lib.hid (ho.mono (lo' := w6.heap.size + 1) (hi' := w7.heap.size) (by have := Z1.out; have := Z2.out; have := Z3.out; have := Z4.out; have := Z5.out; have := Z6.out; have := Z7.out; (try simp only [World.alloc, Array.size_push]); omega) (Nat.le_refl _) (Nat.le_refl _))
  clear ho
  have caMx_0 := BX_aMx.out.2 0 _ rfl
  have caMx_1 := BX_aMx.out.2 1 _ rfl
  have caMx_lt := BX_aMx.out.1
  go_wp2_with fail
  refine (CI.out (.slice avaM_Kmx nvaM_Kmx kvaM_Kmx) (vaRoundsx) _ OW_aMx.out.rdA OW_aRoundsx.out.rdA SM_aM.out SM_aRounds.out).mono ?_
  rintro e w8 ⟨rfl, b8⟩
  clear caMx_0 caMx_1 caMx_lt
  have Z8 : Hid (w7.heap.size ≤ w8.heap.size) := (by have := b8.size; show _ ≤ _; omega)
  replace HB := Lib.hid (HB.out.trans (b8.mono HB.out.size))
  replace BX_aM := Lib.hid (BX_aM.out.below b8)
  replace OW_aMx := Lib.hid (OW_aMx.out.below b8)
  replace BX_aMx := Lib.hid (BX_aMx.out.below b8)
  replace OW_aRoundsx := Lib.hid (OW_aRoundsx.out.below b8)
  have LE : Hid (w8.heap.size ≤ w8.heap.size) := (by show _ ≤ _; first | exact Nat.le_refl _ | simp)
  obtain ⟨S, HSd⟩ : ∃ S : World → Prop, S = fun w' => Below w.heap.size w w' ∧ BoxN w' (w.heap.size) [.int .i64 aM_Size, .slice avaM_Km nvaM_Km kvaM_Km] ∧ OwN tMap w' (w5.heap.size) (w6.heap.size) [.int .i64 aM_Size, .slice avaM_Kmx nvaM_Kmx kvaM_Kmx] d_aM ∧ BoxN w' (w6.heap.size) [.int .i64 aM_Size, .slice avaM_Kmx nvaM_Kmx kvaM_Kmx] ∧ OwN tPairSS w' (w6.heap.size + 1) (w7.heap.size) [vaRoundsx] d_aRounds ∧ w8.heap.size ≤ w'.heap.size := ⟨_, rfl⟩
  have KS : Hid (∀ wa wb, S wa → Below wa.heap.size wa wb → S wb) := by subst HSd; exact fun wa wb h b => ⟨h.1.trans (b.mono h.1.size), h.2.1.below b, h.2.2.1.below b, h.2.2.2.1.below b, h.2.2.2.2.1.below b, Nat.le_trans h.2.2.2.2.2 b.size⟩
  have OS : Hid (∀ wa, S wa → Below w.heap.size w wa ∧ BoxN wa (w.heap.size) [.int .i64 aM_Size, .slice avaM_Km nvaM_Km kvaM_Km] ∧ OwN tMap wa (w5.heap.size) (w6.heap.size) [.int .i64 aM_Size, .slice avaM_Kmx nvaM_Kmx kvaM_Kmx] d_aM ∧ BoxN wa (w6.heap.size) [.int .i64 aM_Size, .slice avaM_Kmx nvaM_Kmx kvaM_Kmx] ∧ OwN tPairSS wa (w6.heap.size + 1) (w7.heap.size) [vaRoundsx] d_aRounds ∧ w8.heap.size ≤ wa.heap.size) := by subst HSd; exact fun wa h => h
  have IS : Hid (∀ wa, Below w.heap.size w wa ∧ BoxN wa (w.heap.size) [.int .i64 aM_Size, .slice avaM_Km nvaM_Km kvaM_Km] ∧ OwN tMap wa (w5.heap.size) (w6.heap.size) [.int .i64 aM_Size, .slice avaM_Kmx nvaM_Kmx kvaM_Kmx] d_aM ∧ BoxN wa (w6.heap.size) [.int .i64 aM_Size, .slice avaM_Kmx nvaM_Kmx kvaM_Kmx] ∧ OwN tPairSS wa (w6.heap.size + 1) (w7.heap.size) [vaRoundsx] d_aRounds ∧ w8.heap.size ≤ wa.heap.size → S wa) := by subst HSd; exact fun wa h => h
  clear HSd
  go_wp2_with fail
  refine wp_region_held_drew (S := S) (by kernel_rfl) ?_ (fun hHeld => ?_)
  · exact IS.out _ ((fun (b : Below w8.heap.size w8 _) => ⟨HB.out.trans (b.mono HB.out.size), BX_aM.out.below b, OW_aMx.out.below b, BX_aMx.out.below b, OW_aRoundsx.out.below b, Nat.le_trans LE.out b.size⟩) (Below.refl _ _).drew)
  refine wpAnyH_take (i := 0) (v := ?_) rfl (by kernel_rfl) (by kernel_rfl) (by kernel_rfl) (fun _ _ _ h => h) (Or.inl ⟨by rfl, ?_⟩) hHeld ?_
  rotate_left
  · (intro wa hSw; have K := OS.out _ hSw; have caMx_0 := (K.2.2.2.1).2 0 _ rfl; have caMx_1 := (K.2.2.2.1).2 1 _ rfl; have caM_0 := (K.2.1).2 0 _ rfl; have caM_1 := (K.2.1).2 1 _ rfl; go_simp; try with_reducible rfl)
  simp only [Act.put, List.getElem_toArray, List.getElem_cons_zero, List.setIfInBounds_toArray, List.set_cons_zero, List.set_cons_succ]
  refine wpAnyH_take (i := 1) (v := ?_) rfl (by kernel_rfl) (by kernel_rfl) (by kernel_rfl) (fun _ _ _ h => h) (Or.inl ⟨by rfl, ?_⟩) hHeld ?_
  rotate_left
  · (intro wa hSw; have K := OS.out _ hSw; have caMx_0 := (K.2.2.2.1).2 0 _ rfl; have caMx_1 := (K.2.2.2.1).2 1 _ rfl; have caM_0 := (K.2.1).2 0 _ rfl; have caM_1 := (K.2.1).2 1 _ rfl; go_simp; try with_reducible rfl)
  simp only [Act.put, List.getElem_toArray, List.getElem_cons_zero, List.getElem_cons_succ, List.setIfInBounds_toArray, List.set_cons_zero, List.set_cons_succ]
  refine wpAnyH_ready (rs := [2]) (by kernel_rfl) (by simp) ?_
  refine AllReadyH.cons (o := _) rfl (fun K hK => ?_) AllReadyH.nil
  go_simp
  have KK := OS.out _ hHeld
  refine (y_to_Map aM_Size (.slice avaM_Km nvaM_Km kvaM_Km) d_aM _ (RdA.below HA_aM.out (KK.1)) SM_aM.out).mono ?_
  rintro e w109 ⟨vaM_Kmt3, rfl, ho, b109⟩
  have HT_aMt3 := Lib.hid ho.rdA
  clear ho
  clear KK
  (try go_wp2_with fail)
  refine hK.out _ _ ?_ (fun hHeld109 => ?_)
  · exact KS.out _ _ hHeld b109
  clear hK K
  refine wpAnyH_ready (rs := [3]) (by kernel_rfl) (by simp) ?_
  refine AllReadyH.cons (o := _) rfl (fun K hK => ?_) AllReadyH.nil
  go_simp
  have KK := OS.out _ hHeld109
  refine (y_eq_Map aM_Size (.slice avaM_Kmx nvaM_Kmx kvaM_Kmx) (vaM_Kmt3) d_aM _ (KK.2.2.1).rdA HT_aMt3.out).mono ?_
  rintro e w110 ⟨rfl, b110⟩
  clear HT_aMt3
  clear KK
  (try go_wp2_with fail)
  refine hK.out _ _ ?_ (fun hHeld110 => ?_)
  · exact KS.out _ _ hHeld109 b110
  clear hK K
  clear hHeld109
  refine wpAnyH_take (i := 4) (v := ?_) rfl (by kernel_rfl) (by kernel_rfl) (by kernel_rfl) (fun _ _ _ h => h) (Or.inl ⟨by rfl, ?_⟩) hHeld110 ?_
  rotate_left
  · (intro wa hSw; go_simp; try with_reducible rfl)
  simp only [Act.put, List.getElem_toArray, List.getElem_cons_zero, List.getElem_cons_succ, List.setIfInBounds_toArray, List.set_cons_zero, List.set_cons_succ]
  refine wpAnyH_done (by kernel_rfl) ?_ _
  have KE := Lib.hid (OS.out _ hHeld110)
  clear KS OS IS hHeld hHeld110
  have Z110 := Lib.hid (KE.out.2.2.2.2.2)
  replace HB := Lib.hid (KE.out.1)
  replace BX_aM := Lib.hid (KE.out.2.1)
  replace OW_aMx := Lib.hid (KE.out.2.2.1)
  replace BX_aMx := Lib.hid (KE.out.2.2.2.1)
  replace OW_aRoundsx := Lib.hid (KE.out.2.2.2.2.1)
  clear KE LE
  go_wp2_with fail
  refine (y_to_PairSS (vaRounds) d_aRounds _ (RdA.below HA_aRounds.out HB.out) SM_aRounds.out).mono ?_
  rintro e w111 ⟨vaRoundst4, rfl, ho, b111⟩
  have Z111 : Hid (w110.heap.size ≤ w111.heap.size) := (by have := b111.size; show _ ≤ _; omega)
  replace HB := Lib.hid (HB.out.trans (b111.mono HB.out.size))
  replace BX_aM := Lib.hid (BX_aM.out.below b111)
  replace OW_aMx := Lib.hid (OW_aMx.out.below b111)
  replace BX_aMx := Lib.hid (BX_aMx.out.below b111)
  replace OW_aRoundsx := Lib.hid (OW_aRoundsx.out.below b111)
  have OW_aRoundst4 := Lib.hid (ho.mono (lo' := w110.heap.size) (hi' := w111.heap.size) (by have := Z1.out; have := Z2.out; have := Z3.out; have := Z4.out; have := Z5.out; have := Z6.out; have := Z7.out; have := Z8.out; have := Z110.out; have := Z111.out; (try simp only [World.alloc, Array.size_push]); omega) (Nat.le_refl _) (Nat.le_refl _))
  clear ho
  go_wp2_with fail
  refine (y_eq_PairSS (vaRoundsx) (vaRoundst4) d_aRounds _ OW_aRoundsx.out.rdA OW_aRoundst4.out.rdA).mono ?_
  rintro e w112 ⟨rfl, b112⟩
  have Z112 : Hid (w111.heap.size ≤ w112.heap.size) := (by have := b112.size; show _ ≤ _; omega)
  replace HB := Lib.hid (HB.out.trans (b112.mono HB.out.size))
  replace BX_aM := Lib.hid (BX_aM.out.below b112)
  replace OW_aMx := Lib.hid (OW_aMx.out.below b112)
  replace BX_aMx := Lib.hid (BX_aMx.out.below b112)
  replace OW_aRoundsx := Lib.hid (OW_aRoundsx.out.below b112)
  replace OW_aRoundst4 := Lib.hid (OW_aRoundst4.out.below b112)
  clear OW_aRoundst4
  go_wp2
  go_ret
  exact ⟨rfl, HB.out⟩
set_option maxRecDepth 100000 in
theorem lifted (os : Os) (started : os.Started) (H : Type) (enc : TypeId × Value → H) :
    ReturnsInHanded {} Try.checked os 8 .any (Rows.fnExactTravelFloorSpec.pre6 enc Try.prog Try.f8 Rows.fnExactTravelFloorRow.domain false) (Rows.fnExactTravelFloorSpec.post enc Try.prog Try.f8 false true false false) := by
  refine returnsInHanded_of_change (C := Try.checked) own started (by kernel_rfl) Try.func8
    (ChangeSpec.witness6 (enc := enc) (C := Try.checked) false ⟨#[], #[.agg #[.int .i64 0, .slice none 0 0], .slice none 0 0], []⟩ 8 (by kernel_rfl) (by kernel_rfl) (by kernel_rfl) (by kernel_rfl)) ?_
  intro W base args ds gs before hval0 hW hcnd _
  have hval : ∀ (j : Nat) t v, Try.f8.params[j]? = some t → args[j]? = some v → Value.okWide Try.prog W .any base t v := hval0
  have hW' := hW
  obtain ⟨p, q, hA0, hV, rfl, hfz, hnd⟩ := hW
  have hA : DataW.TrodAll enc Try.prog W 0 (fun _ => true) true Try.f8.params.toList args.toList ds p := hA0
  rw [Try.params8] at hA hval
  obtain ⟨v0, vs0, d0, ds0, p0, q0, hargs, rfl, rfl, h0, r0⟩ := trodAll_cons hA
  obtain ⟨v1, vs1, d1, ds1, p1, q1, rfl, rfl, rfl, h1, r1⟩ := trodAll_cons r0
  obtain ⟨rfl, rfl, rfl⟩ := trodAll_nil r1
  obtain rfl : args = #[v0, v1] := by cases args; simp_all
  obtain ⟨rfl, rfl⟩ := trodVars_none hV
  have k0 := h0
  have lt0 : ∀ x ∈ p0, x.block < W.heap.size := by obtain ⟨m, hm⟩ := k0; exact DataW.trod_lt m _ _ _ hm
  obtain ⟨cs0, rfl, x0, y0, f0⟩ := open_arg opens_Map Try.underlying40 (hval 0 40 v0 rfl rfl) h0
  obtain ⟨z0_Size, vz0_Km, e0⟩ := form_Map y0
  obtain rfl : cs0 = #[.int .i64 z0_Size, vz0_Km] := Array.toList_inj.1 e0
  have k1 := h1
  have lt1 : ∀ x ∈ p1, x.block < W.heap.size := by obtain ⟨m, hm⟩ := k1; exact DataW.trod_lt m _ _ _ hm
  obtain ⟨x1, y1, f1⟩ := open_arg1 opens_PairSS Try.underlying46 (hval 1 46 v1 rfl rfl) h1
  clear hA0 hval0
  simp only [List.append_nil] at hW'
  refine (walk z0_Size vz0_Km x0 v1 x1 W y0 f0 y1 f1).mono fun e W' ⟨he, bel⟩ => ?_
  subst he
  exact ⟨_, rfl, _, _, _, [], _, [], hW', trodAll_mk1 (shut_bool Try.underlying4 _), (trodAll_cons_mk (Below.trod laidOut (by kernel_rfl) (of_decide_eq_true (by kernel_rfl)) k0 bel lt0) (trodAll_cons_mk (Below.trod laidOut (by kernel_rfl) (of_decide_eq_true (by kernel_rfl)) k1 bel lt1) trodAll_mk0)), rfl, bel.frame _, fun h => by cases h⟩

theorem over : Rows.fnExactTravelFloorRow.holds Try.pinned (OpenSpec.ofChange Rows.fnExactTravelFloorSpec) :=
  OpenClaim.holds_of_wide_leaving 8 Try.f8 rfl rfl rfl rfl rfl rfl rfl ⟨rfl, rfl, rfl, rfl, rfl⟩ rfl rfl rfl rfl rfl (by kernel_rfl) Try.func8 (by kernel_rfl)
    (of_decide_eq_true (by kernel_rfl)) (by unfold Func.isWrapper; first | (rw [if_pos (by decide +kernel)]; kernel_rfl) | (rw [if_neg (by decide +kernel)]; exact ⟨rfl, rfl⟩))
    (fun os started H enc _ => returnsInLeaving_of_handed (lifted os started H enc))

theorem proved : Rows.FnExactTravelFloorSaid := over
end Go.Proofs.Ytfkfolglfmmkoaa.fnExactTravelFloor
