/-
  The law FnExactDistanceOf holds for every argument: the program answers as the model does.
-/
import Derived.Test.YtfkfolglfmmkoaaRows
import Derived.WalkKit
import Derived.ProofKit
import Derived.OpenShut
import Derived.ShutString
import Derived.ChangeOld
import Derived.Below
import Derived.Lib.Hide
import Derived.Deep.RegionHeld3
import Derived.Test.YtfkfolglfmmkoaaQ1
import Derived.Test.YtfkfolglfmmkoaaQ2
import Derived.Test.YtfkfolglfmmkoaaQ3
import Derived.Test.YtfkfolglfmmkoaaQ8
import Derived.Test.YtfkfolglfmmkoaaQ10
import Derived.Test.YtfkfolglfmmkoaaQ11
import Derived.Test.YtfkfolglfmmkoaaQ12
import Derived.Test.YtfkfolglfmmkoaaQ13
namespace Go.Proofs.Ytfkfolglfmmkoaa.fnExactDistanceOf
open Go.ChangeShapes Go.WideShapes Go.ChangeAt Go.RowKit
open Go.ChangeMaps (open_string shut_string)
set_option linter.unusedVariables false

theorem own : ownKnob Try.prog.godebug = none := by kernel_rfl
theorem laidOut : laidOutB Try.prog = true := by kernel_rfl

set_option maxHeartbeats 4000000 in
set_option maxRecDepth 100000 in
theorem walk (aM_Size : Int) (vaM_Km : Value) (d_aM : tMap.D) (aA : Int) (aB : Int) (w : World) (h_aM : RdA tMap w [.int .i64 aM_Size, vaM_Km] d_aM) (f_aM : tMap.fit d_aM) (f_aA : IntFit aA) (f_aB : IntFit aB) :
    Calls Try.prog 5 #[.agg #[.int .i64 aM_Size, vaM_Km], .int .i64 aA, .int .i64 aB] w fun e w' => e = .returned (.bool true) ∧ Below w.heap.size w w' := by
  obtain ⟨r0, CS, CI⟩ : ∃ (r0 : Int), Hid (∀ (vaM_Km : Value) (w1 : World), RdA tMap w1 [.int .i64 aM_Size, vaM_Km] d_aM → tMap.wt d_aM ≤ 1048576 → Calls Try.prog 26 #[.agg #[.int .i64 aM_Size, vaM_Km], .int .i64 aA, .int .i64 aB] w1 fun e w' => e = .returned (.int .i64 r0) ∧ Below w1.heap.size w1 w') ∧ Hid (∀ (vaM_Km : Value) (w1 : World), RdA tMap w1 [.int .i64 aM_Size, vaM_Km] d_aM → tMap.wt d_aM ≤ 1048576 → Calls Try.prog 21 #[.agg #[.int .i64 aM_Size, vaM_Km], .int .i64 aA, .int .i64 aB] w1 fun e w' => e = .returned (.int .i64 r0) ∧ Below w1.heap.size w1 w') := by
    obtain ⟨R, hR⟩ := boolEx (mapP aM_Size d_aM.2 ∧ (0 ≤ aA ∧ aA ≤ aM_Size - 1) ∧ (0 ≤ aB ∧ aB ≤ aM_Size - 1))
    exact ⟨_, fun v w1 h s => distanceOf_spec aM_Size v d_aM.2 aA aB R w1 hR (map_rd h), fun v w1 h s => distanceOf_impl aM_Size v d_aM.2 aA aB R w1 hR (map_rd h)⟩
  have HB : Hid (Below w.heap.size w w) := Below.refl _ _
  have HA_aM := Lib.hid h_aM
  have HF_aM := Lib.hid f_aM
  clear h_aM f_aM
  have hsp := HA_aM.out
  replace hsp := (rd_splitB hsp).2
  obtain ⟨avaM_Km, nvaM_Km, kvaM_Km, hvaM_Km⟩ := rd_slice hsp
  clear hsp
  subst hvaM_Km
  replace HB := Lib.hid (HB.out.trans (((Below.refl w.heap.size w).alloc (Nat.le_refl _) (.cells #[.int .i64 aM_Size, .slice avaM_Km nvaM_Km kvaM_Km] 40)).mono HB.out.size))
  have BX_aM : Hid (BoxN (w.alloc (.cells #[.int .i64 aM_Size, .slice avaM_Km nvaM_Km kvaM_Km] 40)) (w.heap.size) [.int .i64 aM_Size, .slice avaM_Km nvaM_Km kvaM_Km]) := BoxN.made (Below.refl _ _) (by first | rfl | simp | (simp; done))
  go_enter Try.func5, Try.ntmps5
  have caM_0 := BX_aM.out.2 0 _ rfl
  have caM_1 := BX_aM.out.2 1 _ rfl
  have caM_lt := BX_aM.out.1
  go_wp2_with fail
  refine (y_sz_Map aM_Size (.slice avaM_Km nvaM_Km kvaM_Km) d_aM (1048576) _ (by omega) (by omega) (RdA.below HA_aM.out HB.out)).mono ?_
  rintro e w1 ⟨⟨r1, rfl, hr1⟩, b1⟩
  clear caM_0 caM_1 caM_lt
  have Z1 : Hid (w.heap.size + 1 ≤ w1.heap.size) := (by have := b1.size; simp at this; show _ ≤ _; omega)
  replace HB := Lib.hid (HB.out.trans (b1.mono HB.out.size))
  replace BX_aM := Lib.hid (BX_aM.out.below b1)
  by_cases hn1 : r1 < 0
  · have g2 : decide (r1 < 0) = true := decide_eq_true hn1
    clear hr1
    go_wp2
    go_ret
    exact ⟨rfl, HB.out⟩
  have g1 : decide (r1 < 0) = false := decide_eq_false hn1
  have SM_aM : Hid (tMap.wt d_aM ≤ 1048576) := (by show _ ≤ _; omega)
  replace hn1 : 0 ≤ r1 ∧ r1 ≤ 1048576 := by omega
  clear hr1
  have caM_0 := BX_aM.out.2 0 _ rfl
  have caM_1 := BX_aM.out.2 1 _ rfl
  have caM_lt := BX_aM.out.1
  go_wp2_with fail
  refine (y_to_Map aM_Size (.slice avaM_Km nvaM_Km kvaM_Km) d_aM _ (RdA.below HA_aM.out HB.out) SM_aM.out).mono ?_
  rintro e w2 ⟨vaM_Kmt1, rfl, ho, b2⟩
  clear caM_0 caM_1 caM_lt
  have Z2 : Hid (w1.heap.size ≤ w2.heap.size) := (by have := b2.size; show _ ≤ _; omega)
  replace HB := Lib.hid (HB.out.trans (b2.mono HB.out.size))
  replace BX_aM := Lib.hid (BX_aM.out.below b2)
  have OW_aMt1 := Lib.hid (ho.mono (lo' := w1.heap.size) (hi' := w2.heap.size) (by have := Z1.out; have := Z2.out; (try simp only [World.alloc, Array.size_push]); omega) (Nat.le_refl _) (Nat.le_refl _))
  clear ho
  go_wp2_with fail
  refine (CS.out (vaM_Kmt1) _ OW_aMt1.out.rdA SM_aM.out).mono ?_
  rintro e w3 ⟨rfl, b3⟩
  have Z3 : Hid (w2.heap.size ≤ w3.heap.size) := (by have := b3.size; show _ ≤ _; omega)
  replace HB := Lib.hid (HB.out.trans (b3.mono HB.out.size))
  replace BX_aM := Lib.hid (BX_aM.out.below b3)
  replace OW_aMt1 := Lib.hid (OW_aMt1.out.below b3)
  clear OW_aMt1
  have caM_0 := BX_aM.out.2 0 _ rfl
  have caM_1 := BX_aM.out.2 1 _ rfl
  have caM_lt := BX_aM.out.1
  go_wp2_with fail
  refine (y_to_Map aM_Size (.slice avaM_Km nvaM_Km kvaM_Km) d_aM _ (RdA.below HA_aM.out HB.out) SM_aM.out).mono ?_
  rintro e w4 ⟨vaM_Kmx, rfl, ho, b4⟩
  clear caM_0 caM_1 caM_lt
  have Z4 : Hid (w3.heap.size ≤ w4.heap.size) := (by have := b4.size; show _ ≤ _; omega)
  replace HB := Lib.hid (HB.out.trans (b4.mono HB.out.size))
  replace BX_aM := Lib.hid (BX_aM.out.below b4)
  have OW_aMx := Lib.hid (ho.mono (lo' := w3.heap.size) (hi' := w4.heap.size) (by have := Z1.out; have := Z2.out; have := Z3.out; have := Z4.out; (try simp only [World.alloc, Array.size_push]); omega) (Nat.le_refl _) (Nat.le_refl _))
  clear ho
  have hsp := OW_aMx.out.rd
  replace hsp := (rd_splitB hsp).2
  obtain ⟨avaM_Kmx, nvaM_Kmx, kvaM_Kmx, hvaM_Kmx⟩ := rd_slice hsp
  clear hsp
  subst hvaM_Kmx
  replace HB := Lib.hid (HB.out.trans (((Below.refl w4.heap.size w4).alloc (Nat.le_refl _) (.cells #[.int .i64 aM_Size, .slice avaM_Kmx nvaM_Kmx kvaM_Kmx] 26)).mono HB.out.size))
  replace BX_aM := Lib.hid (BX_aM.out.below ((Below.refl w4.heap.size w4).alloc (Nat.le_refl _) (.cells #[.int .i64 aM_Size, .slice avaM_Kmx nvaM_Kmx kvaM_Kmx] 26)))
  replace OW_aMx := Lib.hid (OW_aMx.out.below ((Below.refl w4.heap.size w4).alloc (Nat.le_refl _) (.cells #[.int .i64 aM_Size, .slice avaM_Kmx nvaM_Kmx kvaM_Kmx] 26)))
  have BX_aMx : Hid (BoxN (w4.alloc (.cells #[.int .i64 aM_Size, .slice avaM_Kmx nvaM_Kmx kvaM_Kmx] 26)) (w4.heap.size) [.int .i64 aM_Size, .slice avaM_Kmx nvaM_Kmx kvaM_Kmx]) := BoxN.made (Below.refl _ _) (by first | rfl | simp | (simp; done))
  have caMx_0 := BX_aMx.out.2 0 _ rfl
  have caMx_1 := BX_aMx.out.2 1 _ rfl
  have caMx_lt := BX_aMx.out.1
  go_wp2_with fail
  refine (CI.out (.slice avaM_Kmx nvaM_Kmx kvaM_Kmx) _ OW_aMx.out.rdA SM_aM.out).mono ?_
  rintro e w5 ⟨rfl, b5⟩
  clear caMx_0 caMx_1 caMx_lt
  have Z5 : Hid (w4.heap.size + 1 ≤ w5.heap.size) := (by have := b5.size; simp at this; show _ ≤ _; omega)
  replace HB := Lib.hid (HB.out.trans (b5.mono HB.out.size))
  replace BX_aM := Lib.hid (BX_aM.out.below b5)
  replace OW_aMx := Lib.hid (OW_aMx.out.below b5)
  replace BX_aMx := Lib.hid (BX_aMx.out.below b5)
  have LE : Hid (w5.heap.size ≤ w5.heap.size) := (by show _ ≤ _; first | exact Nat.le_refl _ | simp)
  obtain ⟨S, HSd⟩ : ∃ S : World → Prop, S = fun w' => Below w.heap.size w w' ∧ BoxN w' (w.heap.size) [.int .i64 aM_Size, .slice avaM_Km nvaM_Km kvaM_Km] ∧ OwN tMap w' (w3.heap.size) (w4.heap.size) [.int .i64 aM_Size, .slice avaM_Kmx nvaM_Kmx kvaM_Kmx] d_aM ∧ BoxN w' (w4.heap.size) [.int .i64 aM_Size, .slice avaM_Kmx nvaM_Kmx kvaM_Kmx] ∧ w5.heap.size ≤ w'.heap.size := ⟨_, rfl⟩
  have KS : Hid (∀ wa wb, S wa → Below wa.heap.size wa wb → S wb) := by subst HSd; exact fun wa wb h b => ⟨h.1.trans (b.mono h.1.size), h.2.1.below b, h.2.2.1.below b, h.2.2.2.1.below b, Nat.le_trans h.2.2.2.2 b.size⟩
  have OS : Hid (∀ wa, S wa → Below w.heap.size w wa ∧ BoxN wa (w.heap.size) [.int .i64 aM_Size, .slice avaM_Km nvaM_Km kvaM_Km] ∧ OwN tMap wa (w3.heap.size) (w4.heap.size) [.int .i64 aM_Size, .slice avaM_Kmx nvaM_Kmx kvaM_Kmx] d_aM ∧ BoxN wa (w4.heap.size) [.int .i64 aM_Size, .slice avaM_Kmx nvaM_Kmx kvaM_Kmx] ∧ w5.heap.size ≤ wa.heap.size) := by subst HSd; exact fun wa h => h
  have IS : Hid (∀ wa, Below w.heap.size w wa ∧ BoxN wa (w.heap.size) [.int .i64 aM_Size, .slice avaM_Km nvaM_Km kvaM_Km] ∧ OwN tMap wa (w3.heap.size) (w4.heap.size) [.int .i64 aM_Size, .slice avaM_Kmx nvaM_Kmx kvaM_Kmx] d_aM ∧ BoxN wa (w4.heap.size) [.int .i64 aM_Size, .slice avaM_Kmx nvaM_Kmx kvaM_Kmx] ∧ w5.heap.size ≤ wa.heap.size → S wa) := by subst HSd; exact fun wa h => h
  clear HSd
  go_wp2_with fail
  refine wp_region_held_drew (S := S) (by kernel_rfl) ?_ (fun hHeld => ?_)
  · exact IS.out _ ((fun (b : Below w5.heap.size w5 _) => ⟨HB.out.trans (b.mono HB.out.size), BX_aM.out.below b, OW_aMx.out.below b, BX_aMx.out.below b, Nat.le_trans LE.out b.size⟩) (Below.refl _ _).drew)
  refine wpAnyH_take (i := 0) (v := ?_) rfl (by kernel_rfl) (by kernel_rfl) (by kernel_rfl) (fun _ _ _ h => h) (Or.inl ⟨by rfl, ?_⟩) hHeld ?_
  rotate_left
  · (intro wa hSw; have K := OS.out _ hSw; have caMx_0 := (K.2.2.2.1).2 0 _ rfl; have caMx_1 := (K.2.2.2.1).2 1 _ rfl; have caM_0 := (K.2.1).2 0 _ rfl; have caM_1 := (K.2.1).2 1 _ rfl; go_simp; try with_reducible rfl)
  simp only [Act.put, List.getElem_toArray, List.getElem_cons_zero, List.setIfInBounds_toArray, List.set_cons_zero, List.set_cons_succ]
  refine wpAnyH_take (i := 1) (v := ?_) rfl (by kernel_rfl) (by kernel_rfl) (by kernel_rfl) (fun _ _ _ h => h) (Or.inl ⟨by rfl, ?_⟩) hHeld ?_
  rotate_left
  · (intro wa hSw; have K := OS.out _ hSw; have caMx_0 := (K.2.2.2.1).2 0 _ rfl; have caMx_1 := (K.2.2.2.1).2 1 _ rfl; have caM_0 := (K.2.1).2 0 _ rfl; have caM_1 := (K.2.1).2 1 _ rfl; go_simp; try with_reducible rfl)
  simp only [Act.put, List.getElem_toArray, List.getElem_cons_zero, List.getElem_cons_succ, List.setIfInBounds_toArray, List.set_cons_zero, List.set_cons_succ]
  refine wpAnyH_ready (rs := [2]) (by kernel_rfl) (by simp) ?_
  refine AllReadyH.cons (o := _) rfl (fun K hK => ?_) AllReadyH.nil
  go_simp
  have KK := OS.out _ hHeld
  refine (y_to_Map aM_Size (.slice avaM_Km nvaM_Km kvaM_Km) d_aM _ (RdA.below HA_aM.out (KK.1)) SM_aM.out).mono ?_
  rintro e w106 ⟨vaM_Kmt2, rfl, ho, b106⟩
  have HT_aMt2 := Lib.hid ho.rdA
  clear ho
  clear KK
  (try go_wp2_with fail)
  refine hK.out _ _ ?_ (fun hHeld106 => ?_)
  · exact KS.out _ _ hHeld b106
  clear hK K
  refine wpAnyH_ready (rs := [3]) (by kernel_rfl) (by simp) ?_
  refine AllReadyH.cons (o := _) rfl (fun K hK => ?_) AllReadyH.nil
  go_simp
  have KK := OS.out _ hHeld106
  refine (y_eq_Map aM_Size (.slice avaM_Kmx nvaM_Kmx kvaM_Kmx) (vaM_Kmt2) d_aM _ (KK.2.2.1).rdA HT_aMt2.out).mono ?_
  rintro e w107 ⟨rfl, b107⟩
  clear HT_aMt2
  clear KK
  (try go_wp2_with fail)
  refine hK.out _ _ ?_ (fun hHeld107 => ?_)
  · exact KS.out _ _ hHeld106 b107
  clear hK K
  clear hHeld106
  refine wpAnyH_take (i := 4) (v := ?_) rfl (by kernel_rfl) (by kernel_rfl) (by kernel_rfl) (fun _ _ _ h => h) (Or.inl ⟨by rfl, ?_⟩) hHeld107 ?_
  rotate_left
  · (intro wa hSw; go_simp; try with_reducible rfl)
  simp only [Act.put, List.getElem_toArray, List.getElem_cons_zero, List.getElem_cons_succ, List.setIfInBounds_toArray, List.set_cons_zero, List.set_cons_succ]
  refine wpAnyH_done (by kernel_rfl) ?_ _
  have KE := Lib.hid (OS.out _ hHeld107)
  clear KS OS IS hHeld hHeld107
  have Z107 := Lib.hid (KE.out.2.2.2.2)
  replace HB := Lib.hid (KE.out.1)
  replace BX_aM := Lib.hid (KE.out.2.1)
  replace OW_aMx := Lib.hid (KE.out.2.2.1)
  replace BX_aMx := Lib.hid (KE.out.2.2.2.1)
  clear KE LE
  go_wp2
  go_ret
  exact ⟨rfl, HB.out⟩
set_option maxRecDepth 100000 in
theorem lifted (os : Os) (started : os.Started) (H : Type) (enc : TypeId × Value → H) :
    ReturnsInHanded {} Try.checked os 5 .any (Rows.fnExactDistanceOfSpec.pre6 enc Try.prog Try.f5 Rows.fnExactDistanceOfRow.domain false) (Rows.fnExactDistanceOfSpec.post enc Try.prog Try.f5 false true false false) := by
  refine returnsInHanded_of_change (C := Try.checked) own started (by kernel_rfl) Try.func5
    (ChangeSpec.witness6 (enc := enc) (C := Try.checked) false ⟨#[], #[.agg #[.int .i64 0, .slice none 0 0], .int .i64 0, .int .i64 0], []⟩ 8 (by kernel_rfl) (by kernel_rfl) (by kernel_rfl) (by kernel_rfl)) ?_
  intro W base args ds gs before hval0 hW hcnd _
  have hval : ∀ (j : Nat) t v, Try.f5.params[j]? = some t → args[j]? = some v → Value.okWide Try.prog W .any base t v := hval0
  have hW' := hW
  obtain ⟨p, q, hA0, hV, rfl, hfz, hnd⟩ := hW
  have hA : DataW.TrodAll enc Try.prog W 0 (fun _ => true) true Try.f5.params.toList args.toList ds p := hA0
  rw [Try.params5] at hA hval
  obtain ⟨v0, vs0, d0, ds0, p0, q0, hargs, rfl, rfl, h0, r0⟩ := trodAll_cons hA
  obtain ⟨v1, vs1, d1, ds1, p1, q1, rfl, rfl, rfl, h1, r1⟩ := trodAll_cons r0
  obtain ⟨v2, vs2, d2, ds2, p2, q2, rfl, rfl, rfl, h2, r2⟩ := trodAll_cons r1
  obtain ⟨rfl, rfl, rfl⟩ := trodAll_nil r2
  obtain rfl : args = #[v0, v1, v2] := by cases args; simp_all
  obtain ⟨rfl, rfl⟩ := trodVars_none hV
  have k0 := h0
  have lt0 : ∀ x ∈ p0, x.block < W.heap.size := by obtain ⟨m, hm⟩ := k0; exact DataW.trod_lt m _ _ _ hm
  obtain ⟨cs0, rfl, x0, y0, f0⟩ := open_arg opens_Map Try.underlying40 (hval 0 40 v0 rfl rfl) h0
  obtain ⟨z0_Size, vz0_Km, e0⟩ := form_Map y0
  obtain rfl : cs0 = #[.int .i64 z0_Size, vz0_Km] := Array.toList_inj.1 e0
  obtain ⟨a1, rfl, rfl, rfl, w1⟩ := open_int Try.underlying3 (hval 1 3 v1 rfl rfl) h1
  obtain ⟨a2, rfl, rfl, rfl, w2⟩ := open_int Try.underlying3 (hval 2 3 v2 rfl rfl) h2
  clear hA0 hval0
  simp only [List.append_nil] at hW'
  refine (walk z0_Size vz0_Km x0 a1 a2 W y0 f0 (intFit_of w1) (intFit_of w2)).mono fun e W' ⟨he, bel⟩ => ?_
  subst he
  exact ⟨_, rfl, _, _, _, [], _, [], hW', trodAll_mk1 (shut_bool Try.underlying4 _), (trodAll_cons_mk (Below.trod laidOut (by kernel_rfl) (of_decide_eq_true (by kernel_rfl)) k0 bel lt0) (trodAll_cons_mk (shut_int Try.underlying3 w1) (trodAll_cons_mk (shut_int Try.underlying3 w2) trodAll_mk0))), rfl, bel.frame _, fun h => by cases h⟩

theorem over : Rows.fnExactDistanceOfRow.holds Try.pinned (OpenSpec.ofChange Rows.fnExactDistanceOfSpec) :=
  OpenClaim.holds_of_wide_leaving 5 Try.f5 rfl rfl rfl rfl rfl rfl rfl ⟨rfl, rfl, rfl, rfl, rfl⟩ rfl rfl rfl rfl rfl (by kernel_rfl) Try.func5 (by kernel_rfl)
    (of_decide_eq_true (by kernel_rfl)) (by unfold Func.isWrapper; first | (rw [if_pos (by decide +kernel)]; kernel_rfl) | (rw [if_neg (by decide +kernel)]; exact ⟨rfl, rfl⟩))
    (fun os started H enc _ => returnsInLeaving_of_handed (lifted os started H enc))

theorem proved : Rows.FnExactDistanceOfSaid := over
end Go.Proofs.Ytfkfolglfmmkoaa.fnExactDistanceOf
