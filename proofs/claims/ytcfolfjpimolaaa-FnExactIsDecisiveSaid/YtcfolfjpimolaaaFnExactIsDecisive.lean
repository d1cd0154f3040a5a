/-
  The law FnExactIsDecisive holds for every argument: the program answers as the model does.
-/
import Derived.Test.YtcfolfjpimolaaaRows
import Derived.WalkKit
import Derived.ProofKit
import Derived.OpenShut
import Derived.ShutString
import Derived.ChangeOld
import Derived.Below
import Derived.Lib.Hide
import Derived.Test.YtcfolfjpimolaaaLawKit
import Derived.Test.YtcfolfjpimolaaaOpenAgg
import Derived.Deep.RegionHeld3
import Derived.Test.YtcfolfjpimolaaaDecisive
import Derived.Test.YtcfolfjpimolaaaTypeRules
namespace Go.Proofs.Ytcfolfjpimolaaa.fnExactIsDecisive
open Go.ChangeShapes Go.WideShapes Go.ChangeAt Go.RowKit
open Go.ChangeMaps (open_string shut_string)
set_option linter.unusedVariables false

theorem own : ownKnob Try.prog.godebug = none := by kernel_rfl
theorem laidOut : laidOutB Try.prog = true := by kernel_rfl

set_option maxRecDepth 100000 in
theorem walk (aU_Win : Int) (aU_Draw : Int) (aU_Loss : Int) (vU_Ladder : Value) (nU_Ladder : Nat) (gU_Ladder : Nat → Int) (aU_Again : Bool) (w : World) (fU_Win : IntFit aU_Win) (fU_Draw : IntFit aU_Draw) (fU_Loss : IntFit aU_Loss) (hU_Ladder : IntRow w vU_Ladder nU_Ladder gU_Ladder) (fU_Ladder : ∀ i, IntFit (gU_Ladder i)) :
    Calls Try.prog 8 #[.agg #[.int .i64 aU_Win, .int .i64 aU_Draw, .int .i64 aU_Loss, vU_Ladder, .bool aU_Again]] w fun e w' => e = .returned (.bool true) ∧ Below w.heap.size w w' := by
  obtain ⟨ar0, CS, CI⟩ : ∃ (ar0 : Bool), Hid (∀ (vU_Ladder : Value) (w1 : World), IntRow w1 vU_Ladder nU_Ladder gU_Ladder → Calls Try.prog 28 #[.agg #[.int .i64 aU_Win, .int .i64 aU_Draw, .int .i64 aU_Loss, vU_Ladder, .bool aU_Again]] w1 fun e w' => e = .returned (.bool ar0) ∧ Below w1.heap.size w1 w') ∧ Hid (∀ (vU_Ladder : Value) (w1 : World), IntRow w1 vU_Ladder nU_Ladder gU_Ladder → Calls Try.prog 14 #[.agg #[.int .i64 aU_Win, .int .i64 aU_Draw, .int .i64 aU_Loss, vU_Ladder, .bool aU_Again]] w1 fun e w' => e = .returned (.bool ar0) ∧ Below w1.heap.size w1 w') := by
    obtain ⟨R, hR⟩ : ∃ R : Bool, R = true ↔ decisiveP aU_Win aU_Draw aU_Loss nU_Ladder gU_Ladder := by
      by_cases h : decisiveP aU_Win aU_Draw aU_Loss nU_Ladder gU_Ladder
      · exact ⟨true, fun _ => h, fun _ => rfl⟩
      · exact ⟨false, (fun e => by cases e), fun e => absurd e h⟩
    exact ⟨R, fun v w1 h => isDecisive_spec aU_Win aU_Draw aU_Loss aU_Again R v nU_Ladder gU_Ladder w1 hR h, fun v w1 h => isDecisive_impl aU_Win aU_Draw aU_Loss aU_Again R v nU_Ladder gU_Ladder w1 hR h⟩
  have hb : Below w.heap.size w w := Below.refl _ _
  have iU_Ladder : 0 < nU_Ladder → InW 0 w.heap.size vU_Ladder := fun h0 => InW.nat hU_Ladder h0 (Nat.le_refl _)
  go_enter Try.func8, Try.ntmps8
  go_wp2_with fail
  refine (x_sz_Rules aU_Win aU_Draw aU_Loss vU_Ladder nU_Ladder gU_Ladder aU_Again (1048576) _ (by omega) (by omega) (hU_Ladder.below ((Below.refl _ _).alloc (Nat.le_refl _) _) (Nat.le_refl _))).mono ?_
  rintro e w1 ⟨⟨r1, rfl, hr1⟩, b1⟩
  have z1 : w.heap.size + 1 ≤ w1.heap.size := by have := b1.size; simp at this; omega
  have bxU := BoxN.made b1 (B := w.heap.size) (by simp)
  have b1' := below_prev b1
  replace hU_Ladder := hU_Ladder.below b1' (Nat.le_refl _)
  replace hb := hb.trans (b1'.mono hb.size)
  by_cases hn1 : r1 < 0
  · have g2 : decide (r1 < 0) = true := decide_eq_true hn1
    clear hr1
    go_wp2
    go_ret
    exact ⟨rfl, hb⟩
  have g1 : decide (r1 < 0) = false := decide_eq_false hn1
  have hle1 : r1 ≤ 1048576 := by omega
  have smU_Ladder : nU_Ladder ≤ 1048576 := by omega
  replace hn1 : 0 ≤ r1 := by omega
  clear hr1
  have cU_0 := bxU.2 0 _ rfl
  have cU_1 := bxU.2 1 _ rfl
  have cU_2 := bxU.2 2 _ rfl
  have cU_3 := bxU.2 3 _ rfl
  have cU_4 := bxU.2 4 _ rfl
  have cU_lt := bxU.1
  go_wp2_with fail
  refine (x_to_Rules aU_Win aU_Draw aU_Loss vU_Ladder nU_Ladder gU_Ladder aU_Again _ hU_Ladder (by omega)).mono ?_
  rintro e w2 ⟨vU_Laddert1, rfl, hU_Laddert1, ⟨xU_Laddert1, oU_Laddert1⟩, b2⟩
  obtain ⟨saU_Laddert1, scU_Laddert1, rfl, _⟩ := hU_Laddert1.form
  clear cU_0 cU_1 cU_2 cU_3 cU_4 cU_lt
  have z2 : w1.heap.size ≤ w2.heap.size := b2.size
  replace hU_Ladder := hU_Ladder.below b2 (Nat.le_refl _)
  replace hb := hb.trans (b2.mono hb.size)
  replace bxU := bxU.below b2
  replace oU_Laddert1 := owns_mono oU_Laddert1 (base' := w1.heap.size) (by simp <;> omega)
  have iU_Laddert1 : InW w1.heap.size w2.heap.size (.slice saU_Laddert1 nU_Ladder scU_Laddert1) := InW.of_owns oU_Laddert1
  go_wp2_with fail
  refine (CS.out (.slice saU_Laddert1 nU_Ladder scU_Laddert1) _ hU_Laddert1).mono ?_
  rintro e w3 ⟨rfl, b3⟩
  have z3 : w2.heap.size ≤ w3.heap.size := b3.size
  replace hU_Ladder := hU_Ladder.below b3 (Nat.le_refl _)
  replace hb := hb.trans (b3.mono hb.size)
  replace bxU := bxU.below b3
  replace hU_Laddert1 := hU_Laddert1.below b3 (Nat.le_refl _)
  replace oU_Laddert1 := owns_below oU_Laddert1 b3 (Nat.le_refl _)
  clear hU_Laddert1 oU_Laddert1
  have cU_0 := bxU.2 0 _ rfl
  have cU_1 := bxU.2 1 _ rfl
  have cU_2 := bxU.2 2 _ rfl
  have cU_3 := bxU.2 3 _ rfl
  have cU_4 := bxU.2 4 _ rfl
  have cU_lt := bxU.1
  go_wp2_with fail
  refine (x_to_Rules aU_Win aU_Draw aU_Loss vU_Ladder nU_Ladder gU_Ladder aU_Again _ hU_Ladder (by omega)).mono ?_
  rintro e w4 ⟨vU_Ladderx, rfl, hU_Ladderx, ⟨xU_Ladderx, oU_Ladderx⟩, b4⟩
  obtain ⟨saU_Ladderx, scU_Ladderx, rfl, _⟩ := hU_Ladderx.form
  clear cU_0 cU_1 cU_2 cU_3 cU_4 cU_lt
  have z4 : w3.heap.size ≤ w4.heap.size := b4.size
  replace hU_Ladder := hU_Ladder.below b4 (Nat.le_refl _)
  replace hb := hb.trans (b4.mono hb.size)
  replace bxU := bxU.below b4
  replace oU_Ladderx := owns_mono oU_Ladderx (base' := w3.heap.size) (by simp <;> omega)
  have iU_Ladderx : InW w3.heap.size w4.heap.size (.slice saU_Ladderx nU_Ladder scU_Ladderx) := InW.of_owns oU_Ladderx
  go_wp2_with fail
  refine (CI.out (.slice saU_Ladderx nU_Ladder scU_Ladderx) _ (hU_Ladderx.below ((Below.refl _ _).alloc (Nat.le_refl _) _) (Nat.le_refl _))).mono ?_
  rintro e w5 ⟨rfl, b5⟩
  have z5 : w4.heap.size + 1 ≤ w5.heap.size := by have := b5.size; simp at this; omega
  have bxUx := BoxN.made b5 (B := w4.heap.size) (by simp)
  have b5' := below_prev b5
  replace hU_Ladder := hU_Ladder.below b5' (Nat.le_refl _)
  replace hb := hb.trans (b5'.mono hb.size)
  replace bxU := bxU.below b5'
  replace hU_Ladderx := hU_Ladderx.below b5' (Nat.le_refl _)
  replace oU_Ladderx := owns_below oU_Ladderx b5' (Nat.le_refl _)
  obtain ⟨S, HSd⟩ : ∃ S : World → Prop, S = fun w' => BoxN w' w.heap.size [.int .i64 aU_Win, .int .i64 aU_Draw, .int .i64 aU_Loss, vU_Ladder, .bool aU_Again] ∧ IntRow w' vU_Ladder nU_Ladder gU_Ladder ∧ BoxN w' w4.heap.size [.int .i64 aU_Win, .int .i64 aU_Draw, .int .i64 aU_Loss, (.slice saU_Ladderx nU_Ladder scU_Ladderx), .bool aU_Again] ∧ IntRow w' (.slice saU_Ladderx nU_Ladder scU_Ladderx) nU_Ladder gU_Ladder ∧ World.ownsRow w' w3.heap.size 3 1 (.slice saU_Ladderx nU_Ladder scU_Ladderx) nU_Ladder xU_Ladderx ∧ Below w.heap.size w w' := ⟨_, rfl⟩
  have KS : Hid (∀ wa wb, S wa → Below wa.heap.size wa wb → S wb) := by subst HSd; exact fun wa wb ⟨bxU, hU_Ladder, bxUx, hU_Ladderx, oU_Ladderx, hb⟩ b => ⟨bxU.below b, hU_Ladder.below b (Nat.le_refl _), bxUx.below b, hU_Ladderx.below b (Nat.le_refl _), owns_below oU_Ladderx b (Nat.le_refl _), hb.trans (b.mono hb.size)⟩
  have OS : Hid (∀ wa, S wa → BoxN wa w.heap.size [.int .i64 aU_Win, .int .i64 aU_Draw, .int .i64 aU_Loss, vU_Ladder, .bool aU_Again] ∧ IntRow wa vU_Ladder nU_Ladder gU_Ladder ∧ BoxN wa w4.heap.size [.int .i64 aU_Win, .int .i64 aU_Draw, .int .i64 aU_Loss, (.slice saU_Ladderx nU_Ladder scU_Ladderx), .bool aU_Again] ∧ IntRow wa (.slice saU_Ladderx nU_Ladder scU_Ladderx) nU_Ladder gU_Ladder ∧ World.ownsRow wa w3.heap.size 3 1 (.slice saU_Ladderx nU_Ladder scU_Ladderx) nU_Ladder xU_Ladderx ∧ Below w.heap.size w wa) := by subst HSd; exact fun wa h => h
  have KS0 : Hid (S w5.drew) := by subst HSd; exact (fun b : Below w5.heap.size w5 w5.drew => ⟨bxU.below b, hU_Ladder.below b (Nat.le_refl _), bxUx.below b, hU_Ladderx.below b (Nat.le_refl _), owns_below oU_Ladderx b (Nat.le_refl _), hb.trans (b.mono hb.size)⟩) (Below.refl _ _).drew
  clear HSd
  go_wp2_with fail
  refine wp_region_held_drew (S := S) (by kernel_rfl) ?_ (fun hHeld => ?_)
  · exact KS0.out
  clear KS0 bxU hU_Ladder bxUx hU_Ladderx oU_Ladderx hb
  refine wpAnyH_take (i := 0) (v := ?_) rfl (by kernel_rfl) (by kernel_rfl) (by kernel_rfl) (fun _ _ _ h => h) (Or.inl ⟨by rfl, ?_⟩) (by assumption) ?_
  rotate_left
  · (intro wa hSw; obtain ⟨bxU, hU_Ladder, bxUx, hU_Ladderx, oU_Ladderx, hb⟩ := OS.out _ hSw; have cUx_0 := bxUx.2 0 _ rfl; have cUx_1 := bxUx.2 1 _ rfl; have cUx_2 := bxUx.2 2 _ rfl; have cUx_3 := bxUx.2 3 _ rfl; have cUx_4 := bxUx.2 4 _ rfl; have cU_0 := bxU.2 0 _ rfl; have cU_1 := bxU.2 1 _ rfl; have cU_2 := bxU.2 2 _ rfl; have cU_3 := bxU.2 3 _ rfl; have cU_4 := bxU.2 4 _ rfl; go_simp; try with_reducible rfl)
  simp only [Act.put, List.getElem_toArray, List.getElem_cons_zero, List.setIfInBounds_toArray, List.set_cons_zero, List.set_cons_succ]
  refine wpAnyH_take (i := 1) (v := ?_) rfl (by kernel_rfl) (by kernel_rfl) (by kernel_rfl) (fun _ _ _ h => h) (Or.inl ⟨by rfl, ?_⟩) (by assumption) ?_
  rotate_left
  · (intro wa hSw; obtain ⟨bxU, hU_Ladder, bxUx, hU_Ladderx, oU_Ladderx, hb⟩ := OS.out _ hSw; have cUx_0 := bxUx.2 0 _ rfl; have cUx_1 := bxUx.2 1 _ rfl; have cUx_2 := bxUx.2 2 _ rfl; have cUx_3 := bxUx.2 3 _ rfl; have cUx_4 := bxUx.2 4 _ rfl; have cU_0 := bxU.2 0 _ rfl; have cU_1 := bxU.2 1 _ rfl; have cU_2 := bxU.2 2 _ rfl; have cU_3 := bxU.2 3 _ rfl; have cU_4 := bxU.2 4 _ rfl; go_simp; try with_reducible rfl)
  simp only [Act.put, List.getElem_toArray, List.getElem_cons_zero, List.getElem_cons_succ, List.setIfInBounds_toArray, List.set_cons_zero, List.set_cons_succ]
  refine wpAnyH_ready (rs := [2]) (by kernel_rfl) (by simp) ?_
  refine AllReadyH.cons (o := _) rfl (fun K hK => ?_) AllReadyH.nil
  go_simp
  obtain ⟨bxU, hU_Ladder, bxUx, hU_Ladderx, oU_Ladderx, hb⟩ := OS.out _ hHeld
  refine (x_to_Rules aU_Win aU_Draw aU_Loss vU_Ladder nU_Ladder gU_Ladder aU_Again _ hU_Ladder (by omega)).mono ?_
  rintro e w6 ⟨vU_Laddert2, rfl, hU_Laddert2, ⟨xU_Laddert2, oU_Laddert2⟩, b6⟩
  clear bxU hU_Ladder bxUx hU_Ladderx oU_Ladderx hb
  clear oU_Laddert2
  (try go_wp2_with fail)
  refine hK.out _ _ ?_ (fun hHeld6 => ?_)
  · exact KS.out _ _ hHeld b6
  clear hK K
  refine wpAnyH_ready (rs := [3]) (by kernel_rfl) (by simp) ?_
  refine AllReadyH.cons (o := _) rfl (fun K hK => ?_) AllReadyH.nil
  go_simp
  obtain ⟨bxU, hU_Ladder, bxUx, hU_Ladderx, oU_Ladderx, hb⟩ := OS.out _ hHeld6
  refine (x_eq_Rules aU_Win aU_Draw aU_Loss (.slice saU_Ladderx nU_Ladder scU_Ladderx) nU_Ladder gU_Ladder aU_Again vU_Laddert2 _ hU_Ladderx hU_Laddert2).mono ?_
  rintro e w7 ⟨rfl, b7⟩
  clear bxU hU_Ladder bxUx hU_Ladderx oU_Ladderx hb
  replace hU_Laddert2 := hU_Laddert2.below b7 (Nat.le_refl _)
  (try go_wp2_with fail)
  refine hK.out _ _ ?_ (fun hHeld7 => ?_)
  · exact KS.out _ _ hHeld6 b7
  clear hK K
  clear hHeld6
  refine wpAnyH_take (i := 4) (v := ?_) rfl (by kernel_rfl) (by kernel_rfl) (by kernel_rfl) (fun _ _ _ h => h) (Or.inl ⟨by rfl, ?_⟩) (by assumption) ?_
  rotate_left
  · (intro wa hSw; obtain ⟨bxU, hU_Ladder, bxUx, hU_Ladderx, oU_Ladderx, hb⟩ := OS.out _ hSw; have cUx_0 := bxUx.2 0 _ rfl; have cUx_1 := bxUx.2 1 _ rfl; have cUx_2 := bxUx.2 2 _ rfl; have cUx_3 := bxUx.2 3 _ rfl; have cUx_4 := bxUx.2 4 _ rfl; have cU_0 := bxU.2 0 _ rfl; have cU_1 := bxU.2 1 _ rfl; have cU_2 := bxU.2 2 _ rfl; have cU_3 := bxU.2 3 _ rfl; have cU_4 := bxU.2 4 _ rfl; go_simp; try with_reducible rfl)
  simp only [Act.put, List.getElem_toArray, List.getElem_cons_zero, List.getElem_cons_succ, List.setIfInBounds_toArray, List.set_cons_zero, List.set_cons_succ]
  refine wpAnyH_done (by kernel_rfl) ?_ _
  obtain ⟨bxU, hU_Ladder, bxUx, hU_Ladderx, oU_Ladderx, hb⟩ := OS.out _ hHeld7
  clear KS OS hHeld hHeld7 hU_Laddert2
  go_wp2
  go_ret
  exact ⟨rfl, hb⟩
set_option maxRecDepth 100000 in
theorem lifted (os : Os) (started : os.Started) (H : Type) (enc : TypeId × Value → H) :
    ReturnsInHanded {} Try.checked os 8 .any (Rows.fnExactIsDecisiveSpec.pre6 enc Try.prog Try.f8 Rows.fnExactIsDecisiveRow.domain false) (Rows.fnExactIsDecisiveSpec.post enc Try.prog Try.f8 false true false false) := by
  refine returnsInHanded_of_change (C := Try.checked) own started (by kernel_rfl) Try.func8
    (ChangeSpec.witness6 (enc := enc) (C := Try.checked) false ⟨#[], #[.agg #[.int .i64 0, .int .i64 0, .int .i64 0, .slice none 0 0, .bool false]], []⟩ 8 (by kernel_rfl) (by kernel_rfl) (by kernel_rfl) (by kernel_rfl)) ?_
  intro W base args ds gs before hval0 hW hcnd _
  have hval : ∀ (j : Nat) t v, Try.f8.params[j]? = some t → args[j]? = some v → Value.okWide Try.prog W .any base t v := hval0
  have hW' := hW
  obtain ⟨p, q, hA0, hV, rfl, hfz, hnd⟩ := hW
  have hA : DataW.TrodAll enc Try.prog W 0 (fun _ => true) true Try.f8.params.toList args.toList ds p := hA0
  rw [Try.params8] at hA hval
  obtain ⟨v0, vs0, d0, ds0, p0, q0, hargs, rfl, rfl, h0, r0⟩ := trodAll_cons hA
  obtain ⟨rfl, rfl, rfl⟩ := trodAll_nil r0
  obtain rfl : args = #[v0] := by cases args; simp_all
  obtain ⟨rfl, rfl⟩ := trodVars_none hV
  have k0 := h0
  have lt0 : ∀ x ∈ p0, x.block < W.heap.size := by obtain ⟨m, hm⟩ := k0; exact DataW.trod_lt m _ _ _ hm
  obtain ⟨u0_0, u0_1, u0_2, u0_3, u0_4, y0_0, y0_1, y0_2, y0_3, y0_4, m0, rfl, rfl, rfl, t0_0, t0_1, t0_2, t0_3, t0_4⟩ := open_ag5 Try.underlying36 (by kernel_rfl) (by kernel_rfl) (hval 0 36 v0 rfl rfl) h0
  obtain ⟨a0_0, e0_0, _, w0_0⟩ := DataW.trod_int Try.underlying3 t0_0
  simp only [List.cons.injEq, and_true] at e0_0
  subst e0_0
  obtain ⟨a0_1, e0_1, _, w0_1⟩ := DataW.trod_int Try.underlying3 t0_1
  simp only [List.cons.injEq, and_true] at e0_1
  subst e0_1
  obtain ⟨a0_2, e0_2, _, w0_2⟩ := DataW.trod_int Try.underlying3 t0_2
  simp only [List.cons.injEq, and_true] at e0_2
  subst e0_2
  obtain ⟨n0_3, g0_3, w0_3, f0_3, _⟩ := open_introw' Try.underlying23 Try.underlying3 (by kernel_rfl) ⟨_, _, t0_3⟩
  obtain ⟨a0_4, e0_4, _⟩ := DataW.trod_bool Try.underlying4 t0_4
  simp only [List.cons.injEq, and_true] at e0_4
  subst e0_4
  clear hA0 hval0
  simp only [List.append_nil] at hW'
  refine (walk a0_0 a0_1 a0_2 u0_3 n0_3 g0_3 a0_4 W (intFit_of w0_0) (intFit_of w0_1) (intFit_of w0_2) w0_3 f0_3).mono fun e W' ⟨he, bel⟩ => ?_
  subst he
  exact ⟨_, rfl, _, _, _, [], _, [], hW', trodAll_mk1 (shut_bool Try.underlying4 _), (trodAll_cons_mk (Below.trod laidOut (by kernel_rfl) (of_decide_eq_true (by kernel_rfl)) k0 bel lt0) trodAll_mk0), rfl, bel.frame _, fun h => by cases h⟩

theorem over : Rows.fnExactIsDecisiveRow.holds Try.pinned (OpenSpec.ofChange Rows.fnExactIsDecisiveSpec) :=
  OpenClaim.holds_of_wide 8 Try.f8 rfl rfl rfl rfl rfl rfl rfl ⟨rfl, rfl, rfl, rfl, rfl⟩ rfl rfl rfl rfl rfl (by kernel_rfl) Try.func8 (by kernel_rfl)
    (of_decide_eq_true (by kernel_rfl)) (by unfold Func.isWrapper; first | (rw [if_pos (by decide +kernel)]; kernel_rfl) | (rw [if_neg (by decide +kernel)]; exact ⟨rfl, rfl⟩))
    (fun os started H enc _ => lifted os started H enc)

theorem proved : Rows.FnExactIsDecisiveSaid := over
end Go.Proofs.Ytcfolfjpimolaaa.fnExactIsDecisive
