/-
  The law FnExactSameRules holds for every argument: the program answers as the model does.
-/
import Derived.Test.YtcfolfjpimolaaaRows
import Derived.WalkKit
import Derived.ProofKit
import Derived.OpenShut
import Derived.ShutString
import Derived.ChangeOld
import Derived.Below
import Derived.Lib.Hide
import Derived.Test.YtcfolfjpimolaaaLawKit
import Derived.Test.YtcfolfjpimolaaaOpenAgg
import Derived.Deep.RegionHeld3
import Derived.Test.YtcfolfjpimolaaaSameRules
import Derived.Test.YtcfolfjpimolaaaTypeRules
namespace Go.Proofs.Ytcfolfjpimolaaa.fnExactSameRules
open Go.ChangeShapes Go.WideShapes Go.ChangeAt Go.RowKit
open Go.ChangeMaps (open_string shut_string)
set_option linter.unusedVariables false

theorem own : ownKnob Try.prog.godebug = none := by kernel_rfl
theorem laidOut : laidOutB Try.prog = true := by kernel_rfl

set_option maxHeartbeats 1000000 in
set_option maxRecDepth 100000 in
theorem walk (aA_Win : Int) (aA_Draw : Int) (aA_Loss : Int) (vA_Ladder : Value) (nA_Ladder : Nat) (gA_Ladder : Nat → Int) (aA_Again : Bool) (aB_Win : Int) (aB_Draw : Int) (aB_Loss : Int) (vB_Ladder : Value) (nB_Ladder : Nat) (gB_Ladder : Nat → Int) (aB_Again : Bool) (w : World) (fA_Win : IntFit aA_Win) (fA_Draw : IntFit aA_Draw) (fA_Loss : IntFit aA_Loss) (hA_Ladder : IntRow w vA_Ladder nA_Ladder gA_Ladder) (fA_Ladder : ∀ i, IntFit (gA_Ladder i)) (fB_Win : IntFit aB_Win) (fB_Draw : IntFit aB_Draw) (fB_Loss : IntFit aB_Loss) (hB_Ladder : IntRow w vB_Ladder nB_Ladder gB_Ladder) (fB_Ladder : ∀ i, IntFit (gB_Ladder i)) :
    Calls Try.prog 11 #[.agg #[.int .i64 aA_Win, .int .i64 aA_Draw, .int .i64 aA_Loss, vA_Ladder, .bool aA_Again], .agg #[.int .i64 aB_Win, .int .i64 aB_Draw, .int .i64 aB_Loss, vB_Ladder, .bool aB_Again]] w fun e w' => e = .returned (.bool true) ∧ Below w.heap.size w w' := by
  obtain ⟨ar0, CS, CI⟩ : ∃ (ar0 : Bool), Hid (∀ (vA_Ladder : Value) (vB_Ladder : Value) (w1 : World), IntRow w1 vA_Ladder nA_Ladder gA_Ladder → IntRow w1 vB_Ladder nB_Ladder gB_Ladder → Calls Try.prog 33 #[.agg #[.int .i64 aA_Win, .int .i64 aA_Draw, .int .i64 aA_Loss, vA_Ladder, .bool aA_Again], .agg #[.int .i64 aB_Win, .int .i64 aB_Draw, .int .i64 aB_Loss, vB_Ladder, .bool aB_Again]] w1 fun e w' => e = .returned (.bool ar0) ∧ Below w1.heap.size w1 w') ∧ Hid (∀ (vA_Ladder : Value) (vB_Ladder : Value) (w1 : World), IntRow w1 vA_Ladder nA_Ladder gA_Ladder → IntRow w1 vB_Ladder nB_Ladder gB_Ladder → Calls Try.prog 19 #[.agg #[.int .i64 aA_Win, .int .i64 aA_Draw, .int .i64 aA_Loss, vA_Ladder, .bool aA_Again], .agg #[.int .i64 aB_Win, .int .i64 aB_Draw, .int .i64 aB_Loss, vB_Ladder, .bool aB_Again]] w1 fun e w' => e = .returned (.bool ar0) ∧ Below w1.heap.size w1 w') := by
    obtain ⟨R, hR⟩ : ∃ R : Bool, R = true ↔ sameP aA_Win aA_Draw aA_Loss aA_Again nA_Ladder gA_Ladder aB_Win aB_Draw aB_Loss aB_Again nB_Ladder gB_Ladder := by
      by_cases h : sameP aA_Win aA_Draw aA_Loss aA_Again nA_Ladder gA_Ladder aB_Win aB_Draw aB_Loss aB_Again nB_Ladder gB_Ladder
      · exact ⟨true, fun _ => h, fun _ => rfl⟩
      · exact ⟨false, (fun e => by cases e), fun e => absurd e h⟩
    exact ⟨R, fun v v' w1 h h' => sameRules_spec aA_Win aA_Draw aA_Loss aA_Again v nA_Ladder gA_Ladder aB_Win aB_Draw aB_Loss aB_Again v' nB_Ladder gB_Ladder R w1 hR h h', fun v v' w1 h h' => sameRules_impl aA_Win aA_Draw aA_Loss aA_Again v nA_Ladder gA_Ladder aB_Win aB_Draw aB_Loss aB_Again v' nB_Ladder gB_Ladder R w1 hR h h'⟩
  have hb : Below w.heap.size w w := Below.refl _ _
  have iA_Ladder : 0 < nA_Ladder → InW 0 w.heap.size vA_Ladder := fun h0 => InW.nat hA_Ladder h0 (Nat.le_refl _)
  have iB_Ladder : 0 < nB_Ladder → InW 0 w.heap.size vB_Ladder := fun h0 => InW.nat hB_Ladder h0 (Nat.le_refl _)
  go_enter Try.func11, Try.ntmps11
  go_wp2_with fail
  refine (x_sz_Rules aA_Win aA_Draw aA_Loss vA_Ladder nA_Ladder gA_Ladder aA_Again (1048576) _ (by omega) (by omega) (hA_Ladder.below (((Below.refl _ _).alloc (Nat.le_refl _) _).alloc (by simp <;> omega) _) (Nat.le_refl _))).mono ?_
  rintro e w1 ⟨⟨r1, rfl, hr1⟩, b1⟩
  have z1 : w.heap.size + 2 ≤ w1.heap.size := by have := b1.size; simp at this; omega
  have bxB := BoxN.made b1 (B := (w.heap.size + 1)) (by simp)
  have b1' := below_prev b1
  have bxA := BoxN.made b1' (B := w.heap.size) (by simp)
  have b1'' := below_prev b1'
  replace hA_Ladder := hA_Ladder.below b1'' (Nat.le_refl _)
  replace hB_Ladder := hB_Ladder.below b1'' (Nat.le_refl _)
  replace hb := hb.trans (b1''.mono hb.size)
  by_cases hn1 : r1 < 0
  · have g2 : decide (r1 < 0) = true := decide_eq_true hn1
    clear hr1
    go_wp2
    go_ret
    exact ⟨rfl, hb⟩
  have g1 : decide (r1 < 0) = false := decide_eq_false hn1
  have hle1 : r1 ≤ 1048576 := by omega
  have smA_Ladder : nA_Ladder ≤ 1048576 := by omega
  replace hn1 : 0 ≤ r1 := by omega
  clear hr1
  have cB_0 := bxB.2 0 _ rfl
  have cB_1 := bxB.2 1 _ rfl
  have cB_2 := bxB.2 2 _ rfl
  have cB_3 := bxB.2 3 _ rfl
  have cB_4 := bxB.2 4 _ rfl
  have cB_lt := bxB.1
  go_wp2_with fail
  refine (x_sz_Rules aB_Win aB_Draw aB_Loss vB_Ladder nB_Ladder gB_Ladder aB_Again (r1) _ (by omega) (by omega) hB_Ladder).mono ?_
  rintro e w2 ⟨⟨r2, rfl, hr2⟩, b2⟩
  clear cB_0 cB_1 cB_2 cB_3 cB_4 cB_lt
  have z2 : w1.heap.size ≤ w2.heap.size := b2.size
  replace hA_Ladder := hA_Ladder.below b2 (Nat.le_refl _)
  replace hB_Ladder := hB_Ladder.below b2 (Nat.le_refl _)
  replace hb := hb.trans (b2.mono hb.size)
  replace bxA := bxA.below b2
  replace bxB := bxB.below b2
  by_cases hn2 : r2 < 0
  · have g2 : decide (r2 < 0) = true := decide_eq_true hn2
    clear hr2
    go_wp2
    go_ret
    exact ⟨rfl, hb⟩
  have g2 : decide (r2 < 0) = false := decide_eq_false hn2
  have hle2 : r2 ≤ 1048576 := by omega
  have smB_Ladder : nB_Ladder ≤ 1048576 := by omega
  replace hn2 : 0 ≤ r2 := by omega
  clear hr2
  obtain ⟨S, HSd⟩ : ∃ S : World → Prop, S = fun w' => BoxN w' w.heap.size [.int .i64 aA_Win, .int .i64 aA_Draw, .int .i64 aA_Loss, vA_Ladder, .bool aA_Again] ∧ IntRow w' vA_Ladder nA_Ladder gA_Ladder ∧ BoxN w' (w.heap.size + 1) [.int .i64 aB_Win, .int .i64 aB_Draw, .int .i64 aB_Loss, vB_Ladder, .bool aB_Again] ∧ IntRow w' vB_Ladder nB_Ladder gB_Ladder ∧ Below w.heap.size w w' := ⟨_, rfl⟩
  have KS : Hid (∀ wa wb, S wa → Below wa.heap.size wa wb → S wb) := by subst HSd; exact fun wa wb ⟨bxA, hA_Ladder, bxB, hB_Ladder, hb⟩ b => ⟨bxA.below b, hA_Ladder.below b (Nat.le_refl _), bxB.below b, hB_Ladder.below b (Nat.le_refl _), hb.trans (b.mono hb.size)⟩
  have OS : Hid (∀ wa, S wa → BoxN wa w.heap.size [.int .i64 aA_Win, .int .i64 aA_Draw, .int .i64 aA_Loss, vA_Ladder, .bool aA_Again] ∧ IntRow wa vA_Ladder nA_Ladder gA_Ladder ∧ BoxN wa (w.heap.size + 1) [.int .i64 aB_Win, .int .i64 aB_Draw, .int .i64 aB_Loss, vB_Ladder, .bool aB_Again] ∧ IntRow wa vB_Ladder nB_Ladder gB_Ladder ∧ Below w.heap.size w wa) := by subst HSd; exact fun wa h => h
  have KS0 : Hid (S w2.drew) := by subst HSd; exact (fun b : Below w2.heap.size w2 w2.drew => ⟨bxA.below b, hA_Ladder.below b (Nat.le_refl _), bxB.below b, hB_Ladder.below b (Nat.le_refl _), hb.trans (b.mono hb.size)⟩) (Below.refl _ _).drew
  clear HSd
  go_wp2_with fail
  refine wp_region_held_drew (S := S) (by kernel_rfl) ?_ (fun hHeld => ?_)
  · exact KS0.out
  clear KS0 bxA hA_Ladder bxB hB_Ladder hb
  refine wpAnyH_take (i := 0) (v := ?_) rfl (by kernel_rfl) (by kernel_rfl) (by kernel_rfl) (fun _ _ _ h => h) (Or.inl ⟨by rfl, ?_⟩) (by assumption) ?_
  rotate_left
  · (intro wa hSw; obtain ⟨bxA, hA_Ladder, bxB, hB_Ladder, hb⟩ := OS.out _ hSw; have cA_0 := bxA.2 0 _ rfl; have cA_1 := bxA.2 1 _ rfl; have cA_2 := bxA.2 2 _ rfl; have cA_3 := bxA.2 3 _ rfl; have cA_4 := bxA.2 4 _ rfl; have cB_0 := bxB.2 0 _ rfl; have cB_1 := bxB.2 1 _ rfl; have cB_2 := bxB.2 2 _ rfl; have cB_3 := bxB.2 3 _ rfl; have cB_4 := bxB.2 4 _ rfl; go_simp; try with_reducible rfl)
  simp only [Act.put, List.getElem_toArray, List.getElem_cons_zero, List.setIfInBounds_toArray, List.set_cons_zero, List.set_cons_succ]
  refine wpAnyH_take (i := 2) (v := ?_) rfl (by kernel_rfl) (by kernel_rfl) (by kernel_rfl) (fun _ _ _ h => h) (Or.inl ⟨by rfl, ?_⟩) (by assumption) ?_
  rotate_left
  · (intro wa hSw; obtain ⟨bxA, hA_Ladder, bxB, hB_Ladder, hb⟩ := OS.out _ hSw; have cA_0 := bxA.2 0 _ rfl; have cA_1 := bxA.2 1 _ rfl; have cA_2 := bxA.2 2 _ rfl; have cA_3 := bxA.2 3 _ rfl; have cA_4 := bxA.2 4 _ rfl; have cB_0 := bxB.2 0 _ rfl; have cB_1 := bxB.2 1 _ rfl; have cB_2 := bxB.2 2 _ rfl; have cB_3 := bxB.2 3 _ rfl; have cB_4 := bxB.2 4 _ rfl; go_simp; try with_reducible rfl)
  simp only [Act.put, List.getElem_toArray, List.getElem_cons_zero, List.getElem_cons_succ, List.setIfInBounds_toArray, List.set_cons_zero, List.set_cons_succ]
  refine wpAnyH_ready (rs := [1]) (by kernel_rfl) (by simp) ?_
  refine AllReadyH.cons (o := _) rfl (fun K hK => ?_) AllReadyH.nil
  go_simp
  obtain ⟨bxA, hA_Ladder, bxB, hB_Ladder, hb⟩ := OS.out _ hHeld
  refine (x_to_Rules aA_Win aA_Draw aA_Loss vA_Ladder nA_Ladder gA_Ladder aA_Again _ hA_Ladder (by omega)).mono ?_
  rintro e w3 ⟨vA_Laddert1, rfl, hA_Laddert1, ⟨xA_Laddert1, oA_Laddert1⟩, b3⟩
  clear bxA hA_Ladder bxB hB_Ladder hb
  clear oA_Laddert1
  (try go_wp2_with fail)
  refine hK.out _ _ ?_ (fun hHeld3 => ?_)
  · exact KS.out _ _ hHeld b3
  clear hK K
  refine wpAnyH_ready (rs := [3]) (by kernel_rfl) (by simp) ?_
  refine AllReadyH.cons (o := _) rfl (fun K hK => ?_) AllReadyH.nil
  go_simp
  obtain ⟨bxA, hA_Ladder, bxB, hB_Ladder, hb⟩ := OS.out _ hHeld3
  refine (x_to_Rules aB_Win aB_Draw aB_Loss vB_Ladder nB_Ladder gB_Ladder aB_Again _ hB_Ladder (by omega)).mono ?_
  rintro e w4 ⟨vB_Laddert2, rfl, hB_Laddert2, ⟨xB_Laddert2, oB_Laddert2⟩, b4⟩
  clear bxA hA_Ladder bxB hB_Ladder hb
  replace hA_Laddert1 := hA_Laddert1.below b4 (Nat.le_refl _)
  clear oB_Laddert2
  (try go_wp2_with fail)
  refine hK.out _ _ ?_ (fun hHeld4 => ?_)
  · exact KS.out _ _ hHeld3 b4
  clear hK K
  clear hHeld3
  refine wpAnyH_ready (rs := [4]) (by kernel_rfl) (by simp) ?_
  refine AllReadyH.cons (o := _) rfl (fun K hK => ?_) AllReadyH.nil
  go_simp
  obtain ⟨bxA, hA_Ladder, bxB, hB_Ladder, hb⟩ := OS.out _ hHeld4
  refine (CS.out vA_Laddert1 vB_Laddert2 _ hA_Laddert1 hB_Laddert2).mono ?_
  rintro e w5 ⟨rfl, b5⟩
  clear bxA hA_Ladder bxB hB_Ladder hb
  replace hA_Laddert1 := hA_Laddert1.below b5 (Nat.le_refl _)
  replace hB_Laddert2 := hB_Laddert2.below b5 (Nat.le_refl _)
  (try go_wp2_with fail)
  refine hK.out _ _ ?_ (fun hHeld5 => ?_)
  · exact KS.out _ _ hHeld4 b5
  clear hK K
  clear hHeld4
  refine wpAnyH_take (i := 5) (v := ?_) rfl (by kernel_rfl) (by kernel_rfl) (by kernel_rfl) (fun _ _ _ h => h) (Or.inl ⟨by rfl, ?_⟩) (by assumption) ?_
  rotate_left
  · (intro wa hSw; obtain ⟨bxA, hA_Ladder, bxB, hB_Ladder, hb⟩ := OS.out _ hSw; have cA_0 := bxA.2 0 _ rfl; have cA_1 := bxA.2 1 _ rfl; have cA_2 := bxA.2 2 _ rfl; have cA_3 := bxA.2 3 _ rfl; have cA_4 := bxA.2 4 _ rfl; have cB_0 := bxB.2 0 _ rfl; have cB_1 := bxB.2 1 _ rfl; have cB_2 := bxB.2 2 _ rfl; have cB_3 := bxB.2 3 _ rfl; have cB_4 := bxB.2 4 _ rfl; go_simp; try with_reducible rfl)
  simp only [Act.put, List.getElem_toArray, List.getElem_cons_zero, List.getElem_cons_succ, List.setIfInBounds_toArray, List.set_cons_zero, List.set_cons_succ]
  refine wpAnyH_done (by kernel_rfl) ?_ _
  obtain ⟨bxA, hA_Ladder, bxB, hB_Ladder, hb⟩ := OS.out _ hHeld5
  clear KS OS hHeld hHeld5 hA_Laddert1 hB_Laddert2
  have cA_0 := bxA.2 0 _ rfl
  have cA_1 := bxA.2 1 _ rfl
  have cA_2 := bxA.2 2 _ rfl
  have cA_3 := bxA.2 3 _ rfl
  have cA_4 := bxA.2 4 _ rfl
  have cA_lt := bxA.1
  go_wp2_with fail
  refine (x_to_Rules aA_Win aA_Draw aA_Loss vA_Ladder nA_Ladder gA_Ladder aA_Again _ hA_Ladder (by omega)).mono ?_
  rintro e w6 ⟨vA_Ladderx, rfl, hA_Ladderx, ⟨xA_Ladderx, oA_Ladderx⟩, b6⟩
  obtain ⟨saA_Ladderx, scA_Ladderx, rfl, _⟩ := hA_Ladderx.form
  clear cA_0 cA_1 cA_2 cA_3 cA_4 cA_lt
  have z6 : w5.heap.size ≤ w6.heap.size := b6.size
  replace hA_Ladder := hA_Ladder.below b6 (Nat.le_refl _)
  replace hB_Ladder := hB_Ladder.below b6 (Nat.le_refl _)
  replace hb := hb.trans (b6.mono hb.size)
  replace bxA := bxA.below b6
  replace bxB := bxB.below b6
  replace oA_Ladderx := owns_mono oA_Ladderx (base' := w5.heap.size) (by simp <;> omega)
  have iA_Ladderx : InW w5.heap.size w6.heap.size (.slice saA_Ladderx nA_Ladder scA_Ladderx) := InW.of_owns oA_Ladderx
  have cB_0 := bxB.2 0 _ rfl
  have cB_1 := bxB.2 1 _ rfl
  have cB_2 := bxB.2 2 _ rfl
  have cB_3 := bxB.2 3 _ rfl
  have cB_4 := bxB.2 4 _ rfl
  have cB_lt := bxB.1
  go_wp2_with fail
  refine (x_to_Rules aB_Win aB_Draw aB_Loss vB_Ladder nB_Ladder gB_Ladder aB_Again _ (hB_Ladder.below ((Below.refl _ _).alloc (Nat.le_refl _) _) (Nat.le_refl _)) (by omega)).mono ?_
  rintro e w7 ⟨vB_Ladderx, rfl, hB_Ladderx, ⟨xB_Ladderx, oB_Ladderx⟩, b7⟩
  obtain ⟨saB_Ladderx, scB_Ladderx, rfl, _⟩ := hB_Ladderx.form
  clear cB_0 cB_1 cB_2 cB_3 cB_4 cB_lt
  have z7 : w6.heap.size + 1 ≤ w7.heap.size := by have := b7.size; simp at this; omega
  have bxAx := BoxN.made b7 (B := w6.heap.size) (by simp)
  have b7' := below_prev b7
  replace hA_Ladder := hA_Ladder.below b7' (Nat.le_refl _)
  replace hB_Ladder := hB_Ladder.below b7' (Nat.le_refl _)
  replace hb := hb.trans (b7'.mono hb.size)
  replace bxA := bxA.below b7'
  replace bxB := bxB.below b7'
  replace hA_Ladderx := hA_Ladderx.below b7' (Nat.le_refl _)
  replace oA_Ladderx := owns_below oA_Ladderx b7' (Nat.le_refl _)
  replace oB_Ladderx := owns_mono oB_Ladderx (base' := (w6.heap.size + 1)) (by simp <;> omega)
  have iB_Ladderx : InW (w6.heap.size + 1) w7.heap.size (.slice saB_Ladderx nB_Ladder scB_Ladderx) := InW.of_owns oB_Ladderx
  have cAx_0 := bxAx.2 0 _ rfl
  have cAx_1 := bxAx.2 1 _ rfl
  have cAx_2 := bxAx.2 2 _ rfl
  have cAx_3 := bxAx.2 3 _ rfl
  have cAx_4 := bxAx.2 4 _ rfl
  have cAx_lt := bxAx.1
  go_wp2_with fail
  refine (CI.out (.slice saA_Ladderx nA_Ladder scA_Ladderx) (.slice saB_Ladderx nB_Ladder scB_Ladderx) _ (hA_Ladderx.below ((Below.refl _ _).alloc (Nat.le_refl _) _) (Nat.le_refl _)) (hB_Ladderx.below ((Below.refl _ _).alloc (Nat.le_refl _) _) (Nat.le_refl _))).mono ?_
  rintro e w8 ⟨rfl, b8⟩
  clear cAx_0 cAx_1 cAx_2 cAx_3 cAx_4 cAx_lt
  have z8 : w7.heap.size + 1 ≤ w8.heap.size := by have := b8.size; simp at this; omega
  have bxBx := BoxN.made b8 (B := w7.heap.size) (by simp)
  have b8' := below_prev b8
  replace hA_Ladder := hA_Ladder.below b8' (Nat.le_refl _)
  replace hB_Ladder := hB_Ladder.below b8' (Nat.le_refl _)
  replace hb := hb.trans (b8'.mono hb.size)
  replace bxA := bxA.below b8'
  replace bxB := bxB.below b8'
  replace hA_Ladderx := hA_Ladderx.below b8' (Nat.le_refl _)
  replace oA_Ladderx := owns_below oA_Ladderx b8' (Nat.le_refl _)
  replace bxAx := bxAx.below b8'
  replace hB_Ladderx := hB_Ladderx.below b8' (Nat.le_refl _)
  replace oB_Ladderx := owns_below oB_Ladderx b8' (Nat.le_refl _)
  obtain ⟨S, HSd⟩ : ∃ S : World → Prop, S = fun w' => BoxN w' w.heap.size [.int .i64 aA_Win, .int .i64 aA_Draw, .int .i64 aA_Loss, vA_Ladder, .bool aA_Again] ∧ IntRow w' vA_Ladder nA_Ladder gA_Ladder ∧ BoxN w' (w.heap.size + 1) [.int .i64 aB_Win, .int .i64 aB_Draw, .int .i64 aB_Loss, vB_Ladder, .bool aB_Again] ∧ IntRow w' vB_Ladder nB_Ladder gB_Ladder ∧ BoxN w' w6.heap.size [.int .i64 aA_Win, .int .i64 aA_Draw, .int .i64 aA_Loss, (.slice saA_Ladderx nA_Ladder scA_Ladderx), .bool aA_Again] ∧ IntRow w' (.slice saA_Ladderx nA_Ladder scA_Ladderx) nA_Ladder gA_Ladder ∧ World.ownsRow w' w5.heap.size 3 1 (.slice saA_Ladderx nA_Ladder scA_Ladderx) nA_Ladder xA_Ladderx ∧ BoxN w' w7.heap.size [.int .i64 aB_Win, .int .i64 aB_Draw, .int .i64 aB_Loss, (.slice saB_Ladderx nB_Ladder scB_Ladderx), .bool aB_Again] ∧ IntRow w' (.slice saB_Ladderx nB_Ladder scB_Ladderx) nB_Ladder gB_Ladder ∧ World.ownsRow w' (w6.heap.size + 1) 3 1 (.slice saB_Ladderx nB_Ladder scB_Ladderx) nB_Ladder xB_Ladderx ∧ Below w.heap.size w w' := ⟨_, rfl⟩
  have KS : Hid (∀ wa wb, S wa → Below wa.heap.size wa wb → S wb) := by subst HSd; exact fun wa wb ⟨bxA, hA_Ladder, bxB, hB_Ladder, bxAx, hA_Ladderx, oA_Ladderx, bxBx, hB_Ladderx, oB_Ladderx, hb⟩ b => ⟨bxA.below b, hA_Ladder.below b (Nat.le_refl _), bxB.below b, hB_Ladder.below b (Nat.le_refl _), bxAx.below b, hA_Ladderx.below b (Nat.le_refl _), owns_below oA_Ladderx b (Nat.le_refl _), bxBx.below b, hB_Ladderx.below b (Nat.le_refl _), owns_below oB_Ladderx b (Nat.le_refl _), hb.trans (b.mono hb.size)⟩
  have OS : Hid (∀ wa, S wa → BoxN wa w.heap.size [.int .i64 aA_Win, .int .i64 aA_Draw, .int .i64 aA_Loss, vA_Ladder, .bool aA_Again] ∧ IntRow wa vA_Ladder nA_Ladder gA_Ladder ∧ BoxN wa (w.heap.size + 1) [.int .i64 aB_Win, .int .i64 aB_Draw, .int .i64 aB_Loss, vB_Ladder, .bool aB_Again] ∧ IntRow wa vB_Ladder nB_Ladder gB_Ladder ∧ BoxN wa w6.heap.size [.int .i64 aA_Win, .int .i64 aA_Draw, .int .i64 aA_Loss, (.slice saA_Ladderx nA_Ladder scA_Ladderx), .bool aA_Again] ∧ IntRow wa (.slice saA_Ladderx nA_Ladder scA_Ladderx) nA_Ladder gA_Ladder ∧ World.ownsRow wa w5.heap.size 3 1 (.slice saA_Ladderx nA_Ladder scA_Ladderx) nA_Ladder xA_Ladderx ∧ BoxN wa w7.heap.size [.int .i64 aB_Win, .int .i64 aB_Draw, .int .i64 aB_Loss, (.slice saB_Ladderx nB_Ladder scB_Ladderx), .bool aB_Again] ∧ IntRow wa (.slice saB_Ladderx nB_Ladder scB_Ladderx) nB_Ladder gB_Ladder ∧ World.ownsRow wa (w6.heap.size + 1) 3 1 (.slice saB_Ladderx nB_Ladder scB_Ladderx) nB_Ladder xB_Ladderx ∧ Below w.heap.size w wa) := by subst HSd; exact fun wa h => h
  have KS0 : Hid (S w8.drew) := by subst HSd; exact (fun b : Below w8.heap.size w8 w8.drew => ⟨bxA.below b, hA_Ladder.below b (Nat.le_refl _), bxB.below b, hB_Ladder.below b (Nat.le_refl _), bxAx.below b, hA_Ladderx.below b (Nat.le_refl _), owns_below oA_Ladderx b (Nat.le_refl _), bxBx.below b, hB_Ladderx.below b (Nat.le_refl _), owns_below oB_Ladderx b (Nat.le_refl _), hb.trans (b.mono hb.size)⟩) (Below.refl _ _).drew
  clear HSd
  go_wp2_with fail
  refine wp_region_held_drew (S := S) (by kernel_rfl) ?_ (fun hHeld => ?_)
  · exact KS0.out
  clear KS0 bxA hA_Ladder bxB hB_Ladder bxAx hA_Ladderx oA_Ladderx bxBx hB_Ladderx oB_Ladderx hb
  refine wpAnyH_take (i := 0) (v := ?_) rfl (by kernel_rfl) (by kernel_rfl) (by kernel_rfl) (fun _ _ _ h => h) (Or.inl ⟨by rfl, ?_⟩) (by assumption) ?_
  rotate_left
  · (intro wa hSw; obtain ⟨bxA, hA_Ladder, bxB, hB_Ladder, bxAx, hA_Ladderx, oA_Ladderx, bxBx, hB_Ladderx, oB_Ladderx, hb⟩ := OS.out _ hSw; have cAx_0 := bxAx.2 0 _ rfl; have cAx_1 := bxAx.2 1 _ rfl; have cAx_2 := bxAx.2 2 _ rfl; have cAx_3 := bxAx.2 3 _ rfl; have cAx_4 := bxAx.2 4 _ rfl; have cA_0 := bxA.2 0 _ rfl; have cA_1 := bxA.2 1 _ rfl; have cA_2 := bxA.2 2 _ rfl; have cA_3 := bxA.2 3 _ rfl; have cA_4 := bxA.2 4 _ rfl; go_simp; try with_reducible rfl)
  simp only [Act.put, List.getElem_toArray, List.getElem_cons_zero, List.setIfInBounds_toArray, List.set_cons_zero, List.set_cons_succ]
  refine wpAnyH_take (i := 1) (v := ?_) rfl (by kernel_rfl) (by kernel_rfl) (by kernel_rfl) (fun _ _ _ h => h) (Or.inl ⟨by rfl, ?_⟩) (by assumption) ?_
  rotate_left
  · (intro wa hSw; obtain ⟨bxA, hA_Ladder, bxB, hB_Ladder, bxAx, hA_Ladderx, oA_Ladderx, bxBx, hB_Ladderx, oB_Ladderx, hb⟩ := OS.out _ hSw; have cAx_0 := bxAx.2 0 _ rfl; have cAx_1 := bxAx.2 1 _ rfl; have cAx_2 := bxAx.2 2 _ rfl; have cAx_3 := bxAx.2 3 _ rfl; have cAx_4 := bxAx.2 4 _ rfl; have cA_0 := bxA.2 0 _ rfl; have cA_1 := bxA.2 1 _ rfl; have cA_2 := bxA.2 2 _ rfl; have cA_3 := bxA.2 3 _ rfl; have cA_4 := bxA.2 4 _ rfl; go_simp; try with_reducible rfl)
  simp only [Act.put, List.getElem_toArray, List.getElem_cons_zero, List.getElem_cons_succ, List.setIfInBounds_toArray, List.set_cons_zero, List.set_cons_succ]
  refine wpAnyH_ready (rs := [2]) (by kernel_rfl) (by simp) ?_
  refine AllReadyH.cons (o := _) rfl (fun K hK => ?_) AllReadyH.nil
  go_simp
  obtain ⟨bxA, hA_Ladder, bxB, hB_Ladder, bxAx, hA_Ladderx, oA_Ladderx, bxBx, hB_Ladderx, oB_Ladderx, hb⟩ := OS.out _ hHeld
  refine (x_to_Rules aA_Win aA_Draw aA_Loss vA_Ladder nA_Ladder gA_Ladder aA_Again _ hA_Ladder (by omega)).mono ?_
  rintro e w9 ⟨vA_Laddert3, rfl, hA_Laddert3, ⟨xA_Laddert3, oA_Laddert3⟩, b9⟩
  clear bxA hA_Ladder bxB hB_Ladder bxAx hA_Ladderx oA_Ladderx bxBx hB_Ladderx oB_Ladderx hb
  clear oA_Laddert3
  (try go_wp2_with fail)
  refine hK.out _ _ ?_ (fun hHeld9 => ?_)
  · exact KS.out _ _ hHeld b9
  clear hK K
  refine wpAnyH_ready (rs := [3]) (by kernel_rfl) (by simp) ?_
  refine AllReadyH.cons (o := _) rfl (fun K hK => ?_) AllReadyH.nil
  go_simp
  obtain ⟨bxA, hA_Ladder, bxB, hB_Ladder, bxAx, hA_Ladderx, oA_Ladderx, bxBx, hB_Ladderx, oB_Ladderx, hb⟩ := OS.out _ hHeld9
  refine (x_eq_Rules aA_Win aA_Draw aA_Loss (.slice saA_Ladderx nA_Ladder scA_Ladderx) nA_Ladder gA_Ladder aA_Again vA_Laddert3 _ hA_Ladderx hA_Laddert3).mono ?_
  rintro e w10 ⟨rfl, b10⟩
  clear bxA hA_Ladder bxB hB_Ladder bxAx hA_Ladderx oA_Ladderx bxBx hB_Ladderx oB_Ladderx hb
  replace hA_Laddert3 := hA_Laddert3.below b10 (Nat.le_refl _)
  (try go_wp2_with fail)
  refine hK.out _ _ ?_ (fun hHeld10 => ?_)
  · exact KS.out _ _ hHeld9 b10
  clear hK K
  clear hHeld9
  refine wpAnyH_take (i := 4) (v := ?_) rfl (by kernel_rfl) (by kernel_rfl) (by kernel_rfl) (fun _ _ _ h => h) (Or.inl ⟨by rfl, ?_⟩) (by assumption) ?_
  rotate_left
  · (intro wa hSw; obtain ⟨bxA, hA_Ladder, bxB, hB_Ladder, bxAx, hA_Ladderx, oA_Ladderx, bxBx, hB_Ladderx, oB_Ladderx, hb⟩ := OS.out _ hSw; have cAx_0 := bxAx.2 0 _ rfl; have cAx_1 := bxAx.2 1 _ rfl; have cAx_2 := bxAx.2 2 _ rfl; have cAx_3 := bxAx.2 3 _ rfl; have cAx_4 := bxAx.2 4 _ rfl; have cA_0 := bxA.2 0 _ rfl; have cA_1 := bxA.2 1 _ rfl; have cA_2 := bxA.2 2 _ rfl; have cA_3 := bxA.2 3 _ rfl; have cA_4 := bxA.2 4 _ rfl; go_simp; try with_reducible rfl)
  simp only [Act.put, List.getElem_toArray, List.getElem_cons_zero, List.getElem_cons_succ, List.setIfInBounds_toArray, List.set_cons_zero, List.set_cons_succ]
  refine wpAnyH_done (by kernel_rfl) ?_ _
  obtain ⟨bxA, hA_Ladder, bxB, hB_Ladder, bxAx, hA_Ladderx, oA_Ladderx, bxBx, hB_Ladderx, oB_Ladderx, hb⟩ := OS.out _ hHeld10
  clear KS OS hHeld hHeld10 hA_Laddert3
  obtain ⟨S, HSd⟩ : ∃ S : World → Prop, S = fun w' => BoxN w' w.heap.size [.int .i64 aA_Win, .int .i64 aA_Draw, .int .i64 aA_Loss, vA_Ladder, .bool aA_Again] ∧ IntRow w' vA_Ladder nA_Ladder gA_Ladder ∧ BoxN w' (w.heap.size + 1) [.int .i64 aB_Win, .int .i64 aB_Draw, .int .i64 aB_Loss, vB_Ladder, .bool aB_Again] ∧ IntRow w' vB_Ladder nB_Ladder gB_Ladder ∧ BoxN w' w6.heap.size [.int .i64 aA_Win, .int .i64 aA_Draw, .int .i64 aA_Loss, (.slice saA_Ladderx nA_Ladder scA_Ladderx), .bool aA_Again] ∧ IntRow w' (.slice saA_Ladderx nA_Ladder scA_Ladderx) nA_Ladder gA_Ladder ∧ World.ownsRow w' w5.heap.size 3 1 (.slice saA_Ladderx nA_Ladder scA_Ladderx) nA_Ladder xA_Ladderx ∧ BoxN w' w7.heap.size [.int .i64 aB_Win, .int .i64 aB_Draw, .int .i64 aB_Loss, (.slice saB_Ladderx nB_Ladder scB_Ladderx), .bool aB_Again] ∧ IntRow w' (.slice saB_Ladderx nB_Ladder scB_Ladderx) nB_Ladder gB_Ladder ∧ World.ownsRow w' (w6.heap.size + 1) 3 1 (.slice saB_Ladderx nB_Ladder scB_Ladderx) nB_Ladder xB_Ladderx ∧ Below w.heap.size w w' := ⟨_, rfl⟩
  have KS : Hid (∀ wa wb, S wa → Below wa.heap.size wa wb → S wb) := by subst HSd; exact fun wa wb ⟨bxA, hA_Ladder, bxB, hB_Ladder, bxAx, hA_Ladderx, oA_Ladderx, bxBx, hB_Ladderx, oB_Ladderx, hb⟩ b => ⟨bxA.below b, hA_Ladder.below b (Nat.le_refl _), bxB.below b, hB_Ladder.below b (Nat.le_refl _), bxAx.below b, hA_Ladderx.below b (Nat.le_refl _), owns_below oA_Ladderx b (Nat.le_refl _), bxBx.below b, hB_Ladderx.below b (Nat.le_refl _), owns_below oB_Ladderx b (Nat.le_refl _), hb.trans (b.mono hb.size)⟩
  have OS : Hid (∀ wa, S wa → BoxN wa w.heap.size [.int .i64 aA_Win, .int .i64 aA_Draw, .int .i64 aA_Loss, vA_Ladder, .bool aA_Again] ∧ IntRow wa vA_Ladder nA_Ladder gA_Ladder ∧ BoxN wa (w.heap.size + 1) [.int .i64 aB_Win, .int .i64 aB_Draw, .int .i64 aB_Loss, vB_Ladder, .bool aB_Again] ∧ IntRow wa vB_Ladder nB_Ladder gB_Ladder ∧ BoxN wa w6.heap.size [.int .i64 aA_Win, .int .i64 aA_Draw, .int .i64 aA_Loss, (.slice saA_Ladderx nA_Ladder scA_Ladderx), .bool aA_Again] ∧ IntRow wa (.slice saA_Ladderx nA_Ladder scA_Ladderx) nA_Ladder gA_Ladder ∧ World.ownsRow wa w5.heap.size 3 1 (.slice saA_Ladderx nA_Ladder scA_Ladderx) nA_Ladder xA_Ladderx ∧ BoxN wa w7.heap.size [.int .i64 aB_Win, .int .i64 aB_Draw, .int .i64 aB_Loss, (.slice saB_Ladderx nB_Ladder scB_Ladderx), .bool aB_Again] ∧ IntRow wa (.slice saB_Ladderx nB_Ladder scB_Ladderx) nB_Ladder gB_Ladder ∧ World.ownsRow wa (w6.heap.size + 1) 3 1 (.slice saB_Ladderx nB_Ladder scB_Ladderx) nB_Ladder xB_Ladderx ∧ Below w.heap.size w wa) := by subst HSd; exact fun wa h => h
  have KS0 : Hid (S w10.drew) := by subst HSd; exact (fun b : Below w10.heap.size w10 w10.drew => ⟨bxA.below b, hA_Ladder.below b (Nat.le_refl _), bxB.below b, hB_Ladder.below b (Nat.le_refl _), bxAx.below b, hA_Ladderx.below b (Nat.le_refl _), owns_below oA_Ladderx b (Nat.le_refl _), bxBx.below b, hB_Ladderx.below b (Nat.le_refl _), owns_below oB_Ladderx b (Nat.le_refl _), hb.trans (b.mono hb.size)⟩) (Below.refl _ _).drew
  clear HSd
  go_wp2_with fail
  refine wp_region_held_drew (S := S) (by kernel_rfl) ?_ (fun hHeld => ?_)
  · exact KS0.out
  clear KS0 bxA hA_Ladder bxB hB_Ladder bxAx hA_Ladderx oA_Ladderx bxBx hB_Ladderx oB_Ladderx hb
  refine wpAnyH_take (i := 0) (v := ?_) rfl (by kernel_rfl) (by kernel_rfl) (by kernel_rfl) (fun _ _ _ h => h) (Or.inl ⟨by rfl, ?_⟩) (by assumption) ?_
  rotate_left
  · (intro wa hSw; obtain ⟨bxA, hA_Ladder, bxB, hB_Ladder, bxAx, hA_Ladderx, oA_Ladderx, bxBx, hB_Ladderx, oB_Ladderx, hb⟩ := OS.out _ hSw; have cBx_0 := bxBx.2 0 _ rfl; have cBx_1 := bxBx.2 1 _ rfl; have cBx_2 := bxBx.2 2 _ rfl; have cBx_3 := bxBx.2 3 _ rfl; have cBx_4 := bxBx.2 4 _ rfl; have cB_0 := bxB.2 0 _ rfl; have cB_1 := bxB.2 1 _ rfl; have cB_2 := bxB.2 2 _ rfl; have cB_3 := bxB.2 3 _ rfl; have cB_4 := bxB.2 4 _ rfl; go_simp; try with_reducible rfl)
  simp only [Act.put, List.getElem_toArray, List.getElem_cons_zero, List.setIfInBounds_toArray, List.set_cons_zero, List.set_cons_succ]
  refine wpAnyH_take (i := 1) (v := ?_) rfl (by kernel_rfl) (by kernel_rfl) (by kernel_rfl) (fun _ _ _ h => h) (Or.inl ⟨by rfl, ?_⟩) (by assumption) ?_
  rotate_left
  · (intro wa hSw; obtain ⟨bxA, hA_Ladder, bxB, hB_Ladder, bxAx, hA_Ladderx, oA_Ladderx, bxBx, hB_Ladderx, oB_Ladderx, hb⟩ := OS.out _ hSw; have cBx_0 := bxBx.2 0 _ rfl; have cBx_1 := bxBx.2 1 _ rfl; have cBx_2 := bxBx.2 2 _ rfl; have cBx_3 := bxBx.2 3 _ rfl; have cBx_4 := bxBx.2 4 _ rfl; have cB_0 := bxB.2 0 _ rfl; have cB_1 := bxB.2 1 _ rfl; have cB_2 := bxB.2 2 _ rfl; have cB_3 := bxB.2 3 _ rfl; have cB_4 := bxB.2 4 _ rfl; go_simp; try with_reducible rfl)
  simp only [Act.put, List.getElem_toArray, List.getElem_cons_zero, List.getElem_cons_succ, List.setIfInBounds_toArray, List.set_cons_zero, List.set_cons_succ]
  refine wpAnyH_ready (rs := [2]) (by kernel_rfl) (by simp) ?_
  refine AllReadyH.cons (o := _) rfl (fun K hK => ?_) AllReadyH.nil
  go_simp
  obtain ⟨bxA, hA_Ladder, bxB, hB_Ladder, bxAx, hA_Ladderx, oA_Ladderx, bxBx, hB_Ladderx, oB_Ladderx, hb⟩ := OS.out _ hHeld
  refine (x_to_Rules aB_Win aB_Draw aB_Loss vB_Ladder nB_Ladder gB_Ladder aB_Again _ hB_Ladder (by omega)).mono ?_
  rintro e w11 ⟨vB_Laddert4, rfl, hB_Laddert4, ⟨xB_Laddert4, oB_Laddert4⟩, b11⟩
  clear bxA hA_Ladder bxB hB_Ladder bxAx hA_Ladderx oA_Ladderx bxBx hB_Ladderx oB_Ladderx hb
  clear oB_Laddert4
  (try go_wp2_with fail)
  refine hK.out _ _ ?_ (fun hHeld11 => ?_)
  · exact KS.out _ _ hHeld b11
  clear hK K
  refine wpAnyH_ready (rs := [3]) (by kernel_rfl) (by simp) ?_
  refine AllReadyH.cons (o := _) rfl (fun K hK => ?_) AllReadyH.nil
  go_simp
  obtain ⟨bxA, hA_Ladder, bxB, hB_Ladder, bxAx, hA_Ladderx, oA_Ladderx, bxBx, hB_Ladderx, oB_Ladderx, hb⟩ := OS.out _ hHeld11
  refine (x_eq_Rules aB_Win aB_Draw aB_Loss (.slice saB_Ladderx nB_Ladder scB_Ladderx) nB_Ladder gB_Ladder aB_Again vB_Laddert4 _ hB_Ladderx hB_Laddert4).mono ?_
  rintro e w12 ⟨rfl, b12⟩
  clear bxA hA_Ladder bxB hB_Ladder bxAx hA_Ladderx oA_Ladderx bxBx hB_Ladderx oB_Ladderx hb
  replace hB_Laddert4 := hB_Laddert4.below b12 (Nat.le_refl _)
  (try go_wp2_with fail)
  refine hK.out _ _ ?_ (fun hHeld12 => ?_)
  · exact KS.out _ _ hHeld11 b12
  clear hK K
  clear hHeld11
  refine wpAnyH_take (i := 4) (v := ?_) rfl (by kernel_rfl) (by kernel_rfl) (by kernel_rfl) (fun _ _ _ h => h) (Or.inl ⟨by rfl, ?_⟩) (by assumption) ?_
  rotate_left
  · (intro wa hSw; obtain ⟨bxA, hA_Ladder, bxB, hB_Ladder, bxAx, hA_Ladderx, oA_Ladderx, bxBx, hB_Ladderx, oB_Ladderx, hb⟩ := OS.out _ hSw; have cBx_0 := bxBx.2 0 _ rfl; have cBx_1 := bxBx.2 1 _ rfl; have cBx_2 := bxBx.2 2 _ rfl; have cBx_3 := bxBx.2 3 _ rfl; have cBx_4 := bxBx.2 4 _ rfl; have cB_0 := bxB.2 0 _ rfl; have cB_1 := bxB.2 1 _ rfl; have cB_2 := bxB.2 2 _ rfl; have cB_3 := bxB.2 3 _ rfl; have cB_4 := bxB.2 4 _ rfl; go_simp; try with_reducible rfl)
  simp only [Act.put, List.getElem_toArray, List.getElem_cons_zero, List.getElem_cons_succ, List.setIfInBounds_toArray, List.set_cons_zero, List.set_cons_succ]
  refine wpAnyH_done (by kernel_rfl) ?_ _
  obtain ⟨bxA, hA_Ladder, bxB, hB_Ladder, bxAx, hA_Ladderx, oA_Ladderx, bxBx, hB_Ladderx, oB_Ladderx, hb⟩ := OS.out _ hHeld12
  clear KS OS hHeld hHeld12 hB_Laddert4
  go_wp2
  go_ret
  exact ⟨rfl, hb⟩
set_option maxRecDepth 100000 in
theorem lifted (os : Os) (started : os.Started) (H : Type) (enc : TypeId × Value → H) :
    ReturnsInHanded {} Try.checked os 11 .any (Rows.fnExactSameRulesSpec.pre6 enc Try.prog Try.f11 Rows.fnExactSameRulesRow.domain false) (Rows.fnExactSameRulesSpec.post enc Try.prog Try.f11 false true false false) := by
  refine returnsInHanded_of_change (C := Try.checked) own started (by kernel_rfl) Try.func11
    (ChangeSpec.witness6 (enc := enc) (C := Try.checked) false ⟨#[], #[.agg #[.int .i64 0, .int .i64 0, .int .i64 0, .slice none 0 0, .bool false], .agg #[.int .i64 0, .int .i64 0, .int .i64 0, .slice none 0 0, .bool false]], []⟩ 8 (by kernel_rfl) (by kernel_rfl) (by kernel_rfl) (by kernel_rfl)) ?_
  intro W base args ds gs before hval0 hW hcnd _
  have hval : ∀ (j : Nat) t v, Try.f11.params[j]? = some t → args[j]? = some v → Value.okWide Try.prog W .any base t v := hval0
  have hW' := hW
  obtain ⟨p, q, hA0, hV, rfl, hfz, hnd⟩ := hW
  have hA : DataW.TrodAll enc Try.prog W 0 (fun _ => true) true Try.f11.params.toList args.toList ds p := hA0
  rw [Try.params11] at hA hval
  obtain ⟨v0, vs0, d0, ds0, p0, q0, hargs, rfl, rfl, h0, r0⟩ := trodAll_cons hA
  obtain ⟨v1, vs1, d1, ds1, p1, q1, rfl, rfl, rfl, h1, r1⟩ := trodAll_cons r0
  obtain ⟨rfl, rfl, rfl⟩ := trodAll_nil r1
  obtain rfl : args = #[v0, v1] := by cases args; simp_all
  obtain ⟨rfl, rfl⟩ := trodVars_none hV
  have k0 := h0
  have lt0 : ∀ x ∈ p0, x.block < W.heap.size := by obtain ⟨m, hm⟩ := k0; exact DataW.trod_lt m _ _ _ hm
  obtain ⟨u0_0, u0_1, u0_2, u0_3, u0_4, y0_0, y0_1, y0_2, y0_3, y0_4, m0, rfl, rfl, rfl, t0_0, t0_1, t0_2, t0_3, t0_4⟩ := open_ag5 Try.underlying36 (by kernel_rfl) (by kernel_rfl) (hval 0 36 v0 rfl rfl) h0
  obtain ⟨a0_0, e0_0, _, w0_0⟩ := DataW.trod_int Try.underlying3 t0_0
  simp only [List.cons.injEq, and_true] at e0_0
  subst e0_0
  obtain ⟨a0_1, e0_1, _, w0_1⟩ := DataW.trod_int Try.underlying3 t0_1
  simp only [List.cons.injEq, and_true] at e0_1
  subst e0_1
  obtain ⟨a0_2, e0_2, _, w0_2⟩ := DataW.trod_int Try.underlying3 t0_2
  simp only [List.cons.injEq, and_true] at e0_2
  subst e0_2
  obtain ⟨n0_3, g0_3, w0_3, f0_3, _⟩ := open_introw' Try.underlying23 Try.underlying3 (by kernel_rfl) ⟨_, _, t0_3⟩
  obtain ⟨a0_4, e0_4, _⟩ := DataW.trod_bool Try.underlying4 t0_4
  simp only [List.cons.injEq, and_true] at e0_4
  subst e0_4
  have k1 := h1
  have lt1 : ∀ x ∈ p1, x.block < W.heap.size := by obtain ⟨m, hm⟩ := k1; exact DataW.trod_lt m _ _ _ hm
  obtain ⟨u1_0, u1_1, u1_2, u1_3, u1_4, y1_0, y1_1, y1_2, y1_3, y1_4, m1, rfl, rfl, rfl, t1_0, t1_1, t1_2, t1_3, t1_4⟩ := open_ag5 Try.underlying36 (by kernel_rfl) (by kernel_rfl) (hval 1 36 v1 rfl rfl) h1
  obtain ⟨a1_0, e1_0, _, w1_0⟩ := DataW.trod_int Try.underlying3 t1_0
  simp only [List.cons.injEq, and_true] at e1_0
  subst e1_0
  obtain ⟨a1_1, e1_1, _, w1_1⟩ := DataW.trod_int Try.underlying3 t1_1
  simp only [List.cons.injEq, and_true] at e1_1
  subst e1_1
  obtain ⟨a1_2, e1_2, _, w1_2⟩ := DataW.trod_int Try.underlying3 t1_2
  simp only [List.cons.injEq, and_true] at e1_2
  subst e1_2
  obtain ⟨n1_3, g1_3, w1_3, f1_3, _⟩ := open_introw' Try.underlying23 Try.underlying3 (by kernel_rfl) ⟨_, _, t1_3⟩
  obtain ⟨a1_4, e1_4, _⟩ := DataW.trod_bool Try.underlying4 t1_4
  simp only [List.cons.injEq, and_true] at e1_4
  subst e1_4
  clear hA0 hval0
  simp only [List.append_nil] at hW'
  refine (walk a0_0 a0_1 a0_2 u0_3 n0_3 g0_3 a0_4 a1_0 a1_1 a1_2 u1_3 n1_3 g1_3 a1_4 W (intFit_of w0_0) (intFit_of w0_1) (intFit_of w0_2) w0_3 f0_3 (intFit_of w1_0) (intFit_of w1_1) (intFit_of w1_2) w1_3 f1_3).mono fun e W' ⟨he, bel⟩ => ?_
  subst he
  exact ⟨_, rfl, _, _, _, [], _, [], hW', trodAll_mk1 (shut_bool Try.underlying4 _), (trodAll_cons_mk (Below.trod laidOut (by kernel_rfl) (of_decide_eq_true (by kernel_rfl)) k0 bel lt0) (trodAll_cons_mk (Below.trod laidOut (by kernel_rfl) (of_decide_eq_true (by kernel_rfl)) k1 bel lt1) trodAll_mk0)), rfl, bel.frame _, fun h => by cases h⟩

theorem over : Rows.fnExactSameRulesRow.holds Try.pinned (OpenSpec.ofChange Rows.fnExactSameRulesSpec) :=
  OpenClaim.holds_of_wide 11 Try.f11 rfl rfl rfl rfl rfl rfl rfl ⟨rfl, rfl, rfl, rfl, rfl⟩ rfl rfl rfl rfl rfl (by kernel_rfl) Try.func11 (by kernel_rfl)
    (of_decide_eq_true (by kernel_rfl)) (by unfold Func.isWrapper; first | (rw [if_pos (by decide +kernel)]; kernel_rfl) | (rw [if_neg (by decide +kernel)]; exact ⟨rfl, rfl⟩))
    (fun os started H enc _ => lifted os started H enc)

theorem proved : Rows.FnExactSameRulesSaid := over
end Go.Proofs.Ytcfolfjpimolaaa.fnExactSameRules
