/-
  The law FnExactTableOf holds for every argument: the program answers as the model does.
-/
import Derived.Test.YtoingkchjiipgaaRows
import Derived.WalkKit
import Derived.ProofKit
import Derived.OpenShut
import Derived.ShutString
import Derived.ChangeOld
import Derived.Below
import Derived.Lib.Hide
import Derived.Test.YtoingkchjiipgaaLawKit
import Derived.Test.YtoingkchjiipgaaOpenAgg
import Derived.Deep.RegionHeld3
import Derived.Test.YtoingkchjiipgaaTables4
import Derived.Test.YtoingkchjiipgaaTablesImpl
import Derived.Test.YtoingkchjiipgaaTypeGame
import Derived.Test.YtoingkchjiipgaaTypeRow
import Derived.Test.YtoingkchjiipgaaTypeRules
namespace Go.Proofs.Ytoingkchjiipgaa.fnExactTableOf
open Go.ChangeShapes Go.WideShapes Go.ChangeAt Go.RowKit
open Go.ChangeMaps (open_string shut_string)
set_option linter.unusedVariables false

theorem own : ownKnob Try.prog.godebug = none := by kernel_rfl
theorem laidOut : laidOutB Try.prog = true := by kernel_rfl

set_option maxHeartbeats 2000000 in
set_option maxRecDepth 100000 in
theorem walk (aU_Win : Int) (aU_Draw : Int) (aU_Loss : Int) (vU_Ladder : Value) (nU_Ladder : Nat) (gU_Ladder : Nat → Int) (aU_Again : Bool) (aN : Int) (vGames : Value) (nGames : Nat) (gGames : Nat → GameD) (w : World) (fU_Win : IntFit aU_Win) (fU_Draw : IntFit aU_Draw) (fU_Loss : IntFit aU_Loss) (hU_Ladder : IntRow w vU_Ladder nU_Ladder gU_Ladder) (fU_Ladder : ∀ i, IntFit (gU_Ladder i)) (fN : IntFit aN) (hGames : GameRow w vGames nGames gGames) (fGames : ∀ i, (gGames i).fit) :
    Calls Try.prog 4 #[.agg #[.int .i64 aU_Win, .int .i64 aU_Draw, .int .i64 aU_Loss, vU_Ladder, .bool aU_Again], .int .i64 aN, vGames] w fun e w' => e = .returned (.bool true) ∧ Below w.heap.size w w' := by
  obtain ⟨nr0, gr0, nb0, CS, CI⟩ : ∃ (nr0 : Nat) (gr0 : Nat → RowD), (nr0 ≤ 1000000) ∧ Hid (∀ (vU_Ladder : Value) (vGames : Value) (w1 : World), IntRow w1 vU_Ladder nU_Ladder gU_Ladder → GameRow w1 vGames nGames gGames → Calls Try.prog 22 #[.agg #[.int .i64 aU_Win, .int .i64 aU_Draw, .int .i64 aU_Loss, vU_Ladder, .bool aU_Again], .int .i64 aN, vGames] w1 fun e w' => ∃ vr0s, e = .returned (vr0s) ∧ RowRow w' vr0s nr0 gr0 ∧ (∃ xs, w'.ownsRow w1.heap.size 39 7 vr0s nr0 xs) ∧ Below w1.heap.size w1 w') ∧ Hid (∀ (vU_Ladder : Value) (vGames : Value) (w1 : World), IntRow w1 vU_Ladder nU_Ladder gU_Ladder → GameRow w1 vGames nGames gGames → Calls Try.prog 12 #[.agg #[.int .i64 aU_Win, .int .i64 aU_Draw, .int .i64 aU_Loss, vU_Ladder, .bool aU_Again], .int .i64 aN, vGames] w1 fun e w' => ∃ vr0i, e = .returned (vr0i) ∧ RowRow w' vr0i nr0 gr0 ∧ (∃ xs, w'.ownsRow w1.heap.size 39 7 vr0i nr0 xs) ∧ Below w1.heap.size w1 w') := by
    obtain ⟨R, hR⟩ := boolEx (tabP aU_Win aU_Draw aU_Loss nU_Ladder gU_Ladder aN nGames gGames)
    have hb : (if R = true then aN.toNat else 0) ≤ 8 := by
      split
      · rename_i h; have := (hR.1 h).2.1; omega
      · omega
    exact ⟨if R = true then aN.toNat else 0, tabR aU_Win aU_Draw aU_Loss (selG true (fun _ => 0) 0) gGames nGames, by omega, fun lv v w1 hl h => tableOf_spec aU_Win aU_Draw aU_Loss lv nU_Ladder gU_Ladder aU_Again aN v nGames gGames R w1 hR hl h, fun lv v w1 hl h => tableOf_impl aU_Win aU_Draw aU_Loss lv nU_Ladder gU_Ladder aU_Again aN v nGames gGames R w1 hR hl h⟩
  have hb : Below w.heap.size w w := Below.refl _ _
  have iU_Ladder : 0 < nU_Ladder → InW 0 w.heap.size vU_Ladder := fun h0 => InW.nat hU_Ladder h0 (Nat.le_refl _)
  have iGames : 0 < nGames → InW 0 w.heap.size vGames := fun h0 => InW.gameRow hGames h0 (Nat.le_refl _)
  go_enter Try.func4, Try.ntmps4
  go_wp2_with fail
  refine (x_sz_Rules aU_Win aU_Draw aU_Loss vU_Ladder nU_Ladder gU_Ladder aU_Again (1048576) _ (by omega) (by omega) (hU_Ladder.below ((Below.refl _ _).alloc (Nat.le_refl _) _) (Nat.le_refl _))).mono ?_
  rintro e w1 ⟨⟨r1, rfl, hr1⟩, b1⟩
  have z1 : w.heap.size + 1 ≤ w1.heap.size := by have := b1.size; simp at this; omega
  have bxU := BoxN.made b1 (B := w.heap.size) (by simp)
  have b1' := below_prev b1
  replace hU_Ladder := hU_Ladder.below b1' (Nat.le_refl _)
  replace hGames := hGames.below b1' (Nat.le_refl _)
  replace hb := hb.trans (b1'.mono hb.size)
  by_cases hn1 : r1 < 0
  · have g2 : decide (r1 < 0) = true := decide_eq_true hn1
    clear hr1
    go_wp2
    go_ret
    exact ⟨rfl, hb⟩
  have g1 : decide (r1 < 0) = false := decide_eq_false hn1
  have hle1 : r1 ≤ 1048576 := by omega
  have smU_Ladder : nU_Ladder ≤ 1048576 := by omega
  replace hn1 : 0 ≤ r1 := by omega
  clear hr1
  go_wp2_with fail
  refine (x_sz_GameS vGames nGames gGames (r1) _ (by omega) (by omega) hGames).mono ?_
  rintro e w2 ⟨⟨r2, rfl, hr2⟩, b2⟩
  have z2 : w1.heap.size ≤ w2.heap.size := b2.size
  replace hU_Ladder := hU_Ladder.below b2 (Nat.le_refl _)
  replace hGames := hGames.below b2 (Nat.le_refl _)
  replace hb := hb.trans (b2.mono hb.size)
  replace bxU := bxU.below b2
  by_cases hn2 : r2 < 0
  · have g2 : decide (r2 < 0) = true := decide_eq_true hn2
    clear hr2
    go_wp2
    go_ret
    exact ⟨rfl, hb⟩
  have g2 : decide (r2 < 0) = false := decide_eq_false hn2
  have hle2 : r2 ≤ 1048576 := by omega
  have smGames : nGames ≤ 1048576 := by omega
  replace hn2 : 0 ≤ r2 := by omega
  clear hr2
  have cU_0 := bxU.2 0 _ rfl
  have cU_1 := bxU.2 1 _ rfl
  have cU_2 := bxU.2 2 _ rfl
  have cU_3 := bxU.2 3 _ rfl
  have cU_4 := bxU.2 4 _ rfl
  have cU_lt := bxU.1
  go_wp2_with fail
  refine (x_to_Rules aU_Win aU_Draw aU_Loss vU_Ladder nU_Ladder gU_Ladder aU_Again _ hU_Ladder (by omega)).mono ?_
  rintro e w3 ⟨vU_Laddert1, rfl, hU_Laddert1, ⟨xU_Laddert1, oU_Laddert1⟩, b3⟩
  obtain ⟨saU_Laddert1, scU_Laddert1, rfl, _⟩ := hU_Laddert1.form
  clear cU_0 cU_1 cU_2 cU_3 cU_4 cU_lt
  have z3 : w2.heap.size ≤ w3.heap.size := b3.size
  replace hU_Ladder := hU_Ladder.below b3 (Nat.le_refl _)
  replace hGames := hGames.below b3 (Nat.le_refl _)
  replace hb := hb.trans (b3.mono hb.size)
  replace bxU := bxU.below b3
  replace oU_Laddert1 := owns_mono oU_Laddert1 (base' := w2.heap.size) (by simp <;> omega)
  have iU_Laddert1 : InW w2.heap.size w3.heap.size (.slice saU_Laddert1 nU_Ladder scU_Laddert1) := InW.of_owns oU_Laddert1
  go_wp2_with fail
  refine (x_to_GameS vGames nGames gGames _ hGames (by omega)).mono ?_
  rintro e w4 ⟨vGamest2, rfl, hGamest2, ⟨xGamest2, oGamest2⟩, b4⟩
  have z4 : w3.heap.size ≤ w4.heap.size := b4.size
  replace hU_Ladder := hU_Ladder.below b4 (Nat.le_refl _)
  replace hGames := hGames.below b4 (Nat.le_refl _)
  replace hb := hb.trans (b4.mono hb.size)
  replace bxU := bxU.below b4
  replace hU_Laddert1 := hU_Laddert1.below b4 (Nat.le_refl _)
  replace oU_Laddert1 := owns_below oU_Laddert1 b4 (Nat.le_refl _)
  replace oGamest2 := owns_mono oGamest2 (base' := w3.heap.size) (by simp <;> omega)
  have iGamest2 : InW w3.heap.size w4.heap.size vGamest2 := InW.of_owns oGamest2
  go_wp2_with fail
  refine (CS.out (.slice saU_Laddert1 nU_Ladder scU_Laddert1) vGamest2 _ hU_Laddert1 hGamest2).mono ?_
  rintro e w5 ⟨vr0s, rfl, hr0s, ⟨xr0s, or0s⟩, b5⟩
  have z5 : w4.heap.size ≤ w5.heap.size := b5.size
  replace hU_Ladder := hU_Ladder.below b5 (Nat.le_refl _)
  replace hGames := hGames.below b5 (Nat.le_refl _)
  replace hb := hb.trans (b5.mono hb.size)
  replace bxU := bxU.below b5
  replace hU_Laddert1 := hU_Laddert1.below b5 (Nat.le_refl _)
  replace oU_Laddert1 := owns_below oU_Laddert1 b5 (Nat.le_refl _)
  replace hGamest2 := hGamest2.below b5 (Nat.le_refl _)
  replace oGamest2 := owns_below oGamest2 b5 (Nat.le_refl _)
  replace or0s := owns_mono or0s (base' := w4.heap.size) (by simp <;> omega)
  have ir0s : InW w4.heap.size w5.heap.size vr0s := InW.of_owns or0s
  clear hU_Laddert1 oU_Laddert1
  clear hGamest2 oGamest2
  have cU_0 := bxU.2 0 _ rfl
  have cU_1 := bxU.2 1 _ rfl
  have cU_2 := bxU.2 2 _ rfl
  have cU_3 := bxU.2 3 _ rfl
  have cU_4 := bxU.2 4 _ rfl
  have cU_lt := bxU.1
  go_wp2_with fail
  refine (x_to_Rules aU_Win aU_Draw aU_Loss vU_Ladder nU_Ladder gU_Ladder aU_Again _ hU_Ladder (by omega)).mono ?_
  rintro e w6 ⟨vU_Ladderx, rfl, hU_Ladderx, ⟨xU_Ladderx, oU_Ladderx⟩, b6⟩
  obtain ⟨saU_Ladderx, scU_Ladderx, rfl, _⟩ := hU_Ladderx.form
  clear cU_0 cU_1 cU_2 cU_3 cU_4 cU_lt
  have z6 : w5.heap.size ≤ w6.heap.size := b6.size
  replace hU_Ladder := hU_Ladder.below b6 (Nat.le_refl _)
  replace hGames := hGames.below b6 (Nat.le_refl _)
  replace hb := hb.trans (b6.mono hb.size)
  replace bxU := bxU.below b6
  replace hr0s := hr0s.below b6 (Nat.le_refl _)
  replace or0s := owns_below or0s b6 (Nat.le_refl _)
  replace oU_Ladderx := owns_mono oU_Ladderx (base' := w5.heap.size) (by simp <;> omega)
  have iU_Ladderx : InW w5.heap.size w6.heap.size (.slice saU_Ladderx nU_Ladder scU_Ladderx) := InW.of_owns oU_Ladderx
  go_wp2_with fail
  refine (x_to_GameS vGames nGames gGames _ (hGames.below ((Below.refl _ _).alloc (Nat.le_refl _) _) (Nat.le_refl _)) (by omega)).mono ?_
  rintro e w7 ⟨vGamesx, rfl, hGamesx, ⟨xGamesx, oGamesx⟩, b7⟩
  have z7 : w6.heap.size + 1 ≤ w7.heap.size := by have := b7.size; simp at this; omega
  have bxUx := BoxN.made b7 (B := w6.heap.size) (by simp)
  have b7' := below_prev b7
  replace hU_Ladder := hU_Ladder.below b7' (Nat.le_refl _)
  replace hGames := hGames.below b7' (Nat.le_refl _)
  replace hb := hb.trans (b7'.mono hb.size)
  replace bxU := bxU.below b7'
  replace hr0s := hr0s.below b7' (Nat.le_refl _)
  replace or0s := owns_below or0s b7' (Nat.le_refl _)
  replace hU_Ladderx := hU_Ladderx.below b7' (Nat.le_refl _)
  replace oU_Ladderx := owns_below oU_Ladderx b7' (Nat.le_refl _)
  replace oGamesx := owns_mono oGamesx (base' := (w6.heap.size + 1)) (by simp <;> omega)
  have iGamesx : InW (w6.heap.size + 1) w7.heap.size vGamesx := InW.of_owns oGamesx
  have cUx_0 := bxUx.2 0 _ rfl
  have cUx_1 := bxUx.2 1 _ rfl
  have cUx_2 := bxUx.2 2 _ rfl
  have cUx_3 := bxUx.2 3 _ rfl
  have cUx_4 := bxUx.2 4 _ rfl
  have cUx_lt := bxUx.1
  go_wp2_with fail
  refine (CI.out (.slice saU_Ladderx nU_Ladder scU_Ladderx) vGamesx _ hU_Ladderx hGamesx).mono ?_
  rintro e w8 ⟨vr0i, rfl, hr0i, ⟨xr0i, or0i⟩, b8⟩
  clear cUx_0 cUx_1 cUx_2 cUx_3 cUx_4 cUx_lt
  have z8 : w7.heap.size ≤ w8.heap.size := b8.size
  replace hU_Ladder := hU_Ladder.below b8 (Nat.le_refl _)
  replace hGames := hGames.below b8 (Nat.le_refl _)
  replace hb := hb.trans (b8.mono hb.size)
  replace bxU := bxU.below b8
  replace hr0s := hr0s.below b8 (Nat.le_refl _)
  replace or0s := owns_below or0s b8 (Nat.le_refl _)
  replace hU_Ladderx := hU_Ladderx.below b8 (Nat.le_refl _)
  replace oU_Ladderx := owns_below oU_Ladderx b8 (Nat.le_refl _)
  replace bxUx := bxUx.below b8
  replace hGamesx := hGamesx.below b8 (Nat.le_refl _)
  replace oGamesx := owns_below oGamesx b8 (Nat.le_refl _)
  replace or0i := owns_mono or0i (base' := w7.heap.size) (by simp <;> omega)
  have ir0i : InW w7.heap.size w8.heap.size vr0i := InW.of_owns or0i
  go_wp2_with fail
  refine (x_eq_RowS vr0i nr0 gr0 vr0s _ hr0i hr0s).mono ?_
  rintro e w9 ⟨rfl, b9⟩
  have z9 : w8.heap.size ≤ w9.heap.size := b9.size
  replace hU_Ladder := hU_Ladder.below b9 (Nat.le_refl _)
  replace hGames := hGames.below b9 (Nat.le_refl _)
  replace hb := hb.trans (b9.mono hb.size)
  replace bxU := bxU.below b9
  replace hr0s := hr0s.below b9 (Nat.le_refl _)
  replace or0s := owns_below or0s b9 (Nat.le_refl _)
  replace hU_Ladderx := hU_Ladderx.below b9 (Nat.le_refl _)
  replace oU_Ladderx := owns_below oU_Ladderx b9 (Nat.le_refl _)
  replace bxUx := bxUx.below b9
  replace hGamesx := hGamesx.below b9 (Nat.le_refl _)
  replace oGamesx := owns_below oGamesx b9 (Nat.le_refl _)
  replace hr0i := hr0i.below b9 (Nat.le_refl _)
  replace or0i := owns_below or0i b9 (Nat.le_refl _)
  obtain ⟨S, HSd⟩ : ∃ S : World → Prop, S = fun w' => BoxN w' w.heap.size [.int .i64 aU_Win, .int .i64 aU_Draw, .int .i64 aU_Loss, vU_Ladder, .bool aU_Again] ∧ IntRow w' vU_Ladder nU_Ladder gU_Ladder ∧ GameRow w' vGames nGames gGames ∧ RowRow w' vr0s nr0 gr0 ∧ World.ownsRow w' w4.heap.size 39 7 vr0s nr0 xr0s ∧ BoxN w' w6.heap.size [.int .i64 aU_Win, .int .i64 aU_Draw, .int .i64 aU_Loss, (.slice saU_Ladderx nU_Ladder scU_Ladderx), .bool aU_Again] ∧ IntRow w' (.slice saU_Ladderx nU_Ladder scU_Ladderx) nU_Ladder gU_Ladder ∧ World.ownsRow w' w5.heap.size 3 1 (.slice saU_Ladderx nU_Ladder scU_Ladderx) nU_Ladder xU_Ladderx ∧ GameRow w' vGamesx nGames gGames ∧ World.ownsRow w' (w6.heap.size + 1) 36 5 vGamesx nGames xGamesx ∧ RowRow w' vr0i nr0 gr0 ∧ World.ownsRow w' w7.heap.size 39 7 vr0i nr0 xr0i ∧ Below w.heap.size w w' := ⟨_, rfl⟩
  have KS : Hid (∀ wa wb, S wa → Below wa.heap.size wa wb → S wb) := by subst HSd; exact fun wa wb ⟨bxU, hU_Ladder, hGames, hr0s, or0s, bxUx, hU_Ladderx, oU_Ladderx, hGamesx, oGamesx, hr0i, or0i, hb⟩ b => ⟨bxU.below b, hU_Ladder.below b (Nat.le_refl _), hGames.below b (Nat.le_refl _), hr0s.below b (Nat.le_refl _), owns_below or0s b (Nat.le_refl _), bxUx.below b, hU_Ladderx.below b (Nat.le_refl _), owns_below oU_Ladderx b (Nat.le_refl _), hGamesx.below b (Nat.le_refl _), owns_below oGamesx b (Nat.le_refl _), hr0i.below b (Nat.le_refl _), owns_below or0i b (Nat.le_refl _), hb.trans (b.mono hb.size)⟩
  have OS : Hid (∀ wa, S wa → BoxN wa w.heap.size [.int .i64 aU_Win, .int .i64 aU_Draw, .int .i64 aU_Loss, vU_Ladder, .bool aU_Again] ∧ IntRow wa vU_Ladder nU_Ladder gU_Ladder ∧ GameRow wa vGames nGames gGames ∧ RowRow wa vr0s nr0 gr0 ∧ World.ownsRow wa w4.heap.size 39 7 vr0s nr0 xr0s ∧ BoxN wa w6.heap.size [.int .i64 aU_Win, .int .i64 aU_Draw, .int .i64 aU_Loss, (.slice saU_Ladderx nU_Ladder scU_Ladderx), .bool aU_Again] ∧ IntRow wa (.slice saU_Ladderx nU_Ladder scU_Ladderx) nU_Ladder gU_Ladder ∧ World.ownsRow wa w5.heap.size 3 1 (.slice saU_Ladderx nU_Ladder scU_Ladderx) nU_Ladder xU_Ladderx ∧ GameRow wa vGamesx nGames gGames ∧ World.ownsRow wa (w6.heap.size + 1) 36 5 vGamesx nGames xGamesx ∧ RowRow wa vr0i nr0 gr0 ∧ World.ownsRow wa w7.heap.size 39 7 vr0i nr0 xr0i ∧ Below w.heap.size w wa) := by subst HSd; exact fun wa h => h
  have KS0 : Hid (S w9.drew) := by subst HSd; exact (fun b : Below w9.heap.size w9 w9.drew => ⟨bxU.below b, hU_Ladder.below b (Nat.le_refl _), hGames.below b (Nat.le_refl _), hr0s.below b (Nat.le_refl _), owns_below or0s b (Nat.le_refl _), bxUx.below b, hU_Ladderx.below b (Nat.le_refl _), owns_below oU_Ladderx b (Nat.le_refl _), hGamesx.below b (Nat.le_refl _), owns_below oGamesx b (Nat.le_refl _), hr0i.below b (Nat.le_refl _), owns_below or0i b (Nat.le_refl _), hb.trans (b.mono hb.size)⟩) (Below.refl _ _).drew
  clear HSd
  go_wp2_with fail
  refine wp_region_held_drew (S := S) (by kernel_rfl) ?_ (fun hHeld => ?_)
  · exact KS0.out
  clear KS0 bxU hU_Ladder hGames hr0s or0s bxUx hU_Ladderx oU_Ladderx hGamesx oGamesx hr0i or0i hb
  refine wpAnyH_take (i := 0) (v := ?_) rfl (by kernel_rfl) (by kernel_rfl) (by kernel_rfl) (fun _ _ _ h => h) (Or.inl ⟨by rfl, ?_⟩) (by assumption) ?_
  rotate_left
  · (intro wa hSw; obtain ⟨bxU, hU_Ladder, hGames, hr0s, or0s, bxUx, hU_Ladderx, oU_Ladderx, hGamesx, oGamesx, hr0i, or0i, hb⟩ := OS.out _ hSw; have cUx_0 := bxUx.2 0 _ rfl; have cUx_1 := bxUx.2 1 _ rfl; have cUx_2 := bxUx.2 2 _ rfl; have cUx_3 := bxUx.2 3 _ rfl; have cUx_4 := bxUx.2 4 _ rfl; have cU_0 := bxU.2 0 _ rfl; have cU_1 := bxU.2 1 _ rfl; have cU_2 := bxU.2 2 _ rfl; have cU_3 := bxU.2 3 _ rfl; have cU_4 := bxU.2 4 _ rfl; go_simp; try with_reducible rfl)
  simp only [Act.put, List.getElem_toArray, List.getElem_cons_zero, List.setIfInBounds_toArray, List.set_cons_zero, List.set_cons_succ]
  refine wpAnyH_take (i := 1) (v := ?_) rfl (by kernel_rfl) (by kernel_rfl) (by kernel_rfl) (fun _ _ _ h => h) (Or.inl ⟨by rfl, ?_⟩) (by assumption) ?_
  rotate_left
  · (intro wa hSw; obtain ⟨bxU, hU_Ladder, hGames, hr0s, or0s, bxUx, hU_Ladderx, oU_Ladderx, hGamesx, oGamesx, hr0i, or0i, hb⟩ := OS.out _ hSw; have cUx_0 := bxUx.2 0 _ rfl; have cUx_1 := bxUx.2 1 _ rfl; have cUx_2 := bxUx.2 2 _ rfl; have cUx_3 := bxUx.2 3 _ rfl; have cUx_4 := bxUx.2 4 _ rfl; have cU_0 := bxU.2 0 _ rfl; have cU_1 := bxU.2 1 _ rfl; have cU_2 := bxU.2 2 _ rfl; have cU_3 := bxU.2 3 _ rfl; have cU_4 := bxU.2 4 _ rfl; go_simp; try with_reducible rfl)
  simp only [Act.put, List.getElem_toArray, List.getElem_cons_zero, List.getElem_cons_succ, List.setIfInBounds_toArray, List.set_cons_zero, List.set_cons_succ]
  refine wpAnyH_ready (rs := [2]) (by kernel_rfl) (by simp) ?_
  refine AllReadyH.cons (o := _) rfl (fun K hK => ?_) AllReadyH.nil
  go_simp
  obtain ⟨bxU, hU_Ladder, hGames, hr0s, or0s, bxUx, hU_Ladderx, oU_Ladderx, hGamesx, oGamesx, hr0i, or0i, hb⟩ := OS.out _ hHeld
  refine (x_to_Rules aU_Win aU_Draw aU_Loss vU_Ladder nU_Ladder gU_Ladder aU_Again _ hU_Ladder (by omega)).mono ?_
  rintro e w10 ⟨vU_Laddert3, rfl, hU_Laddert3, ⟨xU_Laddert3, oU_Laddert3⟩, b10⟩
  clear bxU hU_Ladder hGames hr0s or0s bxUx hU_Ladderx oU_Ladderx hGamesx oGamesx hr0i or0i hb
  clear oU_Laddert3
  (try go_wp2_with fail)
  refine hK.out _ _ ?_ (fun hHeld10 => ?_)
  · exact KS.out _ _ hHeld b10
  clear hK K
  refine wpAnyH_ready (rs := [3]) (by kernel_rfl) (by simp) ?_
  refine AllReadyH.cons (o := _) rfl (fun K hK => ?_) AllReadyH.nil
  go_simp
  obtain ⟨bxU, hU_Ladder, hGames, hr0s, or0s, bxUx, hU_Ladderx, oU_Ladderx, hGamesx, oGamesx, hr0i, or0i, hb⟩ := OS.out _ hHeld10
  refine (x_eq_Rules aU_Win aU_Draw aU_Loss (.slice saU_Ladderx nU_Ladder scU_Ladderx) nU_Ladder gU_Ladder aU_Again vU_Laddert3 _ hU_Ladderx hU_Laddert3).mono ?_
  rintro e w11 ⟨rfl, b11⟩
  clear bxU hU_Ladder hGames hr0s or0s bxUx hU_Ladderx oU_Ladderx hGamesx oGamesx hr0i or0i hb
  replace hU_Laddert3 := hU_Laddert3.below b11 (Nat.le_refl _)
  (try go_wp2_with fail)
  refine hK.out _ _ ?_ (fun hHeld11 => ?_)
  · exact KS.out _ _ hHeld10 b11
  clear hK K
  clear hHeld10
  refine wpAnyH_take (i := 4) (v := ?_) rfl (by kernel_rfl) (by kernel_rfl) (by kernel_rfl) (fun _ _ _ h => h) (Or.inl ⟨by rfl, ?_⟩) (by assumption) ?_
  rotate_left
  · (intro wa hSw; obtain ⟨bxU, hU_Ladder, hGames, hr0s, or0s, bxUx, hU_Ladderx, oU_Ladderx, hGamesx, oGamesx, hr0i, or0i, hb⟩ := OS.out _ hSw; have cUx_0 := bxUx.2 0 _ rfl; have cUx_1 := bxUx.2 1 _ rfl; have cUx_2 := bxUx.2 2 _ rfl; have cUx_3 := bxUx.2 3 _ rfl; have cUx_4 := bxUx.2 4 _ rfl; have cU_0 := bxU.2 0 _ rfl; have cU_1 := bxU.2 1 _ rfl; have cU_2 := bxU.2 2 _ rfl; have cU_3 := bxU.2 3 _ rfl; have cU_4 := bxU.2 4 _ rfl; go_simp; try with_reducible rfl)
  simp only [Act.put, List.getElem_toArray, List.getElem_cons_zero, List.getElem_cons_succ, List.setIfInBounds_toArray, List.set_cons_zero, List.set_cons_succ]
  refine wpAnyH_done (by kernel_rfl) ?_ _
  obtain ⟨bxU, hU_Ladder, hGames, hr0s, or0s, bxUx, hU_Ladderx, oU_Ladderx, hGamesx, oGamesx, hr0i, or0i, hb⟩ := OS.out _ hHeld11
  clear KS OS hHeld hHeld11 hU_Laddert3
  go_wp2_with fail
  refine (x_to_GameS vGames nGames gGames _ hGames (by omega)).mono ?_
  rintro e w12 ⟨vGamest4, rfl, hGamest4, ⟨xGamest4, oGamest4⟩, b12⟩
  have z12 : w11.heap.size ≤ w12.heap.size := b12.size
  replace hU_Ladder := hU_Ladder.below b12 (Nat.le_refl _)
  replace hGames := hGames.below b12 (Nat.le_refl _)
  replace hb := hb.trans (b12.mono hb.size)
  replace bxU := bxU.below b12
  replace hr0s := hr0s.below b12 (Nat.le_refl _)
  replace or0s := owns_below or0s b12 (Nat.le_refl _)
  replace hU_Ladderx := hU_Ladderx.below b12 (Nat.le_refl _)
  replace oU_Ladderx := owns_below oU_Ladderx b12 (Nat.le_refl _)
  replace bxUx := bxUx.below b12
  replace hGamesx := hGamesx.below b12 (Nat.le_refl _)
  replace oGamesx := owns_below oGamesx b12 (Nat.le_refl _)
  replace hr0i := hr0i.below b12 (Nat.le_refl _)
  replace or0i := owns_below or0i b12 (Nat.le_refl _)
  replace oGamest4 := owns_mono oGamest4 (base' := w11.heap.size) (by simp <;> omega)
  have iGamest4 : InW w11.heap.size w12.heap.size vGamest4 := InW.of_owns oGamest4
  go_wp2_with fail
  refine (x_eq_GameS vGamesx nGames gGames vGamest4 _ hGamesx hGamest4).mono ?_
  rintro e w13 ⟨rfl, b13⟩
  have z13 : w12.heap.size ≤ w13.heap.size := b13.size
  replace hU_Ladder := hU_Ladder.below b13 (Nat.le_refl _)
  replace hGames := hGames.below b13 (Nat.le_refl _)
  replace hb := hb.trans (b13.mono hb.size)
  replace bxU := bxU.below b13
  replace hr0s := hr0s.below b13 (Nat.le_refl _)
  replace or0s := owns_below or0s b13 (Nat.le_refl _)
  replace hU_Ladderx := hU_Ladderx.below b13 (Nat.le_refl _)
  replace oU_Ladderx := owns_below oU_Ladderx b13 (Nat.le_refl _)
  replace bxUx := bxUx.below b13
  replace hGamesx := hGamesx.below b13 (Nat.le_refl _)
  replace oGamesx := owns_below oGamesx b13 (Nat.le_refl _)
  replace hr0i := hr0i.below b13 (Nat.le_refl _)
  replace or0i := owns_below or0i b13 (Nat.le_refl _)
  replace hGamest4 := hGamest4.below b13 (Nat.le_refl _)
  replace oGamest4 := owns_below oGamest4 b13 (Nat.le_refl _)
  clear hGamest4 oGamest4
  have cUx_0 := bxUx.2 0 _ rfl
  have cUx_1 := bxUx.2 1 _ rfl
  have cUx_2 := bxUx.2 2 _ rfl
  have cUx_3 := bxUx.2 3 _ rfl
  have cUx_4 := bxUx.2 4 _ rfl
  have cUx_lt := bxUx.1
  go_wp2_with fail
  refine (x_mk_Rules aU_Win aU_Draw aU_Loss (.slice saU_Ladderx nU_Ladder scU_Ladderx) nU_Ladder aU_Again ((1 : Int)) w5.heap.size w6.heap.size w5.heap.size xU_Ladderx _ oU_Ladderx iU_Ladderx (by omega) (by omega)).mono ?_
  rintro e w14 ⟨rfl, hU_Ladderxm, b14⟩
  clear cUx_0 cUx_1 cUx_2 cUx_3 cUx_4 cUx_lt
  have z14 := b14.size
  clear hU_Ladderx oU_Ladderx
  replace hU_Ladder := hU_Ladder.touch b14 iU_Ladder (by omega)
  replace hGames := hGames.touch b14 iGames (by omega)
  replace hb := hb.trans (b14.below (by omega) hb.size)
  replace bxU := bxU.touch b14 (by omega)
  replace hr0s := hr0s.touch b14 (fun _ => ir0s) (by omega)
  replace or0s := owns_touch or0s b14 ir0s (by omega)
  replace bxUx := bxUx.touch b14 (by omega)
  replace hGamesx := hGamesx.touch b14 (fun _ => iGamesx) (by omega)
  replace oGamesx := owns_touch oGamesx b14 iGamesx (by omega)
  replace hr0i := hr0i.touch b14 (fun _ => ir0i) (by omega)
  replace or0i := owns_touch or0i b14 ir0i (by omega)
  clear hU_Ladderxm
  go_wp2_with fail
  refine (x_mk_GameS vGamesx nGames ((1 : Int) + (nU_Ladder : Int)) (w6.heap.size + 1) w7.heap.size (w6.heap.size + 1) xGamesx _ oGamesx iGamesx (by omega) (by omega)).mono ?_
  rintro e w15 ⟨rfl, hGamesxm, b15⟩
  have z15 := b15.size
  clear hGamesx oGamesx
  replace hU_Ladder := hU_Ladder.touch b15 iU_Ladder (by omega)
  replace hGames := hGames.touch b15 iGames (by omega)
  replace hb := hb.trans (b15.below (by omega) hb.size)
  replace bxU := bxU.touch b15 (by omega)
  replace hr0s := hr0s.touch b15 (fun _ => ir0s) (by omega)
  replace or0s := owns_touch or0s b15 ir0s (by omega)
  replace bxUx := bxUx.touch b15 (by omega)
  replace hr0i := hr0i.touch b15 (fun _ => ir0i) (by omega)
  replace or0i := owns_touch or0i b15 ir0i (by omega)
  clear hGamesxm
  have kd2966 : decide ((1 : Int) + (nU_Ladder : Int) + 5 * (nGames : Int) < 0) = false := decide_eq_false (by omega)
  go_wp2_with fail
  refine (x_eq_RowS vr0i nr0 gr0 vr0s _ hr0i hr0s).mono ?_
  rintro e w16 ⟨rfl, b16⟩
  have z16 : w15.heap.size ≤ w16.heap.size := b16.size
  replace hU_Ladder := hU_Ladder.below b16 (Nat.le_refl _)
  replace hGames := hGames.below b16 (Nat.le_refl _)
  replace hb := hb.trans (b16.mono hb.size)
  replace bxU := bxU.below b16
  replace hr0s := hr0s.below b16 (Nat.le_refl _)
  replace or0s := owns_below or0s b16 (Nat.le_refl _)
  replace bxUx := bxUx.below b16
  replace hr0i := hr0i.below b16 (Nat.le_refl _)
  replace or0i := owns_below or0i b16 (Nat.le_refl _)
  go_wp2_with fail
  refine (x_mk_RowS vr0i nr0 ((1 : Int)) w7.heap.size w8.heap.size w7.heap.size xr0i _ or0i ir0i (by omega) (by omega)).mono ?_
  rintro e w17 ⟨rfl, hr0im, b17⟩
  have z17 := b17.size
  clear hr0i or0i
  replace hU_Ladder := hU_Ladder.touch b17 iU_Ladder (by omega)
  replace hGames := hGames.touch b17 iGames (by omega)
  replace hb := hb.trans (b17.below (by omega) hb.size)
  replace bxU := bxU.touch b17 (by omega)
  replace hr0s := hr0s.touch b17 (fun _ => ir0s) (by omega)
  replace or0s := owns_touch or0s b17 ir0s (by omega)
  replace bxUx := bxUx.touch b17 (by omega)
  have hr0i := hr0im
  clear hr0im
  have qd2972 : decide ((1 : Int) + 7 * (nr0 : Int) < 0) = false := decide_eq_false (by omega)
  go_wp2_with fail
  refine (x_hd_RowS vr0i nr0 (1 : Int) _ hr0i (by omega) (by omega)).mono ?_
  rintro e w18 ⟨rfl, b18⟩
  have z18 : w17.heap.size ≤ w18.heap.size := b18.size
  replace hU_Ladder := hU_Ladder.below b18 (Nat.le_refl _)
  replace hGames := hGames.below b18 (Nat.le_refl _)
  replace hb := hb.trans (b18.mono hb.size)
  replace bxU := bxU.below b18
  replace hr0s := hr0s.below b18 (Nat.le_refl _)
  replace or0s := owns_below or0s b18 (Nat.le_refl _)
  replace bxUx := bxUx.below b18
  replace hr0i := hr0i.below b18 (Nat.le_refl _)
  have cU_0 := bxU.2 0 _ rfl
  have cU_1 := bxU.2 1 _ rfl
  have cU_2 := bxU.2 2 _ rfl
  have cU_3 := bxU.2 3 _ rfl
  have cU_4 := bxU.2 4 _ rfl
  have cU_lt := bxU.1
  go_wp2_with fail
  refine (x_to_Rules aU_Win aU_Draw aU_Loss vU_Ladder nU_Ladder gU_Ladder aU_Again _ hU_Ladder (by omega)).mono ?_
  rintro e w19 ⟨vU_Laddert5, rfl, hU_Laddert5, ⟨xU_Laddert5, oU_Laddert5⟩, b19⟩
  obtain ⟨saU_Laddert5, scU_Laddert5, rfl, _⟩ := hU_Laddert5.form
  clear cU_0 cU_1 cU_2 cU_3 cU_4 cU_lt
  have z19 : w18.heap.size ≤ w19.heap.size := b19.size
  replace hU_Ladder := hU_Ladder.below b19 (Nat.le_refl _)
  replace hGames := hGames.below b19 (Nat.le_refl _)
  replace hb := hb.trans (b19.mono hb.size)
  replace bxU := bxU.below b19
  replace hr0s := hr0s.below b19 (Nat.le_refl _)
  replace or0s := owns_below or0s b19 (Nat.le_refl _)
  replace bxUx := bxUx.below b19
  replace hr0i := hr0i.below b19 (Nat.le_refl _)
  replace oU_Laddert5 := owns_mono oU_Laddert5 (base' := w18.heap.size) (by simp <;> omega)
  have iU_Laddert5 : InW w18.heap.size w19.heap.size (.slice saU_Laddert5 nU_Ladder scU_Laddert5) := InW.of_owns oU_Laddert5
  go_wp2_with fail
  refine (x_to_GameS vGames nGames gGames _ hGames (by omega)).mono ?_
  rintro e w20 ⟨vGamest6, rfl, hGamest6, ⟨xGamest6, oGamest6⟩, b20⟩
  have z20 : w19.heap.size ≤ w20.heap.size := b20.size
  replace hU_Ladder := hU_Ladder.below b20 (Nat.le_refl _)
  replace hGames := hGames.below b20 (Nat.le_refl _)
  replace hb := hb.trans (b20.mono hb.size)
  replace bxU := bxU.below b20
  replace hr0s := hr0s.below b20 (Nat.le_refl _)
  replace or0s := owns_below or0s b20 (Nat.le_refl _)
  replace bxUx := bxUx.below b20
  replace hr0i := hr0i.below b20 (Nat.le_refl _)
  replace hU_Laddert5 := hU_Laddert5.below b20 (Nat.le_refl _)
  replace oU_Laddert5 := owns_below oU_Laddert5 b20 (Nat.le_refl _)
  replace oGamest6 := owns_mono oGamest6 (base' := w19.heap.size) (by simp <;> omega)
  have iGamest6 : InW w19.heap.size w20.heap.size vGamest6 := InW.of_owns oGamest6
  go_wp2_with fail
  refine (CI.out (.slice saU_Laddert5 nU_Ladder scU_Laddert5) vGamest6 _ hU_Laddert5 hGamest6).mono ?_
  rintro e w21 ⟨vr0j, rfl, hr0j, ⟨xr0j, or0j⟩, b21⟩
  have z21 : w20.heap.size ≤ w21.heap.size := b21.size
  replace hU_Ladder := hU_Ladder.below b21 (Nat.le_refl _)
  replace hGames := hGames.below b21 (Nat.le_refl _)
  replace hb := hb.trans (b21.mono hb.size)
  replace bxU := bxU.below b21
  replace hr0s := hr0s.below b21 (Nat.le_refl _)
  replace or0s := owns_below or0s b21 (Nat.le_refl _)
  replace bxUx := bxUx.below b21
  replace hr0i := hr0i.below b21 (Nat.le_refl _)
  replace hU_Laddert5 := hU_Laddert5.below b21 (Nat.le_refl _)
  replace oU_Laddert5 := owns_below oU_Laddert5 b21 (Nat.le_refl _)
  replace hGamest6 := hGamest6.below b21 (Nat.le_refl _)
  replace oGamest6 := owns_below oGamest6 b21 (Nat.le_refl _)
  replace or0j := owns_mono or0j (base' := w20.heap.size) (by simp <;> omega)
  have ir0j : InW w20.heap.size w21.heap.size vr0j := InW.of_owns or0j
  clear hU_Laddert5 oU_Laddert5
  clear hGamest6 oGamest6
  go_wp2_with fail
  refine (x_eq_RowS vr0j nr0 gr0 vr0s _ hr0j hr0s).mono ?_
  rintro e w22 ⟨rfl, b22⟩
  have z22 : w21.heap.size ≤ w22.heap.size := b22.size
  replace hU_Ladder := hU_Ladder.below b22 (Nat.le_refl _)
  replace hGames := hGames.below b22 (Nat.le_refl _)
  replace hb := hb.trans (b22.mono hb.size)
  replace bxU := bxU.below b22
  replace hr0s := hr0s.below b22 (Nat.le_refl _)
  replace or0s := owns_below or0s b22 (Nat.le_refl _)
  replace bxUx := bxUx.below b22
  replace hr0i := hr0i.below b22 (Nat.le_refl _)
  replace hr0j := hr0j.below b22 (Nat.le_refl _)
  replace or0j := owns_below or0j b22 (Nat.le_refl _)
  have qd2984 : decide ((1 : Int) + 7 * (nr0 : Int) < 0) = false := decide_eq_false (by omega)
  go_wp2_with fail
  refine (x_hd_RowS vr0i nr0 (1 : Int) _ hr0i (by omega) (by omega)).mono ?_
  rintro e w23 ⟨rfl, b23⟩
  have z23 : w22.heap.size ≤ w23.heap.size := b23.size
  replace hU_Ladder := hU_Ladder.below b23 (Nat.le_refl _)
  replace hGames := hGames.below b23 (Nat.le_refl _)
  replace hb := hb.trans (b23.mono hb.size)
  replace bxU := bxU.below b23
  replace hr0s := hr0s.below b23 (Nat.le_refl _)
  replace or0s := owns_below or0s b23 (Nat.le_refl _)
  replace bxUx := bxUx.below b23
  replace hr0i := hr0i.below b23 (Nat.le_refl _)
  replace hr0j := hr0j.below b23 (Nat.le_refl _)
  replace or0j := owns_below or0j b23 (Nat.le_refl _)
  go_wp2
  go_ret
  exact ⟨rfl, hb⟩
set_option maxRecDepth 100000 in
theorem lifted (os : Os) (started : os.Started) (H : Type) (enc : TypeId × Value → H) :
    ReturnsInHanded {} Try.checked os 4 .any (Rows.fnExactTableOfSpec.pre6 enc Try.prog Try.f4 Rows.fnExactTableOfRow.domain false) (Rows.fnExactTableOfSpec.post enc Try.prog Try.f4 false true false false) := by
  refine returnsInHanded_of_change (C := Try.checked) own started (by kernel_rfl) Try.func4
    (ChangeSpec.witness6 (enc := enc) (C := Try.checked) false ⟨#[], #[.agg #[.int .i64 0, .int .i64 0, .int .i64 0, .slice none 0 0, .bool false], .int .i64 0, .slice none 0 0], []⟩ 8 (by kernel_rfl) (by kernel_rfl) (by kernel_rfl) (by kernel_rfl)) ?_
  intro W base args ds gs before hval0 hW hcnd _
  have hval : ∀ (j : Nat) t v, Try.f4.params[j]? = some t → args[j]? = some v → Value.okWide Try.prog W .any base t v := hval0
  have hW' := hW
  obtain ⟨p, q, hA0, hV, rfl, hfz, hnd⟩ := hW
  have hA : DataW.TrodAll enc Try.prog W 0 (fun _ => true) true Try.f4.params.toList args.toList ds p := hA0
  rw [Try.params4] at hA hval
  obtain ⟨v0, vs0, d0, ds0, p0, q0, hargs, rfl, rfl, h0, r0⟩ := trodAll_cons hA
  obtain ⟨v1, vs1, d1, ds1, p1, q1, rfl, rfl, rfl, h1, r1⟩ := trodAll_cons r0
  obtain ⟨v2, vs2, d2, ds2, p2, q2, rfl, rfl, rfl, h2, r2⟩ := trodAll_cons r1
  obtain ⟨rfl, rfl, rfl⟩ := trodAll_nil r2
  obtain rfl : args = #[v0, v1, v2] := by cases args; simp_all
  obtain ⟨rfl, rfl⟩ := trodVars_none hV
  have k0 := h0
  have lt0 : ∀ x ∈ p0, x.block < W.heap.size := by obtain ⟨m, hm⟩ := k0; exact DataW.trod_lt m _ _ _ hm
  obtain ⟨u0_0, u0_1, u0_2, u0_3, u0_4, y0_0, y0_1, y0_2, y0_3, y0_4, m0, rfl, rfl, rfl, t0_0, t0_1, t0_2, t0_3, t0_4⟩ := open_ag5 Try.underlying44 (by kernel_rfl) (by kernel_rfl) (hval 0 44 v0 rfl rfl) h0
  obtain ⟨a0_0, e0_0, _, w0_0⟩ := DataW.trod_int Try.underlying3 t0_0
  simp only [List.cons.injEq, and_true] at e0_0
  subst e0_0
  obtain ⟨a0_1, e0_1, _, w0_1⟩ := DataW.trod_int Try.underlying3 t0_1
  simp only [List.cons.injEq, and_true] at e0_1
  subst e0_1
  obtain ⟨a0_2, e0_2, _, w0_2⟩ := DataW.trod_int Try.underlying3 t0_2
  simp only [List.cons.injEq, and_true] at e0_2
  subst e0_2
  obtain ⟨n0_3, g0_3, w0_3, f0_3, _⟩ := open_introw' Try.underlying24 Try.underlying3 (by kernel_rfl) ⟨_, _, t0_3⟩
  obtain ⟨a0_4, e0_4, _⟩ := DataW.trod_bool Try.underlying4 t0_4
  simp only [List.cons.injEq, and_true] at e0_4
  subst e0_4
  obtain ⟨a1, rfl, rfl, rfl, w1⟩ := open_int Try.underlying3 (hval 1 3 v1 rfl rfl) h1
  have k2 := h2
  have lt2 : ∀ x ∈ p2, x.block < W.heap.size := by obtain ⟨m, hm⟩ := k2; exact DataW.trod_lt m _ _ _ hm
  obtain ⟨a2, len2, cap2, rfl⟩ := okWide_slice Try.underlying45 (hval 2 45 v2 rfl rfl)
  obtain ⟨n2, g2, w2, f2, _⟩ := open_games Try.underlying45 Try.underlying90 (by kernel_rfl) rfl (by kernel_rfl) Try.underlying3 rfl (by kernel_rfl) Try.underlying3 rfl (by kernel_rfl) Try.underlying3 rfl (by kernel_rfl) Try.underlying3 rfl (by kernel_rfl) Try.underlying3 (by obtain ⟨fuel, hf⟩ := h2; exact ⟨fuel, _, hf⟩)
  clear hA0 hval0
  simp only [List.append_nil] at hW'
  refine (walk a0_0 a0_1 a0_2 u0_3 n0_3 g0_3 a0_4 a1 (.slice a2 len2 cap2) n2 g2 W (intFit_of w0_0) (intFit_of w0_1) (intFit_of w0_2) w0_3 f0_3 (intFit_of w1) w2 f2).mono fun e W' ⟨he, bel⟩ => ?_
  subst he
  exact ⟨_, rfl, _, _, _, [], _, [], hW', trodAll_mk1 (shut_bool Try.underlying4 _), (trodAll_cons_mk (Below.trod laidOut (by kernel_rfl) (of_decide_eq_true (by kernel_rfl)) k0 bel lt0) (trodAll_cons_mk (shut_int Try.underlying3 w1) (trodAll_cons_mk (Below.trod laidOut (by kernel_rfl) (of_decide_eq_true (by kernel_rfl)) k2 bel lt2) trodAll_mk0))), rfl, bel.frame _, fun h => by cases h⟩

theorem over : Rows.fnExactTableOfRow.holds Try.pinned (OpenSpec.ofChange Rows.fnExactTableOfSpec) :=
  OpenClaim.holds_of_wide 4 Try.f4 rfl rfl rfl rfl rfl rfl rfl ⟨rfl, rfl, rfl, rfl, rfl⟩ rfl rfl rfl rfl rfl (by kernel_rfl) Try.func4 (by kernel_rfl)
    (of_decide_eq_true (by kernel_rfl)) (by unfold Func.isWrapper; first | (rw [if_pos (by decide +kernel)]; kernel_rfl) | (rw [if_neg (by decide +kernel)]; exact ⟨rfl, rfl⟩))
    (fun os started H enc _ => lifted os started H enc)

theorem proved : Rows.FnExactTableOfSaid := over
end Go.Proofs.Ytoingkchjiipgaa.fnExactTableOf
