/-
  The law FnExactAddRows holds for every argument: the program answers as the model does.
-/
import Derived.Test.YtoingkchjiipgaaRows
import Derived.WalkKit
import Derived.ProofKit
import Derived.OpenShut
import Derived.ShutString
import Derived.ChangeOld
import Derived.Below
import Derived.Lib.Hide
import Derived.Test.YtoingkchjiipgaaLawKit
import Derived.Test.YtoingkchjiipgaaOpenAgg
import Derived.Deep.RegionHeld3
import Derived.Deep.DeepCutAuto
import Derived.Test.YtoingkchjiipgaaTables2
import Derived.Test.YtoingkchjiipgaaTablesImplA
import Derived.Test.YtoingkchjiipgaaBoxF
import Derived.Test.YtoingkchjiipgaaAwait
import Derived.Test.YtoingkchjiipgaaTypeRow
namespace Go.Proofs.Ytoingkchjiipgaa.fnExactAddRows
open Go.ChangeShapes Go.WideShapes Go.ChangeAt Go.RowKit
open Go.ChangeMaps (open_string shut_string)
set_option linter.unusedVariables false

theorem own : ownKnob Try.prog.godebug = none := by kernel_rfl
theorem laidOut : laidOutB Try.prog = true := by kernel_rfl

theorem boxN_off7 {w : World} {B D : Nat} {cs : List Value} (h : BoxN w B cs) (o : Nat) (y : RowD) (hD : B ≠ D) : BoxN (set7 w D o y) B cs :=
  ((((((h.elsewhere o _ hD).elsewhere (o + 1) _ hD).elsewhere (o + 2) _ hD).elsewhere (o + 3) _ hD).elsewhere (o + 4) _ hD).elsewhere (o + 5) _ hD).elsewhere (o + 6) _ hD
theorem boxF_row7z {w : World} {B : Nat} {x : RowD} (h : BoxF w B x.cells) :
    (w.cell? ⟨B, 0, none⟩ = some (.int .i64 x.played) ∧ w.cell? ⟨B, 1, none⟩ = some (.int .i64 x.wins) ∧ w.cell? ⟨B, 2, none⟩ = some (.int .i64 x.draws) ∧ w.cell? ⟨B, 3, none⟩ = some (.int .i64 x.losses) ∧ w.cell? ⟨B, 4, none⟩ = some (.int .i64 x.scored) ∧ w.cell? ⟨B, 5, none⟩ = some (.int .i64 x.against) ∧ w.cell? ⟨B, 6, none⟩ = some (.int .i64 x.points)) ∧
    (w.frozen? ⟨B, 0, none⟩ = false ∧ w.frozen? ⟨B, 1, none⟩ = false ∧ w.frozen? ⟨B, 2, none⟩ = false ∧ w.frozen? ⟨B, 3, none⟩ = false ∧ w.frozen? ⟨B, 4, none⟩ = false ∧ w.frozen? ⟨B, 5, none⟩ = false ∧ w.frozen? ⟨B, 6, none⟩ = false) :=
  ⟨⟨(h.2 0 _ rfl).1, (h.2 1 _ rfl).1, (h.2 2 _ rfl).1, (h.2 3 _ rfl).1, (h.2 4 _ rfl).1, (h.2 5 _ rfl).1, (h.2 6 _ rfl).1⟩, ⟨(h.2 0 _ rfl).2, (h.2 1 _ rfl).2, (h.2 2 _ rfl).2, (h.2 3 _ rfl).2, (h.2 4 _ rfl).2, (h.2 5 _ rfl).2, (h.2 6 _ rfl).2⟩⟩
set_option maxHeartbeats 2000000 in
set_option maxRecDepth 100000 in
theorem walk (aA_played : Int) (aA_wins : Int) (aA_draws : Int) (aA_losses : Int) (aA_scored : Int) (aA_against : Int) (aA_points : Int) (aB_played : Int) (aB_wins : Int) (aB_draws : Int) (aB_losses : Int) (aB_scored : Int) (aB_against : Int) (aB_points : Int) (w : World) (fA_played : IntFit aA_played) (fA_wins : IntFit aA_wins) (fA_draws : IntFit aA_draws) (fA_losses : IntFit aA_losses) (fA_scored : IntFit aA_scored) (fA_against : IntFit aA_against) (fA_points : IntFit aA_points) (fB_played : IntFit aB_played) (fB_wins : IntFit aB_wins) (fB_draws : IntFit aB_draws) (fB_losses : IntFit aB_losses) (fB_scored : IntFit aB_scored) (fB_against : IntFit aB_against) (fB_points : IntFit aB_points) :
    Calls Try.prog 7 #[.agg #[.int .i64 aA_played, .int .i64 aA_wins, .int .i64 aA_draws, .int .i64 aA_losses, .int .i64 aA_scored, .int .i64 aA_against, .int .i64 aA_points], .agg #[.int .i64 aB_played, .int .i64 aB_wins, .int .i64 aB_draws, .int .i64 aB_losses, .int .i64 aB_scored, .int .i64 aB_against, .int .i64 aB_points]] w fun e w' => e = .returned (.bool true) ∧ Below w.heap.size w w' := by
  obtain ⟨ar0_played, ar0_wins, ar0_draws, ar0_losses, ar0_scored, ar0_against, ar0_points, CS, CI⟩ : ∃ (ar0_played : Int) (ar0_wins : Int) (ar0_draws : Int) (ar0_losses : Int) (ar0_scored : Int) (ar0_against : Int) (ar0_points : Int), Hid (∀ (w1 : World), Calls Try.prog 38 #[.agg #[.int .i64 aA_played, .int .i64 aA_wins, .int .i64 aA_draws, .int .i64 aA_losses, .int .i64 aA_scored, .int .i64 aA_against, .int .i64 aA_points], .agg #[.int .i64 aB_played, .int .i64 aB_wins, .int .i64 aB_draws, .int .i64 aB_losses, .int .i64 aB_scored, .int .i64 aB_against, .int .i64 aB_points]] w1 fun e w' => e = .returned (.agg #[.int .i64 ar0_played, .int .i64 ar0_wins, .int .i64 ar0_draws, .int .i64 ar0_losses, .int .i64 ar0_scored, .int .i64 ar0_against, .int .i64 ar0_points]) ∧ Below w1.heap.size w1 w') ∧ Hid (∀ (w1 : World), Calls Try.prog 19 #[.agg #[.int .i64 aA_played, .int .i64 aA_wins, .int .i64 aA_draws, .int .i64 aA_losses, .int .i64 aA_scored, .int .i64 aA_against, .int .i64 aA_points], .agg #[.int .i64 aB_played, .int .i64 aB_wins, .int .i64 aB_draws, .int .i64 aB_losses, .int .i64 aB_scored, .int .i64 aB_against, .int .i64 aB_points]] w1 fun e w' => e = .returned (.agg #[.int .i64 ar0_played, .int .i64 ar0_wins, .int .i64 ar0_draws, .int .i64 ar0_losses, .int .i64 ar0_scored, .int .i64 ar0_against, .int .i64 ar0_points]) ∧ Below w1.heap.size w1 w') := by
    exact ⟨(addW ⟨aA_played, aA_wins, aA_draws, aA_losses, aA_scored, aA_against, aA_points⟩ ⟨aB_played, aB_wins, aB_draws, aB_losses, aB_scored, aB_against, aB_points⟩).played, (addW ⟨aA_played, aA_wins, aA_draws, aA_losses, aA_scored, aA_against, aA_points⟩ ⟨aB_played, aB_wins, aB_draws, aB_losses, aB_scored, aB_against, aB_points⟩).wins, (addW ⟨aA_played, aA_wins, aA_draws, aA_losses, aA_scored, aA_against, aA_points⟩ ⟨aB_played, aB_wins, aB_draws, aB_losses, aB_scored, aB_against, aB_points⟩).draws, (addW ⟨aA_played, aA_wins, aA_draws, aA_losses, aA_scored, aA_against, aA_points⟩ ⟨aB_played, aB_wins, aB_draws, aB_losses, aB_scored, aB_against, aB_points⟩).losses, (addW ⟨aA_played, aA_wins, aA_draws, aA_losses, aA_scored, aA_against, aA_points⟩ ⟨aB_played, aB_wins, aB_draws, aB_losses, aB_scored, aB_against, aB_points⟩).scored, (addW ⟨aA_played, aA_wins, aA_draws, aA_losses, aA_scored, aA_against, aA_points⟩ ⟨aB_played, aB_wins, aB_draws, aB_losses, aB_scored, aB_against, aB_points⟩).against, (addW ⟨aA_played, aA_wins, aA_draws, aA_losses, aA_scored, aA_against, aA_points⟩ ⟨aB_played, aB_wins, aB_draws, aB_losses, aB_scored, aB_against, aB_points⟩).points, fun w1 => addRows_spec ⟨aA_played, aA_wins, aA_draws, aA_losses, aA_scored, aA_against, aA_points⟩ ⟨aB_played, aB_wins, aB_draws, aB_losses, aB_scored, aB_against, aB_points⟩ w1, fun w1 => addRows_impl ⟨aA_played, aA_wins, aA_draws, aA_losses, aA_scored, aA_against, aA_points⟩ ⟨aB_played, aB_wins, aB_draws, aB_losses, aB_scored, aB_against, aB_points⟩ w1⟩
  go_enter Try.func7, Try.ntmps7
  go_upto_region 1 with fail
  have HS0 : Hid (BoxN ((w.alloc (.cells #[.int .i64 aA_played, .int .i64 aA_wins, .int .i64 aA_draws, .int .i64 aA_losses, .int .i64 aA_scored, .int .i64 aA_against, .int .i64 aA_points] 61)).alloc (.cells #[.int .i64 aB_played, .int .i64 aB_wins, .int .i64 aB_draws, .int .i64 aB_losses, .int .i64 aB_scored, .int .i64 aB_against, .int .i64 aB_points] 61)).drew w.heap.size [.int .i64 aA_played, .int .i64 aA_wins, .int .i64 aA_draws, .int .i64 aA_losses, .int .i64 aA_scored, .int .i64 aA_against, .int .i64 aA_points] ∧ BoxN ((w.alloc (.cells #[.int .i64 aA_played, .int .i64 aA_wins, .int .i64 aA_draws, .int .i64 aA_losses, .int .i64 aA_scored, .int .i64 aA_against, .int .i64 aA_points] 61)).alloc (.cells #[.int .i64 aB_played, .int .i64 aB_wins, .int .i64 aB_draws, .int .i64 aB_losses, .int .i64 aB_scored, .int .i64 aB_against, .int .i64 aB_points] 61)).drew (w.heap.size + 1) [.int .i64 aB_played, .int .i64 aB_wins, .int .i64 aB_draws, .int .i64 aB_losses, .int .i64 aB_scored, .int .i64 aB_against, .int .i64 aB_points] ∧ Below w.heap.size w ((w.alloc (.cells #[.int .i64 aA_played, .int .i64 aA_wins, .int .i64 aA_draws, .int .i64 aA_losses, .int .i64 aA_scored, .int .i64 aA_against, .int .i64 aA_points] 61)).alloc (.cells #[.int .i64 aB_played, .int .i64 aB_wins, .int .i64 aB_draws, .int .i64 aB_losses, .int .i64 aB_scored, .int .i64 aB_against, .int .i64 aB_points] 61)).drew) := ⟨BoxN.made (u := w) (Below.alloc (Below.refl _ _) (Nat.le_refl _) _).drew (by simp), BoxN.made (u := (w.alloc (.cells #[.int .i64 aA_played, .int .i64 aA_wins, .int .i64 aA_draws, .int .i64 aA_losses, .int .i64 aA_scored, .int .i64 aA_against, .int .i64 aA_points] 61))) (Below.refl _ _).drew (by simp), (Below.alloc (Below.alloc (Below.refl _ _) (Nat.le_refl _) _) (by simp <;> omega) _).drew⟩
  go_cut [5] (fun s wx => ∃ X : Nat, s = .pointer (some ⟨X, 0, none⟩) ∧ Hid (BoxN wx X (RowD.cells (⟨ar0_played, ar0_wins, ar0_draws, ar0_losses, ar0_scored, ar0_against, ar0_points⟩ : RowD)) ∧ BoxN wx w.heap.size [.int .i64 aA_played, .int .i64 aA_wins, .int .i64 aA_draws, .int .i64 aA_losses, .int .i64 aA_scored, .int .i64 aA_against, .int .i64 aA_points] ∧ BoxN wx (w.heap.size + 1) [.int .i64 aB_played, .int .i64 aB_wins, .int .i64 aB_draws, .int .i64 aB_losses, .int .i64 aB_scored, .int .i64 aB_against, .int .i64 aB_points] ∧ Below w.heap.size w wx))
  case first =>
    obtain ⟨wz, hwz⟩ : ∃ wz, wz = ((w.alloc (.cells #[.int .i64 aA_played, .int .i64 aA_wins, .int .i64 aA_draws, .int .i64 aA_losses, .int .i64 aA_scored, .int .i64 aA_against, .int .i64 aA_points] 61)).alloc (.cells #[.int .i64 aB_played, .int .i64 aB_wins, .int .i64 aB_draws, .int .i64 aB_losses, .int .i64 aB_scored, .int .i64 aB_against, .int .i64 aB_points] 61)) := ⟨_, rfl⟩
    rw [← hwz] at HS0
    obtain ⟨S, HSd⟩ : ∃ S : World → Prop, S = fun w' => BoxN w' w.heap.size [.int .i64 aA_played, .int .i64 aA_wins, .int .i64 aA_draws, .int .i64 aA_losses, .int .i64 aA_scored, .int .i64 aA_against, .int .i64 aA_points] ∧ BoxN w' (w.heap.size + 1) [.int .i64 aB_played, .int .i64 aB_wins, .int .i64 aB_draws, .int .i64 aB_losses, .int .i64 aB_scored, .int .i64 aB_against, .int .i64 aB_points] ∧ Below w.heap.size w w' := ⟨_, rfl⟩
    have KS : Hid (∀ wa wb, S wa → Below wa.heap.size wa wb → S wb) := by subst HSd; exact fun wa wb ⟨x0, x1, hb⟩ b => ⟨x0.below b, x1.below b, hb.trans (b.mono hb.size)⟩
    have OS : Hid (∀ wa, S wa → BoxN wa w.heap.size [.int .i64 aA_played, .int .i64 aA_wins, .int .i64 aA_draws, .int .i64 aA_losses, .int .i64 aA_scored, .int .i64 aA_against, .int .i64 aA_points] ∧ BoxN wa (w.heap.size + 1) [.int .i64 aB_played, .int .i64 aB_wins, .int .i64 aB_draws, .int .i64 aB_losses, .int .i64 aB_scored, .int .i64 aB_against, .int .i64 aB_points] ∧ Below w.heap.size w wa) := by subst HSd; exact fun wa h => h
    have SET : Hid (∀ wa X y, S wa → w.heap.size ≠ X → (w.heap.size + 1) ≠ X → w.heap.size ≤ X → S (set7 wa X 0 y)) := by subst HSd; exact fun wa X y ⟨x0, x1, hb⟩ q0 q1 hx => ⟨boxN_off7 x0 0 y q0, boxN_off7 x1 0 y q1, below_set7 hb hx⟩
    have KS0 : Hid (S wz.drew) := by subst HSd; exact HS0.out
    clear HSd HS0
    go_wp2_with fail
    rw [← hwz]
    clear hwz
    refine wp_region_held_drew (S := S) (by kernel_rfl) ?_ (fun hH0 => ?_)
    · exact KS0.out
    clear KS0
    generalize wz.drew = wz0 at *
    refine wpAnyH_take (i := 0) (v := ?_) rfl (by kernel_rfl) (by kernel_rfl) (by kernel_rfl) (fun _ _ _ h => h) (Or.inl ⟨by rfl, ?_⟩) (by assumption) ?_
    rotate_left
    · (intro wa hSw; obtain ⟨x0, x1, hb⟩ := OS.out _ hSw; have cx0_0 := x0.2 0 _ rfl; have cx0_1 := x0.2 1 _ rfl; have cx0_2 := x0.2 2 _ rfl; have cx0_3 := x0.2 3 _ rfl; have cx0_4 := x0.2 4 _ rfl; have cx0_5 := x0.2 5 _ rfl; have cx0_6 := x0.2 6 _ rfl; have cx1_0 := x1.2 0 _ rfl; have cx1_1 := x1.2 1 _ rfl; have cx1_2 := x1.2 2 _ rfl; have cx1_3 := x1.2 3 _ rfl; have cx1_4 := x1.2 4 _ rfl; have cx1_5 := x1.2 5 _ rfl; have cx1_6 := x1.2 6 _ rfl; go_simp; try with_reducible rfl)
    simp only [Act.put, List.getElem_toArray, List.getElem_cons_zero, List.setIfInBounds_toArray, List.set_cons_zero, List.set_cons_succ]
    refine wpAnyH_take (i := 2) (v := ?_) rfl (by kernel_rfl) (by kernel_rfl) (by kernel_rfl) (fun _ _ _ h => h) (Or.inl ⟨by rfl, ?_⟩) (by assumption) ?_
    rotate_left
    · (intro wa hSw; obtain ⟨x0, x1, hb⟩ := OS.out _ hSw; have cx0_0 := x0.2 0 _ rfl; have cx0_1 := x0.2 1 _ rfl; have cx0_2 := x0.2 2 _ rfl; have cx0_3 := x0.2 3 _ rfl; have cx0_4 := x0.2 4 _ rfl; have cx0_5 := x0.2 5 _ rfl; have cx0_6 := x0.2 6 _ rfl; have cx1_0 := x1.2 0 _ rfl; have cx1_1 := x1.2 1 _ rfl; have cx1_2 := x1.2 2 _ rfl; have cx1_3 := x1.2 3 _ rfl; have cx1_4 := x1.2 4 _ rfl; have cx1_5 := x1.2 5 _ rfl; have cx1_6 := x1.2 6 _ rfl; go_simp; try with_reducible rfl)
    simp only [Act.put, List.getElem_toArray, List.getElem_cons_zero, List.getElem_cons_succ, List.setIfInBounds_toArray, List.set_cons_zero, List.set_cons_succ]
    refine wpAnyH_ready (rs := [1, 5]) (by kernel_rfl) (by simp) ?_
    refine AllReadyH.cons (o := _) rfl (fun K1 hK1 => ?_) (AllReadyH.cons (o := _) rfl (fun K5 hK5 => ?_) AllReadyH.nil)
    · go_simp
      refine (x_to_Row aA_played aA_wins aA_draws aA_losses aA_scored aA_against aA_points _).mono ?_
      rintro e w1 ⟨rfl, b1⟩
      have hS1 := KS.out _ _ hH0 b1
      (try go_wp2_with fail)
      refine hK1.out _ _ ?_ (fun hH => ?_)
      · exact hS1
      clear hK1 K1 hH b1
      refine wpAnyH_ready (rs := [3, 5]) (by kernel_rfl) (by simp) ?_
      refine AllReadyH.cons (o := _) rfl (fun K3 hK3 => ?_) (AllReadyH.cons (o := _) rfl (fun K5 hK5 => ?_) AllReadyH.nil)
      · go_simp
        refine (x_to_Row aB_played aB_wins aB_draws aB_losses aB_scored aB_against aB_points _).mono ?_
        rintro e w2 ⟨rfl, b2⟩
        have hS2 := KS.out _ _ hS1 b2
        (try go_wp2_with fail)
        refine hK3.out _ _ ?_ (fun hH => ?_)
        · exact hS2
        clear hK3 K3 hH b2
        refine wpAnyH_ready (rs := [4, 5]) (by kernel_rfl) (by simp) ?_
        refine AllReadyH.cons (o := _) rfl (fun K4 hK4 => ?_) (AllReadyH.cons (o := _) rfl (fun K5 hK5 => ?_) AllReadyH.nil)
        · go_simp
          refine (CS.out _).mono ?_
          rintro e w3 ⟨rfl, b3⟩
          have hS3 := KS.out _ _ hS2 b3
          (try go_wp2_with fail)
          refine hK4.out _ _ ?_ (fun hH => ?_)
          · exact hS3
          clear hK4 K4 hH b3
          refine wpAnyH_ready (rs := [5]) (by kernel_rfl) (by simp) ?_
          refine AllReadyH.cons (o := _) rfl (fun K5 hK5 => ?_) AllReadyH.nil
          have hz : BoxF (w3.alloc (.cells #[.int .i64 0, .int .i64 0, .int .i64 0, .int .i64 0, .int .i64 0, .int .i64 0, .int .i64 0] 39)) w3.heap.size zeroR.cells := BoxF.made (Below.refl _ _) rfl
          have hal : Below w3.heap.size w3 (w3.alloc (.cells #[.int .i64 0, .int .i64 0, .int .i64 0, .int .i64 0, .int .i64 0, .int .i64 0, .int .i64 0] 39)) := (Below.refl _ _).alloc (Nat.le_refl _) _
          have hsz := OS.out _ hS3
          have hS4 := KS.out _ _ hS3 hal
          have z0 : w.heap.size < w3.heap.size := by obtain ⟨x0, x1, hb⟩ := hsz; exact x0.1
          have z1 : (w.heap.size + 1) < w3.heap.size := by obtain ⟨x0, x1, hb⟩ := hsz; exact x1.1
          have zw : w.heap.size ≤ w3.heap.size := by obtain ⟨x0, x1, hb⟩ := hsz; exact hb.size
          clear hal hsz
          go_simp
          refine hK5.out _ _ ?_ (fun hH => ?_)
          · exact hS4
          clear hK5 K5 hH
          generalize w3.alloc (.cells #[.int .i64 0, .int .i64 0, .int .i64 0, .int .i64 0, .int .i64 0, .int .i64 0, .int .i64 0] 39) = wq4 at *
          generalize w3.heap.size = X at *
          have hx := hz
          clear hz
          have q7 := boxF_row7z hx
          obtain ⟨d0, d1, d2, d3, d4, d5, d6⟩ := q7.1
          obtain ⟨e0, e1, e2, e3, e4, e5, e6⟩ := q7.2
          clear q7
          refine wpAnyH_ready (rs := [6]) (by kernel_rfl) (by simp) ?_
          refine AllReadyH.cons (o := _) rfl (fun K hK => ?_) AllReadyH.nil
          have hSst := SET.out _ X (⟨ar0_played, ar0_wins, ar0_draws, ar0_losses, ar0_scored, ar0_against, ar0_points⟩ : RowD) hS4 (by omega) (by omega) (by omega)
          have hx6 : BoxF (set7 wq4 X 0 (⟨ar0_played, ar0_wins, ar0_draws, ar0_losses, ar0_scored, ar0_against, ar0_points⟩ : RowD)) X (RowD.cells (⟨ar0_played, ar0_wins, ar0_draws, ar0_losses, ar0_scored, ar0_against, ar0_points⟩ : RowD)) := hx.set7
          go_simp
          refine hK.out _ _ ?_ (fun hH => ?_)
          · exact hSst
          clear hK K
          refine wpAnyH_done (by kernel_rfl) ?_ _
          clear d0 d1 d2 d3 d4 d5 d6 e0 e1 e2 e3 e4 e5 e6 hH hx
          have HR := Lib.hid (And.intro hx6.box (OS.out _ hSst))
          clear hx6 hSst KS OS SET hH0 hS1 hS2 hS3 hS4
          generalize hw9 : set7 wq4 X 0 (⟨ar0_played, ar0_wins, ar0_draws, ar0_losses, ar0_scored, ar0_against, ar0_points⟩ : RowD) = w9 at *
          simp only [set7, Nat.zero_add] at hw9
          rw [hw9]
          clear hw9
          go_wp2_with fail
          go_meet
          case rel => exact ⟨X, rfl, HR⟩
        · have hz : BoxF (w2.alloc (.cells #[.int .i64 0, .int .i64 0, .int .i64 0, .int .i64 0, .int .i64 0, .int .i64 0, .int .i64 0] 39)) w2.heap.size zeroR.cells := BoxF.made (Below.refl _ _) rfl
          have hal : Below w2.heap.size w2 (w2.alloc (.cells #[.int .i64 0, .int .i64 0, .int .i64 0, .int .i64 0, .int .i64 0, .int .i64 0, .int .i64 0] 39)) := (Below.refl _ _).alloc (Nat.le_refl _) _
          have hsz := OS.out _ hS2
          have hS5 := KS.out _ _ hS2 hal
          have z0 : w.heap.size < w2.heap.size := by obtain ⟨x0, x1, hb⟩ := hsz; exact x0.1
          have z1 : (w.heap.size + 1) < w2.heap.size := by obtain ⟨x0, x1, hb⟩ := hsz; exact x1.1
          have zw : w.heap.size ≤ w2.heap.size := by obtain ⟨x0, x1, hb⟩ := hsz; exact hb.size
          clear hal hsz
          go_simp
          refine hK5.out _ _ ?_ (fun hH => ?_)
          · exact hS5
          clear hK5 K5 hH
          generalize w2.alloc (.cells #[.int .i64 0, .int .i64 0, .int .i64 0, .int .i64 0, .int .i64 0, .int .i64 0, .int .i64 0] 39) = wq5 at *
          generalize w2.heap.size = X at *
          have hx := hz
          clear hz
          refine wpAnyH_ready (rs := [4]) (by kernel_rfl) (by simp) ?_
          refine AllReadyH.cons (o := _) rfl (fun K4 hK4 => ?_) AllReadyH.nil
          go_simp
          refine (CS.out _).mono ?_
          rintro e w6 ⟨rfl, b6⟩
          have hS6 := KS.out _ _ hS5 b6
          replace hx := hx.below b6
          (try go_wp2_with fail)
          refine hK4.out _ _ ?_ (fun hH => ?_)
          · exact hS6
          clear hK4 K4 hH b6
          have q7 := boxF_row7z hx
          obtain ⟨d0, d1, d2, d3, d4, d5, d6⟩ := q7.1
          obtain ⟨e0, e1, e2, e3, e4, e5, e6⟩ := q7.2
          clear q7
          refine wpAnyH_ready (rs := [6]) (by kernel_rfl) (by simp) ?_
          refine AllReadyH.cons (o := _) rfl (fun K hK => ?_) AllReadyH.nil
          have hSst := SET.out _ X (⟨ar0_played, ar0_wins, ar0_draws, ar0_losses, ar0_scored, ar0_against, ar0_points⟩ : RowD) hS6 (by omega) (by omega) (by omega)
          have hx6 : BoxF (set7 w6 X 0 (⟨ar0_played, ar0_wins, ar0_draws, ar0_losses, ar0_scored, ar0_against, ar0_points⟩ : RowD)) X (RowD.cells (⟨ar0_played, ar0_wins, ar0_draws, ar0_losses, ar0_scored, ar0_against, ar0_points⟩ : RowD)) := hx.set7
          go_simp
          refine hK.out _ _ ?_ (fun hH => ?_)
          · exact hSst
          clear hK K
          refine wpAnyH_done (by kernel_rfl) ?_ _
          clear d0 d1 d2 d3 d4 d5 d6 e0 e1 e2 e3 e4 e5 e6 hH hx
          have HR := Lib.hid (And.intro hx6.box (OS.out _ hSst))
          clear hx6 hSst KS OS SET hH0 hS1 hS2 hS5 hS6
          generalize hw9 : set7 w6 X 0 (⟨ar0_played, ar0_wins, ar0_draws, ar0_losses, ar0_scored, ar0_against, ar0_points⟩ : RowD) = w9 at *
          simp only [set7, Nat.zero_add] at hw9
          rw [hw9]
          clear hw9
          go_wp2_with fail
          go_meet
          case rel => exact ⟨X, rfl, HR⟩
      · have hz : BoxF (w1.alloc (.cells #[.int .i64 0, .int .i64 0, .int .i64 0, .int .i64 0, .int .i64 0, .int .i64 0, .int .i64 0] 39)) w1.heap.size zeroR.cells := BoxF.made (Below.refl _ _) rfl
        have hal : Below w1.heap.size w1 (w1.alloc (.cells #[.int .i64 0, .int .i64 0, .int .i64 0, .int .i64 0, .int .i64 0, .int .i64 0, .int .i64 0] 39)) := (Below.refl _ _).alloc (Nat.le_refl _) _
        have hsz := OS.out _ hS1
        have hS7 := KS.out _ _ hS1 hal
        have z0 : w.heap.size < w1.heap.size := by obtain ⟨x0, x1, hb⟩ := hsz; exact x0.1
        have z1 : (w.heap.size + 1) < w1.heap.size := by obtain ⟨x0, x1, hb⟩ := hsz; exact x1.1
        have zw : w.heap.size ≤ w1.heap.size := by obtain ⟨x0, x1, hb⟩ := hsz; exact hb.size
        clear hal hsz
        go_simp
        refine hK5.out _ _ ?_ (fun hH => ?_)
        · exact hS7
        clear hK5 K5 hH
        generalize w1.alloc (.cells #[.int .i64 0, .int .i64 0, .int .i64 0, .int .i64 0, .int .i64 0, .int .i64 0, .int .i64 0] 39) = wq7 at *
        generalize w1.heap.size = X at *
        have hx := hz
        clear hz
        refine wpAnyH_ready (rs := [3]) (by kernel_rfl) (by simp) ?_
        refine AllReadyH.cons (o := _) rfl (fun K3 hK3 => ?_) AllReadyH.nil
        go_simp
        refine (x_to_Row aB_played aB_wins aB_draws aB_losses aB_scored aB_against aB_points _).mono ?_
        rintro e w8 ⟨rfl, b8⟩
        have hS8 := KS.out _ _ hS7 b8
        replace hx := hx.below b8
        (try go_wp2_with fail)
        refine hK3.out _ _ ?_ (fun hH => ?_)
        · exact hS8
        clear hK3 K3 hH b8
        refine wpAnyH_ready (rs := [4]) (by kernel_rfl) (by simp) ?_
        refine AllReadyH.cons (o := _) rfl (fun K4 hK4 => ?_) AllReadyH.nil
        go_simp
        refine (CS.out _).mono ?_
        rintro e w9 ⟨rfl, b9⟩
        have hS9 := KS.out _ _ hS8 b9
        replace hx := hx.below b9
        (try go_wp2_with fail)
        refine hK4.out _ _ ?_ (fun hH => ?_)
        · exact hS9
        clear hK4 K4 hH b9
        have q7 := boxF_row7z hx
        obtain ⟨d0, d1, d2, d3, d4, d5, d6⟩ := q7.1
        obtain ⟨e0, e1, e2, e3, e4, e5, e6⟩ := q7.2
        clear q7
        refine wpAnyH_ready (rs := [6]) (by kernel_rfl) (by simp) ?_
        refine AllReadyH.cons (o := _) rfl (fun K hK => ?_) AllReadyH.nil
        have hSst := SET.out _ X (⟨ar0_played, ar0_wins, ar0_draws, ar0_losses, ar0_scored, ar0_against, ar0_points⟩ : RowD) hS9 (by omega) (by omega) (by omega)
        have hx6 : BoxF (set7 w9 X 0 (⟨ar0_played, ar0_wins, ar0_draws, ar0_losses, ar0_scored, ar0_against, ar0_points⟩ : RowD)) X (RowD.cells (⟨ar0_played, ar0_wins, ar0_draws, ar0_losses, ar0_scored, ar0_against, ar0_points⟩ : RowD)) := hx.set7
        go_simp
        refine hK.out _ _ ?_ (fun hH => ?_)
        · exact hSst
        clear hK K
        refine wpAnyH_done (by kernel_rfl) ?_ _
        clear d0 d1 d2 d3 d4 d5 d6 e0 e1 e2 e3 e4 e5 e6 hH hx
        have HR := Lib.hid (And.intro hx6.box (OS.out _ hSst))
        clear hx6 hSst KS OS SET hH0 hS1 hS7 hS8 hS9
        generalize hw9 : set7 w9 X 0 (⟨ar0_played, ar0_wins, ar0_draws, ar0_losses, ar0_scored, ar0_against, ar0_points⟩ : RowD) = w9 at *
        simp only [set7, Nat.zero_add] at hw9
        rw [hw9]
        clear hw9
        go_wp2_with fail
        go_meet
        case rel => exact ⟨X, rfl, HR⟩
    · have hz : BoxF (wz0.alloc (.cells #[.int .i64 0, .int .i64 0, .int .i64 0, .int .i64 0, .int .i64 0, .int .i64 0, .int .i64 0] 39)) wz0.heap.size zeroR.cells := BoxF.made (Below.refl _ _) rfl
      have hal : Below wz0.heap.size wz0 (wz0.alloc (.cells #[.int .i64 0, .int .i64 0, .int .i64 0, .int .i64 0, .int .i64 0, .int .i64 0, .int .i64 0] 39)) := (Below.refl _ _).alloc (Nat.le_refl _) _
      have hsz := OS.out _ hH0
      have hS10 := KS.out _ _ hH0 hal
      have z0 : w.heap.size < wz0.heap.size := by obtain ⟨x0, x1, hb⟩ := hsz; exact x0.1
      have z1 : (w.heap.size + 1) < wz0.heap.size := by obtain ⟨x0, x1, hb⟩ := hsz; exact x1.1
      have zw : w.heap.size ≤ wz0.heap.size := by obtain ⟨x0, x1, hb⟩ := hsz; exact hb.size
      clear hal hsz
      go_simp
      refine hK5.out _ _ ?_ (fun hH => ?_)
      · exact hS10
      clear hK5 K5 hH
      generalize wz0.alloc (.cells #[.int .i64 0, .int .i64 0, .int .i64 0, .int .i64 0, .int .i64 0, .int .i64 0, .int .i64 0] 39) = wq10 at *
      generalize wz0.heap.size = X at *
      have hx := hz
      clear hz
      refine wpAnyH_ready (rs := [1]) (by kernel_rfl) (by simp) ?_
      refine AllReadyH.cons (o := _) rfl (fun K1 hK1 => ?_) AllReadyH.nil
      go_simp
      refine (x_to_Row aA_played aA_wins aA_draws aA_losses aA_scored aA_against aA_points _).mono ?_
      rintro e w11 ⟨rfl, b11⟩
      have hS11 := KS.out _ _ hS10 b11
      replace hx := hx.below b11
      (try go_wp2_with fail)
      refine hK1.out _ _ ?_ (fun hH => ?_)
      · exact hS11
      clear hK1 K1 hH b11
      refine wpAnyH_ready (rs := [3]) (by kernel_rfl) (by simp) ?_
      refine AllReadyH.cons (o := _) rfl (fun K3 hK3 => ?_) AllReadyH.nil
      go_simp
      refine (x_to_Row aB_played aB_wins aB_draws aB_losses aB_scored aB_against aB_points _).mono ?_
      rintro e w12 ⟨rfl, b12⟩
      have hS12 := KS.out _ _ hS11 b12
      replace hx := hx.below b12
      (try go_wp2_with fail)
      refine hK3.out _ _ ?_ (fun hH => ?_)
      · exact hS12
      clear hK3 K3 hH b12
      refine wpAnyH_ready (rs := [4]) (by kernel_rfl) (by simp) ?_
      refine AllReadyH.cons (o := _) rfl (fun K4 hK4 => ?_) AllReadyH.nil
      go_simp
      refine (CS.out _).mono ?_
      rintro e w13 ⟨rfl, b13⟩
      have hS13 := KS.out _ _ hS12 b13
      replace hx := hx.below b13
      (try go_wp2_with fail)
      refine hK4.out _ _ ?_ (fun hH => ?_)
      · exact hS13
      clear hK4 K4 hH b13
      have q7 := boxF_row7z hx
      obtain ⟨d0, d1, d2, d3, d4, d5, d6⟩ := q7.1
      obtain ⟨e0, e1, e2, e3, e4, e5, e6⟩ := q7.2
      clear q7
      refine wpAnyH_ready (rs := [6]) (by kernel_rfl) (by simp) ?_
      refine AllReadyH.cons (o := _) rfl (fun K hK => ?_) AllReadyH.nil
      have hSst := SET.out _ X (⟨ar0_played, ar0_wins, ar0_draws, ar0_losses, ar0_scored, ar0_against, ar0_points⟩ : RowD) hS13 (by omega) (by omega) (by omega)
      have hx6 : BoxF (set7 w13 X 0 (⟨ar0_played, ar0_wins, ar0_draws, ar0_losses, ar0_scored, ar0_against, ar0_points⟩ : RowD)) X (RowD.cells (⟨ar0_played, ar0_wins, ar0_draws, ar0_losses, ar0_scored, ar0_against, ar0_points⟩ : RowD)) := hx.set7
      go_simp
      refine hK.out _ _ ?_ (fun hH => ?_)
      · exact hSst
      clear hK K
      refine wpAnyH_done (by kernel_rfl) ?_ _
      clear d0 d1 d2 d3 d4 d5 d6 e0 e1 e2 e3 e4 e5 e6 hH hx
      have HR := Lib.hid (And.intro hx6.box (OS.out _ hSst))
      clear hx6 hSst KS OS SET hH0 hS10 hS11 hS12 hS13
      generalize hw9 : set7 w13 X 0 (⟨ar0_played, ar0_wins, ar0_draws, ar0_losses, ar0_scored, ar0_against, ar0_points⟩ : RowD) = w9 at *
      simp only [set7, Nat.zero_add] at hw9
      rw [hw9]
      clear hw9
      go_wp2_with fail
      go_meet
      case rel => exact ⟨X, rfl, HR⟩
  case rest =>
    obtain ⟨X0, rfl, HR0⟩ := hcut
    clear HS0
    go_upto_region 2 with fail
    go_cut [6] (fun s wx => ∃ X : Nat, s = .pointer (some ⟨X, 0, none⟩) ∧ Hid (BoxN wx X (RowD.cells (⟨ar0_played, ar0_wins, ar0_draws, ar0_losses, ar0_scored, ar0_against, ar0_points⟩ : RowD)) ∧ BoxN wx w.heap.size [.int .i64 aA_played, .int .i64 aA_wins, .int .i64 aA_draws, .int .i64 aA_losses, .int .i64 aA_scored, .int .i64 aA_against, .int .i64 aA_points] ∧ BoxN wx (w.heap.size + 1) [.int .i64 aB_played, .int .i64 aB_wins, .int .i64 aB_draws, .int .i64 aB_losses, .int .i64 aB_scored, .int .i64 aB_against, .int .i64 aB_points] ∧ BoxN wx X0 (RowD.cells (⟨ar0_played, ar0_wins, ar0_draws, ar0_losses, ar0_scored, ar0_against, ar0_points⟩ : RowD)) ∧ Below w.heap.size w wx))
    case first =>
      have HS0 : Hid (BoxN wc.drew w.heap.size [.int .i64 aA_played, .int .i64 aA_wins, .int .i64 aA_draws, .int .i64 aA_losses, .int .i64 aA_scored, .int .i64 aA_against, .int .i64 aA_points] ∧ BoxN wc.drew (w.heap.size + 1) [.int .i64 aB_played, .int .i64 aB_wins, .int .i64 aB_draws, .int .i64 aB_losses, .int .i64 aB_scored, .int .i64 aB_against, .int .i64 aB_points] ∧ BoxN wc.drew X0 (RowD.cells (⟨ar0_played, ar0_wins, ar0_draws, ar0_losses, ar0_scored, ar0_against, ar0_points⟩ : RowD)) ∧ Below w.heap.size w wc.drew) := by obtain ⟨r0, xa, xb, hb⟩ := HR0.out; exact ⟨xa.below (Below.refl _ _).drew, xb.below (Below.refl _ _).drew, r0.below (Below.refl _ _).drew, hb.drew⟩
      generalize wc = wz at *
      clear HR0
      obtain ⟨S, HSd⟩ : ∃ S : World → Prop, S = fun w' => BoxN w' w.heap.size [.int .i64 aA_played, .int .i64 aA_wins, .int .i64 aA_draws, .int .i64 aA_losses, .int .i64 aA_scored, .int .i64 aA_against, .int .i64 aA_points] ∧ BoxN w' (w.heap.size + 1) [.int .i64 aB_played, .int .i64 aB_wins, .int .i64 aB_draws, .int .i64 aB_losses, .int .i64 aB_scored, .int .i64 aB_against, .int .i64 aB_points] ∧ BoxN w' X0 (RowD.cells (⟨ar0_played, ar0_wins, ar0_draws, ar0_losses, ar0_scored, ar0_against, ar0_points⟩ : RowD)) ∧ Below w.heap.size w w' := ⟨_, rfl⟩
      have KS : Hid (∀ wa wb, S wa → Below wa.heap.size wa wb → S wb) := by subst HSd; exact fun wa wb ⟨x0, x1, x2, hb⟩ b => ⟨x0.below b, x1.below b, x2.below b, hb.trans (b.mono hb.size)⟩
      have OS : Hid (∀ wa, S wa → BoxN wa w.heap.size [.int .i64 aA_played, .int .i64 aA_wins, .int .i64 aA_draws, .int .i64 aA_losses, .int .i64 aA_scored, .int .i64 aA_against, .int .i64 aA_points] ∧ BoxN wa (w.heap.size + 1) [.int .i64 aB_played, .int .i64 aB_wins, .int .i64 aB_draws, .int .i64 aB_losses, .int .i64 aB_scored, .int .i64 aB_against, .int .i64 aB_points] ∧ BoxN wa X0 (RowD.cells (⟨ar0_played, ar0_wins, ar0_draws, ar0_losses, ar0_scored, ar0_against, ar0_points⟩ : RowD)) ∧ Below w.heap.size w wa) := by subst HSd; exact fun wa h => h
      have SET : Hid (∀ wa X y, S wa → w.heap.size ≠ X → (w.heap.size + 1) ≠ X → X0 ≠ X → w.heap.size ≤ X → S (set7 wa X 0 y)) := by subst HSd; exact fun wa X y ⟨x0, x1, x2, hb⟩ q0 q1 q2 hx => ⟨boxN_off7 x0 0 y q0, boxN_off7 x1 0 y q1, boxN_off7 x2 0 y q2, below_set7 hb hx⟩
      have KS0 : Hid (S wz.drew) := by subst HSd; exact HS0.out
      clear HSd HS0
      go_wp2_with fail
      refine wp_region_held_drew (S := S) (by kernel_rfl) ?_ (fun hH0 => ?_)
      · exact KS0.out
      clear KS0
      generalize wz.drew = wz0 at *
      refine wpAnyH_take (i := 0) (v := ?_) rfl (by kernel_rfl) (by kernel_rfl) (by kernel_rfl) (fun _ _ _ h => h) (Or.inl ⟨by rfl, ?_⟩) (by assumption) ?_
      rotate_left
      · (intro wa hSw; obtain ⟨x0, x1, x2, hb⟩ := OS.out _ hSw; have cx0_0 := x0.2 0 _ rfl; have cx0_1 := x0.2 1 _ rfl; have cx0_2 := x0.2 2 _ rfl; have cx0_3 := x0.2 3 _ rfl; have cx0_4 := x0.2 4 _ rfl; have cx0_5 := x0.2 5 _ rfl; have cx0_6 := x0.2 6 _ rfl; have cx1_0 := x1.2 0 _ rfl; have cx1_1 := x1.2 1 _ rfl; have cx1_2 := x1.2 2 _ rfl; have cx1_3 := x1.2 3 _ rfl; have cx1_4 := x1.2 4 _ rfl; have cx1_5 := x1.2 5 _ rfl; have cx1_6 := x1.2 6 _ rfl; go_simp; try with_reducible rfl)
      simp only [Act.put, List.getElem_toArray, List.getElem_cons_zero, List.setIfInBounds_toArray, List.set_cons_zero, List.set_cons_succ]
      refine wpAnyH_take (i := 2) (v := ?_) rfl (by kernel_rfl) (by kernel_rfl) (by kernel_rfl) (fun _ _ _ h => h) (Or.inl ⟨by rfl, ?_⟩) (by assumption) ?_
      rotate_left
      · (intro wa hSw; obtain ⟨x0, x1, x2, hb⟩ := OS.out _ hSw; have cx0_0 := x0.2 0 _ rfl; have cx0_1 := x0.2 1 _ rfl; have cx0_2 := x0.2 2 _ rfl; have cx0_3 := x0.2 3 _ rfl; have cx0_4 := x0.2 4 _ rfl; have cx0_5 := x0.2 5 _ rfl; have cx0_6 := x0.2 6 _ rfl; have cx1_0 := x1.2 0 _ rfl; have cx1_1 := x1.2 1 _ rfl; have cx1_2 := x1.2 2 _ rfl; have cx1_3 := x1.2 3 _ rfl; have cx1_4 := x1.2 4 _ rfl; have cx1_5 := x1.2 5 _ rfl; have cx1_6 := x1.2 6 _ rfl; go_simp; try with_reducible rfl)
      simp only [Act.put, List.getElem_toArray, List.getElem_cons_zero, List.getElem_cons_succ, List.setIfInBounds_toArray, List.set_cons_zero, List.set_cons_succ]
      refine wpAnyH_ready (rs := [1, 5]) (by kernel_rfl) (by simp) ?_
      refine AllReadyH.cons (o := _) rfl (fun K1 hK1 => ?_) (AllReadyH.cons (o := _) rfl (fun K5 hK5 => ?_) AllReadyH.nil)
      · go_simp
        refine (x_to_Row aA_played aA_wins aA_draws aA_losses aA_scored aA_against aA_points _).mono ?_
        rintro e w1 ⟨rfl, b1⟩
        have hS1 := KS.out _ _ hH0 b1
        (try go_wp2_with fail)
        refine hK1.out _ _ ?_ (fun hH => ?_)
        · exact hS1
        clear hK1 K1 hH b1
        refine wpAnyH_ready (rs := [3, 5]) (by kernel_rfl) (by simp) ?_
        refine AllReadyH.cons (o := _) rfl (fun K3 hK3 => ?_) (AllReadyH.cons (o := _) rfl (fun K5 hK5 => ?_) AllReadyH.nil)
        · go_simp
          refine (x_to_Row aB_played aB_wins aB_draws aB_losses aB_scored aB_against aB_points _).mono ?_
          rintro e w2 ⟨rfl, b2⟩
          have hS2 := KS.out _ _ hS1 b2
          (try go_wp2_with fail)
          refine hK3.out _ _ ?_ (fun hH => ?_)
          · exact hS2
          clear hK3 K3 hH b2
          refine wpAnyH_ready (rs := [4, 5]) (by kernel_rfl) (by simp) ?_
          refine AllReadyH.cons (o := _) rfl (fun K4 hK4 => ?_) (AllReadyH.cons (o := _) rfl (fun K5 hK5 => ?_) AllReadyH.nil)
          · go_simp
            refine (CI.out _).mono ?_
            rintro e w3 ⟨rfl, b3⟩
            have hS3 := KS.out _ _ hS2 b3
            (try go_wp2_with fail)
            refine hK4.out _ _ ?_ (fun hH => ?_)
            · exact hS3
            clear hK4 K4 hH b3
            refine wpAnyH_ready (rs := [5]) (by kernel_rfl) (by simp) ?_
            refine AllReadyH.cons (o := _) rfl (fun K5 hK5 => ?_) AllReadyH.nil
            have hz : BoxF (w3.alloc (.cells #[.int .i64 0, .int .i64 0, .int .i64 0, .int .i64 0, .int .i64 0, .int .i64 0, .int .i64 0] 39)) w3.heap.size zeroR.cells := BoxF.made (Below.refl _ _) rfl
            have hal : Below w3.heap.size w3 (w3.alloc (.cells #[.int .i64 0, .int .i64 0, .int .i64 0, .int .i64 0, .int .i64 0, .int .i64 0, .int .i64 0] 39)) := (Below.refl _ _).alloc (Nat.le_refl _) _
            have hsz := OS.out _ hS3
            have hS4 := KS.out _ _ hS3 hal
            have z0 : w.heap.size < w3.heap.size := by obtain ⟨x0, x1, x2, hb⟩ := hsz; exact x0.1
            have z1 : (w.heap.size + 1) < w3.heap.size := by obtain ⟨x0, x1, x2, hb⟩ := hsz; exact x1.1
            have z2 : X0 < w3.heap.size := by obtain ⟨x0, x1, x2, hb⟩ := hsz; exact x2.1
            have zw : w.heap.size ≤ w3.heap.size := by obtain ⟨x0, x1, x2, hb⟩ := hsz; exact hb.size
            clear hal hsz
            go_simp
            refine hK5.out _ _ ?_ (fun hH => ?_)
            · exact hS4
            clear hK5 K5 hH
            generalize w3.alloc (.cells #[.int .i64 0, .int .i64 0, .int .i64 0, .int .i64 0, .int .i64 0, .int .i64 0, .int .i64 0] 39) = wq4 at *
            generalize w3.heap.size = X at *
            have hx := hz
            clear hz
            have q7 := boxF_row7z hx
            obtain ⟨d0, d1, d2, d3, d4, d5, d6⟩ := q7.1
            obtain ⟨e0, e1, e2, e3, e4, e5, e6⟩ := q7.2
            clear q7
            refine wpAnyH_ready (rs := [6]) (by kernel_rfl) (by simp) ?_
            refine AllReadyH.cons (o := _) rfl (fun K hK => ?_) AllReadyH.nil
            have hSst := SET.out _ X (⟨ar0_played, ar0_wins, ar0_draws, ar0_losses, ar0_scored, ar0_against, ar0_points⟩ : RowD) hS4 (by omega) (by omega) (by omega) (by omega)
            have hx6 : BoxF (set7 wq4 X 0 (⟨ar0_played, ar0_wins, ar0_draws, ar0_losses, ar0_scored, ar0_against, ar0_points⟩ : RowD)) X (RowD.cells (⟨ar0_played, ar0_wins, ar0_draws, ar0_losses, ar0_scored, ar0_against, ar0_points⟩ : RowD)) := hx.set7
            go_simp
            refine hK.out _ _ ?_ (fun hH => ?_)
            · exact hSst
            clear hK K
            refine wpAnyH_done (by kernel_rfl) ?_ _
            clear d0 d1 d2 d3 d4 d5 d6 e0 e1 e2 e3 e4 e5 e6 hH hx
            have HR := Lib.hid (And.intro hx6.box (OS.out _ hSst))
            clear hx6 hSst KS OS SET hH0 hS1 hS2 hS3 hS4
            generalize hw9 : set7 wq4 X 0 (⟨ar0_played, ar0_wins, ar0_draws, ar0_losses, ar0_scored, ar0_against, ar0_points⟩ : RowD) = w9 at *
            simp only [set7, Nat.zero_add] at hw9
            rw [hw9]
            clear hw9
            go_wp2_with fail
            go_meet
            case rel => exact ⟨X, rfl, HR⟩
          · have hz : BoxF (w2.alloc (.cells #[.int .i64 0, .int .i64 0, .int .i64 0, .int .i64 0, .int .i64 0, .int .i64 0, .int .i64 0] 39)) w2.heap.size zeroR.cells := BoxF.made (Below.refl _ _) rfl
            have hal : Below w2.heap.size w2 (w2.alloc (.cells #[.int .i64 0, .int .i64 0, .int .i64 0, .int .i64 0, .int .i64 0, .int .i64 0, .int .i64 0] 39)) := (Below.refl _ _).alloc (Nat.le_refl _) _
            have hsz := OS.out _ hS2
            have hS5 := KS.out _ _ hS2 hal
            have z0 : w.heap.size < w2.heap.size := by obtain ⟨x0, x1, x2, hb⟩ := hsz; exact x0.1
            have z1 : (w.heap.size + 1) < w2.heap.size := by obtain ⟨x0, x1, x2, hb⟩ := hsz; exact x1.1
            have z2 : X0 < w2.heap.size := by obtain ⟨x0, x1, x2, hb⟩ := hsz; exact x2.1
            have zw : w.heap.size ≤ w2.heap.size := by obtain ⟨x0, x1, x2, hb⟩ := hsz; exact hb.size
            clear hal hsz
            go_simp
            refine hK5.out _ _ ?_ (fun hH => ?_)
            · exact hS5
            clear hK5 K5 hH
            generalize w2.alloc (.cells #[.int .i64 0, .int .i64 0, .int .i64 0, .int .i64 0, .int .i64 0, .int .i64 0, .int .i64 0] 39) = wq5 at *
            generalize w2.heap.size = X at *
            have hx := hz
            clear hz
            refine wpAnyH_ready (rs := [4]) (by kernel_rfl) (by simp) ?_
            refine AllReadyH.cons (o := _) rfl (fun K4 hK4 => ?_) AllReadyH.nil
            go_simp
            refine (CI.out _).mono ?_
            rintro e w6 ⟨rfl, b6⟩
            have hS6 := KS.out _ _ hS5 b6
            replace hx := hx.below b6
            (try go_wp2_with fail)
            refine hK4.out _ _ ?_ (fun hH => ?_)
            · exact hS6
            clear hK4 K4 hH b6
            have q7 := boxF_row7z hx
            obtain ⟨d0, d1, d2, d3, d4, d5, d6⟩ := q7.1
            obtain ⟨e0, e1, e2, e3, e4, e5, e6⟩ := q7.2
            clear q7
            refine wpAnyH_ready (rs := [6]) (by kernel_rfl) (by simp) ?_
            refine AllReadyH.cons (o := _) rfl (fun K hK => ?_) AllReadyH.nil
            have hSst := SET.out _ X (⟨ar0_played, ar0_wins, ar0_draws, ar0_losses, ar0_scored, ar0_against, ar0_points⟩ : RowD) hS6 (by omega) (by omega) (by omega) (by omega)
            have hx6 : BoxF (set7 w6 X 0 (⟨ar0_played, ar0_wins, ar0_draws, ar0_losses, ar0_scored, ar0_against, ar0_points⟩ : RowD)) X (RowD.cells (⟨ar0_played, ar0_wins, ar0_draws, ar0_losses, ar0_scored, ar0_against, ar0_points⟩ : RowD)) := hx.set7
            go_simp
            refine hK.out _ _ ?_ (fun hH => ?_)
            · exact hSst
            clear hK K
            refine wpAnyH_done (by kernel_rfl) ?_ _
            clear d0 d1 d2 d3 d4 d5 d6 e0 e1 e2 e3 e4 e5 e6 hH hx
            have HR := Lib.hid (And.intro hx6.box (OS.out _ hSst))
            clear hx6 hSst KS OS SET hH0 hS1 hS2 hS5 hS6
            generalize hw9 : set7 w6 X 0 (⟨ar0_played, ar0_wins, ar0_draws, ar0_losses, ar0_scored, ar0_against, ar0_points⟩ : RowD) = w9 at *
            simp only [set7, Nat.zero_add] at hw9
            rw [hw9]
            clear hw9
            go_wp2_with fail
            go_meet
            case rel => exact ⟨X, rfl, HR⟩
        · have hz : BoxF (w1.alloc (.cells #[.int .i64 0, .int .i64 0, .int .i64 0, .int .i64 0, .int .i64 0, .int .i64 0, .int .i64 0] 39)) w1.heap.size zeroR.cells := BoxF.made (Below.refl _ _) rfl
          have hal : Below w1.heap.size w1 (w1.alloc (.cells #[.int .i64 0, .int .i64 0, .int .i64 0, .int .i64 0, .int .i64 0, .int .i64 0, .int .i64 0] 39)) := (Below.refl _ _).alloc (Nat.le_refl _) _
          have hsz := OS.out _ hS1
          have hS7 := KS.out _ _ hS1 hal
          have z0 : w.heap.size < w1.heap.size := by obtain ⟨x0, x1, x2, hb⟩ := hsz; exact x0.1
          have z1 : (w.heap.size + 1) < w1.heap.size := by obtain ⟨x0, x1, x2, hb⟩ := hsz; exact x1.1
          have z2 : X0 < w1.heap.size := by obtain ⟨x0, x1, x2, hb⟩ := hsz; exact x2.1
          have zw : w.heap.size ≤ w1.heap.size := by obtain ⟨x0, x1, x2, hb⟩ := hsz; exact hb.size
          clear hal hsz
          go_simp
          refine hK5.out _ _ ?_ (fun hH => ?_)
          · exact hS7
          clear hK5 K5 hH
          generalize w1.alloc (.cells #[.int .i64 0, .int .i64 0, .int .i64 0, .int .i64 0, .int .i64 0, .int .i64 0, .int .i64 0] 39) = wq7 at *
          generalize w1.heap.size = X at *
          have hx := hz
          clear hz
          refine wpAnyH_ready (rs := [3]) (by kernel_rfl) (by simp) ?_
          refine AllReadyH.cons (o := _) rfl (fun K3 hK3 => ?_) AllReadyH.nil
          go_simp
          refine (x_to_Row aB_played aB_wins aB_draws aB_losses aB_scored aB_against aB_points _).mono ?_
          rintro e w8 ⟨rfl, b8⟩
          have hS8 := KS.out _ _ hS7 b8
          replace hx := hx.below b8
          (try go_wp2_with fail)
          refine hK3.out _ _ ?_ (fun hH => ?_)
          · exact hS8
          clear hK3 K3 hH b8
          refine wpAnyH_ready (rs := [4]) (by kernel_rfl) (by simp) ?_
          refine AllReadyH.cons (o := _) rfl (fun K4 hK4 => ?_) AllReadyH.nil
          go_simp
          refine (CI.out _).mono ?_
          rintro e w9 ⟨rfl, b9⟩
          have hS9 := KS.out _ _ hS8 b9
          replace hx := hx.below b9
          (try go_wp2_with fail)
          refine hK4.out _ _ ?_ (fun hH => ?_)
          · exact hS9
          clear hK4 K4 hH b9
          have q7 := boxF_row7z hx
          obtain ⟨d0, d1, d2, d3, d4, d5, d6⟩ := q7.1
          obtain ⟨e0, e1, e2, e3, e4, e5, e6⟩ := q7.2
          clear q7
          refine wpAnyH_ready (rs := [6]) (by kernel_rfl) (by simp) ?_
          refine AllReadyH.cons (o := _) rfl (fun K hK => ?_) AllReadyH.nil
          have hSst := SET.out _ X (⟨ar0_played, ar0_wins, ar0_draws, ar0_losses, ar0_scored, ar0_against, ar0_points⟩ : RowD) hS9 (by omega) (by omega) (by omega) (by omega)
          have hx6 : BoxF (set7 w9 X 0 (⟨ar0_played, ar0_wins, ar0_draws, ar0_losses, ar0_scored, ar0_against, ar0_points⟩ : RowD)) X (RowD.cells (⟨ar0_played, ar0_wins, ar0_draws, ar0_losses, ar0_scored, ar0_against, ar0_points⟩ : RowD)) := hx.set7
          go_simp
          refine hK.out _ _ ?_ (fun hH => ?_)
          · exact hSst
          clear hK K
          refine wpAnyH_done (by kernel_rfl) ?_ _
          clear d0 d1 d2 d3 d4 d5 d6 e0 e1 e2 e3 e4 e5 e6 hH hx
          have HR := Lib.hid (And.intro hx6.box (OS.out _ hSst))
          clear hx6 hSst KS OS SET hH0 hS1 hS7 hS8 hS9
          generalize hw9 : set7 w9 X 0 (⟨ar0_played, ar0_wins, ar0_draws, ar0_losses, ar0_scored, ar0_against, ar0_points⟩ : RowD) = w9 at *
          simp only [set7, Nat.zero_add] at hw9
          rw [hw9]
          clear hw9
          go_wp2_with fail
          go_meet
          case rel => exact ⟨X, rfl, HR⟩
      · have hz : BoxF (wz0.alloc (.cells #[.int .i64 0, .int .i64 0, .int .i64 0, .int .i64 0, .int .i64 0, .int .i64 0, .int .i64 0] 39)) wz0.heap.size zeroR.cells := BoxF.made (Below.refl _ _) rfl
        have hal : Below wz0.heap.size wz0 (wz0.alloc (.cells #[.int .i64 0, .int .i64 0, .int .i64 0, .int .i64 0, .int .i64 0, .int .i64 0, .int .i64 0] 39)) := (Below.refl _ _).alloc (Nat.le_refl _) _
        have hsz := OS.out _ hH0
        have hS10 := KS.out _ _ hH0 hal
        have z0 : w.heap.size < wz0.heap.size := by obtain ⟨x0, x1, x2, hb⟩ := hsz; exact x0.1
        have z1 : (w.heap.size + 1) < wz0.heap.size := by obtain ⟨x0, x1, x2, hb⟩ := hsz; exact x1.1
        have z2 : X0 < wz0.heap.size := by obtain ⟨x0, x1, x2, hb⟩ := hsz; exact x2.1
        have zw : w.heap.size ≤ wz0.heap.size := by obtain ⟨x0, x1, x2, hb⟩ := hsz; exact hb.size
        clear hal hsz
        go_simp
        refine hK5.out _ _ ?_ (fun hH => ?_)
        · exact hS10
        clear hK5 K5 hH
        generalize wz0.alloc (.cells #[.int .i64 0, .int .i64 0, .int .i64 0, .int .i64 0, .int .i64 0, .int .i64 0, .int .i64 0] 39) = wq10 at *
        generalize wz0.heap.size = X at *
        have hx := hz
        clear hz
        refine wpAnyH_ready (rs := [1]) (by kernel_rfl) (by simp) ?_
        refine AllReadyH.cons (o := _) rfl (fun K1 hK1 => ?_) AllReadyH.nil
        go_simp
        refine (x_to_Row aA_played aA_wins aA_draws aA_losses aA_scored aA_against aA_points _).mono ?_
        rintro e w11 ⟨rfl, b11⟩
        have hS11 := KS.out _ _ hS10 b11
        replace hx := hx.below b11
        (try go_wp2_with fail)
        refine hK1.out _ _ ?_ (fun hH => ?_)
        · exact hS11
        clear hK1 K1 hH b11
        refine wpAnyH_ready (rs := [3]) (by kernel_rfl) (by simp) ?_
        refine AllReadyH.cons (o := _) rfl (fun K3 hK3 => ?_) AllReadyH.nil
        go_simp
        refine (x_to_Row aB_played aB_wins aB_draws aB_losses aB_scored aB_against aB_points _).mono ?_
        rintro e w12 ⟨rfl, b12⟩
        have hS12 := KS.out _ _ hS11 b12
        replace hx := hx.below b12
        (try go_wp2_with fail)
        refine hK3.out _ _ ?_ (fun hH => ?_)
        · exact hS12
        clear hK3 K3 hH b12
        refine wpAnyH_ready (rs := [4]) (by kernel_rfl) (by simp) ?_
        refine AllReadyH.cons (o := _) rfl (fun K4 hK4 => ?_) AllReadyH.nil
        go_simp
        refine (CI.out _).mono ?_
        rintro e w13 ⟨rfl, b13⟩
        have hS13 := KS.out _ _ hS12 b13
        replace hx := hx.below b13
        (try go_wp2_with fail)
        refine hK4.out _ _ ?_ (fun hH => ?_)
        · exact hS13
        clear hK4 K4 hH b13
        have q7 := boxF_row7z hx
        obtain ⟨d0, d1, d2, d3, d4, d5, d6⟩ := q7.1
        obtain ⟨e0, e1, e2, e3, e4, e5, e6⟩ := q7.2
        clear q7
        refine wpAnyH_ready (rs := [6]) (by kernel_rfl) (by simp) ?_
        refine AllReadyH.cons (o := _) rfl (fun K hK => ?_) AllReadyH.nil
        have hSst := SET.out _ X (⟨ar0_played, ar0_wins, ar0_draws, ar0_losses, ar0_scored, ar0_against, ar0_points⟩ : RowD) hS13 (by omega) (by omega) (by omega) (by omega)
        have hx6 : BoxF (set7 w13 X 0 (⟨ar0_played, ar0_wins, ar0_draws, ar0_losses, ar0_scored, ar0_against, ar0_points⟩ : RowD)) X (RowD.cells (⟨ar0_played, ar0_wins, ar0_draws, ar0_losses, ar0_scored, ar0_against, ar0_points⟩ : RowD)) := hx.set7
        go_simp
        refine hK.out _ _ ?_ (fun hH => ?_)
        · exact hSst
        clear hK K
        refine wpAnyH_done (by kernel_rfl) ?_ _
        clear d0 d1 d2 d3 d4 d5 d6 e0 e1 e2 e3 e4 e5 e6 hH hx
        have HR := Lib.hid (And.intro hx6.box (OS.out _ hSst))
        clear hx6 hSst KS OS SET hH0 hS10 hS11 hS12 hS13
        generalize hw9 : set7 w13 X 0 (⟨ar0_played, ar0_wins, ar0_draws, ar0_losses, ar0_scored, ar0_against, ar0_points⟩ : RowD) = w9 at *
        simp only [set7, Nat.zero_add] at hw9
        rw [hw9]
        clear hw9
        go_wp2_with fail
        go_meet
        case rel => exact ⟨X, rfl, HR⟩
    case rest =>
      obtain ⟨X1, rfl, HR1⟩ := hcut
      obtain ⟨r1, xa, xb, r0, hb⟩ := HR1.out
      have HB := Lib.hid hb
      have lr0 := r0.1
      have cr0_0 := r0.2 0 _ rfl
      have cr0_1 := r0.2 1 _ rfl
      have cr0_2 := r0.2 2 _ rfl
      have cr0_3 := r0.2 3 _ rfl
      have cr0_4 := r0.2 4 _ rfl
      have cr0_5 := r0.2 5 _ rfl
      have cr0_6 := r0.2 6 _ rfl
      have lr1 := r1.1
      have cr1_0 := r1.2 0 _ rfl
      have cr1_1 := r1.2 1 _ rfl
      have cr1_2 := r1.2 2 _ rfl
      have cr1_3 := r1.2 3 _ rfl
      have cr1_4 := r1.2 4 _ rfl
      have cr1_5 := r1.2 5 _ rfl
      have cr1_6 := r1.2 6 _ rfl
      clear HR1 r0 r1 xa xb hb HR0 CS CI
      go_wp2_with fail
      refine (x_eq_Row ar0_played ar0_wins ar0_draws ar0_losses ar0_scored ar0_against ar0_points _).mono ?_
      rintro e w7 ⟨rfl, b7⟩
      have HB7 := Lib.hid (HB.out.trans (b7.mono HB.out.size))
      clear cr0_0 cr0_1 cr0_2 cr0_3 cr0_4 cr0_5 cr0_6 cr1_0 cr1_1 cr1_2 cr1_3 cr1_4 cr1_5 cr1_6 lr0 lr1 b7 HB
      go_wp2
      go_ret
      exact ⟨rfl, HB7.out⟩
set_option maxRecDepth 100000 in
theorem lifted (os : Os) (started : os.Started) (H : Type) (enc : TypeId × Value → H) :
    ReturnsInHanded {} Try.checked os 7 .any (Rows.fnExactAddRowsSpec.pre6 enc Try.prog Try.f7 Rows.fnExactAddRowsRow.domain false) (Rows.fnExactAddRowsSpec.post enc Try.prog Try.f7 false true false false) := by
  refine returnsInHanded_of_change (C := Try.checked) own started (by kernel_rfl) Try.func7
    (ChangeSpec.witness6 (enc := enc) (C := Try.checked) false ⟨#[], #[.agg #[.int .i64 0, .int .i64 0, .int .i64 0, .int .i64 0, .int .i64 0, .int .i64 0, .int .i64 0], .agg #[.int .i64 0, .int .i64 0, .int .i64 0, .int .i64 0, .int .i64 0, .int .i64 0, .int .i64 0]], []⟩ 8 (by kernel_rfl) (by kernel_rfl) (by kernel_rfl) (by kernel_rfl)) ?_
  intro W base args ds gs before hval0 hW hcnd _
  have hval : ∀ (j : Nat) t v, Try.f7.params[j]? = some t → args[j]? = some v → Value.okWide Try.prog W .any base t v := hval0
  have hW' := hW
  obtain ⟨p, q, hA0, hV, rfl, hfz, hnd⟩ := hW
  have hA : DataW.TrodAll enc Try.prog W 0 (fun _ => true) true Try.f7.params.toList args.toList ds p := hA0
  rw [Try.params7] at hA hval
  obtain ⟨v0, vs0, d0, ds0, p0, q0, hargs, rfl, rfl, h0, r0⟩ := trodAll_cons hA
  obtain ⟨v1, vs1, d1, ds1, p1, q1, rfl, rfl, rfl, h1, r1⟩ := trodAll_cons r0
  obtain ⟨rfl, rfl, rfl⟩ := trodAll_nil r1
  obtain rfl : args = #[v0, v1] := by cases args; simp_all
  obtain ⟨rfl, rfl⟩ := trodVars_none hV
  have k0 := h0
  have lt0 : ∀ x ∈ p0, x.block < W.heap.size := by obtain ⟨m, hm⟩ := k0; exact DataW.trod_lt m _ _ _ hm
  obtain ⟨s0, rfl, f0⟩ := open_row Try.underlying61 (by kernel_rfl) rfl (by kernel_rfl) Try.underlying3 rfl (by kernel_rfl) Try.underlying3 rfl (by kernel_rfl) Try.underlying3 rfl (by kernel_rfl) Try.underlying3 rfl (by kernel_rfl) Try.underlying3 rfl (by kernel_rfl) Try.underlying3 rfl (by kernel_rfl) Try.underlying3 (hval 0 61 v0 rfl rfl) h0
  have k1 := h1
  have lt1 : ∀ x ∈ p1, x.block < W.heap.size := by obtain ⟨m, hm⟩ := k1; exact DataW.trod_lt m _ _ _ hm
  obtain ⟨s1, rfl, f1⟩ := open_row Try.underlying61 (by kernel_rfl) rfl (by kernel_rfl) Try.underlying3 rfl (by kernel_rfl) Try.underlying3 rfl (by kernel_rfl) Try.underlying3 rfl (by kernel_rfl) Try.underlying3 rfl (by kernel_rfl) Try.underlying3 rfl (by kernel_rfl) Try.underlying3 rfl (by kernel_rfl) Try.underlying3 (hval 1 61 v1 rfl rfl) h1
  clear hA0 hval0
  simp only [List.append_nil] at hW'
  refine (walk s0.played s0.wins s0.draws s0.losses s0.scored s0.against s0.points s1.played s1.wins s1.draws s1.losses s1.scored s1.against s1.points W f0.1 f0.2.1 f0.2.2.1 f0.2.2.2.1 f0.2.2.2.2.1 f0.2.2.2.2.2.1 f0.2.2.2.2.2.2 f1.1 f1.2.1 f1.2.2.1 f1.2.2.2.1 f1.2.2.2.2.1 f1.2.2.2.2.2.1 f1.2.2.2.2.2.2).mono fun e W' ⟨he, bel⟩ => ?_
  subst he
  exact ⟨_, rfl, _, _, _, [], _, [], hW', trodAll_mk1 (shut_bool Try.underlying4 _), (trodAll_cons_mk (Below.trod laidOut (by kernel_rfl) (of_decide_eq_true (by kernel_rfl)) k0 bel lt0) (trodAll_cons_mk (Below.trod laidOut (by kernel_rfl) (of_decide_eq_true (by kernel_rfl)) k1 bel lt1) trodAll_mk0)), rfl, bel.frame _, fun h => by cases h⟩

theorem over : Rows.fnExactAddRowsRow.holds Try.pinned (OpenSpec.ofChange Rows.fnExactAddRowsSpec) :=
  OpenClaim.holds_of_wide 7 Try.f7 rfl rfl rfl rfl rfl rfl rfl ⟨rfl, rfl, rfl, rfl, rfl⟩ rfl rfl rfl rfl rfl (by kernel_rfl) Try.func7 (by kernel_rfl)
    (of_decide_eq_true (by kernel_rfl)) (by unfold Func.isWrapper; first | (rw [if_pos (by decide +kernel)]; kernel_rfl) | (rw [if_neg (by decide +kernel)]; exact ⟨rfl, rfl⟩))
    (fun os started H enc _ => lifted os started H enc)

theorem proved : Rows.FnExactAddRowsSaid := over
end Go.Proofs.Ytoingkchjiipgaa.fnExactAddRows
