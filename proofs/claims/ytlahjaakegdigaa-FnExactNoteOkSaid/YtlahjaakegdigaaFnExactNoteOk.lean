/-
  The law FnExactNoteOk holds for every argument: the program answers as the model does.
-/
import Derived.Test.YtlahjaakegdigaaRows
import Derived.WalkKit
import Derived.ProofKit
import Derived.OpenShut
import Derived.ShutString
import Derived.ChangeOld
import Derived.Below
import Derived.Lib.Hide
import Derived.Test.YtlahjaakegdigaaLawKit
import Derived.Test.YtlahjaakegdigaaOpenAgg
import Derived.Deep.RegionHeld3
import Derived.Test.YtlahjaakegdigaaCanon
import Derived.Test.YtlahjaakegdigaaRecordsImpl
import Derived.Test.YtlahjaakegdigaaTypeGame
import Derived.Test.YtlahjaakegdigaaTypeNote
namespace Go.Proofs.Ytlahjaakegdigaa.fnExactNoteOk
open Go.ChangeShapes Go.WideShapes Go.ChangeAt Go.RowKit
open Go.ChangeMaps (open_string shut_string)
set_option linter.unusedVariables false

theorem own : ownKnob Try.prog.godebug = none := by kernel_rfl
theorem laidOut : laidOutB Try.prog = true := by kernel_rfl

set_option maxHeartbeats 2000000 in
set_option maxRecDepth 100000 in
theorem walk (aN : Int) (vGames : Value) (nGames : Nat) (gGames : Nat → GameD) (aX_serial : Int) (aX_game : Int) (aX_res_home : Int) (aX_res_away : Int) (aX_res_hg : Int) (aX_res_ag : Int) (aX_res_st : Int) (w : World) (fN : IntFit aN) (hGames : GameRow w vGames nGames gGames) (fGames : ∀ i, (gGames i).fit) (fX_serial : IntFit aX_serial) (fX_game : IntFit aX_game) (fX_res_home : IntFit aX_res_home) (fX_res_away : IntFit aX_res_away) (fX_res_hg : IntFit aX_res_hg) (fX_res_ag : IntFit aX_res_ag) (fX_res_st : IntFit aX_res_st) :
    Calls Try.prog 3 #[.int .i64 aN, vGames, .agg #[.int .i64 aX_serial, .int .i64 aX_game, .int .i64 aX_res_home, .int .i64 aX_res_away, .int .i64 aX_res_hg, .int .i64 aX_res_ag, .int .i64 aX_res_st]] w fun e w' => e = .returned (.bool true) ∧ Below w.heap.size w w' := by
  obtain ⟨ar0, CS, CI⟩ : ∃ (ar0 : Bool), Hid (∀ (vGames : Value) (w1 : World), GameRow w1 vGames nGames gGames → Calls Try.prog 12 #[.int .i64 aN, vGames, .agg #[.int .i64 aX_serial, .int .i64 aX_game, .int .i64 aX_res_home, .int .i64 aX_res_away, .int .i64 aX_res_hg, .int .i64 aX_res_ag, .int .i64 aX_res_st]] w1 fun e w' => e = .returned (.bool ar0) ∧ Below w1.heap.size w1 w') ∧ Hid (∀ (vGames : Value) (w1 : World), GameRow w1 vGames nGames gGames → Calls Try.prog 15 #[.int .i64 aN, vGames, .agg #[.int .i64 aX_serial, .int .i64 aX_game, .int .i64 aX_res_home, .int .i64 aX_res_away, .int .i64 aX_res_hg, .int .i64 aX_res_ag, .int .i64 aX_res_st]] w1 fun e w' => e = .returned (.bool ar0) ∧ Below w1.heap.size w1 w') := by
    obtain ⟨R, hR⟩ : ∃ R : Bool, R = true ↔ seasonP aN nGames gGames ∧ noteP aN nGames gGames ⟨aX_serial, aX_game, ⟨aX_res_home, aX_res_away, aX_res_hg, aX_res_ag, aX_res_st⟩⟩ := by
      by_cases h : seasonP aN nGames gGames ∧ noteP aN nGames gGames ⟨aX_serial, aX_game, ⟨aX_res_home, aX_res_away, aX_res_hg, aX_res_ag, aX_res_st⟩⟩
      · exact ⟨true, fun _ => h, fun _ => rfl⟩
      · exact ⟨false, (fun e => by cases e), fun e => absurd e h⟩
    exact ⟨R, fun v w1 h => noteOk_spec aN v nGames gGames aX_serial aX_game aX_res_home aX_res_away aX_res_hg aX_res_ag aX_res_st R w1 hR h, fun v w1 h => noteOk_impl aN v nGames gGames aX_serial aX_game aX_res_home aX_res_away aX_res_hg aX_res_ag aX_res_st R w1 hR h⟩
  have hb : Below w.heap.size w w := Below.refl _ _
  have iGames : 0 < nGames → InW 0 w.heap.size vGames := fun h0 => InW.gameRow hGames h0 (Nat.le_refl _)
  go_enter Try.func3, Try.ntmps3
  go_wp2_with fail
  refine (x_sz_GameS vGames nGames gGames (1048576) _ (by omega) (by omega) (hGames.below ((Below.refl _ _).alloc (Nat.le_refl _) _) (Nat.le_refl _))).mono ?_
  rintro e w1 ⟨⟨r1, rfl, hr1⟩, b1⟩
  have z1 : w.heap.size + 1 ≤ w1.heap.size := by have := b1.size; simp at this; omega
  have bxX := BoxN.made b1 (B := w.heap.size) (by simp)
  have b1' := below_prev b1
  replace hGames := hGames.below b1' (Nat.le_refl _)
  replace hb := hb.trans (b1'.mono hb.size)
  by_cases hn1 : r1 < 0
  · have g2 : decide (r1 < 0) = true := decide_eq_true hn1
    clear hr1
    go_wp2
    go_ret
    exact ⟨rfl, hb⟩
  have g1 : decide (r1 < 0) = false := decide_eq_false hn1
  have hle1 : r1 ≤ 1048576 := by omega
  have smGames : nGames ≤ 1048576 := by omega
  replace hn1 : 0 ≤ r1 := by omega
  clear hr1
  obtain ⟨S, HSd⟩ : ∃ S : World → Prop, S = fun w' => GameRow w' vGames nGames gGames ∧ BoxN w' w.heap.size [.int .i64 aX_serial, .int .i64 aX_game, .int .i64 aX_res_home, .int .i64 aX_res_away, .int .i64 aX_res_hg, .int .i64 aX_res_ag, .int .i64 aX_res_st] ∧ Below w.heap.size w w' := ⟨_, rfl⟩
  have KS : Hid (∀ wa wb, S wa → Below wa.heap.size wa wb → S wb) := by subst HSd; exact fun wa wb ⟨hGames, bxX, hb⟩ b => ⟨hGames.below b (Nat.le_refl _), bxX.below b, hb.trans (b.mono hb.size)⟩
  have OS : Hid (∀ wa, S wa → GameRow wa vGames nGames gGames ∧ BoxN wa w.heap.size [.int .i64 aX_serial, .int .i64 aX_game, .int .i64 aX_res_home, .int .i64 aX_res_away, .int .i64 aX_res_hg, .int .i64 aX_res_ag, .int .i64 aX_res_st] ∧ Below w.heap.size w wa) := by subst HSd; exact fun wa h => h
  have KS0 : Hid (S w1.drew) := by subst HSd; exact (fun b : Below w1.heap.size w1 w1.drew => ⟨hGames.below b (Nat.le_refl _), bxX.below b, hb.trans (b.mono hb.size)⟩) (Below.refl _ _).drew
  clear HSd
  go_wp2_with fail
  refine wp_region_held_drew (S := S) (by kernel_rfl) ?_ (fun hHeld => ?_)
  · exact KS0.out
  clear KS0 hGames bxX hb
  refine wpAnyH_take (i := 0) (v := ?_) rfl (by kernel_rfl) (by kernel_rfl) (by kernel_rfl) (fun _ _ _ h => h) (Or.inl ⟨by rfl, ?_⟩) (by assumption) ?_
  rotate_left
  · (intro wa hSw; obtain ⟨hGames, bxX, hb⟩ := OS.out _ hSw; have cX_0 := bxX.2 0 _ rfl; have cX_1 := bxX.2 1 _ rfl; have cX_2 := bxX.2 2 _ rfl; have cX_3 := bxX.2 3 _ rfl; have cX_4 := bxX.2 4 _ rfl; have cX_5 := bxX.2 5 _ rfl; have cX_6 := bxX.2 6 _ rfl; go_simp; try with_reducible rfl)
  simp only [Act.put, List.getElem_toArray, List.getElem_cons_zero, List.setIfInBounds_toArray, List.set_cons_zero, List.set_cons_succ]
  refine wpAnyH_take (i := 1) (v := ?_) rfl (by kernel_rfl) (by kernel_rfl) (by kernel_rfl) (fun _ _ _ h => h) (Or.inl ⟨by rfl, ?_⟩) (by assumption) ?_
  rotate_left
  · (intro wa hSw; obtain ⟨hGames, bxX, hb⟩ := OS.out _ hSw; have cX_0 := bxX.2 0 _ rfl; have cX_1 := bxX.2 1 _ rfl; have cX_2 := bxX.2 2 _ rfl; have cX_3 := bxX.2 3 _ rfl; have cX_4 := bxX.2 4 _ rfl; have cX_5 := bxX.2 5 _ rfl; have cX_6 := bxX.2 6 _ rfl; go_simp; try with_reducible rfl)
  simp only [Act.put, List.getElem_toArray, List.getElem_cons_zero, List.getElem_cons_succ, List.setIfInBounds_toArray, List.set_cons_zero, List.set_cons_succ]
  refine wpAnyH_take (i := 3) (v := ?_) rfl (by kernel_rfl) (by kernel_rfl) (by kernel_rfl) (fun _ _ _ h => h) (Or.inl ⟨by rfl, ?_⟩) (by assumption) ?_
  rotate_left
  · (intro wa hSw; obtain ⟨hGames, bxX, hb⟩ := OS.out _ hSw; have cX_0 := bxX.2 0 _ rfl; have cX_1 := bxX.2 1 _ rfl; have cX_2 := bxX.2 2 _ rfl; have cX_3 := bxX.2 3 _ rfl; have cX_4 := bxX.2 4 _ rfl; have cX_5 := bxX.2 5 _ rfl; have cX_6 := bxX.2 6 _ rfl; go_simp; try with_reducible rfl)
  simp only [Act.put, List.getElem_toArray, List.getElem_cons_zero, List.getElem_cons_succ, List.setIfInBounds_toArray, List.set_cons_zero, List.set_cons_succ]
  refine wpAnyH_ready (rs := [2]) (by kernel_rfl) (by simp) ?_
  refine AllReadyH.cons (o := _) rfl (fun K hK => ?_) AllReadyH.nil
  go_simp
  obtain ⟨hGames, bxX, hb⟩ := OS.out _ hHeld
  refine (x_to_GameS vGames nGames gGames _ hGames (by omega)).mono ?_
  rintro e w2 ⟨vGamest1, rfl, hGamest1, ⟨xGamest1, oGamest1⟩, b2⟩
  clear hGames bxX hb
  clear oGamest1
  (try go_wp2_with fail)
  refine hK.out _ _ ?_ (fun hHeld2 => ?_)
  · exact KS.out _ _ hHeld b2
  clear hK K
  refine wpAnyH_ready (rs := [4]) (by kernel_rfl) (by simp) ?_
  refine AllReadyH.cons (o := _) rfl (fun K hK => ?_) AllReadyH.nil
  go_simp
  obtain ⟨hGames, bxX, hb⟩ := OS.out _ hHeld2
  refine (x_to_Note aX_serial aX_game aX_res_home aX_res_away aX_res_hg aX_res_ag aX_res_st _).mono ?_
  rintro e w3 ⟨rfl, b3⟩
  clear hGames bxX hb
  replace hGamest1 := hGamest1.below b3 (Nat.le_refl _)
  (try go_wp2_with fail)
  refine hK.out _ _ ?_ (fun hHeld3 => ?_)
  · exact KS.out _ _ hHeld2 b3
  clear hK K
  clear hHeld2
  refine wpAnyH_ready (rs := [5]) (by kernel_rfl) (by simp) ?_
  refine AllReadyH.cons (o := _) rfl (fun K hK => ?_) AllReadyH.nil
  go_simp
  obtain ⟨hGames, bxX, hb⟩ := OS.out _ hHeld3
  refine (CS.out vGamest1 _ hGamest1).mono ?_
  rintro e w4 ⟨rfl, b4⟩
  clear hGames bxX hb
  replace hGamest1 := hGamest1.below b4 (Nat.le_refl _)
  (try go_wp2_with fail)
  refine hK.out _ _ ?_ (fun hHeld4 => ?_)
  · exact KS.out _ _ hHeld3 b4
  clear hK K
  clear hHeld3
  refine wpAnyH_take (i := 6) (v := ?_) rfl (by kernel_rfl) (by kernel_rfl) (by kernel_rfl) (fun _ _ _ h => h) (Or.inl ⟨by rfl, ?_⟩) (by assumption) ?_
  rotate_left
  · (intro wa hSw; obtain ⟨hGames, bxX, hb⟩ := OS.out _ hSw; have cX_0 := bxX.2 0 _ rfl; have cX_1 := bxX.2 1 _ rfl; have cX_2 := bxX.2 2 _ rfl; have cX_3 := bxX.2 3 _ rfl; have cX_4 := bxX.2 4 _ rfl; have cX_5 := bxX.2 5 _ rfl; have cX_6 := bxX.2 6 _ rfl; go_simp; try with_reducible rfl)
  simp only [Act.put, List.getElem_toArray, List.getElem_cons_zero, List.getElem_cons_succ, List.setIfInBounds_toArray, List.set_cons_zero, List.set_cons_succ]
  refine wpAnyH_done (by kernel_rfl) ?_ _
  obtain ⟨hGames, bxX, hb⟩ := OS.out _ hHeld4
  clear KS OS hHeld hHeld4 hGamest1
  go_wp2_with fail
  refine (x_to_GameS vGames nGames gGames _ hGames (by omega)).mono ?_
  rintro e w5 ⟨vGamesx, rfl, hGamesx, ⟨xGamesx, oGamesx⟩, b5⟩
  have z5 : w4.heap.size ≤ w5.heap.size := b5.size
  replace hGames := hGames.below b5 (Nat.le_refl _)
  replace hb := hb.trans (b5.mono hb.size)
  replace bxX := bxX.below b5
  replace oGamesx := owns_mono oGamesx (base' := w4.heap.size) (by simp <;> omega)
  have iGamesx : InW w4.heap.size w5.heap.size vGamesx := InW.of_owns oGamesx
  have cX_0 := bxX.2 0 _ rfl
  have cX_1 := bxX.2 1 _ rfl
  have cX_2 := bxX.2 2 _ rfl
  have cX_3 := bxX.2 3 _ rfl
  have cX_4 := bxX.2 4 _ rfl
  have cX_5 := bxX.2 5 _ rfl
  have cX_6 := bxX.2 6 _ rfl
  have cX_lt := bxX.1
  go_wp2_with fail
  refine (x_to_Note aX_serial aX_game aX_res_home aX_res_away aX_res_hg aX_res_ag aX_res_st _).mono ?_
  rintro e w6 ⟨rfl, b6⟩
  clear cX_0 cX_1 cX_2 cX_3 cX_4 cX_5 cX_6 cX_lt
  have z6 : w5.heap.size ≤ w6.heap.size := b6.size
  replace hGames := hGames.below b6 (Nat.le_refl _)
  replace hb := hb.trans (b6.mono hb.size)
  replace bxX := bxX.below b6
  replace hGamesx := hGamesx.below b6 (Nat.le_refl _)
  replace oGamesx := owns_below oGamesx b6 (Nat.le_refl _)
  go_wp2_with fail
  refine (CI.out vGamesx _ hGamesx).mono ?_
  rintro e w7 ⟨rfl, b7⟩
  have z7 : w6.heap.size ≤ w7.heap.size := b7.size
  replace hGames := hGames.below b7 (Nat.le_refl _)
  replace hb := hb.trans (b7.mono hb.size)
  replace bxX := bxX.below b7
  replace hGamesx := hGamesx.below b7 (Nat.le_refl _)
  replace oGamesx := owns_below oGamesx b7 (Nat.le_refl _)
  go_wp2_with fail
  refine (x_to_GameS vGames nGames gGames _ hGames (by omega)).mono ?_
  rintro e w8 ⟨vGamest4, rfl, hGamest4, ⟨xGamest4, oGamest4⟩, b8⟩
  have z8 : w7.heap.size ≤ w8.heap.size := b8.size
  replace hGames := hGames.below b8 (Nat.le_refl _)
  replace hb := hb.trans (b8.mono hb.size)
  replace bxX := bxX.below b8
  replace hGamesx := hGamesx.below b8 (Nat.le_refl _)
  replace oGamesx := owns_below oGamesx b8 (Nat.le_refl _)
  replace oGamest4 := owns_mono oGamest4 (base' := w7.heap.size) (by simp <;> omega)
  have iGamest4 : InW w7.heap.size w8.heap.size vGamest4 := InW.of_owns oGamest4
  go_wp2_with fail
  refine (x_eq_GameS vGamesx nGames gGames vGamest4 _ hGamesx hGamest4).mono ?_
  rintro e w9 ⟨rfl, b9⟩
  have z9 : w8.heap.size ≤ w9.heap.size := b9.size
  replace hGames := hGames.below b9 (Nat.le_refl _)
  replace hb := hb.trans (b9.mono hb.size)
  replace bxX := bxX.below b9
  replace hGamesx := hGamesx.below b9 (Nat.le_refl _)
  replace oGamesx := owns_below oGamesx b9 (Nat.le_refl _)
  replace hGamest4 := hGamest4.below b9 (Nat.le_refl _)
  replace oGamest4 := owns_below oGamest4 b9 (Nat.le_refl _)
  clear hGamest4 oGamest4
  go_wp2
  go_ret
  exact ⟨rfl, hb⟩
set_option maxRecDepth 100000 in
theorem lifted (os : Os) (started : os.Started) (H : Type) (enc : TypeId × Value → H) :
    ReturnsInHanded {} Try.checked os 3 .any (Rows.fnExactNoteOkSpec.pre6 enc Try.prog Try.f3 Rows.fnExactNoteOkRow.domain false) (Rows.fnExactNoteOkSpec.post enc Try.prog Try.f3 false true false false) := by
  refine returnsInHanded_of_change (C := Try.checked) own started (by kernel_rfl) Try.func3
    (ChangeSpec.witness6 (enc := enc) (C := Try.checked) false ⟨#[], #[.int .i64 0, .slice none 0 0, .agg #[.int .i64 0, .int .i64 0, .int .i64 0, .int .i64 0, .int .i64 0, .int .i64 0, .int .i64 0]], []⟩ 8 (by kernel_rfl) (by kernel_rfl) (by kernel_rfl) (by kernel_rfl)) ?_
  intro W base args ds gs before hval0 hW hcnd _
  have hval : ∀ (j : Nat) t v, Try.f3.params[j]? = some t → args[j]? = some v → Value.okWide Try.prog W .any base t v := hval0
  have hW' := hW
  obtain ⟨p, q, hA0, hV, rfl, hfz, hnd⟩ := hW
  have hA : DataW.TrodAll enc Try.prog W 0 (fun _ => true) true Try.f3.params.toList args.toList ds p := hA0
  rw [Try.params3] at hA hval
  obtain ⟨v0, vs0, d0, ds0, p0, q0, hargs, rfl, rfl, h0, r0⟩ := trodAll_cons hA
  obtain ⟨v1, vs1, d1, ds1, p1, q1, rfl, rfl, rfl, h1, r1⟩ := trodAll_cons r0
  obtain ⟨v2, vs2, d2, ds2, p2, q2, rfl, rfl, rfl, h2, r2⟩ := trodAll_cons r1
  obtain ⟨rfl, rfl, rfl⟩ := trodAll_nil r2
  obtain rfl : args = #[v0, v1, v2] := by cases args; simp_all
  obtain ⟨rfl, rfl⟩ := trodVars_none hV
  obtain ⟨a0, rfl, rfl, rfl, w0⟩ := open_int Try.underlying3 (hval 0 3 v0 rfl rfl) h0
  have k1 := h1
  have lt1 : ∀ x ∈ p1, x.block < W.heap.size := by obtain ⟨m, hm⟩ := k1; exact DataW.trod_lt m _ _ _ hm
  obtain ⟨a1, len1, cap1, rfl⟩ := okWide_slice Try.underlying22 (hval 1 22 v1 rfl rfl)
  obtain ⟨n1, g1, w1, f1, _⟩ := open_games Try.underlying22 Try.underlying24 (by kernel_rfl) rfl (by kernel_rfl) Try.underlying3 rfl (by kernel_rfl) Try.underlying3 rfl (by kernel_rfl) Try.underlying3 rfl (by kernel_rfl) Try.underlying3 rfl (by kernel_rfl) Try.underlying3 (by obtain ⟨fuel, hf⟩ := h1; exact ⟨fuel, _, hf⟩)
  have k2 := h2
  have lt2 : ∀ x ∈ p2, x.block < W.heap.size := by obtain ⟨m, hm⟩ := k2; exact DataW.trod_lt m _ _ _ hm
  obtain ⟨s2, rfl, f2⟩ := open_note Try.underlying26 (by kernel_rfl) rfl (by kernel_rfl) Try.underlying3 rfl (by kernel_rfl) Try.underlying3 rfl (by kernel_rfl) Try.underlying24 rfl (by kernel_rfl) Try.underlying3 rfl (by kernel_rfl) Try.underlying3 rfl (by kernel_rfl) Try.underlying3 rfl (by kernel_rfl) Try.underlying3 rfl (by kernel_rfl) Try.underlying3 (hval 2 26 v2 rfl rfl) h2
  clear hA0 hval0
  simp only [List.append_nil] at hW'
  refine (walk a0 (.slice a1 len1 cap1) n1 g1 s2.serial s2.game s2.res.home s2.res.away s2.res.hg s2.res.ag s2.res.st W (intFit_of w0) w1 f1 f2.1 f2.2.1 f2.2.2.1 f2.2.2.2.1 f2.2.2.2.2.1 f2.2.2.2.2.2.1 f2.2.2.2.2.2.2).mono fun e W' ⟨he, bel⟩ => ?_
  subst he
  exact ⟨_, rfl, _, _, _, [], _, [], hW', trodAll_mk1 (shut_bool Try.underlying4 _), (trodAll_cons_mk (shut_int Try.underlying3 w0) (trodAll_cons_mk (Below.trod laidOut (by kernel_rfl) (of_decide_eq_true (by kernel_rfl)) k1 bel lt1) (trodAll_cons_mk (Below.trod laidOut (by kernel_rfl) (of_decide_eq_true (by kernel_rfl)) k2 bel lt2) trodAll_mk0))), rfl, bel.frame _, fun h => by cases h⟩

theorem over : Rows.fnExactNoteOkRow.holds Try.pinned (OpenSpec.ofChange Rows.fnExactNoteOkSpec) :=
  OpenClaim.holds_of_wide 3 Try.f3 rfl rfl rfl rfl rfl rfl rfl ⟨rfl, rfl, rfl, rfl, rfl⟩ rfl rfl rfl rfl rfl (by kernel_rfl) Try.func3 (by kernel_rfl)
    (of_decide_eq_true (by kernel_rfl)) (by unfold Func.isWrapper; first | (rw [if_pos (by decide +kernel)]; kernel_rfl) | (rw [if_neg (by decide +kernel)]; exact ⟨rfl, rfl⟩))
    (fun os started H enc _ => lifted os started H enc)

theorem proved : Rows.FnExactNoteOkSaid := over
end Go.Proofs.Ytlahjaakegdigaa.fnExactNoteOk
