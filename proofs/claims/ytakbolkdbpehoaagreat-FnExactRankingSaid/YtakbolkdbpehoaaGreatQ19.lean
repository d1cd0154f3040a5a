/-
  Packed: RankImpl, Ty, TyFlat, TyBnd.
-/
import Derived.Test.YtakbolkdbpehoaaGreatQ1
import Derived.Test.YtakbolkdbpehoaaGreatQ5
import Derived.Test.YtakbolkdbpehoaaGreatQ15
import Derived.Test.YtakbolkdbpehoaaGreatQ18
set_option linter.unusedVariables false
namespace Go.Proofs.YtakbolkdbpehoaaGreat
open Go.RowKit

theorem flatR_one (g : Nat → Value) : ∀ m, flatR (fun i => [g i]) m = (List.range m).map g
  | 0 => rfl
  | m + 1 => by
    unfold flatR
    rw [List.range_succ, List.flatMap_append, List.map_append]
    congr 1
    exact flatR_one g m
set_option maxRecDepth 100000 in
set_option maxHeartbeats 2000000 in
theorem cloneInts_impl (v : Value) (m : Nat) (g : Nat → Int) (w : World) (hv : IntRow w v m g) (hm : m ≤ 1048576) :
    Calls Tryz.prog 70 #[v] w fun e w' => ∃ vv, e = .returned vv ∧ w'.ownsRow w.heap.size 3 1 vv m ((List.range m).map fun i => Value.int .i64 (g i)) ∧ Below w.heap.size w w' := by
  obtain ⟨i0, hi, hz0, hz1, hz2⟩ := info_parts Tryz.infoI
  obtain ⟨aa, cap, rfl, hn, hc⟩ := hv.form
  cases aa with
  | none =>
    have h0 : m = 0 := by
      by_cases h : 0 < m
      · obtain ⟨_, _, h1, _⟩ := hc h; cases h1
      · omega
    subst h0
    have hq1 : (binOp .eql 24 (.slice none 0 cap) (.slice none 0 0)).run Tryz.prog w = .ok (.bool true) w := Lib.run_eql_slice_nil w 24 3 none 0 cap 0 0 Tryz.underlying24
    clear hv hc
    go_enter Tryz.func70, Tryz.ntmps70
    go_wp2
    go_ret
    exact ⟨_, rfl, World.ownsRow_nil _ _ _ _, Below.refl _ _⟩
  | some ad =>
    have HV := Lib.hid hv.rec
    have hq1 : (binOp .eql 24 (.slice (some ad) m cap) (.slice none 0 0)).run Tryz.prog w = .ok (.bool false) w := Lib.run_eql_slice_nil w 24 3 (some ad) m cap 0 0 Tryz.underlying24
    clear hv hc
    go_enter Tryz.func70, Tryz.ntmps70
    go_wp2_with (at_builtin; refine wpList_cloneR rfl (.tmp 5) (.tmp 6) 24 rfl 3 Tryz.underlying24 hi hz0 hz1 hz2 rfl (by decide) (by simp [go_sem]) rfl HV.out (fun i hi => rfl) (fun i hi u hu => by simp at hu; subst hu; rfl) (by omega) (by omega) ?_; intro vv w3 o3 b3)
    go_ret
    refine ⟨_, rfl, ?_, b3⟩
    have e : flatR (fun i => [Value.int .i64 (g i)]) m = (List.range m).map fun i => Value.int .i64 (g i) := flatR_one _ m
    rw [← e]
    exact o3

set_option maxRecDepth 100000 in
set_option maxHeartbeats 2000000 in
theorem splitBy_impl (vf vl vg vfa vta : Value) (b : BookD) (key : Int) (gv : Value) (ng : Nat) (gg : Nat → Int) (R : Bool) (w : World) (hR : R = true ↔ (bookP b ∧ teamsP b.nf ng gg)) (h : BookRow w vf vl vg vfa vta b) (hs : ∀ i, (b.f i).nm.size ≤ maxLen) (hgv : IntRow w gv ng gg) (hn6 : ng ≤ 1048576) :
    Calls Tryz.prog 21 #[.agg #[vf, .int .i64 b.win, .int .i64 b.draw, .int .i64 b.loss, vl, .bool b.again, vg, vfa, vta], .int .i64 key, gv] w (ListsL w (if R = true then (splitP (bookV b key gg ng) gg ng).map Prod.snd else [])) := by
  obtain ⟨fa, fc, la, lc, ga, gc, qa, qc, ta, tc, rfl, rfl, rfl, rfl, rfl⟩ := h.form
  obtain ⟨r1, hr1⟩ := boolEx (bookP b)
  obtain ⟨r2, hr2⟩ := boolEx (teamsP b.nf ng gg)
  have C1 := Lib.hid (fun wa h1 => bookOk_impl (.slice fa b.nf fc) (.slice la b.nl lc) (.slice ga b.m gc) (.slice qa b.nfa qc) (.slice ta b.nta tc) b r1 wa hr1 h1 hs)
  have C2 := Lib.hid (fun wa h1 h2 => areTeams_impl (.slice fa b.nf fc) (.slice la b.nl lc) (.slice ga b.m gc) (.slice qa b.nfa qc) (.slice ta b.nta tc) b gv ng gg r2 wa hr2 h1 h2)
  have hall : R = true ↔ (r1 = true ∧ r2 = true) := by rw [hR, hr1, hr2]
  have HN := Lib.hid (boolF hall)
  have HY := Lib.hid (boolT hall)
  have HP1 : Hid (r1 = true → bookP b) := hr1.1
  have HP2 : Hid (r2 = true → teamsP b.nf ng gg) := hr2.1
  have HG := Lib.hid hgv
  obtain ⟨xa, xc, rfl, _, _⟩ := hgv.form
  obtain ⟨RES, hRES⟩ : ∃ RES, (if R = true then (splitP (bookV b key gg ng) gg ng).map Prod.snd else []) = RES := ⟨_, rfl⟩
  rw [hRES]
  have HRF : Hid (R = false → RES = []) := fun e => by rw [← hRES, e]; rfl
  have HRT : Hid (R = true → RES = (splitP (bookV b key gg ng) gg ng).map Prod.snd) := fun e => by rw [← hRES, e]; rfl
  have K0 := Lib.hid (BkAt.made h 29)
  have hsix := h.sixty
  clear hR hr1 hr2 hall h hgv hs hRES
  go_enter Tryz.func21, Tryz.ntmps21
  cases r1 with
  | false =>
    obtain rfl := HRF.out (HN.out fun h => by have := h.1; cases this)
    clear HN HY
    obtain ⟨d0, d1, d2, d3, d4, d5, d6, d7, d8⟩ := K0.out.cells
    go_wp2_with fail
    refine (C1.out _ K0.out.row).mono ?_
    rintro e w1 ⟨rfl, b1⟩
    have K1 := Lib.hid (K0.out.next b1)
    clear d0 d1 d2 d3 d4 d5 d6 d7 d8 K0 b1
    obtain ⟨d0, d1, d2, d3, d4, d5, d6, d7, d8⟩ := K1.out.cells
    have HE := Lib.hid K1.out.bel
    go_wp2
    go_ret
    exact ListsL.none HE.out
  | true =>
  obtain ⟨d0, d1, d2, d3, d4, d5, d6, d7, d8⟩ := K0.out.cells
  go_wp2_with fail
  refine (C1.out _ K0.out.row).mono ?_
  rintro e w1 ⟨rfl, b1⟩
  have K1 := Lib.hid (K0.out.next b1)
  clear d0 d1 d2 d3 d4 d5 d6 d7 d8 K0 b1
  obtain ⟨d0, d1, d2, d3, d4, d5, d6, d7, d8⟩ := K1.out.cells
  cases r2 with
  | false =>
    obtain rfl := HRF.out (HN.out fun h => by have := h.2; cases this)
    clear HN HY
    go_wp2_with fail
    refine (C2.out _ K1.out.row (HG.out.below K1.out.bel (Nat.le_refl _))).mono ?_
    rintro e w2 ⟨rfl, b2⟩
    have K2 := Lib.hid (K1.out.next b2)
    clear d0 d1 d2 d3 d4 d5 d6 d7 d8 K1 b2
    obtain ⟨d0, d1, d2, d3, d4, d5, d6, d7, d8⟩ := K2.out.cells
    have HE := Lib.hid K2.out.bel
    go_wp2
    go_ret
    exact ListsL.none HE.out
  | true =>
  go_wp2_with fail
  refine (C2.out _ K1.out.row (HG.out.below K1.out.bel (Nat.le_refl _))).mono ?_
  rintro e w2 ⟨rfl, b2⟩
  have K2 := Lib.hid (K1.out.next b2)
  clear d0 d1 d2 d3 d4 d5 d6 d7 d8 K1 b2
  obtain ⟨d0, d1, d2, d3, d4, d5, d6, d7, d8⟩ := K2.out.cells
  obtain rfl := HRT.out (HY.out ⟨by first | rfl | trivial, by first | rfl | trivial⟩)
  have HBP := Lib.hid (HP1.out (by first | rfl | trivial))
  have HTP := Lib.hid (HP2.out (by first | rfl | trivial))
  clear HN HY HRF HRT HP1 HP2 C1 C2
  go_wp2_with fail
  refine (judgeOf_impl (.slice fa b.nf fc) (.slice la b.nl lc) (.slice ga b.m gc) (.slice qa b.nfa qc) (.slice ta b.nta tc) b _ HBP.out K2.out.row).mono ?_
  rintro e w3 ⟨ra, rc, rfl, hTR, b3⟩
  have HT3 := Lib.hid hTR
  clear hTR
  have K3 := Lib.hid (K2.out.next b3)
  clear d0 d1 d2 d3 d4 d5 d6 d7 d8 K2 b3
  obtain ⟨d0, d1, d2, d3, d4, d5, d6, d7, d8⟩ := K3.out.cells
  go_wp2_with fail
  refine (split_impl fa fc la lc ga gc qa qc ta tc b ra rc key _ ng gg _ HBP.out K3.out.row HT3.out (HG.out.below K3.out.bel (Nat.le_refl _)) HTP.out hn6).mono ?_
  rintro e w4 ⟨rv, T, rfl, hT, hL, b4⟩
  have HE := Lib.hid (K3.out.bel.trans (b4.mono K3.out.bel.size))
  have HL := Lib.hid (hL.mono K3.out.bel.size)
  have HT := Lib.hid hT
  clear hT hL b4 d0 d1 d2 d3 d4 d5 d6 d7 d8
  go_wp2
  go_ret
  exact ⟨_, T, rfl, HT.out, HL.out, HE.out⟩

set_option maxRecDepth 100000 in
set_option maxHeartbeats 2000000 in
theorem rankFrom_impl (vf vl vg vfa vta : Value) (b : BookD) (G : List Int) (z : Int) (gv : Value) (R : Bool) (w : World) (hR : R = true ↔ fromP b G.length (getI G) z) (h : BookRow w vf vl vg vfa vta b) (hs : ∀ i, (b.f i).nm.size ≤ maxLen) (hgv : IntRow w gv G.length (getI G)) (hn6 : G.length ≤ 1048576) (hz63 : z ≤ 9223372036854775807) :
    Calls Tryz.prog 30 #[.agg #[vf, .int .i64 b.win, .int .i64 b.draw, .int .i64 b.loss, vl, .bool b.again, vg, vfa, vta], gv, .int .i64 z] w (ListsL w (if R = true then rankP b G z.toNat else [])) := by
  obtain ⟨fa, fc, la, lc, ga, gc, qa, qc, ta, tc, rfl, rfl, rfl, rfl, rfl⟩ := h.form
  obtain ⟨n, hn⟩ : ∃ n, G.length = n := ⟨_, rfl⟩
  obtain ⟨r1, hr1⟩ := boolEx (bookP b)
  obtain ⟨r2, hr2⟩ := boolEx (diffP b.nf n (getI G))
  rw [hn] at hgv hR hn6
  have C1 := Lib.hid (fun wa h1 => bookOk_impl (.slice fa b.nf fc) (.slice la b.nl lc) (.slice ga b.m gc) (.slice qa b.nfa qc) (.slice ta b.nta tc) b r1 wa hr1 h1 hs)
  have C2 := Lib.hid (fun wa h1 h2 => areDiff_impl (.slice fa b.nf fc) (.slice la b.nl lc) (.slice ga b.m gc) (.slice qa b.nfa qc) (.slice ta b.nta tc) b gv n (getI G) r2 wa hr2 h1 h2 hn6)
  have hall : R = true ↔ (r1 = true ∧ r2 = true ∧ 0 ≤ z) := by rw [hR, hr1, hr2]; unfold fromP diffP; exact ⟨fun ⟨a, b, c, d⟩ => ⟨a, ⟨b, d⟩, c⟩, fun ⟨a, ⟨b, d⟩, c⟩ => ⟨a, b, c, d⟩⟩
  have HN := Lib.hid (boolF hall)
  have HY := Lib.hid (boolT hall)
  have HP1 : Hid (r1 = true → bookP b) := hr1.1
  have HP2 : Hid (r2 = true → teamsP b.nf n (getI G)) := fun e => (hr2.1 e).1
  have HG := Lib.hid hgv
  have HLN := Lib.hid hn
  obtain ⟨xa, xc, rfl, _, _⟩ := hgv.form
  obtain ⟨RES, hRES⟩ : ∃ RES, (if R = true then rankP b G z.toNat else []) = RES := ⟨_, rfl⟩
  rw [hRES]
  have HRF : Hid (R = false → RES = []) := fun e => by rw [← hRES, e]; rfl
  have HRT : Hid (R = true → RES = rankP b G z.toNat) := fun e => by rw [← hRES, e]; rfl
  have K0 := Lib.hid (BkAt.made h 29)
  have hsix := h.sixty
  clear hR hr1 hr2 hall h hgv hs hRES hn
  cases r1 with
  | false =>
    obtain rfl := HRF.out (HN.out fun h => by have := h.1; cases this)
    clear HN HY
    obtain ⟨d0, d1, d2, d3, d4, d5, d6, d7, d8⟩ := K0.out.cells
    go_enter Tryz.func30, Tryz.ntmps30
    go_wp2_with fail
    refine (C1.out _ K0.out.row).mono ?_
    rintro e w1 ⟨rfl, b1⟩
    have K1 := Lib.hid (K0.out.next b1)
    clear d0 d1 d2 d3 d4 d5 d6 d7 d8 K0 b1
    obtain ⟨d0, d1, d2, d3, d4, d5, d6, d7, d8⟩ := K1.out.cells
    have HE := Lib.hid K1.out.bel
    go_wp2
    go_ret
    exact ListsL.none HE.out
  | true =>
  cases r2 with
  | false =>
    obtain rfl := HRF.out (HN.out fun h => by have := h.2.1; cases this)
    clear HN HY
    obtain ⟨d0, d1, d2, d3, d4, d5, d6, d7, d8⟩ := K0.out.cells
    go_enter Tryz.func30, Tryz.ntmps30
    go_wp2_with fail
    refine (C1.out _ K0.out.row).mono ?_
    rintro e w1 ⟨rfl, b1⟩
    have K1 := Lib.hid (K0.out.next b1)
    clear d0 d1 d2 d3 d4 d5 d6 d7 d8 K0 b1
    obtain ⟨d0, d1, d2, d3, d4, d5, d6, d7, d8⟩ := K1.out.cells
    go_wp2_with fail
    refine (C2.out _ K1.out.row (HG.out.below K1.out.bel (Nat.le_refl _))).mono ?_
    rintro e w2 ⟨rfl, b2⟩
    have K2 := Lib.hid (K1.out.next b2)
    clear d0 d1 d2 d3 d4 d5 d6 d7 d8 K1 b2
    obtain ⟨d0, d1, d2, d3, d4, d5, d6, d7, d8⟩ := K2.out.cells
    have HE := Lib.hid K2.out.bel
    go_wp2
    go_ret
    exact ListsL.none HE.out
  | true =>
  by_cases hz : 0 ≤ z
  case neg =>
    obtain rfl := HRF.out (HN.out fun h => hz h.2.2)
    have g1 : decide (z < 0) = true := decide_eq_true (by omega)
    clear HN HY hz
    obtain ⟨d0, d1, d2, d3, d4, d5, d6, d7, d8⟩ := K0.out.cells
    go_enter Tryz.func30, Tryz.ntmps30
    go_wp2_with fail
    refine (C1.out _ K0.out.row).mono ?_
    rintro e w1 ⟨rfl, b1⟩
    have K1 := Lib.hid (K0.out.next b1)
    clear d0 d1 d2 d3 d4 d5 d6 d7 d8 K0 b1
    obtain ⟨d0, d1, d2, d3, d4, d5, d6, d7, d8⟩ := K1.out.cells
    go_wp2_with fail
    refine (C2.out _ K1.out.row (HG.out.below K1.out.bel (Nat.le_refl _))).mono ?_
    rintro e w2 ⟨rfl, b2⟩
    have K2 := Lib.hid (K1.out.next b2)
    clear d0 d1 d2 d3 d4 d5 d6 d7 d8 K1 b2
    obtain ⟨d0, d1, d2, d3, d4, d5, d6, d7, d8⟩ := K2.out.cells
    have HE := Lib.hid K2.out.bel
    go_wp2
    go_ret
    exact ListsL.none HE.out
  have g1 : decide (z < 0) = false := decide_eq_false (by omega)
  obtain rfl := HRT.out (HY.out ⟨by first | rfl | trivial, by first | rfl | trivial, hz⟩)
  have HBP := Lib.hid (HP1.out (by first | rfl | trivial))
  have HTP := Lib.hid (HP2.out (by first | rfl | trivial))
  obtain ⟨s, rfl⟩ : ∃ s : Nat, z = s := ⟨z.toNat, by omega⟩
  clear HN HY HRF HRT HP1 HP2 hz
  obtain ⟨d0, d1, d2, d3, d4, d5, d6, d7, d8⟩ := K0.out.cells
  go_enter Tryz.func30, Tryz.ntmps30
  go_wp2_with fail
  refine (C1.out _ K0.out.row).mono ?_
  rintro e w1 ⟨rfl, b1⟩
  have K1 := Lib.hid (K0.out.next b1)
  clear d0 d1 d2 d3 d4 d5 d6 d7 d8 K0 b1
  obtain ⟨d0, d1, d2, d3, d4, d5, d6, d7, d8⟩ := K1.out.cells
  go_wp2_with fail
  refine (C2.out _ K1.out.row (HG.out.below K1.out.bel (Nat.le_refl _))).mono ?_
  rintro e w2 ⟨rfl, b2⟩
  have K2 := Lib.hid (K1.out.next b2)
  clear d0 d1 d2 d3 d4 d5 d6 d7 d8 K1 b2
  obtain ⟨d0, d1, d2, d3, d4, d5, d6, d7, d8⟩ := K2.out.cells
  go_wp2_with fail
  refine (judgeOf_impl (.slice fa b.nf fc) (.slice la b.nl lc) (.slice ga b.m gc) (.slice qa b.nfa qc) (.slice ta b.nta tc) b _ HBP.out K2.out.row).mono ?_
  rintro e w3 ⟨ra, rc, rfl, hTR, b3⟩
  have HT3 := Lib.hid hTR
  clear hTR
  have K3 := Lib.hid (K2.out.next b3)
  clear d0 d1 d2 d3 d4 d5 d6 d7 d8 K2 b3
  obtain ⟨d0, d1, d2, d3, d4, d5, d6, d7, d8⟩ := K3.out.cells
  go_wp2_with fail
  refine (cloneInts_impl _ n (getI G) _ (HG.out.below K3.out.bel (Nat.le_refl _)) hn6).mono ?_
  rintro e w5 ⟨vv, rfl, ho5, b5⟩
  have HO5 : Hid (w5.ownsRow w3.heap.size 3 1 vv G.length (G.map (Value.int .i64))) := by
    show World.ownsRow _ _ _ _ _ _ _
    rw [← getI_range G, HLN.out]
    exact ho5
  have HT5 := Lib.hid (HT3.out.below b5 (Nat.le_refl _))
  have hfm := owns_form ho5
  obtain ⟨ya, yc, rfl⟩ := hfm
  have K3s := Lib.hid K3.out.bel.size
  have HDB := Lib.hid b5.size
  clear ho5
  have K5 := Lib.hid (K3.out.next b5)
  clear d0 d1 d2 d3 d4 d5 d6 d7 d8 K3 b5
  obtain ⟨d0, d1, d2, d3, d4, d5, d6, d7, d8⟩ := K5.out.cells
  have C9 := Lib.hid (rank_impl fa fc la lc ga gc qa qc ta tc b ra rc HBP.out _ G s _ _ w5 (Nat.lt_succ_self _) K5.out.row HT5.out HO5.out (by rw [HLN.out]; exact HTP.out) (by rw [HLN.out]; exact hn6) hz63)
  go_wp2_with fail
  refine C9.out.mono ?_
  intro e w6 hrk
  obtain ⟨rv, T, rfl, hT, hL, b6⟩ := hrk.lists HDB.out
  have HE := Lib.hid (K5.out.bel.trans (b6.mono K5.out.bel.size))
  have HL := Lib.hid (hL.mono K3s.out)
  have HT := Lib.hid hT
  clear hT hL b6 hrk C9 d0 d1 d2 d3 d4 d5 d6 d7 d8
  go_wp2
  go_ret
  exact ⟨_, T, rfl, by rw [HT.out]; simp, HL.out, HE.out⟩

theorem World.grownBy.below2 {w w' : World} (h : w.grownBy w' none) : Below w.heap.size w w' := (Below.refl _ _).grown h (Nat.le_refl _) (fun k hk => by cases hk)

set_option maxRecDepth 100000 in
set_option maxHeartbeats 2000000 in
theorem rankGroups_impl (vf vl vg vfa vta : Value) (b : BookD) (R : Bool) (w : World) (hR : R = true ↔ bookP b) (h : BookRow w vf vl vg vfa vta b) (hs : ∀ i, (b.f i).nm.size ≤ maxLen) (hn6 : b.nf ≤ 1048576) :
    Calls Tryz.prog 13 #[.agg #[vf, .int .i64 b.win, .int .i64 b.draw, .int .i64 b.loss, vl, .bool b.again, vg, vfa, vta]] w (ListsL w (if R = true then rankP b (allL b.nf) 0 else [])) := by
  obtain ⟨i0, hi, hz0, hz1, hz2⟩ := info_parts Tryz.infoI
  obtain ⟨fa, fc, la, lc, ga, gc, qa, qc, ta, tc, rfl, rfl, rfl, rfl, rfl⟩ := h.form
  have CF := Lib.hid (fun gv wa h1 h2 => rankFrom_impl (.slice fa b.nf fc) (.slice la b.nl lc) (.slice ga b.m gc) (.slice qa b.nfa qc) (.slice ta b.nta tc) b (allL b.nf) 0 gv R wa (by rw [hR, all_from]) h1 hs h2 (by rw [allL_len]; exact hn6) (by omega))
  obtain ⟨RES, hRES⟩ : ∃ RES, (if R = true then rankP b (allL b.nf) 0 else []) = RES := ⟨_, rfl⟩
  have CF2 : Hid (∀ gv wa, BookRow wa (.slice fa b.nf fc) (.slice la b.nl lc) (.slice ga b.m gc) (.slice qa b.nfa qc) (.slice ta b.nta tc) b → IntRow wa gv (allL b.nf).length (getI (allL b.nf)) → Calls Tryz.prog 30 #[.agg #[.slice fa b.nf fc, .int .i64 b.win, .int .i64 b.draw, .int .i64 b.loss, .slice la b.nl lc, .bool b.again, .slice ga b.m gc, .slice qa b.nfa qc, .slice ta b.nta tc], gv, .int .i64 0] wa (ListsL wa RES)) := fun gv wa h1 h2 => by rw [← hRES]; exact CF.out gv wa h1 h2
  rw [hRES]
  clear CF hRES
  have K0 := Lib.hid (BkAt.made h 29)
  have hsix := h.sixty
  have hn7 : b.nf ≤ 1048576 := by omega
  clear h hR hs hn6
  obtain ⟨d0, d1, d2, d3, d4, d5, d6, d7, d8⟩ := K0.out.cells
  go_enter Tryz.func13, Tryz.ntmps13
  go_wp2_with (at_make; refine wpList_make_full _ rfl _ _ 24 rfl (w.heap.size + 1) 3 i0 (.int .i64 0) 1 Tryz.underlying24 hi hz0 hz1 .i64 .i64 b.nf b.nf b.nf rfl rfl rfl rfl (by rw [hz2]; omega) (by unfold maxLen; omega) (by simp) ?_; intro w2 hown hg2)
  have b2 := Lib.hid (World.grownBy.below2 hg2)
  have K2 := Lib.hid (K0.out.next b2.out)
  have hes : (w.alloc (.cells #[.slice fa b.nf fc, .int .i64 b.win, .int .i64 b.draw, .int .i64 b.loss, .slice la b.nl lc, .bool b.again, .slice ga b.m gc, .slice qa b.nfa qc, .slice ta b.nta tc] 29)).heap.size = w.heap.size + 1 := by simp
  rw [hes] at hown
  have HO2 := Lib.hid hown
  clear hes
  have HZ : Hid (w2.heap.size ≤ w2.heap.size) := Nat.le_refl _
  clear hg2 hown K0 d0 d1 d2 d3 d4 d5 d6 d7 d8 b2
  go_loopw [11] (fun i wr => ∃ (j : Nat) (ys : List Value), j ≤ b.nf ∧ i = .int .i64 j ∧ wr.ownsRow (w.heap.size + 1) 3 1 (.slice (some ⟨w.heap.size + 1, 0, none⟩) b.nf b.nf) b.nf ys ∧ Hid (∀ t, t < j → ys[t]? = some (.int .i64 (t : Int))) ∧ Hid (BkAt w wr w.heap.size fa fc la lc ga gc qa qc ta tc b))
    (fun i _ => b.nf - (RowKit.intOf i).toNat)
  case atStart => exact ⟨0, _, Nat.zero_le _, rfl, HO2.out, fun t ht => absurd ht (by omega), K2⟩
  case round =>
    obtain ⟨j, ys, hj, rfl, hown', hys, K⟩ := hrel
    clear HO2 K2 HZ
    by_cases hlt : j < b.nf
    · obtain ⟨u, hu⟩ := owns_some hown' j hlt
      have HU := Lib.hid hu
      have hcl := owns_cell hown' j hlt HU
      have hfr := hown'.frozenAt j
      have HO' := Lib.hid hown'
      clear hu hown'
      go_wp2
      go_roundw
      case rel =>
        refine ⟨j + 1, ys.set j (.int .i64 (j : Int)), by omega, by go_num, (HO'.out.stored j _).1, fun t ht => ?_, K.out.store (by simp) (by simp) _⟩
        have hlen := HO'.out.1
        by_cases htj : t = j
        · subst htj
          rw [List.getElem?_set_self (by omega)]
        · rw [List.getElem?_set_ne (by omega)]
          exact hys.out t (by omega)
      case measure => simp [RowKit.intOf]; omega
    · obtain rfl : b.nf = j := by omega
      have hys2 : ys = (allL b.nf).map (Value.int .i64) := by
        have hlen := hown'.1
        have e1 : allL b.nf = (List.range b.nf).map fun i : Nat => (i : Int) := by rfl
        rw [e1, List.map_map]
        apply List.ext_getElem?
        intro t
        by_cases ht : t < b.nf
        · rw [hys.out t ht]; simp [ht]
        · rw [List.getElem?_eq_none (by omega), List.getElem?_eq_none (by simp; omega)]
      subst hys2
      have hlenA : (allL b.nf).length = b.nf := allL_len _
      have HIR : Hid (IntRow _ (.slice (some ⟨w.heap.size + 1, 0, none⟩) b.nf b.nf) (allL b.nf).length (getI (allL b.nf))) := IntRow.of_list (by rw [hlenA]; exact hown') (by omega)
      obtain ⟨d0, d1, d2, d3, d4, d5, d6, d7, d8⟩ := K.out.cells
      clear hown' hys
      go_wp2_with fail
      refine (CF2.out _ _ K.out.row HIR.out).mono ?_
      rintro e w4 ⟨rv, T, rfl, hT, hL, b4⟩
      have HE := Lib.hid (K.out.bel.trans (b4.mono K.out.bel.size))
      have HL := Lib.hid (hL.mono K.out.bel.size)
      have HT := Lib.hid hT
      clear hT hL b4 d0 d1 d2 d3 d4 d5 d6 d7 d8
      go_wp2
      go_ret
      exact ⟨_, T, rfl, HT.out, HL.out, HE.out⟩

set_option maxRecDepth 100000 in
set_option maxHeartbeats 2000000 in
theorem ranking_impl (vf vl vg vfa vta : Value) (b : BookD) (R : Bool) (w : World) (hR : R = true ↔ bookP b) (h : BookRow w vf vl vg vfa vta b) (hs : ∀ i, (b.f i).nm.size ≤ maxLen) (hn6 : b.nf ≤ 1048576) :
    Calls Tryz.prog 10 #[.agg #[vf, .int .i64 b.win, .int .i64 b.draw, .int .i64 b.loss, vl, .bool b.again, vg, vfa, vta]] w (IntsL w (orderL (if R = true then rankP b (allL b.nf) 0 else []))) := by
  obtain ⟨i0, hi, hz0, hz1, hz2⟩ := info_parts Tryz.infoI
  obtain ⟨fa, fc, la, lc, ga, gc, qa, qc, ta, tc, rfl, rfl, rfl, rfl, rfl⟩ := h.form
  have K0 := Lib.hid (BkAt.made h 29)
  have hsix := h.sixty
  have C2 := Lib.hid (fun wa h1 => rankGroups_impl (.slice fa b.nf fc) (.slice la b.nl lc) (.slice ga b.m gc) (.slice qa b.nfa qc) (.slice ta b.nta tc) b R wa hR h1 hs hn6)
  obtain ⟨PL, hPL⟩ : ∃ PL, (if R = true then rankP b (allL b.nf) 0 else []) = PL := ⟨_, rfl⟩
  have HNE : Hid (∀ p ∈ PL, p ≠ []) := by
    rw [← hPL]; show ∀ p ∈ _, _
    split
    · exact rank_ne b _ _
    · intro p hp; cases hp
  have hflat : PL.flatten.length ≤ b.nf := by
    rw [← hPL]
    split
    · rw [all_flat]; exact Nat.le_refl _
    · simp
  have hPLl : PL.length ≤ 1048576 := by
    rw [← hPL]
    split
    · have := rankP_len b (allL b.nf) 0
      rw [allL_len] at this
      omega
    · simp
  rw [hPL] at C2
  rw [hPL]
  have hn7 : PL.flatten.length ≤ 1048576 := by omega
  clear h hR hs hPL hn6 hflat
  obtain ⟨d0, d1, d2, d3, d4, d5, d6, d7, d8⟩ := K0.out.cells
  go_enter Tryz.func10, Tryz.ntmps10
  go_wp2_with fail
  refine (C2.out _ K0.out.row).mono ?_
  rintro e w2 ⟨rv, T, rfl, hT, hL, b2⟩
  have HPT := Lib.hid hT
  have HL2 := Lib.hid hL
  have HTL : Hid (T.length = PL.length) := (by show _ = _; rw [← hT, List.length_map])
  have hTn : T.length ≤ 1048576 := by have := HTL.out; omega
  obtain ⟨pa, pc, hvf⟩ := owns_form hL.1
  subst hvf
  have HB2 := Lib.hid (K0.out.bel.trans (b2.mono K0.out.bel.size))
  clear hT hL b2 K0 C2 d0 d1 d2 d3 d4 d5 d6 d7 d8
  go_wp2
  go_loopw [3, 9] (fun ov iv wr => ∃ k : Nat, k ≤ T.length ∧ iv = .int .i64 k ∧ Hid (∀ p ∈ PL.take k, p.length = 1) ∧ Hid (wr.ownsRow w2.heap.size 3 1 ov (PL.take k).flatten.length ((PL.take k).flatten.map (Value.int .i64))) ∧ Hid (Below w2.heap.size w2 wr)) (fun _ iv _ => T.length - (RowKit.intOf iv).toNat)
  case atStart => exact ⟨0, Nat.zero_le _, rfl, (fun p hp => by simp at hp), World.ownsRow_nil _ _ _ _, Below.refl _ _⟩
  case round =>
    obtain ⟨k, hk, rfl, hones, HOV, HB⟩ := hrel
    by_cases hlt : k < T.length
    · obtain ⟨y, hy⟩ : ∃ y, T[k]? = some y := ⟨_, List.getElem?_eq_getElem hlt⟩
      have hyp : PL[k]? = some y.2 := by rw [← HPT.out, List.getElem?_map, hy]; rfl
      have hyP : y.2 ∈ PL := List.mem_of_getElem? hyp
      have LLr := HL2.out.below HB.out (Nat.le_refl _)
      have hrow := LLr.2.1 _ (List.mem_of_getElem? hy)
      obtain ⟨pg, pcap, he, hpc, _, cp⟩ := vals_at (x := y.1) (j := k) LLr.1 (by rw [List.getElem?_map, hy]; rfl)
      simp only [Value.slice.injEq, true_and] at he
      obtain ⟨rfl, rfl⟩ := he
      obtain ⟨ya, yc, hyf⟩ := owns_form hrow
      have hklt : (k : Int) < T.length := by omega
      obtain ⟨p, hp2⟩ : ∃ p, y.2 = p := ⟨_, rfl⟩
      rw [hp2] at hyf hyp hyP hrow
      rw [hyf] at cp hrow
      clear LLr hyf hp2 hy
      have hpos : 0 < p.length := List.length_pos_iff.2 (HNE.out p hyP)
      by_cases h1 : p.length = 1
      case neg =>
        have g1 : decide ((1 : Int) < (p.length : Int)) = true := decide_eq_true (by omega)
        have g2 : decide (1 < p.length) = true := decide_eq_true (by omega)
        have hord : orderL PL = [] := by unfold orderL; rw [if_neg (fun h => h1 (h p hyP))]
        rw [hord]
        have HE := Lib.hid (HB2.out.trans (HB.out.mono HB2.out.size))
        clear hones HOV HB hyp hyP hrow h1 hord
        go_wp2
        go_ret
        exact IntsL.none HE.out
      have g1 : decide ((1 : Int) < (p.length : Int)) = false := decide_eq_false (by omega)
      have g2 : decide (1 < p.length) = false := decide_eq_false (by omega)
      have HS : Hid (∀ q ∈ PL.take (k + 1), q.length = 1) := fun q hq => by
        rw [List.take_add_one, hyp] at hq
        rcases List.mem_append.1 hq with hq | hq
        · exact hones.out q hq
        · simp only [Option.toList_some, List.mem_singleton] at hq; subst hq; exact h1
      have HFT : Hid ((PL.take (k + 1)).flatten = (PL.take k).flatten ++ p) := flat_take PL k hyp
      have hfl := flat_take_le PL (k + 1)
      rw [HFT.out, List.length_append] at hfl
      have HRW := Lib.hid (IntRow.of_list hrow (by omega)).rec
      have HBsz := HB.out.size
      have hfl2 : (PL.take k).flatten.length + p.length ≤ 1048576 := by omega
      clear hones hyp hyP hrow h1 hpos hfl
      go_wp2_with (at_builtin; refine wpList_appendR rfl (.tmp 16) (.tmp 17) 24 rfl w2.heap.size 3 Tryz.underlying24 hi hz0 hz1 hz2 rfl (by decide) rfl HOV.out rfl HRW.out (fun i hi => rfl) (fun i hi u hu => by simp at hu; subst hu; rfl) hfl2 (by omega) HBsz ?_; intro vv w8 o5 gr5 at5; have O5 := Lib.hid o5; have HB5 := Lib.hid (HB.out.grown gr5 HB.out.size (fun q hq => (HOV.out.lt q hq).1)); clear o5 gr5 at5)
      have HO6 : Hid (w8.ownsRow w2.heap.size 3 1 vv (PL.take (k + 1)).flatten.length ((PL.take (k + 1)).flatten.map (Value.int .i64))) := by
        have h7 := O5.out
        rw [flatR_one, getI_range p] at h7
        show World.ownsRow _ _ _ _ _ _ _
        rw [HFT.out, List.length_append, List.map_append]
        exact h7
      clear O5 HOV HRW
      go_roundw
      case rel => exact ⟨k + 1, by omega, by go_num, HS, HO6, HB5⟩
      case measure => simp [RowKit.intOf]; omega
    · obtain rfl : T.length = k := by omega
      have HOR : Hid (orderL PL = PL.flatten) := by
        have h1 := hones.out
        rw [HTL.out, List.take_length] at h1
        show _ = _
        unfold orderL
        rw [if_pos h1]
      have HO9 := HOV.out
      rw [HTL.out, List.take_length] at HO9
      have HO := Lib.hid (owns_mono HO9 HB2.out.size)
      have HE := Lib.hid (HB2.out.trans (HB.out.mono HB2.out.size))
      clear HO9 HOV hones HB
      go_wp2
      go_ret
      rw [HOR.out]
      exact ⟨_, rfl, HO.out, HE.out⟩

set_option maxRecDepth 100000 in
set_option maxHeartbeats 2000000 in
theorem rankOf_impl (vf vl vg vfa vta : Value) (b : BookD) (team : Int) (R : Bool) (w : World) (hR : R = true ↔ bookP b) (h : BookRow w vf vl vg vfa vta b) (hs : ∀ i, (b.f i).nm.size ≤ maxLen) (hn6 : b.nf ≤ 1048576) :
    Calls Tryz.prog 14 #[.agg #[vf, .int .i64 b.win, .int .i64 b.draw, .int .i64 b.loss, vl, .bool b.again, vg, vfa, vta], .int .i64 team] w fun e w' => e = .returned (.int .i64 (rankAt team (if R = true then rankP b (allL b.nf) 0 else []) 1)) ∧ Below w.heap.size w w' := by
  obtain ⟨fa, fc, la, lc, ga, gc, qa, qc, ta, tc, rfl, rfl, rfl, rfl, rfl⟩ := h.form
  have K0 := Lib.hid (BkAt.made h 29)
  have hsix := h.sixty
  have C2 := Lib.hid (fun wa h1 => rankGroups_impl (.slice fa b.nf fc) (.slice la b.nl lc) (.slice ga b.m gc) (.slice qa b.nfa qc) (.slice ta b.nta tc) b R wa hR h1 hs hn6)
  obtain ⟨PL, hPL⟩ : ∃ PL, (if R = true then rankP b (allL b.nf) 0 else []) = PL := ⟨_, rfl⟩
  have HNE : Hid (∀ p ∈ PL, p ≠ []) := by
    rw [← hPL]; show ∀ p ∈ _, _
    split
    · exact rank_ne b _ _
    · intro p hp; cases hp
  have hflat : PL.flatten.length ≤ b.nf := by
    rw [← hPL]
    split
    · rw [all_flat]; exact Nat.le_refl _
    · simp
  have hPLl : PL.length ≤ 1048576 := by
    rw [← hPL]
    split
    · have := rankP_len b (allL b.nf) 0
      rw [allL_len] at this
      omega
    · simp
  rw [hPL] at C2
  rw [hPL]
  have hn7 : PL.flatten.length ≤ 1048576 := by omega
  clear h hR hs hPL hn6 hflat
  obtain ⟨d0, d1, d2, d3, d4, d5, d6, d7, d8⟩ := K0.out.cells
  go_enter Tryz.func14, Tryz.ntmps14
  go_wp2_with fail
  refine (C2.out _ K0.out.row).mono ?_
  rintro e w2 ⟨rv, T, rfl, hT, hL, b2⟩
  have HPT := Lib.hid hT
  have HL2 := Lib.hid hL
  have HTL : Hid (T.length = PL.length) := (by show _ = _; rw [← hT, List.length_map])
  have hTn : T.length ≤ 1048576 := by have := HTL.out; omega
  obtain ⟨pa, pc, hvf⟩ := owns_form hL.1
  subst hvf
  have HB2 := Lib.hid (K0.out.bel.trans (b2.mono K0.out.bel.size))
  clear hT hL b2 K0 C2 d0 d1 d2 d3 d4 d5 d6 d7 d8
  go_wp2
  go_loopw [5, 11] (fun nv iv wr => ∃ (k : Nat) (m : Nat), k ≤ T.length ∧ iv = .int .i64 k ∧ nv = .int .i64 m ∧ m = 1 + (PL.take k).flatten.length ∧ Hid (rankAt team (PL.drop k) m = rankAt team PL 1) ∧ Hid (Below w2.heap.size w2 wr)) (fun _ iv _ => T.length - (RowKit.intOf iv).toNat)
  case atStart => exact ⟨0, 1, Nat.zero_le _, rfl, rfl, rfl, Lib.hid rfl, Below.refl _ _⟩
  case round =>
    obtain ⟨k, m, hk, rfl, rfl, hm, HRA, HB⟩ := hrel
    by_cases hlt : k < T.length
    · obtain ⟨y, hy⟩ : ∃ y, T[k]? = some y := ⟨_, List.getElem?_eq_getElem hlt⟩
      have hyp : PL[k]? = some y.2 := by rw [← HPT.out, List.getElem?_map, hy]; rfl
      have hyP : y.2 ∈ PL := List.mem_of_getElem? hyp
      have LLr := HL2.out.below HB.out (Nat.le_refl _)
      have hrow := LLr.2.1 _ (List.mem_of_getElem? hy)
      obtain ⟨pg, pcap, he, hpc, _, cp⟩ := vals_at (x := y.1) (j := k) LLr.1 (by rw [List.getElem?_map, hy]; rfl)
      simp only [Value.slice.injEq, true_and] at he
      obtain ⟨rfl, rfl⟩ := he
      obtain ⟨ya, yc, hyf⟩ := owns_form hrow
      have hklt : (k : Int) < T.length := by omega
      obtain ⟨p, hp2⟩ : ∃ p, y.2 = p := ⟨_, rfl⟩
      rw [hp2] at hyf hyp hyP hrow
      rw [hyf] at cp hrow
      clear LLr hyf hp2 hy
      have hdrop : PL.drop k = p :: PL.drop (k + 1) := by
        have hkl := (List.getElem?_eq_some_iff.1 hyp).1
        rw [List.drop_eq_getElem_cons hkl, (List.getElem?_eq_some_iff.1 hyp).2]
      have HFT : Hid ((PL.take (k + 1)).flatten = (PL.take k).flatten ++ p) := flat_take PL k hyp
      have hfl := flat_take_le PL (k + 1)
      rw [HFT.out, List.length_append] at hfl
      have hmem : hasB (getI p) p.length team = true ↔ team ∈ p := by
        rw [hasB_iff]
        unfold hasP
        constructor
        · rintro ⟨j, hj, e⟩
          have e3 : getI p j = p[j] := by unfold getI; simp [hj]
          rw [← e, e3]
          exact List.getElem_mem hj
        · intro hin
          obtain ⟨j, hj, e⟩ := List.mem_iff_getElem.1 hin
          exact ⟨j, hj, by have e3 : getI p j = p[j] := by unfold getI; simp [hj]
                           rw [e3]; exact e⟩
      have hstep : rankAt team (PL.drop k) m = if team ∈ p then (m : Int) else rankAt team (PL.drop (k + 1)) (m + p.length) := by rw [hdrop]; rfl
      rw [HRA.out] at hstep
      have CH := Lib.hid (fun wa h1 => contains_any (.slice ya p.length yc) p.length (getI p) team wa h1)
      have HIR := Lib.hid (IntRow.of_list hrow (by omega))
      have HE := Lib.hid (HB2.out.trans (HB.out.mono HB2.out.size))
      have hm2 : m + p.length ≤ 1048577 := by omega
      have hm3 : m + p.length = 1 + (PL.take (k + 1)).flatten.length := by rw [HFT.out, List.length_append]; omega
      have HM3 := Lib.hid hm3
      by_cases hin : team ∈ p
      · have e1 := hmem.2 hin
        rw [e1] at CH
        rw [if_pos hin] at hstep
        have HST := Lib.hid hstep
        clear HRA hdrop HFT hfl hmem hstep hyp hyP hrow hin e1 hm3 HM3 HB hm
        go_wp2_with fail
        refine (CH.out _ HIR.out).mono ?_
        rintro e w3 ⟨rfl, hw3⟩
        subst hw3
        go_wp2
        go_ret
        exact ⟨by rw [HST.out]; rfl, HE.out⟩
      · have e1 : hasB (getI p) p.length team = false := by
          cases hc : hasB (getI p) p.length team with
          | false => rfl
          | true => exact absurd (hmem.1 hc) hin
        rw [e1] at CH
        rw [if_neg hin] at hstep
        have HST := Lib.hid hstep.symm
        clear HRA hdrop HFT hfl hmem hstep hyp hyP hrow hin e1 hm3 hm HE
        go_wp2_with fail
        refine (CH.out _ HIR.out).mono ?_
        rintro e w3 ⟨rfl, hw3⟩
        subst hw3
        go_wp2
        go_roundw
        case rel => exact ⟨k + 1, m + p.length, by omega, by go_num, by go_num, HM3.out, HST, HB⟩
        case measure => simp [RowKit.intOf]; omega
    · obtain rfl : T.length = k := by omega
      have HR0 : Hid (rankAt team PL 1 = 0) := by
        have h1 := HRA.out
        rw [HTL.out, List.drop_length] at h1
        exact h1.symm
      have HE := Lib.hid (HB2.out.trans (HB.out.mono HB2.out.size))
      clear HRA HB hm
      go_wp2
      go_ret
      exact ⟨by rw [HR0.out]; rfl, HE.out⟩

end Go.Proofs.YtakbolkdbpehoaaGreat
set_option linter.unusedVariables false
namespace Go.Proofs.YtakbolkdbpehoaaGreat
open Go.RowKit

/-- a type: its data, its cells, how much it weighs, how it is marked, when its cells read its data (through blocks of which B holds), when they own them (in the blocks bs, from lo on) -/
structure Ty where
  D : Type
  n : Nat
  wt : D → Nat
  mks : D → Nat
  mkd : Int → D → D
  fit : D → Prop
  Rd : World → (Nat → Prop) → List Value → D → Prop
  Ow : World → Nat → List Value → D → List Nat → Prop
  rd_len : ∀ {w B cs d}, Rd w B cs d → cs.length = n
  rd_frame : ∀ {w w' B cs d}, Rd w B cs d → (∀ q, B q → q < w.heap.size → w'.heap[q]? = w.heap[q]?) → w.heap.size ≤ w'.heap.size → Rd w' B cs d
  rd_mono : ∀ {w B B' cs d}, Rd w B cs d → (∀ q, B q → B' q) → Rd w B' cs d
  ow_rd : ∀ {w lo cs d bs}, Ow w lo cs d bs → Rd w (fun q => q ∈ bs) cs d
  ow_frame : ∀ {w w' lo cs d bs}, Ow w lo cs d bs → (∀ q, q ∈ bs → w'.heap[q]? = w.heap[q]?) → w.heap.size ≤ w'.heap.size → Ow w' lo cs d bs
  ow_lt : ∀ {w lo cs d bs}, Ow w lo cs d bs → ∀ q, q ∈ bs → lo ≤ q ∧ q < w.heap.size
  ow_mono : ∀ {w lo lo' cs d bs}, Ow w lo cs d bs → lo' ≤ lo → Ow w lo' cs d bs
def tInt : Ty where
  D := Int
  n := 1
  wt _ := 0
  mks _ := 1
  mkd k _ := k
  fit d := IntFit d
  Rd _ _ cs d := cs = [.int .i64 d]
  Ow _ _ cs d bs := cs = [.int .i64 d] ∧ bs = []
  rd_len h := by subst h; rfl
  rd_frame h _ _ := h
  rd_mono h _ := h
  ow_rd h := h.1
  ow_frame h _ _ := h
  ow_lt h q hq := by rw [h.2] at hq; cases hq
  ow_mono h _ := h
def tBool : Ty where
  D := Bool
  n := 1
  wt _ := 0
  mks _ := 1
  mkd k _ := k.tmod 3 == 0
  fit _ := True
  Rd _ _ cs d := cs = [.bool d]
  Ow _ _ cs d bs := cs = [.bool d] ∧ bs = []
  rd_len h := by subst h; rfl
  rd_frame h _ _ := h
  rd_mono h _ := h
  ow_rd h := h.1
  ow_frame h _ _ := h
  ow_lt h q hq := by rw [h.2] at hq; cases hq
  ow_mono h _ := h
def tStr : Ty where
  D := ByteArray
  n := 1
  wt d := d.size
  mks _ := 1
  mkd k _ := mkT k.toNat
  fit d := d.size ≤ maxLen
  Rd _ _ cs d := cs = [.string d]
  Ow _ _ cs d bs := cs = [.string d] ∧ bs = []
  rd_len h := by subst h; rfl
  rd_frame h _ _ := h
  rd_mono h _ := h
  ow_rd h := h.1
  ow_frame h _ _ := h
  ow_lt h q hq := by rw [h.2] at hq; cases hq
  ow_mono h _ := h
/-- one field behind another -/
def tTwo (a b : Ty) : Ty where
  D := a.D × b.D
  n := a.n + b.n
  wt d := a.wt d.1 + b.wt d.2
  mks d := a.mks d.1 + b.mks d.2
  mkd k d := (a.mkd k d.1, b.mkd (k + a.mks d.1) d.2)
  fit d := a.fit d.1 ∧ b.fit d.2
  Rd w B cs d := ∃ c1 c2, cs = c1 ++ c2 ∧ a.Rd w B c1 d.1 ∧ b.Rd w B c2 d.2
  Ow w lo cs d bs := ∃ c1 c2 b1 b2, cs = c1 ++ c2 ∧ bs = b1 ++ b2 ∧ a.Ow w lo c1 d.1 b1 ∧ b.Ow w lo c2 d.2 b2
  rd_len h := by obtain ⟨c1, c2, rfl, h1, h2⟩ := h; rw [List.length_append, a.rd_len h1, b.rd_len h2]
  rd_frame h hf hs := by obtain ⟨c1, c2, rfl, h1, h2⟩ := h; exact ⟨c1, c2, rfl, a.rd_frame h1 hf hs, b.rd_frame h2 hf hs⟩
  rd_mono h hB := by obtain ⟨c1, c2, rfl, h1, h2⟩ := h; exact ⟨c1, c2, rfl, a.rd_mono h1 hB, b.rd_mono h2 hB⟩
  ow_rd h := by
    obtain ⟨c1, c2, b1, b2, rfl, rfl, h1, h2⟩ := h
    exact ⟨c1, c2, rfl, a.rd_mono (a.ow_rd h1) (fun q hq => List.mem_append_left _ hq), b.rd_mono (b.ow_rd h2) (fun q hq => List.mem_append_right _ hq)⟩
  ow_frame h hf hs := by
    obtain ⟨c1, c2, b1, b2, rfl, rfl, h1, h2⟩ := h
    exact ⟨c1, c2, b1, b2, rfl, rfl, a.ow_frame h1 (fun q hq => hf q (List.mem_append_left _ hq)) hs, b.ow_frame h2 (fun q hq => hf q (List.mem_append_right _ hq)) hs⟩
  ow_lt h q hq := by
    obtain ⟨c1, c2, b1, b2, rfl, rfl, h1, h2⟩ := h
    rcases List.mem_append.1 hq with h | h
    · exact a.ow_lt h1 q h
    · exact b.ow_lt h2 q h
  ow_mono h hl := by
    obtain ⟨c1, c2, b1, b2, rfl, rfl, h1, h2⟩ := h
    exact ⟨c1, c2, b1, b2, rfl, rfl, a.ow_mono h1 hl, b.ow_mono h2 hl⟩
theorem RecRow.frame {k : Nat} {w w' : World} {v : Value} {n : Nat} {g : Nat → List Value} (h : RecRow k w v n g) (hf : 0 < n → ∀ q, v.ownBlock = some q → q < w.heap.size → w'.heap[q]? = w.heap[q]?) (hs : w.heap.size ≤ w'.heap.size) : RecRow k w' v n g := by
  rcases h with ⟨a, c, rfl, rfl⟩ | ⟨b, off, c, rfl, h0, h1, hc, h2⟩
  · exact .inl ⟨_, _, rfl, rfl⟩
  · refine .inr ⟨b, off, c, rfl, h0, h1, fun i hi => ?_, h2⟩
    have hb := (hc i hi).1
    refine ⟨Nat.lt_of_lt_of_le hb hs, fun j u hu => ?_⟩
    exact (World.cell?_of_block (w := w) (w' := w') (a := ⟨b, off + i * k + j, none⟩) (hf h0 b rfl hb)).trans ((hc i hi).2 j u hu)
theorem owns_frame {w w' : World} {base : Nat} {e : TypeId} {k : Nat} {v : Value} {n : Nat} {xs : List Value} (h : w.ownsRow base e k v n xs) (hf : ∀ q, v.ownBlock = some q → w'.heap[q]? = w.heap[q]?) : w'.ownsRow base e k v n xs := by
  refine ⟨h.1, ?_⟩
  rcases h.2 with h' | ⟨g, cap, cur, rfl, h1, h2, h3⟩
  · exact .inl h'
  · exact .inr ⟨g, cap, cur, rfl, h1, (hf g rfl).trans h2, h3⟩
/-- marks put on a list, one element behind the other -/
def mkList {α : Type} (mks : α → Nat) (mkd : Int → α → α) : Int → List α → List α
  | _, [] => []
  | k, x :: r => mkd k x :: mkList mks mkd (k + mks x) r
theorem mkList_len {α : Type} (mks : α → Nat) (mkd : Int → α → α) : ∀ (L : List α) (k : Int), (mkList mks mkd k L).length = L.length
  | [], _ => rfl
  | _ :: r, k => by unfold mkList; rw [List.length_cons, List.length_cons, mkList_len mks mkd r]
theorem recRow_own {w : World} {base : Nat} {e : TypeId} {k : Nat} {v : Value} {n : Nat} {xs : List Value} (h : w.ownsRow base e k v n xs) (hn : n ≤ 9223372036854775807) : RecRow k w v n fun i => (xs.drop (i * k)).take k := by
  refine RecRow.of_owns h hn (fun i hi j u hu => ?_) (fun i hi => by rw [List.length_take]; omega)
  rw [List.getElem?_take] at hu
  split at hu
  · rw [List.getElem?_drop] at hu
    exact hu
  · cases hu
theorem owns_max {w : World} {base : Nat} {e : TypeId} {k : Nat} {v : Value} {n : Nat} {xs : List Value} (h : w.ownsRow base e k v n xs) : n ≤ 9223372036854775807 := by
  rcases h.2 with ⟨_, h0⟩ | ⟨g, cap, cur, _, _, _, h1, h2, _⟩
  · omega
  · unfold maxLen at h2; omega
theorem block_len {xs : List Value} {n k i : Nat} (hl : xs.length = n * k) (hi : i < n) : ((xs.drop (i * k)).take k).length = k := by
  have : i * k + k ≤ n * k := by have := Nat.mul_le_mul_right k (show i + 1 ≤ n by omega); rwa [Nat.succ_mul] at this
  rw [List.length_take, List.length_drop]
  omega
/-- slices of elements of a type (t: the element's number) -/
def tSl (t : TypeId) (e : Ty) : Ty where
  D := List e.D
  n := 1
  wt d := d.length + (d.map e.wt).sum
  mks d := (d.map e.mks).sum
  mkd k d := mkList e.mks e.mkd k d
  fit d := ∀ x ∈ d, e.fit x
  Rd w B cs d := ∃ (v : Value) (ce : Nat → List Value), cs = [v] ∧ RecRow e.n w v d.length ce ∧ (0 < d.length → ∀ q, v.ownBlock = some q → B q) ∧ ∀ i x, d[i]? = some x → e.Rd w B (ce i) x
  Ow w lo cs d bs := ∃ (v : Value) (xs : List Value) (f : Nat → List Nat), cs = [v] ∧ w.ownsRow lo t e.n v d.length xs ∧ (∀ i x, d[i]? = some x → e.Ow w lo ((xs.drop (i * e.n)).take e.n) x (f i)) ∧ bs = v.ownBlock.toList ++ (List.range d.length).flatMap f
  rd_len h := by obtain ⟨v, ce, rfl, _⟩ := h; rfl
  rd_frame h hf hs := by
    obtain ⟨v, ce, rfl, h1, h2, h3⟩ := h
    exact ⟨v, ce, rfl, h1.frame (fun h0 q hq hl => hf q (h2 h0 q hq) hl) hs, h2, fun i x hx => e.rd_frame (h3 i x hx) hf hs⟩
  rd_mono h hB := by
    obtain ⟨v, ce, rfl, h1, h2, h3⟩ := h
    exact ⟨v, ce, rfl, h1, fun h0 q hq => hB q (h2 h0 q hq), fun i x hx => e.rd_mono (h3 i x hx) hB⟩
  ow_rd h := by
    obtain ⟨v, xs, f, rfl, h1, h2, rfl⟩ := h
    refine ⟨v, _, rfl, recRow_own h1 (owns_max h1), fun _ q hq => List.mem_append_left _ (by rw [hq]; simp), fun i x hx => e.rd_mono (e.ow_rd (h2 i x hx)) fun q hq => List.mem_append_right _ (List.mem_flatMap.2 ⟨i, List.mem_range.2 (List.getElem?_eq_some_iff.1 hx).1, hq⟩)⟩
  ow_frame h hf hs := by
    obtain ⟨v, xs, f, rfl, h1, h2, rfl⟩ := h
    refine ⟨v, xs, f, rfl, owns_frame h1 (fun q hq => hf q (List.mem_append_left _ (by rw [hq]; simp))), fun i x hx => e.ow_frame (h2 i x hx) (fun q hq => hf q (List.mem_append_right _ (List.mem_flatMap.2 ⟨i, List.mem_range.2 (List.getElem?_eq_some_iff.1 hx).1, hq⟩))) hs, rfl⟩
  ow_lt h q hq := by
    obtain ⟨v, xs, f, rfl, h1, h2, rfl⟩ := h
    rcases List.mem_append.1 hq with h | h
    · refine h1.lt q ?_
      cases hv : v.ownBlock with
      | none => rw [hv] at h; cases h
      | some z => rw [hv] at h; simp at h; rw [h]
    · obtain ⟨i, hi, hq⟩ := List.mem_flatMap.1 h
      rename_i d0
      exact e.ow_lt (h2 i _ (List.getElem?_eq_getElem (List.mem_range.1 hi))) q hq
  ow_mono h hl := by
    obtain ⟨v, xs, f, rfl, h1, h2, rfl⟩ := h
    exact ⟨v, xs, f, rfl, owns_mono h1 hl, fun i x hx => e.ow_mono (h2 i x hx) hl, rfl⟩
/-- the cells own their data in blocks from lo up to hi, each once -/
def OwN (T : Ty) (w : World) (lo hi : Nat) (cs : List Value) (d : T.D) : Prop := ∃ bs, T.Ow w lo cs d bs ∧ bs.Nodup ∧ (∀ q ∈ bs, q < hi) ∧ hi ≤ w.heap.size
/-- the cells read their data in blocks from lo up to hi -/
def RdN (T : Ty) (w : World) (lo hi : Nat) (cs : List Value) (d : T.D) : Prop := T.Rd w (fun q => lo ≤ q ∧ q < hi) cs d
/-- the cells read their data in whatever blocks there are -/
def RdA (T : Ty) (w : World) (cs : List Value) (d : T.D) : Prop := T.Rd w (fun q => q < w.heap.size) cs d
section
variable {T : Ty} {w w' : World} {lo hi lo' hi' : Nat} {cs : List Value} {d : T.D}
theorem OwN.rd (h : OwN T w lo hi cs d) : RdN T w lo hi cs d := by
  obtain ⟨bs, h1, _, h3, _⟩ := h
  exact T.rd_mono (T.ow_rd h1) fun q hq => ⟨(T.ow_lt h1 q hq).1, h3 q hq⟩
theorem OwN.hi_le (h : OwN T w lo hi cs d) : hi ≤ w.heap.size := by obtain ⟨_, _, _, _, h⟩ := h; exact h
theorem OwN.frame (h : OwN T w lo hi cs d) (hf : ∀ q, lo ≤ q → q < hi → w'.heap[q]? = w.heap[q]?) (hs : w.heap.size ≤ w'.heap.size) : OwN T w' lo hi cs d := by
  obtain ⟨bs, h1, h2, h3, h4⟩ := h
  exact ⟨bs, T.ow_frame h1 (fun q hq => hf q (T.ow_lt h1 q hq).1 (h3 q hq)) hs, h2, h3, Nat.le_trans h4 hs⟩
theorem OwN.below (h : OwN T w lo hi cs d) (hb : Below w.heap.size w w') : OwN T w' lo hi cs d := h.frame (fun q _ hq => hb.block q (Nat.lt_of_lt_of_le hq h.hi_le)) hb.size
theorem OwN.touch (h : OwN T w lo hi cs d) (t : Touch lo' hi' w w') (ho : hi ≤ lo' ∨ hi' ≤ lo) : OwN T w' lo hi cs d :=
  h.frame (fun q h1 h2 => t.block q (Nat.lt_of_lt_of_le h2 h.hi_le) (by omega)) t.size
theorem OwN.mono (h : OwN T w lo hi cs d) (h1 : lo' ≤ lo) (h2 : hi ≤ hi') (h3 : hi' ≤ w.heap.size) : OwN T w lo' hi' cs d := by
  obtain ⟨bs, a1, a2, a3, _⟩ := h
  exact ⟨bs, T.ow_mono a1 h1, a2, fun q hq => Nat.lt_of_lt_of_le (a3 q hq) h2, h3⟩
theorem RdN.frame (h : RdN T w lo hi cs d) (hf : ∀ q, lo ≤ q → q < hi → q < w.heap.size → w'.heap[q]? = w.heap[q]?) (hs : w.heap.size ≤ w'.heap.size) : RdN T w' lo hi cs d :=
  T.rd_frame h (fun q hq hl => hf q hq.1 hq.2 hl) hs
theorem RdN.below (h : RdN T w lo hi cs d) (hb : Below w.heap.size w w') : RdN T w' lo hi cs d := h.frame (fun q _ _ hq => hb.block q hq) hb.size
theorem RdN.touch (h : RdN T w lo hi cs d) (t : Touch lo' hi' w w') (ho : hi ≤ lo' ∨ hi' ≤ lo) : RdN T w' lo hi cs d := h.frame (fun q h1 h2 hl => t.block q hl (by omega)) t.size
theorem RdN.all (h : RdN T w lo hi cs d) (hh : hi ≤ w.heap.size) : RdA T w cs d := T.rd_mono h fun q hq => Nat.lt_of_lt_of_le hq.2 hh
theorem RdA.below (h : RdA T w cs d) (hb : Below w.heap.size w w') : RdA T w' cs d := by
  have h1 : T.Rd w' (fun q => q < w.heap.size) cs d := T.rd_frame h (fun q hq _ => hb.block q hq) hb.size
  exact T.rd_mono h1 fun q hq => Nat.lt_of_lt_of_le hq hb.size
theorem RdA.len (h : RdA T w cs d) : cs.length = T.n := T.rd_len h
end
/-- two made one behind the other -/
theorem OwN.two {a b : Ty} {w : World} {lo mi hi : Nat} {c1 c2 : List Value} {d1 : a.D} {d2 : b.D} (h1 : OwN a w lo mi c1 d1) (h2 : OwN b w mi hi c2 d2) (hm : lo ≤ mi) (hh : mi ≤ hi) : OwN (tTwo a b) w lo hi (c1 ++ c2) (d1, d2) := by
  obtain ⟨b1, a1, a2, a3, a4⟩ := h1
  obtain ⟨b2, e1, e2, e3, e4⟩ := h2
  refine ⟨b1 ++ b2, ⟨c1, c2, b1, b2, rfl, rfl, a1, b.ow_mono e1 hm⟩, List.nodup_append.2 ⟨a2, e2, fun x hx y hy => ?_⟩, fun q hq => ?_, e4⟩
  · have := a3 x hx
    have := (b.ow_lt e1 y hy).1
    omega
  · rcases List.mem_append.1 hq with h | h
    · exact Nat.lt_of_lt_of_le (a3 q h) hh
    · exact e3 q h
theorem OwN.int (w : World) (z : Int) {lo hi : Nat} (hh : hi ≤ w.heap.size) : OwN tInt w lo hi [.int .i64 z] z := ⟨[], ⟨rfl, rfl⟩, List.nodup_nil, fun q hq => (by cases hq), hh⟩
theorem OwN.bool (w : World) (z : Bool) {lo hi : Nat} (hh : hi ≤ w.heap.size) : OwN tBool w lo hi [.bool z] z := ⟨[], ⟨rfl, rfl⟩, List.nodup_nil, fun q hq => (by cases hq), hh⟩
theorem OwN.str (w : World) (z : ByteArray) {lo hi : Nat} (hh : hi ≤ w.heap.size) : OwN tStr w lo hi [.string z] z := ⟨[], ⟨rfl, rfl⟩, List.nodup_nil, fun q hq => (by cases hq), hh⟩
theorem RdA.two {a b : Ty} {w : World} {c1 c2 : List Value} {d1 : a.D} {d2 : b.D} (h1 : RdA a w c1 d1) (h2 : RdA b w c2 d2) : RdA (tTwo a b) w (c1 ++ c2) (d1, d2) := ⟨c1, c2, rfl, h1, h2⟩
/-- a slice made of scalars -/
theorem OwN.flat {t : TypeId} {e : Ty} {w : World} {lo hi : Nat} {v : Value} {d : List e.D} {xs : List Value} (h : w.ownsRow lo t e.n v d.length xs) (hf : ∀ i x, d[i]? = some x → e.Ow w lo ((xs.drop (i * e.n)).take e.n) x []) (h1 : ∀ q, v.ownBlock = some q → q < hi) (hh : hi ≤ w.heap.size) : OwN (tSl t e) w lo hi [v] d := by
  have e0 : ∀ n : Nat, (List.range n).flatMap (fun _ : Nat => ([] : List Nat)) = [] := fun n => by
    rw [List.flatMap_eq_nil_iff]; intro x hx; rfl
  refine ⟨v.ownBlock.toList, ⟨v, xs, fun _ => [], rfl, h, hf, by rw [e0]; simp⟩, by cases v.ownBlock <;> simp, fun q hq => h1 q ?_, hh⟩
  cases hv : v.ownBlock with
  | none => rw [hv] at hq; cases hq
  | some z => rw [hv] at hq; simp at hq; rw [hq]
end Go.Proofs.YtakbolkdbpehoaaGreat
set_option linter.unusedVariables false
namespace Go.Proofs.YtakbolkdbpehoaaGreat
open Go.RowKit

/-- an element of e is spelled by its cells c, and owns nothing -/
structure FlatT (e : Ty) (c : e.D → List Value) : Prop where
  rd : ∀ {w B cs x}, e.Rd w B cs x ↔ cs = c x
  ow : ∀ {w lo cs x bs}, e.Ow w lo cs x bs ↔ cs = c x ∧ bs = []
  len : ∀ x, (c x).length = e.n
  pos : 0 < e.n
  mks : ∀ x, e.mks x = e.n
theorem flat_int : FlatT tInt fun z => [.int .i64 z] := ⟨Iff.rfl, Iff.rfl, fun _ => rfl, Nat.one_pos, fun _ => rfl⟩
theorem flat_bool : FlatT tBool fun z => [.bool z] := ⟨Iff.rfl, Iff.rfl, fun _ => rfl, Nat.one_pos, fun _ => rfl⟩
theorem flat_str : FlatT tStr fun z => [.string z] := ⟨Iff.rfl, Iff.rfl, fun _ => rfl, Nat.one_pos, fun _ => rfl⟩
theorem flat_two {a b : Ty} {ca : a.D → List Value} {cb : b.D → List Value} (ha : FlatT a ca) (hb : FlatT b cb) : FlatT (tTwo a b) fun d => ca d.1 ++ cb d.2 where
  rd := by
    intro w B cs x
    constructor
    · rintro ⟨c1, c2, rfl, h1, h2⟩
      rw [ha.rd.1 h1, hb.rd.1 h2]
    · intro h
      exact ⟨_, _, h, ha.rd.2 rfl, hb.rd.2 rfl⟩
  ow := by
    intro w lo cs x bs
    constructor
    · rintro ⟨c1, c2, b1, b2, rfl, rfl, h1, h2⟩
      rw [(ha.ow.1 h1).1, (ha.ow.1 h1).2, (hb.ow.1 h2).1, (hb.ow.1 h2).2]
      exact ⟨rfl, rfl⟩
    · rintro ⟨h, h0⟩
      exact ⟨_, _, [], [], h, h0, ha.ow.2 ⟨rfl, rfl⟩, hb.ow.2 ⟨rfl, rfl⟩⟩
  len x := by rw [List.length_append, ha.len, hb.len]; rfl
  pos := Nat.add_pos_left ha.pos _
  mks x := by show a.mks x.1 + b.mks x.2 = a.n + b.n; rw [ha.mks, hb.mks]
/-- the cells of number i of a list -/
def cellsAt {α : Type} (c : α → List Value) (d : List α) (i : Nat) : List Value := ((d[i]?).map c).getD []
theorem cellsAt_lt {α : Type} {c : α → List Value} {d : List α} {i : Nat} {x : α} (h : d[i]? = some x) : cellsAt c d i = c x := by unfold cellsAt; rw [h]; rfl
section
variable {e : Ty} {c : e.D → List Value} {t : TypeId} {w : World} {lo hi : Nat} {v : Value} {d : List e.D}
theorem FlatT.row (hf : FlatT e c) {B : Nat → Prop} (h : (tSl t e).Rd w B [v] d) : RecRow e.n w v d.length (cellsAt c d) := by
  obtain ⟨v', ce, he, h1, _, h3⟩ := h
  simp only [List.cons.injEq, and_true] at he
  subst he
  refine h1.congr fun i hi => ?_
  obtain ⟨x, hx⟩ : ∃ x, d[i]? = some x := ⟨_, List.getElem?_eq_getElem hi⟩
  rw [cellsAt_lt hx]
  exact hf.rd.1 (h3 i x hx)
theorem FlatT.inB (hf : FlatT e c) {B : Nat → Prop} (h : (tSl t e).Rd w B [v] d) : 0 < d.length → ∀ q, v.ownBlock = some q → B q := by
  obtain ⟨v', ce, he, _, h2, _⟩ := h
  simp only [List.cons.injEq, and_true] at he
  subst he
  exact h2
theorem FlatT.reads (hf : FlatT e c) {B : Nat → Prop} (h : RecRow e.n w v d.length (cellsAt c d)) (hB : 0 < d.length → ∀ q, v.ownBlock = some q → B q) : (tSl t e).Rd w B [v] d :=
  ⟨v, _, rfl, h, hB, fun i x hx => hf.rd.2 (cellsAt_lt hx)⟩
theorem FlatT.rdA (hf : FlatT e c) : RdA (tSl t e) w [v] d ↔ RecRow e.n w v d.length (cellsAt c d) := by
  refine ⟨fun h => hf.row h, fun h => hf.reads h fun h0 q hq => ?_⟩
  rcases h with ⟨_, _, _, h1⟩ | ⟨b, off, cap, rfl, _, _, hc, _⟩
  · omega
  · have : b = q := by simpa [Value.ownBlock] using hq
    subst this
    exact (hc 0 h0).1
theorem FlatT.own (hf : FlatT e c) {xs : List Value} (h : w.ownsRow lo t e.n v d.length xs) (hc : RecCells e.n d.length xs (cellsAt c d)) (h1 : ∀ q, v.ownBlock = some q → q < hi) (hh : hi ≤ w.heap.size) : OwN (tSl t e) w lo hi [v] d := by
  refine OwN.flat h (fun i x hx => hf.ow.2 ⟨?_, rfl⟩) h1 hh
  have hi2 := (List.getElem?_eq_some_iff.1 hx).1
  have hl := block_len h.1 hi2
  refine List.ext_getElem? fun j => ?_
  by_cases hj : j < e.n
  · obtain ⟨u, hu⟩ : ∃ u, (c x)[j]? = some u := ⟨_, List.getElem?_eq_getElem (by rw [hf.len]; exact hj)⟩
    have := hc i hi2 j u (by rw [cellsAt_lt hx]; exact hu)
    rw [List.getElem?_take_of_lt hj, List.getElem?_drop, this, hu]
  · rw [List.getElem?_eq_none (by omega), List.getElem?_eq_none (by rw [hf.len]; omega)]
theorem FlatT.owned (hf : FlatT e c) (h : OwN (tSl t e) w lo hi [v] d) : (∃ xs, w.ownsRow lo t e.n v d.length xs ∧ RecCells e.n d.length xs (cellsAt c d)) ∧ InW lo hi v := by
  obtain ⟨bs, ⟨v', xs, f, he, h1, h2, rfl⟩, _, h4, _⟩ := h
  simp only [List.cons.injEq, and_true] at he
  subst he
  refine ⟨⟨xs, h1, fun i hi j u hu => ?_⟩, fun k hk => ⟨(h1.lt k hk).1, h4 k (List.mem_append_left _ (by rw [hk]; simp))⟩⟩
  obtain ⟨x, hx⟩ : ∃ x, d[i]? = some x := ⟨_, List.getElem?_eq_getElem hi⟩
  rw [cellsAt_lt hx] at hu
  have h5 := (hf.ow.1 (h2 i x hx)).1
  have hj : j < e.n := by have := (List.getElem?_eq_some_iff.1 hu).1; rw [hf.len] at this; exact this
  rw [← h5, List.getElem?_take_of_lt hj, List.getElem?_drop] at hu
  exact hu
theorem cells_of {k : Nat} {w : World} {base : Nat} {t : TypeId} {v : Value} {n : Nat} {xs : List Value} {g : Nat → List Value} (h : w.ownsRow base t k v n xs) (hr : RecRow k w v n g) (hg : ∀ i, i < n → (g i).length ≤ k) : RecCells k n xs g := by
  intro i hi j u hu
  have hj : j < k := by have := (List.getElem?_eq_some_iff.1 hu).1; have := hg i hi; omega
  have hlt : i * k + j < n * k := by have := Nat.mul_le_mul_right k (show i + 1 ≤ n by omega); rw [Nat.succ_mul] at this; omega
  rcases hr with ⟨_, _, _, h0⟩ | ⟨b, off, cap, rfl, _, _, hc, _⟩
  · omega
  · obtain ⟨g', gc, hg'⟩ : ∃ g gc, (Value.slice (some ⟨b, off, none⟩) n cap) = .slice (some ⟨g, 0, none⟩) n gc := by
      rcases h.2 with ⟨_, h0⟩ | ⟨g, cap', cur, hv, _⟩
      · omega
      · exact ⟨g, cap', hv⟩
    simp only [Value.slice.injEq, Option.some.injEq, Addr.mk.injEq, and_true, true_and] at hg'
    obtain ⟨⟨rfl, rfl⟩, rfl⟩ := hg'
    have h5 := h.cellAt (i * k + j) hlt
    have h6 := (hc i hi).2 j u hu
    rw [Nat.zero_add] at h6
    rw [h6] at h5
    exact h5.symm
/-- a row that is owned and reads the data -/
theorem FlatT.made {e : Ty} {c : e.D → List Value} {t : TypeId} {w : World} {lo hi : Nat} {v : Value} {d : List e.D} (hf : FlatT e c) {xs : List Value} (h : w.ownsRow lo t e.n v d.length xs) (hr : RdA (tSl t e) w [v] d) (h1 : ∀ q, v.ownBlock = some q → q < hi) (hh : hi ≤ w.heap.size) : OwN (tSl t e) w lo hi [v] d :=
  hf.own h (cells_of h (hf.row hr) fun i hi => by rw [cellsAt_lt (List.getElem?_eq_getElem hi), hf.len]; exact Nat.le_refl _) h1 hh
theorem mkList_get {α : Type} {mks : α → Nat} {mkd : Int → α → α} {m : Nat} (hm : ∀ x, mks x = m) : ∀ (L : List α) (k : Int) (i : Nat), (mkList mks mkd k L)[i]? = (L[i]?).map (mkd (k + m * (i : Int)))
  | [], _, _ => rfl
  | x :: r, k, 0 => by unfold mkList; simp
  | x :: r, k, i + 1 => by
    unfold mkList
    rw [List.getElem?_cons_succ, List.getElem?_cons_succ, mkList_get hm r, hm]
    congr 2
    rw [Int.natCast_succ, Int.mul_add]
    omega
theorem sum_const {α : Type} {f : α → Nat} {m : Nat} (hm : ∀ x, f x = m) : ∀ L : List α, (L.map f).sum = m * L.length
  | [] => rfl
  | x :: r => by rw [List.map_cons, List.sum_cons, sum_const hm r, hm, List.length_cons, Nat.mul_succ, Nat.add_comm]
theorem sum_zero {α : Type} {f : α → Nat} (hm : ∀ x, f x = 0) (L : List α) : (L.map f).sum = 0 := by rw [sum_const hm, Nat.zero_mul]
theorem FlatT.marks (hf : FlatT e c) : (tSl t e).mks d = e.n * d.length := sum_const hf.mks d
/-- what is marked, cell by cell -/
theorem FlatT.marked (hf : FlatT e c) (k : Int) (i : Nat) {x : e.D} (hx : d[i]? = some x) : cellsAt c ((tSl t e).mkd k d) i = c (e.mkd (k + e.n * (i : Int)) x) := by
  refine cellsAt_lt ?_
  show (mkList e.mks e.mkd k d)[i]? = _
  rw [mkList_get hf.mks, hx]
  rfl
theorem marked_len (k : Int) : ((tSl t e).mkd k d).length = d.length := mkList_len _ _ _ _
end
/-- what sz.. answers -/
def SzT (T : Ty) (d : T.D) (left : Int) (w : World) (e : Ending) (w' : World) : Prop := (∃ r : Int, e = .returned (.int .i64 r) ∧ (r < 0 ∨ (0 ≤ r ∧ (T.wt d : Int) + r = left))) ∧ Below w.heap.size w w'
/-- what to.. makes of one cell -/
def MadeT (T : Ty) (d : T.D) (w : World) (e : Ending) (w' : World) : Prop := ∃ v, e = .returned v ∧ OwN T w' w.heap.size w'.heap.size [v] d ∧ Below w.heap.size w w'
/-- what mark.. does -/
def MarkT (T : Ty) (cs : List Value) (d : T.D) (k : Int) (lo hi : Nat) (w : World) (e : Ending) (w' : World) : Prop := e = .returned (.int .i64 (k + T.mks d)) ∧ RdN T w' lo hi cs (T.mkd k d) ∧ Touch lo hi w w'
def HeldT (T : Ty) (d : T.D) (k : Int) (w : World) (e : Ending) (w' : World) : Prop := e = .returned (.int .i64 (k + T.mks d)) ∧ Below w.heap.size w w'
theorem rd_split {a b : Ty} {w : World} {cs : List Value} {d : (tTwo a b).D} (h : RdA (tTwo a b) w cs d) : RdA a w (cs.take a.n) d.1 ∧ RdA b w (cs.drop a.n) d.2 := by
  obtain ⟨c1, c2, rfl, h1, h2⟩ := h
  have hl := a.rd_len h1
  rw [← hl, List.take_left', List.drop_left']
  · exact ⟨h1, h2⟩
  · rfl
  · rfl
theorem rd_splitB {a b : Ty} {w : World} {B : Nat → Prop} {cs : List Value} {d : (tTwo a b).D} (h : (tTwo a b).Rd w B cs d) : a.Rd w B (cs.take a.n) d.1 ∧ b.Rd w B (cs.drop a.n) d.2 := by
  obtain ⟨c1, c2, rfl, h1, h2⟩ := h
  have hl := a.rd_len h1
  rw [← hl, List.take_left', List.drop_left']
  · exact ⟨h1, h2⟩
  · rfl
  · rfl
theorem ow_split {a b : Ty} {w : World} {lo : Nat} {cs : List Value} {d : (tTwo a b).D} {bs : List Nat} (h : (tTwo a b).Ow w lo cs d bs) : ∃ b1 b2, bs = b1 ++ b2 ∧ a.Ow w lo (cs.take a.n) d.1 b1 ∧ b.Ow w lo (cs.drop a.n) d.2 b2 := by
  obtain ⟨c1, c2, b1, b2, rfl, rfl, h1, h2⟩ := h
  have hl := a.rd_len (a.ow_rd h1)
  refine ⟨b1, b2, rfl, ?_⟩
  rw [← hl, List.take_left', List.drop_left']
  · exact ⟨h1, h2⟩
  · rfl
  · rfl
/-- w' is w but for the blocks bs -/
structure KeepB (bs : List Nat) (w w' : World) : Prop where
  os : w'.os = w.os
  tape : w'.tape = w.tape
  output : w'.output = w.output
  size : w.heap.size ≤ w'.heap.size
  block : ∀ k, k < w.heap.size → k ∉ bs → w'.heap[k]? = w.heap[k]?
theorem KeepB.of_below {bs : List Nat} {w w' : World} (h : Below w.heap.size w w') : KeepB bs w w' := ⟨h.os, h.tape, h.output, h.size, fun k hk _ => h.block k hk⟩
theorem KeepB.trans {b1 b2 : List Nat} {a b c : World} (h : KeepB b1 a b) (k : KeepB b2 b c) : KeepB (b1 ++ b2) a c :=
  ⟨k.os.trans h.os, k.tape.trans h.tape, k.output.trans h.output, Nat.le_trans h.size k.size, fun q hq hn => by
    rw [List.mem_append] at hn
    exact (k.block q (Nat.lt_of_lt_of_le hq h.size) (fun e => hn (.inr e))).trans (h.block q hq (fun e => hn (.inl e)))⟩
theorem KeepB.mono {b1 b2 : List Nat} {a b : World} (h : KeepB b1 a b) (hb : ∀ q, q ∈ b1 → q ∈ b2) : KeepB b2 a b := ⟨h.os, h.tape, h.output, h.size, fun q hq hn => h.block q hq (fun e => hn (hb q e))⟩
theorem KeepB.touch {bs : List Nat} {lo hi : Nat} {w w' : World} (h : KeepB bs w w') (hb : ∀ q ∈ bs, lo ≤ q ∧ q < hi) : Touch lo hi w w' :=
  ⟨h.os, h.tape, h.output, h.size, fun k hk hq => h.block k hk (fun e => by have := hb k e; omega)⟩
theorem KeepB.of_touch {g : Nat} {w w' : World} (h : Touch g (g + 1) w w') : KeepB [g] w w' := ⟨h.os, h.tape, h.output, h.size, fun k hk hn => h.block k hk (by simp at hn; omega)⟩
theorem KeepB.refl (bs : List Nat) (w : World) : KeepB bs w w := ⟨rfl, rfl, rfl, Nat.le_refl _, fun _ _ _ => rfl⟩
/-- what mark.. does, told by blocks -/
def MarkB (T : Ty) (cs : List Value) (d : T.D) (k : Int) (bs : List Nat) (w : World) (e : Ending) (w' : World) : Prop := e = .returned (.int .i64 (k + T.mks d)) ∧ T.Rd w' (fun q => q ∈ bs) cs (T.mkd k d) ∧ KeepB bs w w'
theorem MarkB.markT {T : Ty} {cs : List Value} {d : T.D} {k : Int} {bs : List Nat} {lo hi : Nat} {w w' : World} {e : Ending} (h : MarkB T cs d k bs w e w') (hb : ∀ q ∈ bs, lo ≤ q ∧ q < hi) : MarkT T cs d k lo hi w e w' :=
  ⟨h.1, T.rd_mono h.2.1 hb, h.2.2.touch hb⟩
/-- a contract told by blocks, for what lies in a window -/
theorem mark_window {T : Ty} {cs : List Value} {d : T.D} {k : Int} {lo hi : Nat} {w : World} {P : Program} {f : FuncId} {args : Array Value} (h : OwN T w lo hi cs d)
    (hc : ∀ bs, T.Ow w lo cs d bs → bs.Nodup → Calls P f args w (MarkB T cs d k bs w)) : Calls P f args w (MarkT T cs d k lo hi w) := by
  obtain ⟨bs, h1, h2, h3, _⟩ := h
  exact (hc bs h1 h2).mono fun e w' hm => hm.markT fun q hq => ⟨(T.ow_lt h1 q hq).1, h3 q hq⟩
theorem flat_blocks {e : Ty} {c : e.D → List Value} {t : TypeId} {w : World} {lo : Nat} {v : Value} {d : List e.D} {bs : List Nat} (hf : FlatT e c) (h : (tSl t e).Ow w lo [v] d bs) : bs = v.ownBlock.toList := by
  obtain ⟨v', xs, f, he, h1, h2, rfl⟩ := h
  simp only [List.cons.injEq, and_true] at he
  subst he
  have : (List.range d.length).flatMap f = [] := by
    rw [List.flatMap_eq_nil_iff]
    intro i hi
    exact (hf.ow.1 (h2 i _ (List.getElem?_eq_getElem (List.mem_range.1 hi)))).2
  rw [this, List.append_nil]
/-- slices of flat elements: out of the contract for windows -/
theorem flat_mark {e : Ty} {c : e.D → List Value} {t : TypeId} {w : World} {lo : Nat} {v : Value} {d : List e.D} {k : Int} {bs : List Nat} {P : Program} {f : FuncId} {args : Array Value} (hf : FlatT e c) (h : (tSl t e).Ow w lo [v] d bs)
    (hc : ∀ lo hi, OwN (tSl t e) w lo hi [v] d → Calls P f args w (MarkT (tSl t e) [v] d k lo hi w)) : Calls P f args w (MarkB (tSl t e) [v] d k bs w) := by
  have hbs := flat_blocks hf h
  have hlt := (tSl t e).ow_lt h
  cases hv : v.ownBlock with
  | none =>
    rw [hv] at hbs
    subst hbs
    refine (hc lo 0 ⟨_, h, List.nodup_nil, fun q hq => (by cases hq), Nat.zero_le _⟩).mono fun E w' ⟨h1, h2, h3⟩ => ⟨h1, (tSl t e).rd_mono h2 fun q hq => absurd hq.2 (Nat.not_lt_zero _), ⟨h3.os, h3.tape, h3.output, h3.size, fun q hq _ => h3.block q hq (.inr (Nat.zero_le _))⟩⟩
  | some g =>
    rw [hv] at hbs
    subst hbs
    have hg := hlt g (by simp)
    obtain ⟨v', xs, f', he, h1, h2, h3⟩ := h
    simp only [List.cons.injEq, and_true] at he
    subst he
    have h1' : w.ownsRow g t e.n v d.length xs := by
      refine ⟨h1.1, ?_⟩
      rcases h1.2 with h0 | ⟨g', cap, cur, rfl, _, h5⟩
      · exact .inl h0
      · have : g' = g := by simpa [Value.ownBlock] using hv
        subst this
        exact .inr ⟨_, cap, cur, rfl, Nat.le_refl _, h5⟩
    have hown : OwN (tSl t e) w g (g + 1) [v] d := OwN.flat h1' (fun i x hx => hf.ow.2 ⟨(hf.ow.1 (h2 i x hx)).1, rfl⟩) (fun q hq => by rw [hv] at hq; cases hq; exact Nat.lt_succ_self _) hg.2
    refine (hc g (g + 1) hown).mono fun E w' ⟨a1, a2, a3⟩ => ⟨a1, (tSl t e).rd_mono a2 fun q hq => ?_, KeepB.of_touch a3⟩
    have : q = g := by omega
    rw [this]; simp
/-- what mark.. does to a struct: d2 what it reads then, n how many marks -/
def MarkC (T : Ty) (cs : List Value) (d2 : T.D) (n : Nat) (k : Int) (bs : List Nat) (w : World) (e : Ending) (w' : World) : Prop := e = .returned (.int .i64 (k + n)) ∧ T.Rd w' (fun q => q ∈ bs) cs d2 ∧ KeepB bs w w'
theorem mark_windowC {T : Ty} {cs : List Value} {d d2 : T.D} {n : Nat} {k : Int} {lo hi : Nat} {w : World} {P : Program} {f : FuncId} {args : Array Value} (h : OwN T w lo hi cs d)
    (hc : ∀ bs, T.Ow w lo cs d bs → bs.Nodup → Calls P f args w (MarkC T cs d2 n k bs w)) : Calls P f args w fun e w' => e = .returned (.int .i64 (k + n)) ∧ RdN T w' lo hi cs d2 ∧ Touch lo hi w w' := by
  obtain ⟨bs, h1, h2, h3, _⟩ := h
  have hb : ∀ q ∈ bs, lo ≤ q ∧ q < hi := fun q hq => ⟨(T.ow_lt h1 q hq).1, h3 q hq⟩
  exact (hc bs h1 h2).mono fun e w' hm => ⟨hm.1, T.rd_mono hm.2.1 hb, hm.2.2.touch hb⟩
theorem rd_slice {t : TypeId} {e : Ty} {w : World} {B : Nat → Prop} {v : Value} {d : List e.D} (h : (tSl t e).Rd w B [v] d) : ∃ a n k, v = .slice a n k := by
  obtain ⟨v', ce, he, h1, _⟩ := h
  simp only [List.cons.injEq, and_true] at he
  subst he
  obtain ⟨a, c, h2, _⟩ := h1.form
  exact ⟨a, _, c, h2⟩
theorem scalar_int {w : World} {B : Nat → Prop} {z d : Int} (h : tInt.Rd w B [.int .i64 z] d) : d = z := by
  have h1 : [Value.int .i64 z] = [.int .i64 d] := h
  simp only [List.cons.injEq, Value.int.injEq, true_and, and_true] at h1
  exact h1.symm
theorem scalar_bool {w : World} {B : Nat → Prop} {z d : Bool} (h : tBool.Rd w B [.bool z] d) : d = z := by
  have h1 : [Value.bool z] = [.bool d] := h
  simp only [List.cons.injEq, Value.bool.injEq, and_true] at h1
  exact h1.symm
theorem scalar_str {w : World} {B : Nat → Prop} {z d : ByteArray} (h : tStr.Rd w B [.string z] d) : d = z := by
  have h1 : [Value.string z] = [.string d] := h
  simp only [List.cons.injEq, Value.string.injEq, and_true] at h1
  exact h1.symm
theorem ResAt.elsewhere {w : World} {B D k : Nat} (h : ResAt w B k) (j : Nat) (u : Value) (hD : B ≠ D) : ResAt (w.setCell ⟨D, j, none⟩ u) B k := by
  obtain ⟨cs, h1, h2⟩ := h
  exact ⟨cs, h1, h2.other j u hD⟩
theorem KeepB.box {bs : List Nat} {w w' : World} {B : Nat} {cs : List Value} (h : BoxN w B cs) (k : KeepB bs w w') (hB : B ∉ bs) : BoxN w' B cs :=
  ⟨Nat.lt_of_lt_of_le h.1 k.size, fun j v hj => (World.cell?_of_block (w := w) (w' := w') (a := ⟨B, j, none⟩) (k.block B h.1 hB)).trans (h.2 j v hj)⟩
theorem KeepB.rd {T : Ty} {bs b2 : List Nat} {w w' : World} {cs : List Value} {d : T.D} (h : T.Rd w (fun q => q ∈ b2) cs d) (k : KeepB bs w w') (hd : ∀ q, q ∈ b2 → q ∉ bs) : T.Rd w' (fun q => q ∈ b2) cs d :=
  T.rd_frame h (fun q hq hl => k.block q hl (hd q hq)) k.size
theorem KeepB.ow {T : Ty} {bs b2 : List Nat} {w w' : World} {lo : Nat} {cs : List Value} {d : T.D} (h : T.Ow w lo cs d b2) (k : KeepB bs w w') (hd : ∀ q, q ∈ b2 → q ∉ bs) : T.Ow w' lo cs d b2 :=
  T.ow_frame h (fun q hq => k.block q (T.ow_lt h q hq).2 (hd q hq)) k.size
theorem scal_int {w w' : World} {lo : Nat} {bs : List Nat} {B : Nat → Prop} {cs : List Value} {d : Int} (h : tInt.Ow w lo cs d bs) : tInt.Rd w' B cs d := h.1
theorem scal_bool {w w' : World} {lo : Nat} {bs : List Nat} {B : Nat → Prop} {cs : List Value} {d : Bool} (h : tBool.Ow w lo cs d bs) : tBool.Rd w' B cs d := h.1
theorem scal_str {w w' : World} {lo : Nat} {bs : List Nat} {B : Nat → Prop} {cs : List Value} {d : ByteArray} (h : tStr.Ow w lo cs d bs) : tStr.Rd w' B cs d := h.1
theorem ret_int {x y : Int} (h : x = y) : Ending.returned (Value.int .i64 x) = .returned (.int .i64 y) := by rw [h]
end Go.Proofs.YtakbolkdbpehoaaGreat
set_option linter.unusedVariables false
namespace Go.Proofs.YtakbolkdbpehoaaGreat
open Go.RowKit

theorem OwN.rdA {T : Ty} {w : World} {lo hi : Nat} {cs : List Value} {d : T.D} (h : OwN T w lo hi cs d) : RdA T w cs d := h.rd.all h.hi_le
/-- a value takes at most c marks for each unit of its weight and one -/
def Bnd (T : Ty) (c : Nat) : Prop := ∀ d, T.mks d ≤ c * (T.wt d + 1)
theorem bnd_int : Bnd tInt 1 := fun d => by show 1 ≤ 1 * (0 + 1); omega
theorem bnd_bool : Bnd tBool 1 := fun d => by show 1 ≤ 1 * (0 + 1); omega
theorem bnd_str : Bnd tStr 1 := fun d => by show 1 ≤ 1 * (d.size + 1); omega
theorem bnd_two {a b : Ty} {ca cb : Nat} (ha : Bnd a ca) (hb : Bnd b cb) : Bnd (tTwo a b) (ca + cb) := fun d => by
  have h1 := ha d.1
  have h2 := hb d.2
  show a.mks d.1 + b.mks d.2 ≤ (ca + cb) * (a.wt d.1 + b.wt d.2 + 1)
  have h3 : ca * (a.wt d.1 + 1) ≤ ca * (a.wt d.1 + b.wt d.2 + 1) := Nat.mul_le_mul_left _ (by omega)
  have h4 : cb * (b.wt d.2 + 1) ≤ cb * (a.wt d.1 + b.wt d.2 + 1) := Nat.mul_le_mul_left _ (by omega)
  rw [Nat.add_mul]
  omega
theorem bnd_sl {t : TypeId} {e : Ty} {c : Nat} (h : Bnd e c) : Bnd (tSl t e) c := fun d => by
  have key : ∀ L : List e.D, (L.map e.mks).sum ≤ c * (L.length + (L.map e.wt).sum) := by
    intro L
    induction L with
    | nil => exact Nat.zero_le _
    | cons x L ih =>
      have := h x
      rw [List.map_cons, List.sum_cons, List.map_cons, List.sum_cons, List.length_cons]
      have e1 : c * (L.length + 1 + (e.wt x + (L.map e.wt).sum)) = c * (e.wt x + 1) + c * (L.length + (L.map e.wt).sum) := by rw [← Nat.mul_add]; congr 1; omega
      omega
  exact Nat.le_trans (key d) (Nat.mul_le_mul_left _ (Nat.le_succ _))
theorem Bnd.le {T : Ty} {c : Nat} (h : Bnd T c) {d : T.D} (hw : T.wt d ≤ 1048576) (hc : c ≤ 1000) : T.mks d ≤ 2000000000 := by
  have h1 := h d
  have h2 : c * (T.wt d + 1) ≤ 1000 * 1048577 := Nat.mul_le_mul hc (by omega)
  omega
end Go.Proofs.YtakbolkdbpehoaaGreat
