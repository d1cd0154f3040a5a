/-
  Packed: RankImpl, SepImpl, RangeRel.
-/
import Derived.RangeFuncNested
import Derived.RangeFuncBound
import Derived.RangeFuncCalls
import Derived.RangeFuncLeaves
import Derived.Shelf.Abstract
import Derived.Shelf.RegionOpen
import Derived.WalkKit
import Derived.OwnWalkIn
import Derived.TacticsInMore
import Derived.LoopNIn
import Derived.LoopIn
import Derived.Deep.RegionHeld3
import Derived.Test.YteciobkjfmddcaaGreatDoorProg
import Derived.Test.YteciobkjfmddcaaGreatDoorQ4
import Derived.Test.YteciobkjfmddcaaGreatDoorQ6
import Derived.Test.YteciobkjfmddcaaGreatDoorQ12
import Derived.Test.YteciobkjfmddcaaGreatDoorQ14
import Derived.Test.YteciobkjfmddcaaGreatDoorQ15
set_option linter.unusedVariables false
namespace Go.Proofs.YteciobkjfmddcaaGreatDoor
open Go.RowKit

theorem flatR_one (g : Nat → Value) : ∀ m, flatR (fun i => [g i]) m = (List.range m).map g
  | 0 => rfl
  | m + 1 => by
    unfold flatR
    rw [List.range_succ, List.flatMap_append, List.map_append]
    congr 1
    exact flatR_one g m
set_option maxRecDepth 100000 in
set_option maxHeartbeats 2000000 in
theorem cloneInts_impl (v : Value) (m : Nat) (g : Nat → Int) (w : World) (hv : IntRow w v m g) (hm : m ≤ 1048576) :
    Calls Tryz.prog 63 #[v] w fun e w' => ∃ vv, e = .returned vv ∧ w'.ownsRow w.heap.size 3 1 vv m ((List.range m).map fun i => Value.int .i64 (g i)) ∧ Below w.heap.size w w' := by
  obtain ⟨i0, hi, hz0, hz1, hz2⟩ := info_parts Tryz.infoI
  obtain ⟨aa, cap, rfl, hn, hc⟩ := hv.form
  cases aa with
  | none =>
    have h0 : m = 0 := by
      by_cases h : 0 < m
      · obtain ⟨_, _, h1, _⟩ := hc h; cases h1
      · omega
    subst h0
    have hq1 : (binOp .eql 24 (.slice none 0 cap) (.slice none 0 0)).run Tryz.prog w = .ok (.bool true) w := Lib.run_eql_slice_nil w 24 3 none 0 cap 0 0 Tryz.underlying24
    clear hv hc
    go_enter Tryz.func63, Tryz.ntmps63
    go_wp2
    go_ret
    exact ⟨_, rfl, World.ownsRow_nil _ _ _ _, Below.refl _ _⟩
  | some ad =>
    have HV := Lib.hid hv.rec
    have hq1 : (binOp .eql 24 (.slice (some ad) m cap) (.slice none 0 0)).run Tryz.prog w = .ok (.bool false) w := Lib.run_eql_slice_nil w 24 3 (some ad) m cap 0 0 Tryz.underlying24
    clear hv hc
    go_enter Tryz.func63, Tryz.ntmps63
    go_wp2_with (at_builtin; refine wpList_cloneR rfl (.tmp 5) (.tmp 6) 24 rfl 3 Tryz.underlying24 hi hz0 hz1 hz2 rfl (by decide) (by simp [go_sem]) rfl HV.out (fun i hi => rfl) (fun i hi u hu => by simp at hu; subst hu; rfl) (by omega) (by omega) ?_; intro vv w3 o3 b3)
    go_ret
    refine ⟨_, rfl, ?_, b3⟩
    have e : flatR (fun i => [Value.int .i64 (g i)]) m = (List.range m).map fun i => Value.int .i64 (g i) := flatR_one _ m
    rw [← e]
    exact o3

set_option maxRecDepth 100000 in
set_option maxHeartbeats 2000000 in
theorem rankFrom_impl (vf vl vg vfa vta : Value) (b : BookD) (G : List Int) (z : Int) (gv : Value) (R : Bool) (w : World) (hR : R = true ↔ fromP b G.length (getI G) z) (h : BookRow w vf vl vg vfa vta b) (hs : ∀ i, (b.f i).nm.size ≤ maxLen) (hgv : IntRow w gv G.length (getI G)) (hn6 : G.length ≤ 1048576) (hz63 : z ≤ 9223372036854775807) :
    Calls Tryz.prog 34 #[.agg #[vf, .int .i64 b.win, .int .i64 b.draw, .int .i64 b.loss, vl, .bool b.again, vg, vfa, vta], gv, .int .i64 z] w (ListsL w (if R = true then rankP b G z.toNat else [])) := by
  obtain ⟨fa, fc, la, lc, ga, gc, qa, qc, ta, tc, rfl, rfl, rfl, rfl, rfl⟩ := h.form
  obtain ⟨n, hn⟩ : ∃ n, G.length = n := ⟨_, rfl⟩
  obtain ⟨r1, hr1⟩ := boolEx (bookP b)
  obtain ⟨r2, hr2⟩ := boolEx (diffP b.nf n (getI G))
  rw [hn] at hgv hR hn6
  have C1 := Lib.hid (fun wa h1 => bookOk_impl (.slice fa b.nf fc) (.slice la b.nl lc) (.slice ga b.m gc) (.slice qa b.nfa qc) (.slice ta b.nta tc) b r1 wa hr1 h1 hs)
  have C2 := Lib.hid (fun wa h1 h2 => areDiff_impl (.slice fa b.nf fc) (.slice la b.nl lc) (.slice ga b.m gc) (.slice qa b.nfa qc) (.slice ta b.nta tc) b gv n (getI G) r2 wa hr2 h1 h2 hn6)
  have hall : R = true ↔ (r1 = true ∧ r2 = true ∧ 0 ≤ z) := by rw [hR, hr1, hr2]; unfold fromP diffP; exact ⟨fun ⟨a, b, c, d⟩ => ⟨a, ⟨b, d⟩, c⟩, fun ⟨a, ⟨b, d⟩, c⟩ => ⟨a, b, c, d⟩⟩
  have HN := Lib.hid (boolF hall)
  have HY := Lib.hid (boolT hall)
  have HP1 : Hid (r1 = true → bookP b) := hr1.1
  have HP2 : Hid (r2 = true → teamsP b.nf n (getI G)) := fun e => (hr2.1 e).1
  have HG := Lib.hid hgv
  have HLN := Lib.hid hn
  obtain ⟨xa, xc, rfl, _, _⟩ := hgv.form
  obtain ⟨RES, hRES⟩ : ∃ RES, (if R = true then rankP b G z.toNat else []) = RES := ⟨_, rfl⟩
  rw [hRES]
  have HRF : Hid (R = false → RES = []) := fun e => by rw [← hRES, e]; rfl
  have HRT : Hid (R = true → RES = rankP b G z.toNat) := fun e => by rw [← hRES, e]; rfl
  have K0 := Lib.hid (BkAt.made h 29)
  have hsix := h.sixty
  clear hR hr1 hr2 hall h hgv hs hRES hn
  cases r1 with
  | false =>
    obtain rfl := HRF.out (HN.out fun h => by have := h.1; cases this)
    clear HN HY
    obtain ⟨d0, d1, d2, d3, d4, d5, d6, d7, d8⟩ := K0.out.cells
    go_enter Tryz.func34, Tryz.ntmps34
    go_wp2_with fail
    refine (C1.out _ K0.out.row).mono ?_
    rintro e w1 ⟨rfl, b1⟩
    have K1 := Lib.hid (K0.out.next b1)
    clear d0 d1 d2 d3 d4 d5 d6 d7 d8 K0 b1
    obtain ⟨d0, d1, d2, d3, d4, d5, d6, d7, d8⟩ := K1.out.cells
    have HE := Lib.hid K1.out.bel
    go_wp2
    go_ret
    exact ListsL.none HE.out
  | true =>
  cases r2 with
  | false =>
    obtain rfl := HRF.out (HN.out fun h => by have := h.2.1; cases this)
    clear HN HY
    obtain ⟨d0, d1, d2, d3, d4, d5, d6, d7, d8⟩ := K0.out.cells
    go_enter Tryz.func34, Tryz.ntmps34
    go_wp2_with fail
    refine (C1.out _ K0.out.row).mono ?_
    rintro e w1 ⟨rfl, b1⟩
    have K1 := Lib.hid (K0.out.next b1)
    clear d0 d1 d2 d3 d4 d5 d6 d7 d8 K0 b1
    obtain ⟨d0, d1, d2, d3, d4, d5, d6, d7, d8⟩ := K1.out.cells
    go_wp2_with fail
    refine (C2.out _ K1.out.row (HG.out.below K1.out.bel (Nat.le_refl _))).mono ?_
    rintro e w2 ⟨rfl, b2⟩
    have K2 := Lib.hid (K1.out.next b2)
    clear d0 d1 d2 d3 d4 d5 d6 d7 d8 K1 b2
    obtain ⟨d0, d1, d2, d3, d4, d5, d6, d7, d8⟩ := K2.out.cells
    have HE := Lib.hid K2.out.bel
    go_wp2
    go_ret
    exact ListsL.none HE.out
  | true =>
  by_cases hz : 0 ≤ z
  case neg =>
    obtain rfl := HRF.out (HN.out fun h => hz h.2.2)
    have g1 : decide (z < 0) = true := decide_eq_true (by omega)
    clear HN HY hz
    obtain ⟨d0, d1, d2, d3, d4, d5, d6, d7, d8⟩ := K0.out.cells
    go_enter Tryz.func34, Tryz.ntmps34
    go_wp2_with fail
    refine (C1.out _ K0.out.row).mono ?_
    rintro e w1 ⟨rfl, b1⟩
    have K1 := Lib.hid (K0.out.next b1)
    clear d0 d1 d2 d3 d4 d5 d6 d7 d8 K0 b1
    obtain ⟨d0, d1, d2, d3, d4, d5, d6, d7, d8⟩ := K1.out.cells
    go_wp2_with fail
    refine (C2.out _ K1.out.row (HG.out.below K1.out.bel (Nat.le_refl _))).mono ?_
    rintro e w2 ⟨rfl, b2⟩
    have K2 := Lib.hid (K1.out.next b2)
    clear d0 d1 d2 d3 d4 d5 d6 d7 d8 K1 b2
    obtain ⟨d0, d1, d2, d3, d4, d5, d6, d7, d8⟩ := K2.out.cells
    have HE := Lib.hid K2.out.bel
    go_wp2
    go_ret
    exact ListsL.none HE.out
  have g1 : decide (z < 0) = false := decide_eq_false (by omega)
  obtain rfl := HRT.out (HY.out ⟨by first | rfl | trivial, by first | rfl | trivial, hz⟩)
  have HBP := Lib.hid (HP1.out (by first | rfl | trivial))
  have HTP := Lib.hid (HP2.out (by first | rfl | trivial))
  obtain ⟨s, rfl⟩ : ∃ s : Nat, z = s := ⟨z.toNat, by omega⟩
  clear HN HY HRF HRT HP1 HP2 hz
  obtain ⟨d0, d1, d2, d3, d4, d5, d6, d7, d8⟩ := K0.out.cells
  go_enter Tryz.func34, Tryz.ntmps34
  go_wp2_with fail
  refine (C1.out _ K0.out.row).mono ?_
  rintro e w1 ⟨rfl, b1⟩
  have K1 := Lib.hid (K0.out.next b1)
  clear d0 d1 d2 d3 d4 d5 d6 d7 d8 K0 b1
  obtain ⟨d0, d1, d2, d3, d4, d5, d6, d7, d8⟩ := K1.out.cells
  go_wp2_with fail
  refine (C2.out _ K1.out.row (HG.out.below K1.out.bel (Nat.le_refl _))).mono ?_
  rintro e w2 ⟨rfl, b2⟩
  have K2 := Lib.hid (K1.out.next b2)
  clear d0 d1 d2 d3 d4 d5 d6 d7 d8 K1 b2
  obtain ⟨d0, d1, d2, d3, d4, d5, d6, d7, d8⟩ := K2.out.cells
  go_wp2_with fail
  refine (judgeOf_impl (.slice fa b.nf fc) (.slice la b.nl lc) (.slice ga b.m gc) (.slice qa b.nfa qc) (.slice ta b.nta tc) b _ HBP.out K2.out.row).mono ?_
  rintro e w3 ⟨ra, rc, rfl, hTR, b3⟩
  have HT3 := Lib.hid hTR
  clear hTR
  have K3 := Lib.hid (K2.out.next b3)
  clear d0 d1 d2 d3 d4 d5 d6 d7 d8 K2 b3
  obtain ⟨d0, d1, d2, d3, d4, d5, d6, d7, d8⟩ := K3.out.cells
  go_wp2_with fail
  refine (cloneInts_impl _ n (getI G) _ (HG.out.below K3.out.bel (Nat.le_refl _)) hn6).mono ?_
  rintro e w5 ⟨vv, rfl, ho5, b5⟩
  have HO5 : Hid (w5.ownsRow w3.heap.size 3 1 vv G.length (G.map (Value.int .i64))) := by
    show World.ownsRow _ _ _ _ _ _ _
    rw [← getI_range G, HLN.out]
    exact ho5
  have HT5 := Lib.hid (HT3.out.below b5 (Nat.le_refl _))
  have hfm := owns_form ho5
  obtain ⟨ya, yc, rfl⟩ := hfm
  have K3s := Lib.hid K3.out.bel.size
  have HDB := Lib.hid b5.size
  clear ho5
  have K5 := Lib.hid (K3.out.next b5)
  clear d0 d1 d2 d3 d4 d5 d6 d7 d8 K3 b5
  obtain ⟨d0, d1, d2, d3, d4, d5, d6, d7, d8⟩ := K5.out.cells
  have C9 := Lib.hid (rank_impl fa fc la lc ga gc qa qc ta tc b ra rc HBP.out _ G s _ _ w5 (Nat.lt_succ_self _) K5.out.row HT5.out HO5.out (by rw [HLN.out]; exact HTP.out) (by rw [HLN.out]; exact hn6) hz63)
  go_wp2_with fail
  refine C9.out.mono ?_
  intro e w6 hrk
  obtain ⟨rv, T, rfl, hT, hL, b6⟩ := hrk.lists HDB.out
  have HE := Lib.hid (K5.out.bel.trans (b6.mono K5.out.bel.size))
  have HL := Lib.hid (hL.mono K3s.out)
  have HT := Lib.hid hT
  clear hT hL b6 hrk C9 d0 d1 d2 d3 d4 d5 d6 d7 d8
  go_wp2
  go_ret
  exact ⟨_, T, rfl, by rw [HT.out]; simp, HL.out, HE.out⟩

theorem World.grownBy.below2 {w w' : World} (h : w.grownBy w' none) : Below w.heap.size w w' := (Below.refl _ _).grown h (Nat.le_refl _) (fun k hk => by cases hk)

set_option maxRecDepth 100000 in
set_option maxHeartbeats 2000000 in
theorem rankGroups_impl (vf vl vg vfa vta : Value) (b : BookD) (R : Bool) (w : World) (hR : R = true ↔ bookP b) (h : BookRow w vf vl vg vfa vta b) (hs : ∀ i, (b.f i).nm.size ≤ maxLen) (hn6 : b.nf ≤ 1048576) :
    Calls Tryz.prog 15 #[.agg #[vf, .int .i64 b.win, .int .i64 b.draw, .int .i64 b.loss, vl, .bool b.again, vg, vfa, vta]] w (ListsL w (if R = true then rankP b (allL b.nf) 0 else [])) := by
  obtain ⟨i0, hi, hz0, hz1, hz2⟩ := info_parts Tryz.infoI
  obtain ⟨fa, fc, la, lc, ga, gc, qa, qc, ta, tc, rfl, rfl, rfl, rfl, rfl⟩ := h.form
  have CF := Lib.hid (fun gv wa h1 h2 => rankFrom_impl (.slice fa b.nf fc) (.slice la b.nl lc) (.slice ga b.m gc) (.slice qa b.nfa qc) (.slice ta b.nta tc) b (allL b.nf) 0 gv R wa (by rw [hR, all_from]) h1 hs h2 (by rw [allL_len]; exact hn6) (by omega))
  obtain ⟨RES, hRES⟩ : ∃ RES, (if R = true then rankP b (allL b.nf) 0 else []) = RES := ⟨_, rfl⟩
  have CF2 : Hid (∀ gv wa, BookRow wa (.slice fa b.nf fc) (.slice la b.nl lc) (.slice ga b.m gc) (.slice qa b.nfa qc) (.slice ta b.nta tc) b → IntRow wa gv (allL b.nf).length (getI (allL b.nf)) → Calls Tryz.prog 34 #[.agg #[.slice fa b.nf fc, .int .i64 b.win, .int .i64 b.draw, .int .i64 b.loss, .slice la b.nl lc, .bool b.again, .slice ga b.m gc, .slice qa b.nfa qc, .slice ta b.nta tc], gv, .int .i64 0] wa (ListsL wa RES)) := fun gv wa h1 h2 => by rw [← hRES]; exact CF.out gv wa h1 h2
  rw [hRES]
  clear CF hRES
  have K0 := Lib.hid (BkAt.made h 29)
  have hsix := h.sixty
  have hn7 : b.nf ≤ 1048576 := by omega
  clear h hR hs hn6
  obtain ⟨d0, d1, d2, d3, d4, d5, d6, d7, d8⟩ := K0.out.cells
  go_enter Tryz.func15, Tryz.ntmps15
  go_wp2_with (at_make; refine wpList_make_full _ rfl _ _ 24 rfl (w.heap.size + 1) 3 i0 (.int .i64 0) 1 Tryz.underlying24 hi hz0 hz1 .i64 .i64 b.nf b.nf b.nf rfl rfl rfl rfl (by rw [hz2]; omega) (by unfold maxLen; omega) (by simp) ?_; intro w2 hown hg2)
  have b2 := Lib.hid (World.grownBy.below2 hg2)
  have K2 := Lib.hid (K0.out.next b2.out)
  have hes : (w.alloc (.cells #[.slice fa b.nf fc, .int .i64 b.win, .int .i64 b.draw, .int .i64 b.loss, .slice la b.nl lc, .bool b.again, .slice ga b.m gc, .slice qa b.nfa qc, .slice ta b.nta tc] 29)).heap.size = w.heap.size + 1 := by simp
  rw [hes] at hown
  have HO2 := Lib.hid hown
  clear hes
  have HZ : Hid (w2.heap.size ≤ w2.heap.size) := Nat.le_refl _
  clear hg2 hown K0 d0 d1 d2 d3 d4 d5 d6 d7 d8 b2
  go_loopw [11] (fun i wr => ∃ (j : Nat) (ys : List Value), j ≤ b.nf ∧ i = .int .i64 j ∧ wr.ownsRow (w.heap.size + 1) 3 1 (.slice (some ⟨w.heap.size + 1, 0, none⟩) b.nf b.nf) b.nf ys ∧ Hid (∀ t, t < j → ys[t]? = some (.int .i64 (t : Int))) ∧ Hid (BkAt w wr w.heap.size fa fc la lc ga gc qa qc ta tc b))
    (fun i _ => b.nf - (RowKit.intOf i).toNat)
  case atStart => exact ⟨0, _, Nat.zero_le _, rfl, HO2.out, fun t ht => absurd ht (by omega), K2⟩
  case round =>
    obtain ⟨j, ys, hj, rfl, hown', hys, K⟩ := hrel
    clear HO2 K2 HZ
    by_cases hlt : j < b.nf
    · obtain ⟨u, hu⟩ := owns_some hown' j hlt
      have HU := Lib.hid hu
      have hcl := owns_cell hown' j hlt HU
      have hfr := hown'.frozenAt j
      have HO' := Lib.hid hown'
      clear hu hown'
      go_wp2
      go_roundw
      case rel =>
        refine ⟨j + 1, ys.set j (.int .i64 (j : Int)), by omega, by go_num, (HO'.out.stored j _).1, fun t ht => ?_, K.out.store (by simp) (by simp) _⟩
        have hlen := HO'.out.1
        by_cases htj : t = j
        · subst htj
          rw [List.getElem?_set_self (by omega)]
        · rw [List.getElem?_set_ne (by omega)]
          exact hys.out t (by omega)
      case measure => simp [RowKit.intOf]; omega
    · obtain rfl : b.nf = j := by omega
      have hys2 : ys = (allL b.nf).map (Value.int .i64) := by
        have hlen := hown'.1
        have e1 : allL b.nf = (List.range b.nf).map fun i : Nat => (i : Int) := by rfl
        rw [e1, List.map_map]
        apply List.ext_getElem?
        intro t
        by_cases ht : t < b.nf
        · rw [hys.out t ht]; simp [ht]
        · rw [List.getElem?_eq_none (by omega), List.getElem?_eq_none (by simp; omega)]
      subst hys2
      have hlenA : (allL b.nf).length = b.nf := allL_len _
      have HIR : Hid (IntRow _ (.slice (some ⟨w.heap.size + 1, 0, none⟩) b.nf b.nf) (allL b.nf).length (getI (allL b.nf))) := IntRow.of_list (by rw [hlenA]; exact hown') (by omega)
      obtain ⟨d0, d1, d2, d3, d4, d5, d6, d7, d8⟩ := K.out.cells
      clear hown' hys
      go_wp2_with fail
      refine (CF2.out _ _ K.out.row HIR.out).mono ?_
      rintro e w4 ⟨rv, T, rfl, hT, hL, b4⟩
      have HE := Lib.hid (K.out.bel.trans (b4.mono K.out.bel.size))
      have HL := Lib.hid (hL.mono K.out.bel.size)
      have HT := Lib.hid hT
      clear hT hL b4 d0 d1 d2 d3 d4 d5 d6 d7 d8
      go_wp2
      go_ret
      exact ⟨_, T, rfl, HT.out, HL.out, HE.out⟩

set_option maxRecDepth 100000 in
set_option maxHeartbeats 2000000 in
theorem ranking_impl (vf vl vg vfa vta : Value) (b : BookD) (R : Bool) (w : World) (hR : R = true ↔ bookP b) (h : BookRow w vf vl vg vfa vta b) (hs : ∀ i, (b.f i).nm.size ≤ maxLen) (hn6 : b.nf ≤ 1048576) :
    Calls Tryz.prog 5 #[.agg #[vf, .int .i64 b.win, .int .i64 b.draw, .int .i64 b.loss, vl, .bool b.again, vg, vfa, vta]] w (IntsL w (orderL (if R = true then rankP b (allL b.nf) 0 else []))) := by
  obtain ⟨i0, hi, hz0, hz1, hz2⟩ := info_parts Tryz.infoI
  obtain ⟨fa, fc, la, lc, ga, gc, qa, qc, ta, tc, rfl, rfl, rfl, rfl, rfl⟩ := h.form
  have K0 := Lib.hid (BkAt.made h 29)
  have hsix := h.sixty
  have C2 := Lib.hid (fun wa h1 => rankGroups_impl (.slice fa b.nf fc) (.slice la b.nl lc) (.slice ga b.m gc) (.slice qa b.nfa qc) (.slice ta b.nta tc) b R wa hR h1 hs hn6)
  obtain ⟨PL, hPL⟩ : ∃ PL, (if R = true then rankP b (allL b.nf) 0 else []) = PL := ⟨_, rfl⟩
  have HNE : Hid (∀ p ∈ PL, p ≠ []) := by
    rw [← hPL]; show ∀ p ∈ _, _
    split
    · exact rank_ne b _ _
    · intro p hp; cases hp
  have hflat : PL.flatten.length ≤ b.nf := by
    rw [← hPL]
    split
    · rw [all_flat]; exact Nat.le_refl _
    · simp
  have hPLl : PL.length ≤ 1048576 := by
    rw [← hPL]
    split
    · have := rankP_len b (allL b.nf) 0
      rw [allL_len] at this
      omega
    · simp
  rw [hPL] at C2
  rw [hPL]
  have hn7 : PL.flatten.length ≤ 1048576 := by omega
  clear h hR hs hPL hn6 hflat
  obtain ⟨d0, d1, d2, d3, d4, d5, d6, d7, d8⟩ := K0.out.cells
  go_enter Tryz.func5, Tryz.ntmps5
  go_wp2_with fail
  refine (C2.out _ K0.out.row).mono ?_
  rintro e w2 ⟨rv, T, rfl, hT, hL, b2⟩
  have HPT := Lib.hid hT
  have HL2 := Lib.hid hL
  have HTL : Hid (T.length = PL.length) := (by show _ = _; rw [← hT, List.length_map])
  have hTn : T.length ≤ 1048576 := by have := HTL.out; omega
  obtain ⟨pa, pc, hvf⟩ := owns_form hL.1
  subst hvf
  have HB2 := Lib.hid (K0.out.bel.trans (b2.mono K0.out.bel.size))
  clear hT hL b2 K0 C2 d0 d1 d2 d3 d4 d5 d6 d7 d8
  go_wp2
  go_loopw [3, 9] (fun ov iv wr => ∃ k : Nat, k ≤ T.length ∧ iv = .int .i64 k ∧ Hid (∀ p ∈ PL.take k, p.length = 1) ∧ Hid (wr.ownsRow w2.heap.size 3 1 ov (PL.take k).flatten.length ((PL.take k).flatten.map (Value.int .i64))) ∧ Hid (Below w2.heap.size w2 wr)) (fun _ iv _ => T.length - (RowKit.intOf iv).toNat)
  case atStart => exact ⟨0, Nat.zero_le _, rfl, (fun p hp => by simp at hp), World.ownsRow_nil _ _ _ _, Below.refl _ _⟩
  case round =>
    obtain ⟨k, hk, rfl, hones, HOV, HB⟩ := hrel
    by_cases hlt : k < T.length
    · obtain ⟨y, hy⟩ : ∃ y, T[k]? = some y := ⟨_, List.getElem?_eq_getElem hlt⟩
      have hyp : PL[k]? = some y.2 := by rw [← HPT.out, List.getElem?_map, hy]; rfl
      have hyP : y.2 ∈ PL := List.mem_of_getElem? hyp
      have LLr := HL2.out.below HB.out (Nat.le_refl _)
      have hrow := LLr.2.1 _ (List.mem_of_getElem? hy)
      obtain ⟨pg, pcap, he, hpc, _, cp⟩ := vals_at (x := y.1) (j := k) LLr.1 (by rw [List.getElem?_map, hy]; rfl)
      simp only [Value.slice.injEq, true_and] at he
      obtain ⟨rfl, rfl⟩ := he
      obtain ⟨ya, yc, hyf⟩ := owns_form hrow
      have hklt : (k : Int) < T.length := by omega
      obtain ⟨p, hp2⟩ : ∃ p, y.2 = p := ⟨_, rfl⟩
      rw [hp2] at hyf hyp hyP hrow
      rw [hyf] at cp hrow
      clear LLr hyf hp2 hy
      have hpos : 0 < p.length := List.length_pos_iff.2 (HNE.out p hyP)
      by_cases h1 : p.length = 1
      case neg =>
        have g1 : decide ((1 : Int) < (p.length : Int)) = true := decide_eq_true (by omega)
        have g2 : decide (1 < p.length) = true := decide_eq_true (by omega)
        have hord : orderL PL = [] := by unfold orderL; rw [if_neg (fun h => h1 (h p hyP))]
        rw [hord]
        have HE := Lib.hid (HB2.out.trans (HB.out.mono HB2.out.size))
        clear hones HOV HB hyp hyP hrow h1 hord
        go_wp2
        go_ret
        exact IntsL.none HE.out
      have g1 : decide ((1 : Int) < (p.length : Int)) = false := decide_eq_false (by omega)
      have g2 : decide (1 < p.length) = false := decide_eq_false (by omega)
      have HS : Hid (∀ q ∈ PL.take (k + 1), q.length = 1) := fun q hq => by
        rw [List.take_add_one, hyp] at hq
        rcases List.mem_append.1 hq with hq | hq
        · exact hones.out q hq
        · simp only [Option.toList_some, List.mem_singleton] at hq; subst hq; exact h1
      have HFT : Hid ((PL.take (k + 1)).flatten = (PL.take k).flatten ++ p) := flat_take PL k hyp
      have hfl := flat_take_le PL (k + 1)
      rw [HFT.out, List.length_append] at hfl
      have HRW := Lib.hid (IntRow.of_list hrow (by omega)).rec
      have HBsz := HB.out.size
      have hfl2 : (PL.take k).flatten.length + p.length ≤ 1048576 := by omega
      clear hones hyp hyP hrow h1 hpos hfl
      go_wp2_with (at_builtin; refine wpList_appendR rfl (.tmp 16) (.tmp 17) 24 rfl w2.heap.size 3 Tryz.underlying24 hi hz0 hz1 hz2 rfl (by decide) rfl HOV.out rfl HRW.out (fun i hi => rfl) (fun i hi u hu => by simp at hu; subst hu; rfl) hfl2 (by omega) HBsz ?_; intro vv w8 o5 gr5 at5; have O5 := Lib.hid o5; have HB5 := Lib.hid (HB.out.grown gr5 HB.out.size (fun q hq => (HOV.out.lt q hq).1)); clear o5 gr5 at5)
      have HO6 : Hid (w8.ownsRow w2.heap.size 3 1 vv (PL.take (k + 1)).flatten.length ((PL.take (k + 1)).flatten.map (Value.int .i64))) := by
        have h7 := O5.out
        rw [flatR_one, getI_range p] at h7
        show World.ownsRow _ _ _ _ _ _ _
        rw [HFT.out, List.length_append, List.map_append]
        exact h7
      clear O5 HOV HRW
      go_roundw
      case rel => exact ⟨k + 1, by omega, by go_num, HS, HO6, HB5⟩
      case measure => simp [RowKit.intOf]; omega
    · obtain rfl : T.length = k := by omega
      have HOR : Hid (orderL PL = PL.flatten) := by
        have h1 := hones.out
        rw [HTL.out, List.take_length] at h1
        show _ = _
        unfold orderL
        rw [if_pos h1]
      have HO9 := HOV.out
      rw [HTL.out, List.take_length] at HO9
      have HO := Lib.hid (owns_mono HO9 HB2.out.size)
      have HE := Lib.hid (HB2.out.trans (HB.out.mono HB2.out.size))
      clear HO9 HOV hones HB
      go_wp2
      go_ret
      rw [HOR.out]
      exact ⟨_, rfl, HO.out, HE.out⟩

end Go.Proofs.YteciobkjfmddcaaGreatDoor
set_option linter.unusedVariables false
namespace Go.Proofs.YteciobkjfmddcaaGreatDoor
open Go.RowKit

theorem grown_below {w w' : World} (h : w.grownBy w' none) : Below w.heap.size w w' := (Below.refl _ _).grown h (Nat.le_refl _) (fun k hk => by cases hk)
set_option maxRecDepth 100000 in
set_option maxHeartbeats 2000000 in
theorem allTeamsOf_impl (vf vl vg vfa vta : Value) (b : BookD) (w : World) (h : BookRow w vf vl vg vfa vta b) (hn6 : b.nf ≤ 1048576) :
    Calls Tryz.prog 41 #[.agg #[vf, .int .i64 b.win, .int .i64 b.draw, .int .i64 b.loss, vl, .bool b.again, vg, vfa, vta]] w (IntsL w (allL b.nf)) := by
  obtain ⟨i0, hi, hz0, hz1, hz2⟩ := info_parts Tryz.infoI
  obtain ⟨fa, fc, la, lc, ga, gc, qa, qc, ta, tc, rfl, rfl, rfl, rfl, rfl⟩ := h.form
  have K0 := Lib.hid (BkAt.made h 29)
  have hsix := h.sixty
  have hn7 : b.nf ≤ 1048576 := by omega
  clear h hn6
  obtain ⟨d0, d1, d2, d3, d4, d5, d6, d7, d8⟩ := K0.out.cells
  go_enter Tryz.func41, Tryz.ntmps41
  go_wp2_with (at_make; refine wpList_make_full _ rfl _ _ 24 rfl (w.heap.size + 1) 3 i0 (.int .i64 0) 1 Tryz.underlying24 hi hz0 hz1 .i64 .i64 b.nf b.nf b.nf rfl rfl rfl rfl (by rw [hz2]; omega) (by unfold maxLen; omega) (by simp) ?_; intro w2 hown hg2)
  have b2 := Lib.hid (grown_below hg2)
  have K2 := Lib.hid (K0.out.next b2.out)
  have hes : (w.alloc (.cells #[.slice fa b.nf fc, .int .i64 b.win, .int .i64 b.draw, .int .i64 b.loss, .slice la b.nl lc, .bool b.again, .slice ga b.m gc, .slice qa b.nfa qc, .slice ta b.nta tc] 29)).heap.size = w.heap.size + 1 := by simp
  rw [hes] at hown
  have HO2 := Lib.hid hown
  clear hes
  have HZ : Hid (w2.heap.size ≤ w2.heap.size) := Nat.le_refl _
  clear hg2 hown K0 d0 d1 d2 d3 d4 d5 d6 d7 d8 b2
  go_loopw [11] (fun i wr => ∃ (j : Nat) (ys : List Value), j ≤ b.nf ∧ i = .int .i64 j ∧ wr.ownsRow (w.heap.size + 1) 3 1 (.slice (some ⟨w.heap.size + 1, 0, none⟩) b.nf b.nf) b.nf ys ∧ Hid (∀ t, t < j → ys[t]? = some (.int .i64 (t : Int))) ∧ Hid (BkAt w wr w.heap.size fa fc la lc ga gc qa qc ta tc b))
    (fun i _ => b.nf - (RowKit.intOf i).toNat)
  case atStart => exact ⟨0, _, Nat.zero_le _, rfl, HO2.out, fun t ht => absurd ht (by omega), K2⟩
  case round =>
    obtain ⟨j, ys, hj, rfl, hown', hys, K⟩ := hrel
    clear HO2 K2 HZ
    by_cases hlt : j < b.nf
    · obtain ⟨u, hu⟩ := owns_some hown' j hlt
      have HU := Lib.hid hu
      have hcl := owns_cell hown' j hlt HU
      have hfr := hown'.frozenAt j
      have HO' := Lib.hid hown'
      clear hu hown'
      go_wp2
      go_roundw
      case rel =>
        refine ⟨j + 1, ys.set j (.int .i64 (j : Int)), by omega, by go_num, (HO'.out.stored j _).1, fun t ht => ?_, K.out.store (by simp) (by simp) _⟩
        have hlen := HO'.out.1
        by_cases htj : t = j
        · subst htj
          rw [List.getElem?_set_self (by omega)]
        · rw [List.getElem?_set_ne (by omega)]
          exact hys.out t (by omega)
      case measure => simp [RowKit.intOf]; omega
    · obtain rfl : b.nf = j := by omega
      have hys2 : ys = (allL b.nf).map (Value.int .i64) := by
        have hlen := hown'.1
        have e1 : allL b.nf = (List.range b.nf).map fun i : Nat => (i : Int) := by rfl
        rw [e1, List.map_map]
        apply List.ext_getElem?
        intro t
        by_cases ht : t < b.nf
        · rw [hys.out t ht]; simp [ht]
        · rw [List.getElem?_eq_none (by omega), List.getElem?_eq_none (by simp; omega)]
      subst hys2
      have hlenA : (allL b.nf).length = b.nf := allL_len _
      have HR : Hid (wr.ownsRow w.heap.size 3 1 (.slice (some ⟨w.heap.size + 1, 0, none⟩) b.nf b.nf) (allL b.nf).length ((allL b.nf).map (Value.int .i64))) := by
        show World.ownsRow _ _ _ _ _ _ _
        rw [hlenA]; exact owns_mono hown' (by omega)
      have HE := Lib.hid K.out.bel
      clear hown' hys
      go_wp2
      go_ret
      exact ⟨_, rfl, HR.out, HE.out⟩

set_option maxRecDepth 100000 in
set_option maxHeartbeats 2000000 in
theorem indexLists1 (f : Nat) (hf : Entered f) (P : Option Addr) (v : Value) (D : Nat) (T : List (Value × List Int)) (p : Nat → Bool) (w : World) (hv : LL w D v T) (hT : T.length ≤ 1048576)
    (hp : ∀ k x w', T[k]? = some x → Below w.heap.size w w' → Calls Tryz.prog f #[x.1, .pointer P] w' fun e w'' => e = .returned (.bool (p k)) ∧ Below w'.heap.size w' w'') :
    Calls Tryz.prog 70 #[v, .func (.func f) #[] #[.pointer P]] w fun e w' => e = .returned (.int .i64 (firstI p T.length 0)) ∧ Below w.heap.size w w' := by
  have HP := Lib.hid hp
  have HL := Lib.hid hv
  obtain ⟨pa, pc, hvf⟩ := owns_form hv.1
  subst hvf
  clear hv hp
  generalize hr : firstI p T.length 0 = R
  have HR := Lib.hid hr
  clear hr
  go_enter Tryz.func70, Tryz.ntmps70
  go_wp2
  go_loopw [8] (fun i wr => ∃ k : Nat, k ≤ T.length ∧ i = .int .i64 k ∧ Hid (firstI p (T.length - k) k = R) ∧ Below w.heap.size w wr) (fun i _ => T.length - (RowKit.intOf i).toNat)
  case atStart => exact ⟨0, Nat.zero_le _, rfl, HR.out, Below.refl _ _⟩
  case round =>
    obtain ⟨k, hk, rfl, hpf, hb⟩ := hrel
    by_cases hlt : k < T.length
    · obtain ⟨x, hx⟩ : ∃ x, T[k]? = some x := ⟨_, List.getElem?_eq_getElem hlt⟩
      have LLr := HL.out.below hb (Nat.le_refl _)
      obtain ⟨pg, pcap, he, hpc, _, cp⟩ := vals_at (x := x.1) (j := k) LLr.1 (by rw [List.getElem?_map, hx]; rfl)
      simp only [Value.slice.injEq, true_and] at he
      obtain ⟨rfl, rfl⟩ := he
      obtain ⟨ya, yc, hyf⟩ := owns_form (LLr.2.1 _ (List.mem_of_getElem? hx))
      have hstep := firstI_step (p := p) hlt
      rw [hpf.out] at hstep
      have HY := Lib.hid (fun (e : p k = true) => hstep.trans (if_pos e))
      have HN := Lib.hid (fun (e : p k = false) => hstep.trans (if_neg (by rw [e]; simp)))
      clear hstep
      have hsz := hb.size
      have C2 := Lib.hid (HP.out k x wr hx hb)
      rw [hyf] at C2 cp
      have hrun := hf #[.slice ya x.2.length yc, .pointer P] wr
      obtain ⟨yn, hyn⟩ : ∃ n, x.2.length = n := ⟨_, rfl⟩
      rw [hyn] at C2 cp hrun
      clear hpf HR HP hx LLr hyf hyn
      generalize p k = r at *
      cases r with
      | true =>
        obtain rfl := HY.out rfl
        clear HY HN
        go_wp2_with fail
        refine C2.out.mono ?_
        rintro e w2 ⟨rfl, b2⟩
        have HE := Lib.hid (hb.trans (b2.mono hsz))
        clear C2 b2
        go_wp2
        go_ret
        exact ⟨rfl, HE.out⟩
      | false =>
        have HS := Lib.hid (HN.out rfl).symm
        clear HY HN
        go_wp2_with fail
        refine C2.out.mono ?_
        rintro e w2 ⟨rfl, b2⟩
        have HE := Lib.hid (hb.trans (b2.mono hsz))
        clear C2 b2
        go_wp2
        go_roundw
        case rel => exact ⟨k + 1, by omega, by go_num, HS.out, HE.out⟩
        case measure => simp [RowKit.intOf]; omega
    · obtain rfl : k = T.length := by omega
      have hR : R = -1 := by rw [← hpf.out, Nat.sub_self]; rfl
      subst hR
      clear hpf HR
      go_wp2
      go_ret
      exact ⟨rfl, hb⟩

set_option maxRecDepth 100000 in
set_option maxHeartbeats 2000000 in
theorem partCl_impl (p : List Int) (v : Value) (t : Int) (P : Addr) (w : World) (hv : IntRow w v p.length (getI p)) (hc : w.cell? P = some (.int .i64 t)) :
    Calls Tryz.prog 71 #[v, .pointer (some P)] w fun e w' => e = .returned (.bool (decide (t ∈ p))) ∧ Below w.heap.size w w' := by
  obtain ⟨aa, cap, rfl, _, _⟩ := hv.form
  have C := Lib.hid (slicesContains_int (.slice aa p.length cap) p.length (getI p) t (decide (t ∈ p)) w (by rw [decide_eq_true_eq, hasP_mem]) hv)
  obtain ⟨n, hn⟩ : ∃ n, p.length = n := ⟨_, rfl⟩
  rw [hn] at C ⊢
  generalize decide (t ∈ p) = r at *
  clear hv hn
  go_enter Tryz.func71, Tryz.ntmps71
  go_wp2_with fail
  refine C.out.mono ?_
  rintro e w2 ⟨rfl, hw⟩
  subst hw
  go_wp2
  go_ret
  exact ⟨rfl, Below.refl _ _⟩

theorem first_part {t : Int} {T : List (Value × List Int)} {p : List Int} (h : partO t (T.map Prod.snd) = some p) :
    ∃ (k : Nat) (x : Value × List Int), firstI (fun i => decide (∃ y, T[i]? = some y ∧ t ∈ y.2)) T.length 0 = (k : Int) ∧ k < T.length ∧ T[k]? = some x ∧ x.2 = p := by
  unfold partO hitL at h
  rw [List.find?_eq_some_iff_getElem] at h
  obtain ⟨hp, k, hk, e, hbef⟩ := h
  have hk' : k < T.length := by simpa using hk
  refine ⟨k, T[k], ?_, hk', List.getElem?_eq_getElem hk', by simpa using e⟩
  have h1 : t ∈ p := by simpa using hp
  have e' : (T[k]).2 = p := by simpa using e
  refine (firstI_eq _ _ _).2 ⟨⟨by omega, by omega⟩, ?_, fun i _ hi => ?_⟩
  · rw [decide_eq_true_eq]
    exact ⟨T[k], List.getElem?_eq_getElem hk', by rw [e']; exact h1⟩
  · rw [decide_eq_false_iff_not]
    rintro ⟨y, hy, hty⟩
    have hb := hbef i (by omega)
    obtain ⟨hl, rfl⟩ := List.getElem?_eq_some_iff.1 hy
    simp at hb
    exact hb hty

set_option maxRecDepth 100000 in
set_option maxHeartbeats 2000000 in
theorem partWith_impl (t : Int) (v : Value) (D : Nat) (T : List (Value × List Int)) (p : List Int) (w : World) (hv : LL w D v T) (hT : T.length ≤ 1048576) (hp : partO t (T.map Prod.snd) = some p) (hm : ∀ x ∈ T, x.2.length ≤ 1048576) :
    Calls Tryz.prog 42 #[.int .i64 t, v] w fun e w' => ∃ x ∈ T, x.2 = p ∧ e = .returned x.1 ∧ Below w.heap.size w w' := by
  obtain ⟨k, x, hk, hkT, hx, hxp⟩ := first_part hp
  have B0 := Lib.hid ((Below.refl w.heap.size w).alloc (Nat.le_refl _) (.cells #[.int .i64 t] 3))
  have CI := Lib.hid (fun (U : World) (hU : Below w.heap.size w U) (hc : U.cell? ⟨w.heap.size, 0, none⟩ = some (.int .i64 t)) (hs : w.heap.size < U.heap.size) => indexLists1 71 (fun args w => by rfl) (some ⟨w.heap.size, 0, none⟩) v D T _ U (hv.below hU (Nat.le_refl _)) hT (fun i y w' hy hb => by
    have h1 := (hv.below hU (Nat.le_refl _)).below hb (Nat.le_refl _)
    have h2 := partCl_impl y.2 y.1 t ⟨w.heap.size, 0, none⟩ w' (IntRow.of_list (h1.2.1 _ (List.mem_of_getElem? hy)) (by have := hm _ (List.mem_of_getElem? hy); omega)) ((hb.cell (p := ⟨w.heap.size, 0, none⟩) hs).trans hc)
    have e : decide (t ∈ y.2) = decide (∃ z, T[i]? = some z ∧ t ∈ z.2) := by
      rw [Bool.eq_iff_iff, decide_eq_true_eq, decide_eq_true_eq]
      exact ⟨fun h => ⟨y, hy, h⟩, fun ⟨z, hz, h⟩ => by rw [hy] at hz; cases hz; exact h⟩
    rw [e] at h2
    exact h2))
  rw [hk] at CI
  have HL := Lib.hid hv
  obtain ⟨pa, pc, hvf⟩ := owns_form hv.1
  subst hvf
  have HX := Lib.hid hx
  have HXP := Lib.hid hxp
  clear hv hp hm hk hx hxp
  have hsz : (w.alloc (.cells #[.int .i64 t] 3)).heap.size = w.heap.size + 1 := by simp
  have HSZ := Lib.hid hsz
  have hc0 : Hid ((w.alloc (.cells #[.int .i64 t] 3)).cell? ⟨w.heap.size, 0, none⟩ = some (.int .i64 t)) := (BoxN.made (Below.refl _ _) rfl : BoxN (w.alloc (.cells #[.int .i64 t] 3)) w.heap.size [.int .i64 t]).2 0 _ rfl
  clear hsz
  go_enter Tryz.func42, Tryz.ntmps42
  go_wp2_with fail
  refine (CI.out _ B0.out hc0.out (by rw [HSZ.out]; omega)).mono ?_
  rintro e w2 ⟨rfl, b2⟩
  have B2 := Lib.hid (B0.out.trans (b2.mono B0.out.size))
  have LLr := HL.out.below B2.out (Nat.le_refl _)
  obtain ⟨pg, pcap, he, hpc, _, cp⟩ := vals_at (x := x.1) (j := k) LLr.1 (by rw [List.getElem?_map, HX.out]; rfl)
  simp only [Value.slice.injEq, true_and] at he
  obtain ⟨rfl, rfl⟩ := he
  obtain ⟨ya, yc, hyf⟩ := owns_form (LLr.2.1 _ (List.mem_of_getElem? HX.out))
  have HYF := Lib.hid hyf
  rw [hyf] at cp
  clear LLr hyf b2 CI
  go_wp2
  go_ret
  exact ⟨x, List.mem_of_getElem? HX.out, HXP.out, by rw [HYF.out]; rfl, B2.out⟩
end Go.Proofs.YteciobkjfmddcaaGreatDoor
set_option linter.unusedVariables false
namespace Go.Proofs.YteciobkjfmddcaaGreatDoor
open Go Go.RowKit

structure Kept (n0 : Nat) (Z : Nat → Prop) (W W' : World) : Prop where
  bel : Below n0 W W'
  blk : ∀ k, Z k → k < W.heap.size → W'.heap[k]? = W.heap[k]?
theorem Kept.trans {n0 : Nat} {Z : Nat → Prop} {A B C : World} (h : Kept n0 Z A B) (k : Kept n0 Z B C) : Kept n0 Z A C :=
  ⟨h.bel.trans k.bel, fun q hq hl => (k.blk q hq (Nat.lt_of_lt_of_le hl h.bel.size)).trans (h.blk q hq hl)⟩
theorem Kept.of_below {n0 : Nat} {Z : Nat → Prop} {A B : World} (h : Below A.heap.size A B) (hn : n0 ≤ A.heap.size) : Kept n0 Z A B :=
  ⟨h.mono hn, fun q _ hl => h.block q hl⟩
theorem below_put (B : Nat) (W : World) (l : Nat) (o : Obj) (hl : B ≤ l) : Below B W (W.putObj l o) :=
  ⟨rfl, rfl, rfl, Nat.le_of_eq World.putObj_size.symm, fun k hk => World.putObj_heap_other (by omega)⟩
theorem below_put2 {W0 W : World} {l : Nat} {o : Obj} (h : Below W0.heap.size W0 W) : Below (W0.putObj l o).heap.size (W0.putObj l o) (W.putObj l o) := by
  refine ⟨h.os, h.tape, h.output, by simpa using h.size, fun k hk => ?_⟩
  have hk' : k < W0.heap.size := by simpa using hk
  by_cases e : k = l
  · subst e
    rw [World.putObj_heap_same hk', World.putObj_heap_same (Nat.lt_of_lt_of_le hk' h.size)]
  · rw [World.putObj_heap_other e, World.putObj_heap_other e]; exact h.block k hk'
theorem Kept.put {n0 : Nat} {Z : Nat → Prop} {l : Nat} (hn : n0 ≤ l) (hz : ¬ Z l) (W : World) (o : Obj) : Kept n0 Z W (W.putObj l o) :=
  ⟨below_put n0 W l o hn, fun k hk _ => World.putObj_heap_other (fun e => hz (e ▸ hk))⟩

variable {F : Fence} {n : Nat} {P : Program}

def SeqR {α : Type} (F : Fence) (n : Nat) (P : Program) (g : Nat) (lb : Array Value) (encs : α → Array Value) (n0 : Nat) (Z : α → Nat → Prop) (Rel : List α → α → World → World → Prop) (S Sp : List α → Prop) (w : World) : Prop :=
  ∀ (l : Nat) (J Jx : List α → World → Prop) (W : World), Below w.heap.size w W → AbidesFrom W.heap.size J → AbidesFrom W.heap.size Jx →
    (∀ pre x W0 W1, J pre W0 → Below W0.heap.size W0 W1 → Rel pre x W0 W1 → YieldAt F (n - 1) P l (encs x) W1 fun e W' =>
      (e = .returned (.bool true) ∧ J (pre ++ [x]) W' ∧ Kept n0 (Z x) W1 W') ∨ (e = .returned (.bool false) ∧ Jx (pre ++ [x]) W')) →
    J [] W → CallsIn F n P g (#[.func (.yield l) #[] #[]] ++ lb) W fun e W' => (∃ v, e = .returned v) ∧ ((∃ xs, S xs ∧ J xs W') ∨ (∃ pre, Sp pre ∧ Jx pre W'))

def relPost {α : Type} (B n0 : Nat) (Z : Nat → Prop) (I Ix : List α → World → Prop) (xs : List α) (W : World) : Exit → Act → World → Prop
  | .normal, _, W' => KeepsFrom B W W' ∧ Kept n0 Z W W' ∧ I xs W'
  | .ret, _, W' => KeepsFrom B W W' ∧ Ix xs W'
  | .exit _, _, _ => False
  | .goto _, _, _ => False
  | .panic _, _, _ => False
  | .outgrown, _, _ => False

theorem wpIn_rangeRel {α : Type} {g : Operand} {ps : Array Tmp} {assign body : Code} {Q : Exit → Act → World → Prop} {a : Act} {w : World}
    (hro : F.round = none) (h1 : 1 ≤ n) {gf : Nat} {lb : Array Value} (hg : a.eval g = .func (.func gf) #[] lb) (hFg : F.fn gf) (eg : ∀ args w, (callFunc gf args).run P w = .ok (.enter gf args) w)
    {encs : α → Array Value} {n0 : Nat} {Z : α → Nat → Prop} {Rel : List α → α → World → World → Prop} {S Sp : List α → Prop} {w0 : World} (hseq : SeqR F (n - 1) P gf lb encs n0 Z Rel S Sp w0)
    (hb0 : Below w0.heap.size w0 w) (hn0 : n0 ≤ w.heap.size) (hps : ∀ x, (encs x).size = ps.size)
    (hZ : ∀ pre x W0 W k, Rel pre x W0 W → Z x k → w.heap.size ≤ k → ∃ o : Obj, W.heap[k]? = some o ∧ o.isCells = true)
    (hR1 : ∀ pre x W0 W W', Rel pre x W0 W → Below W.heap.size W W' → Rel pre x W0 W')
    (hR2 : ∀ pre x W0 W l o o', Rel pre x W0 W → w.heap.size ≤ l → W.heap[l]? = some o → o.isCells = false → Rel pre x (W0.putObj l o') (W.putObj l o'))
    (I Ix : List α → World → Prop) (hI : OwnFrom w.heap.size I) (hIx : OwnFrom w.heap.size Ix) (h0 : I [] w) (Ax : α → Act → World → Prop) (hAx : ∀ x a', OwnFrom w.heap.size (fun (_ : Unit) W => Ax x a' W))
    (hassign : ∀ (l : Nat) (pre : List α) (x : α) (W0 W : World) (K : Act → World → Prop), I pre W0 → Below W0.heap.size W0 W → Rel pre x W0 W → w.heap.size + 2 ≤ W0.heap.size → (∀ a' W', Below W.heap.size W W' → Ax x a' W' → K a' W') →
      assign.wpIn (F.inRound l) (n - 1 - 1) P (Exit.then K (fun _ _ _ => False)) { tmps := (ps.zip (encs x)).foldl (fun t (p, v) => t.setIfInBounds p v) a.tmps, defers := [] } W)
    (hbody : ∀ (l : Nat) (pre : List α) (x : α) (a' : Act) (W0 W : World), I pre W0 → Below W0.heap.size W0 W → Rel pre x W0 W → Ax x a' W → w.heap.size + 2 ≤ W0.heap.size → body.wpIn (F.inRound l) (n - 1 - 1) P (relPost w.heap.size n0 (Z x) I Ix (pre ++ [x]) W) a' W)
    (hdone : ∀ (D : Nat) (xs : List α) (W : World), w.heap.size ≤ D → S xs → I xs W → W.heap[D]? = some (.deferred (some [])) → Q .normal { a with defers := { target := .collected D, args := #[] } :: a.defers } W)
    (hstop : ∀ (D : Nat) (pre : List α) (W : World), w.heap.size ≤ D → Sp pre → Ix pre W → W.heap[D]? = some (.deferred (some [])) → Code.ret.wpIn F n P Q { a with defers := { target := .collected D, args := #[] } :: a.defers } W) :
    (Code.rangeFunc g ps assign body).wpIn F n P Q a w := by
  apply wpIn_rangeFunc
  intro fn hfn
  rw [hro]
  -- the record of the loop, in its states
  obtain ⟨rc, hrc⟩ : ∃ rc : LoopState → Option Code → Loop, rc = fun s p => { state := s, pending := p, fn, tmps := a.tmps, params := ps, assign, body, defers := w.heap.size } := ⟨_, rfl⟩
  have hparams : ∀ s p, (rc s p).params = ps := by rw [hrc]; intro _ _; rfl
  have hst : ∀ s p, (rc s p).state = s := by rw [hrc]; intro _ _; rfl
  have hset : ∀ s p s' p', ({ rc s p with state := s', pending := p' } : Loop) = rc s' p' := by rw [hrc]; intro _ _ _ _; rfl
  have hset1 : ∀ s p s', ({ rc s p with state := s' } : Loop) = rc s' p := by rw [hrc]; intro _ _ _; rfl
  have hfn' : ∀ s p, (rc s p).fn = fn := by rw [hrc]; intro _ _; rfl
  have htm : ∀ s p, (rc s p).tmps = a.tmps := by rw [hrc]; intro _ _; rfl
  have has : ∀ s p, (rc s p).assign = assign := by rw [hrc]; intro _ _; rfl
  have hbo : ∀ s p, (rc s p).body = body := by rw [hrc]; intro _ _; rfl
  have hpe : ∀ s p, (rc s p).pending = p := by rw [hrc]; intro _ _; rfl
  have hlay := run_enterLoop_outer (P := P) (w := w) fn a.tmps ps assign body
  have hrc0 : ({ state := .ready, pending := none, fn, tmps := a.tmps, params := ps, assign, body, defers := w.heap.size } : Loop) = rc .ready none := by rw [hrc]
  rw [hrc0] at hlay
  clear hrc0 hrc
  obtain ⟨X, hX⟩ : ∃ X, (w.alloc (.deferred (some []))).alloc (.loop (rc .ready none)) = X := ⟨_, rfl⟩
  rw [hX] at hlay
  have xsz : X.heap.size = w.heap.size + 2 := by rw [← hX]; simp
  have xl : X.heap[w.heap.size + 1]? = some (.loop (rc .ready none)) := by
    have := World.alloc_heap_new (w.alloc (.deferred (some []))) (.loop (rc .ready none))
    rw [World.size_alloc, hX] at this
    exact this
  have xd : X.heap[w.heap.size]? = some (.deferred (some [])) := by
    rw [← hX]
    exact (Below.heap_alloc _ _ _ (by simp)).trans (World.alloc_heap_new w _)
  have xI : I [] X := by rw [← hX]; exact hI.alloc _ (hI.alloc _ h0)
  have xb : Below w0.heap.size w0 X := by
    rw [← hX]
    exact hb0.trans ((((Below.refl _ w).alloc (Nat.le_refl _) _).alloc (by simp) _).mono hb0.size)
  clear hX
  refine ⟨w.heap.size + 1, [{ target := .collected w.heap.size, args := #[] }], X, { target := .fn (.func gf) lb, args := #[.func (.yield (w.heap.size + 1)) #[] #[]] }, X, gf, #[.func (.yield (w.heap.size + 1)) #[] #[]] ++ lb, X, hlay, ?_, ?_, ?_, fun _ => h1, ?_⟩
  · simp only [resolve, hg]
    simp [go_sem]
  · intro f' hf'
    simp [Target.leads] at hf'
    rw [← hf']; exact hFg
  · simp [invoke, go_sem, eg]
  have walkless : ∀ {A B : World} {row : Option Nat}, (∀ r, row = some r → X.heap.size ≤ r ∧ ∃ o : Obj, A.heap[r]? = some o ∧ o.isWalk = true) → (∀ r, row = some r → w.heap.size ≤ r ∧ ∃ o : Obj, A.heap[r]? = some o ∧ o.isCells = false) := by
    intro A B row hr r e
    obtain ⟨h3, o, h4, h5⟩ := hr r e
    exact ⟨by omega, o, h4, Obj.not_cells_of_walk h5⟩
  refine (hseq (w.heap.size + 1)
    (fun pre W => I pre W ∧ W.heap[w.heap.size + 1]? = some (.loop (rc .ready none)) ∧ W.heap[w.heap.size]? = some (.deferred (some [])))
    (fun pre W => Ix pre W ∧ W.heap[w.heap.size + 1]? = some (.loop (rc .done (some .ret))) ∧ W.heap[w.heap.size]? = some (.deferred (some [])))
    X xb ?_ ?_ ?_ ⟨xI, xl, xd⟩).mono ?_
  · rintro s A B row ⟨s1, s2, s3⟩ hgr hr
    exact ⟨hI s A B row s1 hgr (walkless (B := B) hr), (grownBy_keeps hgr (fun r e => (hr r e).2) s2 rfl).trans s2, (grownBy_keeps hgr (fun r e => (hr r e).2) s3 rfl).trans s3⟩
  · rintro s A B row ⟨s1, s2, s3⟩ hgr hr
    exact ⟨hIx s A B row s1 hgr (walkless (B := B) hr), (grownBy_keeps hgr (fun r e => (hr r e).2) s2 rfl).trans s2, (grownBy_keeps hgr (fun r e => (hr r e).2) s3 rfl).trans s3⟩
  · -- a round
    rintro pre x W0 W ⟨i0, l0, d0⟩ hbel hrel
    have lt0 : w.heap.size + 1 < W0.heap.size := (Array.getElem?_eq_some_iff.1 l0).1
    have l1 : W.heap[w.heap.size + 1]? = some (.loop (rc .ready none)) := (hbel.block _ lt0).trans l0
    have d1 : W.heap[w.heap.size]? = some (.deferred (some [])) := (hbel.block _ (by omega)).trans d0
    have hnz : ¬ Z x (w.heap.size + 1) := fun hz => by
      obtain ⟨o, e1, e2⟩ := hZ pre x W0 W _ hrel hz (by omega)
      rw [l1] at e1; cases e1; cases e2
    have hy := run_yield (P := P) (args := encs x) l1 (by rw [hparams]; exact hps x)
    rw [hparams, hfn', htm, has, hbo] at hy
    refine ⟨fn, _, assign, body, hy, roundIn_of_wpIn hfn (hassign _ pre x W0 W _ i0 hbel hrel (by omega) ?_)⟩
    intro a' Wa hba hax
    have lta : w.heap.size + 1 < Wa.heap.size := Nat.lt_of_lt_of_le lt0 (Nat.le_trans hbel.size hba.size)
    have la : Wa.heap[w.heap.size + 1]? = some (.loop (rc .ready none)) := (hba.block _ (Array.getElem?_eq_some_iff.1 l1).1).trans l1
    have da : Wa.heap[w.heap.size]? = some (.deferred (some [])) := (hba.block _ (Array.getElem?_eq_some_iff.1 d1).1).trans d1
    have hbeg := run_beginRound (P := P) la (hst _ _)
    rw [hset1] at hbeg
    refine ⟨_, hbeg, ?_⟩
    obtain ⟨Y, hY⟩ : ∃ Y, Wa.putObj (w.heap.size + 1) (.loop (rc .busy none)) = Y := ⟨_, rfl⟩
    have ly : Y.heap[w.heap.size + 1]? = some (.loop (rc .busy none)) := by rw [← hY]; exact World.putObj_heap_same lta
    have dy : Y.heap[w.heap.size]? = some (.deferred (some [])) := by rw [← hY]; exact (World.putObj_heap_other (by omega)).trans da
    have iy : I pre (W0.putObj (w.heap.size + 1) (.loop (rc .busy none))) := hI.putObj _ i0 (by omega) l0 rfl
    have ry : Rel pre x (W0.putObj (w.heap.size + 1) (.loop (rc .busy none))) Y := by
      rw [← hY]
      exact hR2 pre x W0 Wa _ _ _ (hR1 pre x W0 W Wa hrel hba) (by omega) la rfl
    have by' : Below (W0.putObj (w.heap.size + 1) (.loop (rc .busy none))).heap.size (W0.putObj (w.heap.size + 1) (.loop (rc .busy none))) Y := by
      rw [← hY]
      exact below_put2 (hbel.trans (hba.mono hbel.size))
    have ay : Ax x a' Y := by rw [← hY]; exact (hAx x a').putObj (s := ()) _ hax (by omega) la rfl
    have ky : Kept n0 (Z x) W Y := by
      rw [← hY]
      exact (Kept.of_below hba (by have := hbel.size; omega)).trans (Kept.put (by omega) hnz _ _)
    rw [hY]
    clear hY hbeg
    refine wpIn_mono (hbody _ pre x a' _ Y iy by' ry ay (by simp; omega)) ?_
    have fin : ∀ (j : Option Code) (W3 : World), KeepsFrom w.heap.size Y W3 → ∃ W4, (Instr.endRound (w.heap.size + 1) j).run P W3 = .ok (.bool j.isNone) W4 ∧ W4 = W3.putObj (w.heap.size + 1) (.loop (rc (if j.isNone then .ready else .done) j)) ∧
        W3.heap[w.heap.size + 1]? = some (.loop (rc .busy none)) ∧ W4.heap[w.heap.size + 1]? = some (.loop (rc (if j.isNone then .ready else .done) j)) ∧ W4.heap[w.heap.size]? = some (.deferred (some [])) := by
      intro j W3 hk
      have l3 := hk.same _ _ (by omega) ly rfl
      have d3 := hk.same _ _ (Nat.le_refl _) dy rfl
      have := run_endRound (P := P) j l3
      rw [hset] at this
      exact ⟨_, this, rfl, l3, World.putObj_heap_same (Array.getElem?_eq_some_iff.1 l3).1, (World.putObj_heap_other (by omega)).trans d3⟩
    rintro e a3 W3 hp
    cases e with
    | normal =>
      obtain ⟨k3, q3, i3⟩ := hp
      obtain ⟨W4, hr, e4, l3, l4, d4⟩ := fin none W3 k3
      refine ⟨_, _, hr, .inl ⟨rfl, ⟨?_, l4, d4⟩, ?_⟩⟩
      · rw [e4]; exact hI.putObj _ i3 (by omega) l3 rfl
      · rw [e4]; exact (ky.trans q3).trans (Kept.put (by omega) hnz _ _)
    | ret =>
      obtain ⟨k3, i3⟩ := hp
      obtain ⟨W4, hr, e4, l3, l4, d4⟩ := fin (some .ret) W3 k3
      refine ⟨_, _, hr, .inr ⟨rfl, ?_, l4, d4⟩⟩
      rw [e4]; exact hIx.putObj _ i3 (by omega) l3 rfl
    | exit _ => exact hp.elim
    | goto _ => exact hp.elim
    | panic _ => exact hp.elim
    | outgrown => exact hp.elim
  · -- behind the iterator
    rintro e W2 ⟨⟨v, rfl⟩, h⟩
    rcases h with ⟨xs, hS, i2, l2, d2⟩ | ⟨pre, hS, i2, l2, d2⟩
    · have he := run_endLoop (P := P) l2 (by rw [hst]; simp)
      rw [hpe] at he
      exact ⟨none, _, he, hdone _ xs _ (Nat.le_refl _) hS (hI.putObj _ i2 (by omega) l2 rfl) ((World.putObj_heap_other (by omega)).trans d2)⟩
    · have he := run_endLoop (P := P) l2 (by rw [hst]; simp)
      rw [hpe] at he
      exact ⟨some .ret, _, he, hstop _ pre _ (Nat.le_refl _) hS (hIx.putObj _ i2 (by omega) l2 rfl) ((World.putObj_heap_other (by omega)).trans d2)⟩

def noDefer (ops : Array Oper) : Bool := ops.all fun o => match o.op with
  | .defer _ => false
  | _ => true
theorem noDefer_at {ops : Array Oper} (h : noDefer ops = true) {i : Nat} {o : Oper} (ho : ops[i]? = some o) : ∀ c, o.op ≠ .defer c := by
  intro c e
  unfold noDefer at h
  rw [Array.all_eq_true'] at h
  have := h o (Array.mem_of_getElem? ho)
  rw [e] at this
  cases this
section
variable {P : Program} {ops : Array Oper} {Q : Exit → Act → World → Prop} {md : Region.Mode} {l n : Nat}
theorem upon_round {o : Oper} {a : Act} {next : Act → World → Prop} {r : Result Next} (h : o.upon P a next Q r) : o.uponIn (Fence.wide.inRound l) n P a next Q r := by
  cases r with
  | ok x w' =>
    cases x <;> simp only [Oper.upon] at h <;> simp only [Oper.uponIn]
    all_goals first
      | exact h
      | exact ⟨(fun e => by cases e), (CallsIn.inRound l (callsIn_wide.2 h)).mono fun e w hh => by cases e <;> exact hh⟩
      | (refine ⟨(fun e => by cases e), fun c cs _ => ?_⟩
         obtain ⟨v, w2, q, s⟩ := h c cs
         exact ⟨v, w2, q, stepsIn_wide.2 s⟩)
  | halt x w' => cases x <;> simp only [Oper.upon] at h <;> simp only [Oper.uponIn] <;> exact h
theorem wpOp_round (hd : noDefer ops = true) (hQ : ¬ LetsOut Q) {i : Nat} {K K' : Act → World → Prop} (hK : ∀ a w, K a w → K' a w) {a : Act} {w : World} (h : wpOp P ops Q i K a w) : wpOpIn (Fence.wide.inRound l) n P ops Q i K' a w := by
  unfold wpOp at h
  unfold wpOpIn
  cases ho : ops[i]? with
  | none => rw [ho] at h; exact hK _ _ h
  | some o =>
    rw [ho] at h
    simp only at h ⊢
    split
    · rename_i hw
      rw [if_pos hw] at h
      rcases h with h | h
      · have h2 := Oper.wp_mono hK h
        refine ⟨fun _ _ => trivial, ?_⟩
        rw [Oper.semAt_eq _ _ _ (noDefer_at hd ho)]
        exact upon_round h2
      · exact absurd h.2 hQ
    · rename_i hw
      rw [if_neg hw] at h
      exact ⟨fun _ _ => trivial, hK _ _ h⟩
theorem wpAny_round (hd : noDefer ops = true) (hQ : ¬ LetsOut Q) : ∀ (fuel : Nat) (L : Array Bool) (a : Act) (w : World), wpAny P md ops Q fuel L a w → wpAnyIn (Fence.wide.inRound l) n P md ops Q fuel L a w
  | 0, _, _, _, h => h
  | fuel + 1, L, a, w, h => ⟨h.1, fun i hi => wpOp_round hd hQ (fun a w => wpAny_round hd hQ fuel _ a w) (h.2 i hi)⟩
theorem region_round_held {S : World → Prop} {id : Nat} {a : Act} {w : World} (hm : P.follows .mixedOrders = true) (hd : noDefer ops = true) (hQ : ¬ LetsOut Q) (hS : S w.drew)
    (h : S w.drew → wpAnyH P .any ops Q S ops.size (Array.replicate ops.size false) a w.drew) : (Code.region id ops true).wpIn (Fence.wide.inRound l) n P Q a w :=
  wpIn_region_any hm (wpAny_round hd hQ _ _ _ _ (wpAny_of_held _ _ _ _ (h hS)))
end

end Go.Proofs.YteciobkjfmddcaaGreatDoor
