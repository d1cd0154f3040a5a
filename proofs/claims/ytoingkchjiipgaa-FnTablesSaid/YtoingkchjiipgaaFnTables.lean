/-
  The law FnTables holds for every argument: the tables of a made book are balanced, and a table among all teams is the table.
-/
import Derived.Test.YtoingkchjiipgaaRows
import Derived.WalkKit
import Derived.ProofKit
import Derived.OpenShut
import Derived.ShutString
import Derived.ChangeOld
import Derived.Below
import Derived.Lib.Hide
import Derived.Test.YtoingkchjiipgaaGamesFacts
import Derived.Test.YtoingkchjiipgaaGamesImpl
import Derived.Test.YtoingkchjiipgaaTablesFacts
import Derived.Test.YtoingkchjiipgaaRulesFacts
import Derived.Test.YtoingkchjiipgaaBookMake2
import Derived.Test.YtoingkchjiipgaaTablesImpl
import Derived.Deep.RegionHeld3
namespace Go.Proofs.Ytoingkchjiipgaa.fnTables
open Go.ChangeShapes Go.WideShapes Go.ChangeAt Go.RowKit
open Go.ChangeMaps (open_string shut_string)
set_option linter.unusedVariables false

theorem own : ownKnob Try.prog.godebug = none := by kernel_rfl
theorem laidOut : laidOutB Try.prog = true := by kernel_rfl
theorem lead_cells {w : World} {a : Option Addr} {c n j : Nat} {T : Nat → RowD} (h : RowRow w (.slice a n c) n T) (hj : j < n) : ∃ bo off, a = some ⟨bo, off, none⟩ ∧ n ≤ c ∧ w.cell? ⟨bo, off + j * 7, none⟩ = some (.int .i64 (T j).played) ∧ w.cell? ⟨bo, off + j * 7 + 1, none⟩ = some (.int .i64 (T j).wins) ∧ w.cell? ⟨bo, off + j * 7 + 2, none⟩ = some (.int .i64 (T j).draws) ∧ w.cell? ⟨bo, off + j * 7 + 3, none⟩ = some (.int .i64 (T j).losses) ∧ w.cell? ⟨bo, off + j * 7 + 4, none⟩ = some (.int .i64 (T j).scored) ∧ w.cell? ⟨bo, off + j * 7 + 5, none⟩ = some (.int .i64 (T j).against) ∧ w.cell? ⟨bo, off + j * 7 + 6, none⟩ = some (.int .i64 (T j).points) := by
  obtain ⟨aa, cap, he, _, hc⟩ := h.form
  simp only [Value.slice.injEq, true_and] at he
  obtain ⟨bo, off, h1, h2, h3⟩ := hc (by omega)
  obtain ⟨rfl, rfl⟩ := he
  exact ⟨bo, off, h1, h2, row_cells (h3 j hj)⟩
theorem rules_good {win : Int} {L : List Int} (h : RulesGood win L) : rulesP win 1 0 L.length (getI L) := by
  obtain ⟨hw, K, rfl, hd, hl⟩ := h
  have := good_rules hw hd hl
  simpa using this
theorem rules_lad {win : Int} {L : List Int} (h : RulesGood win L) : L.length ≤ 5 := by
  obtain ⟨hw, K, rfl, hd, hl⟩ := h
  simp; omega
theorem rules_pts {win : Int} {L : List Int} (h : RulesGood win L) : ptsP win 1 0 := by
  obtain ⟨hw, _⟩ := h
  unfold ptsP
  omega
theorem box_kept {w w' : World} {B : Nat} {cs : List Value} {row : Option Nat} (h : BoxN w B cs) (g : w.grownBy w' row) (hn : ∀ q, row = some q → B ≠ q) : BoxN w' B cs := by
  refine ⟨Nat.lt_of_lt_of_le h.1 g.size, fun j v hv => ?_⟩
  exact (World.cell?_of_block (w := w) (a := ⟨B, j, none⟩) (g.block B h.1 (fun e => hn B e.symm rfl))).trans (h.2 j v hv)
theorem lead_pos (g : Nat → RowD) : ∀ n : Nat, 1 ≤ n → 0 ≤ leadP g n ∧ leadP g n < n
  | 0, h => absurd h (by omega)
  | n + 1, _ => by
    have h1 := leadP_lt g (n + 1)
    have h2 : leadP g (n + 1) = if leadP g n < 0 then (n : Int) else if (g (leadP g n).toNat).points < (g n).points then (n : Int) else leadP g n := rfl
    rcases h1 with h1 | h1
    · rw [h1] at h2
      split at h2
      · omega
      · split at h2 <;> omega
    · omega
theorem lead_at {w : World} {a : Option Addr} {c n j : Nat} {T : Nat → RowD} (h : RowRow w (.slice a n c) n T) (hj : j < n) : ∃ bo off, a = some ⟨bo, off, none⟩ ∧ n ≤ c ∧ CellsAt w bo (off + j * 7) (T j).cells := by
  obtain ⟨aa, cap, he, _, hc⟩ := h.form
  simp only [Value.slice.injEq, true_and] at he
  obtain ⟨bo, off, h1, h2, h3⟩ := hc (by omega)
  obtain ⟨rfl, rfl⟩ := he
  exact ⟨bo, off, h1, h2, h3 j hj⟩
def idL (k : Nat) : List Int := (List.range k).map fun i : Nat => (i : Int)
theorem idL_succ (k : Nat) : idL (k + 1) = idL k ++ [(k : Int)] := by unfold idL; rw [List.range_succ, List.map_append]; rfl
theorem idL_len (k : Nat) : (idL k).length = k := by unfold idL; simp
theorem idL_has {k : Nat} {x : Int} (h : 0 ≤ x ∧ x < k) : hasP (getI (idL k)) x k := ⟨x.toNat, by omega, by
  unfold getI idL
  rw [List.getD_eq_getElem?_getD, List.getElem?_map, List.getElem?_range (by omega)]
  simp; omega⟩
theorem addW_zero {c : Int} {r : RowD} (h : rowB c r) (hc : 0 ≤ c ∧ c ≤ 1000) : addW r zeroR = r := by
  rw [addW_eq h (rowB_zero (Int.le_refl 0)) (by omega)]
  unfold addP zeroR
  simp
set_option maxRecDepth 100000 in
set_option maxHeartbeats 4000000 in
theorem walk (a : Option Addr) (len cap : Nat) (zs : List Int) (w : World) (hr : IsRow .u8 w a len cap zs) :
    Calls Try.prog 3 #[.slice a len cap] w fun e w' => e = .returned (.bool true) ∧ Below w.heap.size w w' := by
  obtain ⟨i0, hi, hz0, hz1, hz2⟩ := info_parts Try.infoI
  obtain ⟨hrow, hsm, hfit⟩ := hr.bytes
  clear hr
  generalize getN zs = g at *
  by_cases hl : 1048576 < len
  · have g0 : decide ((1048576 : Int) < (len : Int)) = true := decide_eq_true (by omega)
    clear hrow hsm
    go_enter Try.func3, Try.ntmps3
    go_wp2
    go_ret
    exact ⟨rfl, Below.refl _ _⟩
  have g0 : decide ((1048576 : Int) < (len : Int)) = false := decide_eq_false (by omega)
  have hle : len ≤ 1048576 := by omega
  have CM := Lib.hid (makeBook_any a len cap g w hrow hsm hle)
  clear hrow hsm
  go_enter Try.func3, Try.ntmps3
  go_wp2_with fail
  refine CM.out.mono ?_
  rintro e w1 ⟨n, b, vf, vl, vg, vfa, vta, ⟨hn3, hn5⟩, rfl, hgood, hown, b1⟩
  obtain ⟨a1, c1, a2, c2, a3, c3, a4, c4, a5, c5, rfl, rfl, rfl, rfl, rfl⟩ := hown.form
  obtain ⟨_, hrg, ⟨hsea, _, hgl⟩, _⟩ := hgood
  have gr1 := GameRow.of_list hown.2.2.1 (by omega)
  have ll8 := rules_lad hrg
  have lr1 := IntRow.of_list hown.2.1 (by omega)
  have GR1 := Lib.hid gr1
  have LR1 := Lib.hid lr1
  have B1 := Lib.hid b1
  have z1 := b1.size
  have SS := Lib.hid (sea_season hsea (by omega) (by omega) (by omega))
  have RP := Lib.hid (rules_good hrg)
  have PT := Lib.hid (rules_pts hrg)
  have hb1 := (Below.refl w1.heap.size w1).alloc (Nat.le_refl _) (.cells #[.slice a1 n c1, .int .i64 b.win, .int .i64 1, .int .i64 0, .slice a2 b.lad.length c2, .bool b.ag, .slice a3 b.games.length c3, .slice a4 n c4, .slice a5 n c5] 29)
  have BX := Lib.hid (BoxN.made (Below.refl (w1.alloc (.cells #[.slice a1 n c1, .int .i64 b.win, .int .i64 1, .int .i64 0, .slice a2 b.lad.length c2, .bool b.ag, .slice a3 b.games.length c3, .slice a4 n c4, .slice a5 n c5] 29)).heap.size (w1.alloc (.cells #[.slice a1 n c1, .int .i64 b.win, .int .i64 1, .int .i64 0, .slice a2 b.lad.length c2, .bool b.ag, .slice a3 b.games.length c3, .slice a4 n c4, .slice a5 n c5] 29))) (B := w1.heap.size) rfl)
  have GR := Lib.hid (GR1.out.below hb1 (Nat.le_refl _))
  have LR := Lib.hid (LR1.out.below hb1 (Nat.le_refl _))
  have HB := Lib.hid (B1.out.trans (hb1.mono z1))
  clear gr1 lr1 hsea hown b1 CM hrg GR1 LR1 B1 hb1
  obtain ⟨T, hT⟩ : ∃ T, tabR b.win 1 0 (selG true (fun _ => 0) 0) (getG b.games) b.games.length = T := ⟨_, rfl⟩
  have hG : ∀ i, i < b.games.length → gameP n (getG b.games i) := fun i hi => (SS.out.2 i hi).1
  have hT2 : tabR b.win 1 0 (selG false (getI (idL n)) n) (getG b.games) b.games.length = T := by
    rw [← hT]
    refine tabR_congr _ fun i hi => ?_
    obtain ⟨_, ⟨q1, q2⟩, ⟨q3, q4⟩, _⟩ := hG i hi
    unfold selG
    rw [hasB_iff.2 (idL_has ⟨q1, by omega⟩), hasB_iff.2 (idL_has ⟨q3, by omega⟩)]
    rfl
  have hm60 : b.games.length ≤ 60 := by omega
  have HBal : Hid (balP n T) := by rw [← hT]; exact tab_bal (n := n) rfl (by omega) PT.out hm60 hG
  have HBd : Hid (∀ i, rowB 60 (T i)) := by rw [← hT]; exact fun i => rowB_mono (tab_bound (n := n) PT.out _ hm60 hG i) (by omega)
  have HRI : Hid (∀ i, rowI b.win 1 0 (T i)) := by rw [← hT]; exact tab_rowI (n := n) PT.out _ hm60 hG
  have HPl : Hid (wrap64 ((playedN T n).tdiv 2) = cntG (selG true (fun _ => 0) 0) (getG b.games) b.games.length) := by
    have h4 := (tab_sums (n := n) (N := n) (sel := selG true (fun _ => 0) 0) rfl PT.out _ hm60 hG).2.2.2
    rw [hT] at h4
    have h5 := (playedN_eq HBd.out (by omega) n (by omega)).1
    have h6 := cntG_le (selG true (fun _ => 0) 0) (getG b.games) b.games.length
    have h7 : playedN T n = 2 * cntG (selG true (fun _ => 0) 0) (getG b.games) b.games.length := h5.trans h4
    rw [h7, Int.mul_tdiv_cancel_left _ (by decide)]
    exact wrapId _ (by omega)
  have HTP : Hid (tabP b.win 1 0 b.lad.length (getI b.lad) n b.games.length (getG b.games)) := ⟨RP.out, by omega, SS.out⟩
  have CT : Hid (∀ wa, IntRow wa (.slice a2 b.lad.length c2) b.lad.length (getI b.lad) → GameRow wa (.slice a3 b.games.length c3) b.games.length (getG b.games) →
      Calls Try.prog 12 #[.agg #[.int .i64 b.win, .int .i64 1, .int .i64 0, .slice a2 b.lad.length c2, .bool b.ag], .int .i64 n, .slice a3 b.games.length c3] wa (RecMade 7 39 wa n (fun i => (T i).cells))) := fun wa h1 h2 => by
    have h := tableOf_impl b.win 1 0 (.slice a2 b.lad.length c2) b.lad.length (getI b.lad) b.ag n (.slice a3 b.games.length c3) b.games.length (getG b.games) true wa ⟨fun _ => HTP.out, fun _ => rfl⟩ h1 h2
    rw [if_pos rfl, Int.toNat_natCast, hT] at h
    exact h
  have CT2 : Hid (∀ va wa, IntRow wa (.slice a2 b.lad.length c2) b.lad.length (getI b.lad) → GameRow wa (.slice a3 b.games.length c3) b.games.length (getG b.games) → IntRow wa va n (getI (idL n)) →
      Calls Try.prog 13 #[.agg #[.int .i64 b.win, .int .i64 1, .int .i64 0, .slice a2 b.lad.length c2, .bool b.ag], .int .i64 n, .slice a3 b.games.length c3, va] wa (RecMade 7 39 wa n (fun i => (T i).cells))) := fun va wa h1 h2 h3 => by
    have h := tableAmong_impl b.win 1 0 (.slice a2 b.lad.length c2) b.lad.length (getI b.lad) b.ag n (.slice a3 b.games.length c3) b.games.length (getG b.games) va n (getI (idL n)) true wa ⟨fun _ => HTP.out, fun _ => rfl⟩ h1 h2 h3
    rw [if_pos rfl, Int.toNat_natCast, hT2] at h
    exact h
  have CB := Lib.hid (fun va wa h => isBalanced_impl va n T true wa ⟨fun _ => HBal.out, fun _ => rfl⟩ h)
  have CL := Lib.hid (fun va wa h => leaderOf_impl va n T wa h)
  have CTP : Hid (∀ va wa, RowRow wa va n T → Calls Try.prog 18 #[va] wa fun e w' => e = .returned (.int .i64 (cntG (selG true (fun _ => 0) 0) (getG b.games) b.games.length)) ∧ Below wa.heap.size wa w') := fun va wa h => by
    rw [← HPl.out]; exact totalPlayed_impl va n T wa h
  have CDF := Lib.hid (fun (r : RowD) wa => differenceOf_impl r wa)
  have CAR := Lib.hid (fun (r : RowD) (hb : rowB 60 r) wa => by have h := addRows_impl r zeroR wa; rw [addW_zero hb (by omega)] at h; exact h)
  have HSEL : Hid (∀ x, selG true (fun _ => 0) 0 x = true) := fun x => rfl
  clear hT hT2 hG HPl HTP HBal SS RP PT
  generalize selG true (fun _ => 0) 0 = sel at *
  generalize hGG : getG b.games = G at *
  clear hGG
  generalize hm : b.games.length = m at *
  clear hm
  have es : (w1.alloc (.cells #[.slice a1 n c1, .int .i64 b.win, .int .i64 1, .int .i64 0, .slice a2 b.lad.length c2, .bool b.ag, .slice a3 m c3, .slice a4 n c4, .slice a5 n c5] 29)).heap.size = w1.heap.size + 1 := by simp
  have o0 := World.ownsRow_lit (e := 3) (size := 1) (w1.alloc (.cells #[.slice a1 n c1, .int .i64 b.win, .int .i64 1, .int .i64 0, .slice a2 b.lad.length c2, .bool b.ag, .slice a3 m c3, .slice a4 n c4, .slice a5 n c5] 29)) #[] 0 (Nat.le_refl _) (by decide) rfl
  rw [es] at o0
  have hb2 := (Below.refl (w1.alloc (.cells #[.slice a1 n c1, .int .i64 b.win, .int .i64 1, .int .i64 0, .slice a2 b.lad.length c2, .bool b.ag, .slice a3 m c3, .slice a4 n c4, .slice a5 n c5] 29)).heap.size (w1.alloc (.cells #[.slice a1 n c1, .int .i64 b.win, .int .i64 1, .int .i64 0, .slice a2 b.lad.length c2, .bool b.ag, .slice a3 m c3, .slice a4 n c4, .slice a5 n c5] 29))).alloc (Nat.le_refl _) (.cells #[] 3)
  have BX2 := Lib.hid (BoxN.below BX.out hb2)
  have GR2 := Lib.hid (GR.out.below hb2 (Nat.le_refl _))
  have LR2 := Lib.hid (LR.out.below hb2 (Nat.le_refl _))
  have HB2 := Lib.hid (HB.out.trans (hb2.mono HB.out.size))
  have HO2 := Lib.hid o0
  have IG : Hid (0 < m → InW 0 (w1.heap.size + 1) (.slice a3 m c3)) := fun h0 => InW.gameRow GR.out h0 (by simp)
  have IL : Hid (0 < b.lad.length → InW 0 (w1.heap.size + 1) (.slice a2 b.lad.length c2)) := fun h0 => InW.nat LR.out h0 (by simp)
  have hw1 : w.heap.size ≤ w1.heap.size := z1
  clear BX GR LR HB hb2 o0 es z1
  go_wp2
  go_loopw [5, 6] (fun ov tv wr => ∃ k : Nat, k ≤ n ∧ tv = .int .i64 k ∧ Hid (wr.ownsRow (w1.heap.size + 1) 3 1 ov k ((idL k).map (Value.int .i64))) ∧ Hid (BoxN wr w1.heap.size [.slice a1 n c1, .int .i64 b.win, .int .i64 1, .int .i64 0, .slice a2 b.lad.length c2, .bool b.ag, .slice a3 m c3, .slice a4 n c4, .slice a5 n c5]) ∧ Hid (GameRow wr (.slice a3 m c3) m G) ∧ Hid (IntRow wr (.slice a2 b.lad.length c2) b.lad.length (getI b.lad)) ∧ Hid (Below w.heap.size w wr)) (fun _ tv _ => n - (intOf tv).toNat)
  case atStart => exact ⟨0, Nat.zero_le _, rfl, HO2, BX2, GR2, LR2, HB2⟩
  case round =>
    clear HO2 BX2 GR2 LR2 HB2
    obtain ⟨k, hk, rfl, HO, BX, GR, LR, HB⟩ := hrel
    have hbase := BX.out.1
    have hsz := HB.out.size
    have hown := HO.out
    by_cases hlt : k < n
    · have hlen : k + 1 ≤ maxLen := by unfold maxLen; omega
      go_wp2_with (at_builtin; refine wpList_pushL rfl (.tmp 28) (.tmp 30) 24 rfl (w1.heap.size + 1) 3 Try.underlying24 hi hz0 hz1 hz2 rfl (by decide) [.int .i64 k] rfl (by intro u hu; simp at hu; subst hu; rfl) rfl (by show Value.slice (some ⟨_, 0, none⟩) 1 1 = _; simp) hown hlen (by omega) (by omega) ?_; intro gg cc5 w5 o5 g5 at5 lt5)
      have hT5 : Touch (w1.heap.size + 1) wr.heap.size wr w5 := Touch.grown g5 (fun q hq => hown.lt q hq)
      have hBX := Lib.hid (BoxN.touch BX.out hT5 (.inl (Nat.lt_succ_self _)))
      have hGR := Lib.hid (GameRow.touch GR.out hT5 IG.out (.inl (Nat.le_refl _)))
      have hLR := Lib.hid (IntRow.touch LR.out hT5 IL.out (.inl (Nat.le_refl _)))
      have hHB := Lib.hid (HB.out.trans (hT5.below (Nat.le_succ_of_le hw1) hsz))
      have hO5 : Hid (w5.ownsRow (w1.heap.size + 1) 3 1 (.slice (some ⟨gg, 0, none⟩) (k + 1) cc5) (k + 1) ((idL (k + 1)).map (Value.int .i64))) := by rw [idL_succ, List.map_append]; exact o5
      clear hT5 HO BX GR LR HB hown o5 g5 at5
      go_wp2
      go_roundw
      case rel => exact ⟨k + 1, by omega, by go_num, hO5, hBX, hGR, hLR, hHB⟩
      case measure => simp [intOf]; omega
    obtain rfl : n = k := by omega
    have AR : Hid (IntRow wr u5 n (getI (idL n))) := IntRow.of_owns hown (by omega) fun i hi => by
      rw [List.getElem?_map]
      unfold idL getI
      rw [List.getD_eq_getElem?_getD, List.getElem?_map, List.getElem?_range hi]
      rfl
    have d0 := BX.out.2 0 _ rfl
    have d1 := BX.out.2 1 _ rfl
    have d2 := BX.out.2 2 _ rfl
    have d3 := BX.out.2 3 _ rfl
    have d4 := BX.out.2 4 _ rfl
    have d5 := BX.out.2 5 _ rfl
    have d6 := BX.out.2 6 _ rfl
    clear hown HO
    go_wp2_with fail
    refine (CT.out _ LR.out GR.out).mono ?_
    rintro e w2 ⟨v7, rfl, rr, _, b2⟩
    have BX2 := Lib.hid (BoxN.below BX.out b2)
    have GR2 := Lib.hid (GR.out.below b2 (Nat.le_refl _))
    have LR2 := Lib.hid (LR.out.below b2 (Nat.le_refl _))
    have AR2 := Lib.hid (AR.out.below b2 (Nat.le_refl _))
    have HB2 := Lib.hid (HB.out.trans (b2.mono hsz))
    have RR2 := Lib.hid (show RowRow _ _ _ _ from rr)
    have hs2 := HB2.out.size
    clear d0 d1 d2 d3 d4 d5 d6 BX GR LR AR HB rr b2 CT hsz hbase
    have d0 := BX2.out.2 0 _ rfl
    have d1 := BX2.out.2 1 _ rfl
    have d2 := BX2.out.2 2 _ rfl
    have d3 := BX2.out.2 3 _ rfl
    have d4 := BX2.out.2 4 _ rfl
    have d5 := BX2.out.2 5 _ rfl
    have d6 := BX2.out.2 6 _ rfl
    go_wp2_with fail
    refine (CT2.out _ _ LR2.out GR2.out AR2.out).mono ?_
    rintro e w3 ⟨v8, rfl, rr, _, b3⟩
    have BX3 := Lib.hid (BoxN.below BX2.out b3)
    have GR3 := Lib.hid (GR2.out.below b3 (Nat.le_refl _))
    have RR3 := Lib.hid (RR2.out.below b3 (Nat.le_refl _))
    have RS3 := Lib.hid (show RowRow _ _ _ _ from rr)
    have HB3 := Lib.hid (HB2.out.trans (b3.mono hs2))
    have hs3 := HB3.out.size
    clear d0 d1 d2 d3 d4 d5 d6 BX2 GR2 LR2 AR2 HB2 RR2 rr b3 CT2 hs2
    obtain ⟨s7a, s7c, rfl, _, _⟩ := RR3.out.form
    obtain ⟨s8a, s8c, rfl, _, _⟩ := RS3.out.form
    go_wp2_with fail
    refine (CB.out _ _ RR3.out).mono ?_
    rintro e w4 ⟨rfl, b4⟩
    have BX4 := Lib.hid (BoxN.below BX3.out b4)
    have GR4 := Lib.hid (GR3.out.below b4 (Nat.le_refl _))
    have RR4 := Lib.hid (RR3.out.below b4 (Nat.le_refl _))
    have RS4 := Lib.hid (RS3.out.below b4 (Nat.le_refl _))
    have HB4 := Lib.hid (HB3.out.trans (b4.mono hs3))
    clear BX3 GR3 RR3 RS3 HB3 b4 CB hs3
    have d6 := BX4.out.2 6 _ rfl
    go_wp2
    clear d6
    go_loopw [9, 63] (fun pv iv wr => ∃ i : Nat, i ≤ m ∧ iv = .int .i64 i ∧ pv = .int .i64 (cntG sel G i) ∧ Hid (BoxN wr w1.heap.size [.slice a1 n c1, .int .i64 b.win, .int .i64 1, .int .i64 0, .slice a2 b.lad.length c2, .bool b.ag, .slice a3 m c3, .slice a4 n c4, .slice a5 n c5]) ∧ Hid (GameRow wr (.slice a3 m c3) m G) ∧ Hid (RowRow wr (.slice s7a n s7c) n T) ∧ Hid (RowRow wr (.slice s8a n s8c) n T) ∧ Hid (Below w.heap.size w wr)) (fun _ iv _ => m - (intOf iv).toNat)
    case atStart => exact ⟨0, Nat.zero_le _, rfl, rfl, BX4, GR4, RR4, RS4, HB4⟩
    case round =>
      clear BX4 GR4 RR4 RS4 HB4
      obtain ⟨i, hi0, rfl, rfl, BX, GR, RR, RS, HB⟩ := hrel
      have hsz := HB.out.size
      have hcl := cntG_le sel G i
      by_cases hlt2 : i < m
      · obtain ⟨bo, off, rfl, hcap, hcc⟩ : ∃ bo off, a3 = some ⟨bo, off, none⟩ ∧ m ≤ c3 ∧ CellsAt wr bo (off + i * 5) (G i).cells := by
          obtain ⟨aa, cap', he, _, hc⟩ := GR.out.form
          simp only [Value.slice.injEq, true_and] at he
          obtain ⟨bo, off, h1, h2, h3⟩ := hc (by omega)
          exact ⟨bo, off, he.1.trans h1, by omega, h3 i hlt2⟩
        have HCY : Hid ((goalsD (G i)).2.2 = true → cntG sel G (i + 1) = cntG sel G i + 1) := fun h => if_pos ⟨HSEL.out _, h⟩
        have HCN : Hid ((goalsD (G i)).2.2 = false → cntG sel G (i + 1) = cntG sel G i) := fun h => if_neg fun h2 => by rw [h] at h2; cases h2.2
        have HON := Lib.hid (outcome_ne (G i))
        generalize G i = x at *
        obtain ⟨q0, q1, q2, q3, q4⟩ := game_cells hcc
        have hg0 : Below wr.heap.size wr (wr.alloc (.cells #[.int .i64 x.home, .int .i64 x.away, .int .i64 x.hg, .int .i64 x.ag, .int .i64 x.st] 36)) := (Below.refl _ _).alloc (Nat.le_refl _) _
        have CO := Lib.hid (fun wa => outcomeOf_impl x.home x.away x.hg x.ag x.st wa)
        rw [show (⟨x.home, x.away, x.hg, x.ag, x.st⟩ : GameD) = x from rfl] at CO
        generalize hcg : cntG sel G i = c at *
        clear hcg hcc
        have hc64 : c ≤ 60 := by omega
        cases hok : (goalsD x).2.2 with
        | true =>
          have hne : outcomeD x ≠ 0 := HON.out.2 hok
          have HC1 := Lib.hid (HCY.out hok)
          have g1 : (outcomeD x == 0) = false := beq_eq_false_iff_ne.2 hne
          have g2 : (outcomeD x != 0) = true := bne_iff_ne.2 hne
          clear HCY HCN HON hok hne
          generalize outcomeD x = oc at *
          go_wp2_with fail
          refine (CO.out _).mono ?_
          rintro e wp ⟨rfl, bp⟩
          have hBX := Lib.hid (BoxN.below BX.out (below_prev bp))
          have hGR := Lib.hid (GR.out.below (below_prev bp) (Nat.le_refl _))
          have hRR := Lib.hid (RR.out.below (below_prev bp) (Nat.le_refl _))
          have hRS := Lib.hid (RS.out.below (below_prev bp) (Nat.le_refl _))
          have hHB := Lib.hid (HB.out.trans ((below_prev bp).mono hsz))
          clear q0 q1 q2 q3 q4 BX GR RR RS HB bp hg0 CO
          go_wp2
          go_roundw
          case rel => exact ⟨i + 1, by omega, by go_num, by rw [HC1.out], hBX, hGR, hRR, hRS, hHB⟩
          case measure => simp [intOf]; omega
        | false =>
          have hne : outcomeD x = 0 := by
            by_cases h : outcomeD x = 0
            · exact h
            · have := HON.out.1 h; rw [hok] at this; cases this
          have HC1 := Lib.hid (HCN.out hok)
          rw [hne] at CO
          clear HCY HCN HON hok hne
          go_wp2_with fail
          refine (CO.out _).mono ?_
          rintro e wp ⟨rfl, bp⟩
          have hBX := Lib.hid (BoxN.below BX.out (below_prev bp))
          have hGR := Lib.hid (GR.out.below (below_prev bp) (Nat.le_refl _))
          have hRR := Lib.hid (RR.out.below (below_prev bp) (Nat.le_refl _))
          have hRS := Lib.hid (RS.out.below (below_prev bp) (Nat.le_refl _))
          have hHB := Lib.hid (HB.out.trans ((below_prev bp).mono hsz))
          clear q0 q1 q2 q3 q4 BX GR RR RS HB bp hg0 CO
          go_wp2
          go_roundw
          case rel => exact ⟨i + 1, by omega, by go_num, by rw [HC1.out], hBX, hGR, hRR, hRS, hHB⟩
          case measure => simp [intOf]; omega
      obtain rfl : m = i := by omega
      generalize hcg : cntG sel G m = cnt at *
      clear hcg hlt2 GR
      go_wp2
      go_loopw [75] (fun iv wr => ∃ t : Nat, t ≤ n ∧ iv = .int .i64 t ∧ Hid (BoxN wr w1.heap.size [.slice a1 n c1, .int .i64 b.win, .int .i64 1, .int .i64 0, .slice a2 b.lad.length c2, .bool b.ag, .slice a3 m c3, .slice a4 n c4, .slice a5 n c5]) ∧ Hid (RowRow wr (.slice s7a n s7c) n T) ∧ Hid (RowRow wr (.slice s8a n s8c) n T) ∧ Hid (Below w.heap.size w wr)) (fun iv _ => n - (intOf iv).toNat)
      case atStart => exact ⟨0, Nat.zero_le _, rfl, BX, RR, RS, HB⟩
      case round =>
        clear BX RR RS HB hsz
        obtain ⟨t, ht, rfl, BX, RR, RS, HB⟩ := hrel
        have hsz := HB.out.size
        by_cases hlt3 : t < n
        · obtain ⟨b7, o7, rfl, hcap7, p7⟩ := lead_at RR.out hlt3
          obtain ⟨b8, o8, rfl, hcap8, p8⟩ := lead_at RS.out hlt3
          have hrb := HBd.out t
          have hri := HRI.out t
          have CD := Lib.hid (CDF.out (T t))
          generalize T t = y at *
          obtain ⟨⟨y1, y2⟩, ⟨y3, y4⟩, ⟨y5, y6⟩, ⟨y7, y8⟩, ⟨y9, y10⟩, ⟨y11, y12⟩, y13, y14⟩ := hrb
          have hP : y.points = b.win * y.wins + y.draws := by have := hri.2; omega
          rw [wrapId (y.scored - y.against) (by omega)] at CD
          have s1 : IntKind.i64.wrap (y.scored - y.against) = y.scored - y.against := IntWalk.i64_in _ (by omega)
          have s2 : IntKind.i64.wrap (b.win * y.wins) = b.win * y.wins := IntWalk.i64_in _ (by omega)
          have s3 : IntKind.i64.wrap y.draws = y.draws := IntWalk.i64_in _ (by omega)
          have s4 : IntKind.i64.wrap (1 * y.draws) = y.draws := by rw [Int.one_mul]; exact s3
          have s5 : IntKind.i64.wrap 0 = 0 := by decide
          have s6 : IntKind.i64.wrap (0 * y.losses) = 0 := by rw [Int.zero_mul]; exact s5
          have s7 : IntKind.i64.wrap (b.win * y.wins + y.draws) = b.win * y.wins + y.draws := IntWalk.i64_in _ (by omega)
          have s8 : IntKind.i64.wrap (b.win * y.wins + y.draws + 0) = b.win * y.wins + y.draws := by rw [Int.add_zero]; exact s7
          have s9 : (y.points == b.win * y.wins + y.draws) = true := beq_iff_eq.2 hP
          have s10 : (y.points != b.win * y.wins + y.draws) = false := by unfold bne; rw [s9]; rfl
          clear hP y1 y2 y3 y4 y5 y6 y7 y8 y9 y10 y11 y12 y13 y14
          have ht9 : (t : Int) < n := by omega
          have bx := BX.out
          have rr := RR.out
          have rs := RS.out
          have hb := HB.out
          clear BX RR RS HB hri CTP CL CAR CDF HBd HRI HSEL IG IL
          obtain ⟨S, HSd⟩ : ∃ S : World → Prop, S = fun w' => BoxN w' w1.heap.size [.slice a1 n c1, .int .i64 b.win, .int .i64 1, .int .i64 0, .slice a2 b.lad.length c2, .bool b.ag, .slice a3 m c3, .slice a4 n c4, .slice a5 n c5] ∧ CellsAt w' b7 (o7 + t * 7) (RowD.cells y) ∧ CellsAt w' b8 (o8 + t * 7) (RowD.cells y) ∧ RowRow w' (.slice (some ⟨b7, o7, none⟩) n s7c) n T ∧ RowRow w' (.slice (some ⟨b8, o8, none⟩) n s8c) n T ∧ Below w.heap.size w w' := ⟨_, rfl⟩
          have KS : Hid (∀ wa wb, S wa → Below wa.heap.size wa wb → S wb) := by subst HSd; exact fun wa wb ⟨bx, p7, p8, rr, rs, hb⟩ b0 => ⟨bx.below b0, p7.below b0, p8.below b0, rr.below b0 (Nat.le_refl _), rs.below b0 (Nat.le_refl _), hb.trans (b0.mono hb.size)⟩
          have OS : Hid (∀ wa, S wa → BoxN wa w1.heap.size [.slice a1 n c1, .int .i64 b.win, .int .i64 1, .int .i64 0, .slice a2 b.lad.length c2, .bool b.ag, .slice a3 m c3, .slice a4 n c4, .slice a5 n c5] ∧ CellsAt wa b7 (o7 + t * 7) (RowD.cells y) ∧ CellsAt wa b8 (o8 + t * 7) (RowD.cells y) ∧ RowRow wa (.slice (some ⟨b7, o7, none⟩) n s7c) n T ∧ RowRow wa (.slice (some ⟨b8, o8, none⟩) n s8c) n T ∧ Below w.heap.size w wa) := by subst HSd; exact fun wa h => h
          have KS0 : Hid (S wr.drew) := by subst HSd; exact (fun (b0 : Below wr.heap.size wr wr.drew) => ⟨bx.below b0, p7.below b0, p8.below b0, rr.below b0 (Nat.le_refl _), rs.below b0 (Nat.le_refl _), hb.trans (b0.mono hb.size)⟩) (Below.refl _ _).drew
          clear HSd
          go_wp2_with fail
          simp only [List.append_eq, List.cons_append, List.nil_append]
          refine wp_region_held_drew (S := S) (by kernel_rfl) ?_ (fun hHeld => ?_)
          · exact KS0.out
          clear KS0 bx p7 p8 rr rs hb
          refine wpAnyH_take (i := 0) (v := ?_) rfl (by kernel_rfl) (by kernel_rfl) (by kernel_rfl) (fun _ _ _ h => h) (Or.inl ⟨by rfl, ?_⟩) hHeld ?_
          rotate_left
          · (intro wa hSw; obtain ⟨bx, p7, p8, rr, rs, hb⟩ := OS.out _ hSw; skip; go_simp; try with_reducible rfl)
          simp only [Act.put, List.getElem_toArray, List.getElem_cons_zero, List.setIfInBounds_toArray, List.set_cons_zero, List.set_cons_succ]
          refine wpAnyH_take (i := 1) (v := ?_) rfl (by kernel_rfl) (by kernel_rfl) (by kernel_rfl) (fun _ _ _ h => h) (Or.inl ⟨by rfl, ?_⟩) hHeld ?_
          rotate_left
          · (intro wa hSw; obtain ⟨bx, p7, p8, rr, rs, hb⟩ := OS.out _ hSw; skip; go_simp; try with_reducible rfl)
          simp only [Act.put, List.getElem_toArray, List.getElem_cons_zero, List.getElem_cons_succ, List.setIfInBounds_toArray, List.set_cons_zero, List.set_cons_succ]
          refine wpAnyH_take (i := 2) (v := ?_) rfl (by kernel_rfl) (by kernel_rfl) (by kernel_rfl) (fun _ _ _ h => h) (Or.inl ⟨by rfl, ?_⟩) hHeld ?_
          rotate_left
          · (intro wa hSw; obtain ⟨bx, p7, p8, rr, rs, hb⟩ := OS.out _ hSw; skip; go_simp; try with_reducible rfl)
          simp only [Act.put, List.getElem_toArray, List.getElem_cons_zero, List.getElem_cons_succ, List.setIfInBounds_toArray, List.set_cons_zero, List.set_cons_succ]
          refine wpAnyH_take (i := 3) (v := ?_) rfl (by kernel_rfl) (by kernel_rfl) (by kernel_rfl) (fun _ _ _ h => h) (Or.inl ⟨by rfl, ?_⟩) hHeld ?_
          rotate_left
          · (intro wa hSw; obtain ⟨bx, p7, p8, rr, rs, hb⟩ := OS.out _ hSw; have d1 := bx.2 1 _ rfl; have d2 := bx.2 2 _ rfl; have d3 := bx.2 3 _ rfl; obtain ⟨p0, p1, p2, p3, p4, p5, p6⟩ := row_cells p7; obtain ⟨r0, r1, r2, r3, r4, r5, r6⟩ := row_cells p8; go_simp; try with_reducible rfl)
          simp only [Act.put, List.getElem_toArray, List.getElem_cons_zero, List.getElem_cons_succ, List.setIfInBounds_toArray, List.set_cons_zero, List.set_cons_succ]
          refine wpAnyH_take (i := 4) (v := ?_) rfl (by kernel_rfl) (by kernel_rfl) (by kernel_rfl) (fun _ _ _ h => h) (Or.inl ⟨by rfl, ?_⟩) hHeld ?_
          rotate_left
          · (intro wa hSw; obtain ⟨bx, p7, p8, rr, rs, hb⟩ := OS.out _ hSw; skip; go_simp; try with_reducible rfl)
          simp only [Act.put, List.getElem_toArray, List.getElem_cons_zero, List.getElem_cons_succ, List.setIfInBounds_toArray, List.set_cons_zero, List.set_cons_succ]
          refine wpAnyH_take (i := 5) (v := ?_) rfl (by kernel_rfl) (by kernel_rfl) (by kernel_rfl) (fun _ _ _ h => h) (Or.inl ⟨by rfl, ?_⟩) hHeld ?_
          rotate_left
          · (intro wa hSw; obtain ⟨bx, p7, p8, rr, rs, hb⟩ := OS.out _ hSw; skip; go_simp; try with_reducible rfl)
          simp only [Act.put, List.getElem_toArray, List.getElem_cons_zero, List.getElem_cons_succ, List.setIfInBounds_toArray, List.set_cons_zero, List.set_cons_succ]
          refine wpAnyH_take (i := 6) (v := ?_) rfl (by kernel_rfl) (by kernel_rfl) (by kernel_rfl) (fun _ _ _ h => h) (Or.inl ⟨by rfl, ?_⟩) hHeld ?_
          rotate_left
          · (intro wa hSw; obtain ⟨bx, p7, p8, rr, rs, hb⟩ := OS.out _ hSw; skip; go_simp; try with_reducible rfl)
          simp only [Act.put, List.getElem_toArray, List.getElem_cons_zero, List.getElem_cons_succ, List.setIfInBounds_toArray, List.set_cons_zero, List.set_cons_succ]
          refine wpAnyH_take (i := 7) (v := ?_) rfl (by kernel_rfl) (by kernel_rfl) (by kernel_rfl) (fun _ _ _ h => h) (Or.inl ⟨by rfl, ?_⟩) hHeld ?_
          rotate_left
          · (intro wa hSw; obtain ⟨bx, p7, p8, rr, rs, hb⟩ := OS.out _ hSw; have d1 := bx.2 1 _ rfl; have d2 := bx.2 2 _ rfl; have d3 := bx.2 3 _ rfl; obtain ⟨p0, p1, p2, p3, p4, p5, p6⟩ := row_cells p7; obtain ⟨r0, r1, r2, r3, r4, r5, r6⟩ := row_cells p8; go_simp; try with_reducible rfl)
          simp only [Act.put, List.getElem_toArray, List.getElem_cons_zero, List.getElem_cons_succ, List.setIfInBounds_toArray, List.set_cons_zero, List.set_cons_succ]
          refine wpAnyH_take (i := 8) (v := ?_) rfl (by kernel_rfl) (by kernel_rfl) (by kernel_rfl) (fun _ _ _ h => h) (Or.inl ⟨by rfl, ?_⟩) hHeld ?_
          rotate_left
          · (intro wa hSw; obtain ⟨bx, p7, p8, rr, rs, hb⟩ := OS.out _ hSw; skip; go_simp; try with_reducible rfl)
          simp only [Act.put, List.getElem_toArray, List.getElem_cons_zero, List.getElem_cons_succ, List.setIfInBounds_toArray, List.set_cons_zero, List.set_cons_succ]
          refine wpAnyH_take (i := 9) (v := ?_) rfl (by kernel_rfl) (by kernel_rfl) (by kernel_rfl) (fun _ _ _ h => h) (Or.inl ⟨by rfl, ?_⟩) hHeld ?_
          rotate_left
          · (intro wa hSw; obtain ⟨bx, p7, p8, rr, rs, hb⟩ := OS.out _ hSw; skip; go_simp; try with_reducible rfl)
          simp only [Act.put, List.getElem_toArray, List.getElem_cons_zero, List.getElem_cons_succ, List.setIfInBounds_toArray, List.set_cons_zero, List.set_cons_succ]
          refine wpAnyH_take (i := 10) (v := ?_) rfl (by kernel_rfl) (by kernel_rfl) (by kernel_rfl) (fun _ _ _ h => h) (Or.inl ⟨by rfl, ?_⟩) hHeld ?_
          rotate_left
          · (intro wa hSw; obtain ⟨bx, p7, p8, rr, rs, hb⟩ := OS.out _ hSw; skip; go_simp; try with_reducible rfl)
          simp only [Act.put, List.getElem_toArray, List.getElem_cons_zero, List.getElem_cons_succ, List.setIfInBounds_toArray, List.set_cons_zero, List.set_cons_succ]
          refine wpAnyH_take (i := 11) (v := ?_) rfl (by kernel_rfl) (by kernel_rfl) (by kernel_rfl) (fun _ _ _ h => h) (Or.inl ⟨by rfl, ?_⟩) hHeld ?_
          rotate_left
          · (intro wa hSw; obtain ⟨bx, p7, p8, rr, rs, hb⟩ := OS.out _ hSw; skip; go_simp; try with_reducible rfl)
          simp only [Act.put, List.getElem_toArray, List.getElem_cons_zero, List.getElem_cons_succ, List.setIfInBounds_toArray, List.set_cons_zero, List.set_cons_succ]
          refine wpAnyH_take (i := 12) (v := ?_) rfl (by kernel_rfl) (by kernel_rfl) (by kernel_rfl) (fun _ _ _ h => h) (Or.inl ⟨by rfl, ?_⟩) hHeld ?_
          rotate_left
          · (intro wa hSw; obtain ⟨bx, p7, p8, rr, rs, hb⟩ := OS.out _ hSw; skip; go_simp; try with_reducible rfl)
          simp only [Act.put, List.getElem_toArray, List.getElem_cons_zero, List.getElem_cons_succ, List.setIfInBounds_toArray, List.set_cons_zero, List.set_cons_succ]
          refine wpAnyH_take (i := 13) (v := ?_) rfl (by kernel_rfl) (by kernel_rfl) (by kernel_rfl) (fun _ _ _ h => h) (Or.inl ⟨by rfl, ?_⟩) hHeld ?_
          rotate_left
          · (intro wa hSw; obtain ⟨bx, p7, p8, rr, rs, hb⟩ := OS.out _ hSw; have d1 := bx.2 1 _ rfl; have d2 := bx.2 2 _ rfl; have d3 := bx.2 3 _ rfl; obtain ⟨p0, p1, p2, p3, p4, p5, p6⟩ := row_cells p7; obtain ⟨r0, r1, r2, r3, r4, r5, r6⟩ := row_cells p8; go_simp; try with_reducible rfl)
          simp only [Act.put, List.getElem_toArray, List.getElem_cons_zero, List.getElem_cons_succ, List.setIfInBounds_toArray, List.set_cons_zero, List.set_cons_succ]
          refine wpAnyH_take (i := 15) (v := ?_) rfl (by kernel_rfl) (by kernel_rfl) (by kernel_rfl) (fun _ _ _ h => h) (Or.inl ⟨by rfl, ?_⟩) hHeld ?_
          rotate_left
          · (intro wa hSw; obtain ⟨bx, p7, p8, rr, rs, hb⟩ := OS.out _ hSw; skip; go_simp; try with_reducible rfl)
          simp only [Act.put, List.getElem_toArray, List.getElem_cons_zero, List.getElem_cons_succ, List.setIfInBounds_toArray, List.set_cons_zero, List.set_cons_succ]
          refine wpAnyH_take (i := 16) (v := ?_) rfl (by kernel_rfl) (by kernel_rfl) (by kernel_rfl) (fun _ _ _ h => h) (Or.inl ⟨by rfl, ?_⟩) hHeld ?_
          rotate_left
          · (intro wa hSw; obtain ⟨bx, p7, p8, rr, rs, hb⟩ := OS.out _ hSw; skip; go_simp; try with_reducible rfl)
          simp only [Act.put, List.getElem_toArray, List.getElem_cons_zero, List.getElem_cons_succ, List.setIfInBounds_toArray, List.set_cons_zero, List.set_cons_succ]
          refine wpAnyH_take (i := 17) (v := ?_) rfl (by kernel_rfl) (by kernel_rfl) (by kernel_rfl) (fun _ _ _ h => h) (Or.inl ⟨by rfl, ?_⟩) hHeld ?_
          rotate_left
          · (intro wa hSw; obtain ⟨bx, p7, p8, rr, rs, hb⟩ := OS.out _ hSw; skip; go_simp; try with_reducible rfl)
          simp only [Act.put, List.getElem_toArray, List.getElem_cons_zero, List.getElem_cons_succ, List.setIfInBounds_toArray, List.set_cons_zero, List.set_cons_succ]
          refine wpAnyH_take (i := 18) (v := ?_) rfl (by kernel_rfl) (by kernel_rfl) (by kernel_rfl) (fun _ _ _ h => h) (Or.inl ⟨by rfl, ?_⟩) hHeld ?_
          rotate_left
          · (intro wa hSw; obtain ⟨bx, p7, p8, rr, rs, hb⟩ := OS.out _ hSw; skip; go_simp; try with_reducible rfl)
          simp only [Act.put, List.getElem_toArray, List.getElem_cons_zero, List.getElem_cons_succ, List.setIfInBounds_toArray, List.set_cons_zero, List.set_cons_succ]
          refine wpAnyH_take (i := 19) (v := ?_) rfl (by kernel_rfl) (by kernel_rfl) (by kernel_rfl) (fun _ _ _ h => h) (Or.inl ⟨by rfl, ?_⟩) hHeld ?_
          rotate_left
          · (intro wa hSw; obtain ⟨bx, p7, p8, rr, rs, hb⟩ := OS.out _ hSw; have d1 := bx.2 1 _ rfl; have d2 := bx.2 2 _ rfl; have d3 := bx.2 3 _ rfl; obtain ⟨p0, p1, p2, p3, p4, p5, p6⟩ := row_cells p7; obtain ⟨r0, r1, r2, r3, r4, r5, r6⟩ := row_cells p8; go_simp; try with_reducible rfl)
          simp only [Act.put, List.getElem_toArray, List.getElem_cons_zero, List.getElem_cons_succ, List.setIfInBounds_toArray, List.set_cons_zero, List.set_cons_succ]
          refine wpAnyH_take (i := 20) (v := ?_) rfl (by kernel_rfl) (by kernel_rfl) (by kernel_rfl) (fun _ _ _ h => h) (Or.inl ⟨by rfl, ?_⟩) hHeld ?_
          rotate_left
          · (intro wa hSw; obtain ⟨bx, p7, p8, rr, rs, hb⟩ := OS.out _ hSw; skip; go_simp; try with_reducible rfl)
          simp only [Act.put, List.getElem_toArray, List.getElem_cons_zero, List.getElem_cons_succ, List.setIfInBounds_toArray, List.set_cons_zero, List.set_cons_succ]
          refine wpAnyH_take (i := 21) (v := ?_) rfl (by kernel_rfl) (by kernel_rfl) (by kernel_rfl) (fun _ _ _ h => h) (Or.inl ⟨by rfl, ?_⟩) hHeld ?_
          rotate_left
          · (intro wa hSw; obtain ⟨bx, p7, p8, rr, rs, hb⟩ := OS.out _ hSw; skip; go_simp; try with_reducible rfl)
          simp only [Act.put, List.getElem_toArray, List.getElem_cons_zero, List.getElem_cons_succ, List.setIfInBounds_toArray, List.set_cons_zero, List.set_cons_succ]
          refine wpAnyH_take (i := 22) (v := ?_) rfl (by kernel_rfl) (by kernel_rfl) (by kernel_rfl) (fun _ _ _ h => h) (Or.inl ⟨by rfl, ?_⟩) hHeld ?_
          rotate_left
          · (intro wa hSw; obtain ⟨bx, p7, p8, rr, rs, hb⟩ := OS.out _ hSw; skip; go_simp; try with_reducible rfl)
          simp only [Act.put, List.getElem_toArray, List.getElem_cons_zero, List.getElem_cons_succ, List.setIfInBounds_toArray, List.set_cons_zero, List.set_cons_succ]
          refine wpAnyH_take (i := 23) (v := ?_) rfl (by kernel_rfl) (by kernel_rfl) (by kernel_rfl) (fun _ _ _ h => h) (Or.inl ⟨by rfl, ?_⟩) hHeld ?_
          rotate_left
          · (intro wa hSw; obtain ⟨bx, p7, p8, rr, rs, hb⟩ := OS.out _ hSw; skip; go_simp; try with_reducible rfl)
          simp only [Act.put, List.getElem_toArray, List.getElem_cons_zero, List.getElem_cons_succ, List.setIfInBounds_toArray, List.set_cons_zero, List.set_cons_succ]
          refine wpAnyH_take (i := 24) (v := ?_) rfl (by kernel_rfl) (by kernel_rfl) (by kernel_rfl) (fun _ _ _ h => h) (Or.inl ⟨by rfl, ?_⟩) hHeld ?_
          rotate_left
          · (intro wa hSw; obtain ⟨bx, p7, p8, rr, rs, hb⟩ := OS.out _ hSw; have d1 := bx.2 1 _ rfl; have d2 := bx.2 2 _ rfl; have d3 := bx.2 3 _ rfl; obtain ⟨p0, p1, p2, p3, p4, p5, p6⟩ := row_cells p7; obtain ⟨r0, r1, r2, r3, r4, r5, r6⟩ := row_cells p8; go_simp; try with_reducible rfl)
          simp only [Act.put, List.getElem_toArray, List.getElem_cons_zero, List.getElem_cons_succ, List.setIfInBounds_toArray, List.set_cons_zero, List.set_cons_succ]
          refine wpAnyH_take (i := 25) (v := ?_) rfl (by kernel_rfl) (by kernel_rfl) (by kernel_rfl) (fun _ _ _ h => h) (Or.inl ⟨by rfl, ?_⟩) hHeld ?_
          rotate_left
          · (intro wa hSw; obtain ⟨bx, p7, p8, rr, rs, hb⟩ := OS.out _ hSw; skip; go_simp; try with_reducible rfl)
          simp only [Act.put, List.getElem_toArray, List.getElem_cons_zero, List.getElem_cons_succ, List.setIfInBounds_toArray, List.set_cons_zero, List.set_cons_succ]
          refine wpAnyH_ready (rs := [14]) (by kernel_rfl) (by simp) ?_
          refine AllReadyH.cons (o := _) rfl (fun K hK => ?_) AllReadyH.nil
          go_simp
          obtain ⟨bx, p7, p8, rr, rs, hb⟩ := OS.out _ hHeld
          refine (CD.out _).mono ?_
          rintro e w101 ⟨rfl, b101⟩
          clear bx p7 p8 rr rs hb
          (try go_wp2_with fail)
          refine hK.out _ _ ?_ (fun hHeld101 => ?_)
          · exact KS.out _ _ hHeld b101
          clear hK K
          refine wpAnyH_take (i := 26) (v := ?_) rfl (by kernel_rfl) (by kernel_rfl) (by kernel_rfl) (fun _ _ _ h => h) (Or.inl ⟨by rfl, ?_⟩) hHeld101 ?_
          rotate_left
          · (intro wa hSw; obtain ⟨bx, p7, p8, rr, rs, hb⟩ := OS.out _ hSw; skip; go_simp; try with_reducible rfl)
          simp only [Act.put, List.getElem_toArray, List.getElem_cons_zero, List.getElem_cons_succ, List.setIfInBounds_toArray, List.set_cons_zero, List.set_cons_succ]
          refine wpAnyH_take (i := 27) (v := ?_) rfl (by kernel_rfl) (by kernel_rfl) (by kernel_rfl) (fun _ _ _ h => h) (Or.inl ⟨by rfl, ?_⟩) hHeld101 ?_
          rotate_left
          · (intro wa hSw; obtain ⟨bx, p7, p8, rr, rs, hb⟩ := OS.out _ hSw; skip; go_simp; try with_reducible rfl)
          simp only [Act.put, List.getElem_toArray, List.getElem_cons_zero, List.getElem_cons_succ, List.setIfInBounds_toArray, List.set_cons_zero, List.set_cons_succ]
          refine wpAnyH_take (i := 28) (v := ?_) rfl (by kernel_rfl) (by kernel_rfl) (by kernel_rfl) (fun _ _ _ h => h) (Or.inl ⟨by rfl, ?_⟩) hHeld101 ?_
          rotate_left
          · (intro wa hSw; obtain ⟨bx, p7, p8, rr, rs, hb⟩ := OS.out _ hSw; skip; go_simp; try with_reducible rfl)
          simp only [Act.put, List.getElem_toArray, List.getElem_cons_zero, List.getElem_cons_succ, List.setIfInBounds_toArray, List.set_cons_zero, List.set_cons_succ]
          refine wpAnyH_take (i := 29) (v := ?_) rfl (by kernel_rfl) (by kernel_rfl) (by kernel_rfl) (fun _ _ _ h => h) (Or.inl ⟨by rfl, ?_⟩) hHeld101 ?_
          rotate_left
          · (intro wa hSw; obtain ⟨bx, p7, p8, rr, rs, hb⟩ := OS.out _ hSw; skip; go_simp; try with_reducible rfl)
          simp only [Act.put, List.getElem_toArray, List.getElem_cons_zero, List.getElem_cons_succ, List.setIfInBounds_toArray, List.set_cons_zero, List.set_cons_succ]
          refine wpAnyH_take (i := 30) (v := ?_) rfl (by kernel_rfl) (by kernel_rfl) (by kernel_rfl) (fun _ _ _ h => h) (Or.inl ⟨by rfl, ?_⟩) hHeld101 ?_
          rotate_left
          · (intro wa hSw; obtain ⟨bx, p7, p8, rr, rs, hb⟩ := OS.out _ hSw; skip; go_simp; try with_reducible rfl)
          simp only [Act.put, List.getElem_toArray, List.getElem_cons_zero, List.getElem_cons_succ, List.setIfInBounds_toArray, List.set_cons_zero, List.set_cons_succ]
          refine wpAnyH_take (i := 31) (v := ?_) rfl (by kernel_rfl) (by kernel_rfl) (by kernel_rfl) (fun _ _ _ h => h) (Or.inl ⟨by rfl, ?_⟩) hHeld101 ?_
          rotate_left
          · (intro wa hSw; obtain ⟨bx, p7, p8, rr, rs, hb⟩ := OS.out _ hSw; skip; go_simp; try with_reducible rfl)
          simp only [Act.put, List.getElem_toArray, List.getElem_cons_zero, List.getElem_cons_succ, List.setIfInBounds_toArray, List.set_cons_zero, List.set_cons_succ]
          refine wpAnyH_take (i := 32) (v := ?_) rfl (by kernel_rfl) (by kernel_rfl) (by kernel_rfl) (fun _ _ _ h => h) (Or.inl ⟨by rfl, ?_⟩) hHeld101 ?_
          rotate_left
          · (intro wa hSw; obtain ⟨bx, p7, p8, rr, rs, hb⟩ := OS.out _ hSw; skip; go_simp; try with_reducible rfl)
          simp only [Act.put, List.getElem_toArray, List.getElem_cons_zero, List.getElem_cons_succ, List.setIfInBounds_toArray, List.set_cons_zero, List.set_cons_succ]
          refine wpAnyH_take (i := 33) (v := ?_) rfl (by kernel_rfl) (by kernel_rfl) (by kernel_rfl) (fun _ _ _ h => h) (Or.inl ⟨by rfl, ?_⟩) hHeld101 ?_
          rotate_left
          · (intro wa hSw; obtain ⟨bx, p7, p8, rr, rs, hb⟩ := OS.out _ hSw; have d1 := bx.2 1 _ rfl; have d2 := bx.2 2 _ rfl; have d3 := bx.2 3 _ rfl; obtain ⟨p0, p1, p2, p3, p4, p5, p6⟩ := row_cells p7; obtain ⟨r0, r1, r2, r3, r4, r5, r6⟩ := row_cells p8; go_simp; try with_reducible rfl)
          simp only [Act.put, List.getElem_toArray, List.getElem_cons_zero, List.getElem_cons_succ, List.setIfInBounds_toArray, List.set_cons_zero, List.set_cons_succ]
          refine wpAnyH_take (i := 34) (v := ?_) rfl (by kernel_rfl) (by kernel_rfl) (by kernel_rfl) (fun _ _ _ h => h) (Or.inl ⟨by rfl, ?_⟩) hHeld101 ?_
          rotate_left
          · (intro wa hSw; obtain ⟨bx, p7, p8, rr, rs, hb⟩ := OS.out _ hSw; skip; go_simp; try with_reducible rfl)
          simp only [Act.put, List.getElem_toArray, List.getElem_cons_zero, List.getElem_cons_succ, List.setIfInBounds_toArray, List.set_cons_zero, List.set_cons_succ]
          refine wpAnyH_take (i := 35) (v := ?_) rfl (by kernel_rfl) (by kernel_rfl) (by kernel_rfl) (fun _ _ _ h => h) (Or.inl ⟨by rfl, ?_⟩) hHeld101 ?_
          rotate_left
          · (intro wa hSw; obtain ⟨bx, p7, p8, rr, rs, hb⟩ := OS.out _ hSw; skip; go_simp; try with_reducible rfl)
          simp only [Act.put, List.getElem_toArray, List.getElem_cons_zero, List.getElem_cons_succ, List.setIfInBounds_toArray, List.set_cons_zero, List.set_cons_succ]
          refine wpAnyH_take (i := 36) (v := ?_) rfl (by kernel_rfl) (by kernel_rfl) (by kernel_rfl) (fun _ _ _ h => h) (Or.inl ⟨by rfl, ?_⟩) hHeld101 ?_
          rotate_left
          · (intro wa hSw; obtain ⟨bx, p7, p8, rr, rs, hb⟩ := OS.out _ hSw; have d1 := bx.2 1 _ rfl; have d2 := bx.2 2 _ rfl; have d3 := bx.2 3 _ rfl; obtain ⟨p0, p1, p2, p3, p4, p5, p6⟩ := row_cells p7; obtain ⟨r0, r1, r2, r3, r4, r5, r6⟩ := row_cells p8; go_simp; try with_reducible rfl)
          simp only [Act.put, List.getElem_toArray, List.getElem_cons_zero, List.getElem_cons_succ, List.setIfInBounds_toArray, List.set_cons_zero, List.set_cons_succ]
          refine wpAnyH_take (i := 37) (v := ?_) rfl (by kernel_rfl) (by kernel_rfl) (by kernel_rfl) (fun _ _ _ h => h) (Or.inl ⟨by rfl, ?_⟩) hHeld101 ?_
          rotate_left
          · (intro wa hSw; obtain ⟨bx, p7, p8, rr, rs, hb⟩ := OS.out _ hSw; skip; go_simp; try with_reducible rfl)
          simp only [Act.put, List.getElem_toArray, List.getElem_cons_zero, List.getElem_cons_succ, List.setIfInBounds_toArray, List.set_cons_zero, List.set_cons_succ]
          refine wpAnyH_take (i := 38) (v := ?_) rfl (by kernel_rfl) (by kernel_rfl) (by kernel_rfl) (fun _ _ _ h => h) (Or.inl ⟨by rfl, ?_⟩) hHeld101 ?_
          rotate_left
          · (intro wa hSw; obtain ⟨bx, p7, p8, rr, rs, hb⟩ := OS.out _ hSw; skip; go_simp; try with_reducible rfl)
          simp only [Act.put, List.getElem_toArray, List.getElem_cons_zero, List.getElem_cons_succ, List.setIfInBounds_toArray, List.set_cons_zero, List.set_cons_succ]
          refine wpAnyH_take (i := 39) (v := ?_) rfl (by kernel_rfl) (by kernel_rfl) (by kernel_rfl) (fun _ _ _ h => h) (Or.inl ⟨by rfl, ?_⟩) hHeld101 ?_
          rotate_left
          · (intro wa hSw; obtain ⟨bx, p7, p8, rr, rs, hb⟩ := OS.out _ hSw; skip; go_simp; try with_reducible rfl)
          simp only [Act.put, List.getElem_toArray, List.getElem_cons_zero, List.getElem_cons_succ, List.setIfInBounds_toArray, List.set_cons_zero, List.set_cons_succ]
          refine wpAnyH_take (i := 40) (v := ?_) rfl (by kernel_rfl) (by kernel_rfl) (by kernel_rfl) (fun _ _ _ h => h) (Or.inl ⟨by rfl, ?_⟩) hHeld101 ?_
          rotate_left
          · (intro wa hSw; obtain ⟨bx, p7, p8, rr, rs, hb⟩ := OS.out _ hSw; skip; go_simp; try with_reducible rfl)
          simp only [Act.put, List.getElem_toArray, List.getElem_cons_zero, List.getElem_cons_succ, List.setIfInBounds_toArray, List.set_cons_zero, List.set_cons_succ]
          refine wpAnyH_take (i := 41) (v := ?_) rfl (by kernel_rfl) (by kernel_rfl) (by kernel_rfl) (fun _ _ _ h => h) (Or.inl ⟨by rfl, ?_⟩) hHeld101 ?_
          rotate_left
          · (intro wa hSw; obtain ⟨bx, p7, p8, rr, rs, hb⟩ := OS.out _ hSw; have d1 := bx.2 1 _ rfl; have d2 := bx.2 2 _ rfl; have d3 := bx.2 3 _ rfl; obtain ⟨p0, p1, p2, p3, p4, p5, p6⟩ := row_cells p7; obtain ⟨r0, r1, r2, r3, r4, r5, r6⟩ := row_cells p8; go_simp; try with_reducible rfl)
          simp only [Act.put, List.getElem_toArray, List.getElem_cons_zero, List.getElem_cons_succ, List.setIfInBounds_toArray, List.set_cons_zero, List.set_cons_succ]
          refine wpAnyH_take (i := 42) (v := ?_) rfl (by kernel_rfl) (by kernel_rfl) (by kernel_rfl) (fun _ _ _ h => h) (Or.inl ⟨by rfl, ?_⟩) hHeld101 ?_
          rotate_left
          · (intro wa hSw; obtain ⟨bx, p7, p8, rr, rs, hb⟩ := OS.out _ hSw; skip; go_simp; try with_reducible rfl)
          simp only [Act.put, List.getElem_toArray, List.getElem_cons_zero, List.getElem_cons_succ, List.setIfInBounds_toArray, List.set_cons_zero, List.set_cons_succ]
          refine wpAnyH_take (i := 43) (v := ?_) rfl (by kernel_rfl) (by kernel_rfl) (by kernel_rfl) (fun _ _ _ h => h) (Or.inl ⟨by rfl, ?_⟩) hHeld101 ?_
          rotate_left
          · (intro wa hSw; obtain ⟨bx, p7, p8, rr, rs, hb⟩ := OS.out _ hSw; skip; go_simp; try with_reducible rfl)
          simp only [Act.put, List.getElem_toArray, List.getElem_cons_zero, List.getElem_cons_succ, List.setIfInBounds_toArray, List.set_cons_zero, List.set_cons_succ]
          refine wpAnyH_take (i := 44) (v := ?_) rfl (by kernel_rfl) (by kernel_rfl) (by kernel_rfl) (fun _ _ _ h => h) (Or.inl ⟨by rfl, ?_⟩) hHeld101 ?_
          rotate_left
          · (intro wa hSw; obtain ⟨bx, p7, p8, rr, rs, hb⟩ := OS.out _ hSw; skip; go_simp; try with_reducible rfl)
          simp only [Act.put, List.getElem_toArray, List.getElem_cons_zero, List.getElem_cons_succ, List.setIfInBounds_toArray, List.set_cons_zero, List.set_cons_succ]
          refine wpAnyH_take (i := 45) (v := ?_) rfl (by kernel_rfl) (by kernel_rfl) (by kernel_rfl) (fun _ _ _ h => h) (Or.inl ⟨by rfl, ?_⟩) hHeld101 ?_
          rotate_left
          · (intro wa hSw; obtain ⟨bx, p7, p8, rr, rs, hb⟩ := OS.out _ hSw; have d1 := bx.2 1 _ rfl; have d2 := bx.2 2 _ rfl; have d3 := bx.2 3 _ rfl; obtain ⟨p0, p1, p2, p3, p4, p5, p6⟩ := row_cells p7; obtain ⟨r0, r1, r2, r3, r4, r5, r6⟩ := row_cells p8; go_simp; try with_reducible rfl)
          simp only [Act.put, List.getElem_toArray, List.getElem_cons_zero, List.getElem_cons_succ, List.setIfInBounds_toArray, List.set_cons_zero, List.set_cons_succ]
          refine wpAnyH_take (i := 46) (v := ?_) rfl (by kernel_rfl) (by kernel_rfl) (by kernel_rfl) (fun _ _ _ h => h) (Or.inl ⟨by rfl, ?_⟩) hHeld101 ?_
          rotate_left
          · (intro wa hSw; obtain ⟨bx, p7, p8, rr, rs, hb⟩ := OS.out _ hSw; skip; go_simp; try with_reducible rfl)
          simp only [Act.put, List.getElem_toArray, List.getElem_cons_zero, List.getElem_cons_succ, List.setIfInBounds_toArray, List.set_cons_zero, List.set_cons_succ]
          refine wpAnyH_take (i := 47) (v := ?_) rfl (by kernel_rfl) (by kernel_rfl) (by kernel_rfl) (fun _ _ _ h => h) (Or.inl ⟨by rfl, ?_⟩) hHeld101 ?_
          rotate_left
          · (intro wa hSw; obtain ⟨bx, p7, p8, rr, rs, hb⟩ := OS.out _ hSw; skip; go_simp; try with_reducible rfl)
          simp only [Act.put, List.getElem_toArray, List.getElem_cons_zero, List.getElem_cons_succ, List.setIfInBounds_toArray, List.set_cons_zero, List.set_cons_succ]
          refine wpAnyH_take (i := 48) (v := ?_) rfl (by kernel_rfl) (by kernel_rfl) (by kernel_rfl) (fun _ _ _ h => h) (Or.inl ⟨by rfl, ?_⟩) hHeld101 ?_
          rotate_left
          · (intro wa hSw; obtain ⟨bx, p7, p8, rr, rs, hb⟩ := OS.out _ hSw; skip; go_simp; try with_reducible rfl)
          simp only [Act.put, List.getElem_toArray, List.getElem_cons_zero, List.getElem_cons_succ, List.setIfInBounds_toArray, List.set_cons_zero, List.set_cons_succ]
          refine wpAnyH_take (i := 49) (v := ?_) rfl (by kernel_rfl) (by kernel_rfl) (by kernel_rfl) (fun _ _ _ h => h) (Or.inl ⟨by rfl, ?_⟩) hHeld101 ?_
          rotate_left
          · (intro wa hSw; obtain ⟨bx, p7, p8, rr, rs, hb⟩ := OS.out _ hSw; skip; go_simp; try with_reducible rfl)
          simp only [Act.put, List.getElem_toArray, List.getElem_cons_zero, List.getElem_cons_succ, List.setIfInBounds_toArray, List.set_cons_zero, List.set_cons_succ]
          refine wpAnyH_take (i := 50) (v := ?_) rfl (by kernel_rfl) (by kernel_rfl) (by kernel_rfl) (fun _ _ _ h => h) (Or.inl ⟨by rfl, ?_⟩) hHeld101 ?_
          rotate_left
          · (intro wa hSw; obtain ⟨bx, p7, p8, rr, rs, hb⟩ := OS.out _ hSw; have d1 := bx.2 1 _ rfl; have d2 := bx.2 2 _ rfl; have d3 := bx.2 3 _ rfl; obtain ⟨p0, p1, p2, p3, p4, p5, p6⟩ := row_cells p7; obtain ⟨r0, r1, r2, r3, r4, r5, r6⟩ := row_cells p8; go_simp; try with_reducible rfl)
          simp only [Act.put, List.getElem_toArray, List.getElem_cons_zero, List.getElem_cons_succ, List.setIfInBounds_toArray, List.set_cons_zero, List.set_cons_succ]
          refine wpAnyH_take (i := 51) (v := ?_) rfl (by kernel_rfl) (by kernel_rfl) (by kernel_rfl) (fun _ _ _ h => h) (Or.inl ⟨by rfl, ?_⟩) hHeld101 ?_
          rotate_left
          · (intro wa hSw; obtain ⟨bx, p7, p8, rr, rs, hb⟩ := OS.out _ hSw; skip; go_simp; try with_reducible rfl)
          simp only [Act.put, List.getElem_toArray, List.getElem_cons_zero, List.getElem_cons_succ, List.setIfInBounds_toArray, List.set_cons_zero, List.set_cons_succ]
          refine wpAnyH_take (i := 52) (v := ?_) rfl (by kernel_rfl) (by kernel_rfl) (by kernel_rfl) (fun _ _ _ h => h) (Or.inl ⟨by rfl, ?_⟩) hHeld101 ?_
          rotate_left
          · (intro wa hSw; obtain ⟨bx, p7, p8, rr, rs, hb⟩ := OS.out _ hSw; skip; go_simp; try with_reducible rfl)
          simp only [Act.put, List.getElem_toArray, List.getElem_cons_zero, List.getElem_cons_succ, List.setIfInBounds_toArray, List.set_cons_zero, List.set_cons_succ]
          refine wpAnyH_take (i := 53) (v := ?_) rfl (by kernel_rfl) (by kernel_rfl) (by kernel_rfl) (fun _ _ _ h => h) (Or.inl ⟨by rfl, ?_⟩) hHeld101 ?_
          rotate_left
          · (intro wa hSw; obtain ⟨bx, p7, p8, rr, rs, hb⟩ := OS.out _ hSw; skip; go_simp; try with_reducible rfl)
          simp only [Act.put, List.getElem_toArray, List.getElem_cons_zero, List.getElem_cons_succ, List.setIfInBounds_toArray, List.set_cons_zero, List.set_cons_succ]
          refine wpAnyH_take (i := 54) (v := ?_) rfl (by kernel_rfl) (by kernel_rfl) (by kernel_rfl) (fun _ _ _ h => h) (Or.inl ⟨by rfl, ?_⟩) hHeld101 ?_
          rotate_left
          · (intro wa hSw; obtain ⟨bx, p7, p8, rr, rs, hb⟩ := OS.out _ hSw; skip; go_simp; try with_reducible rfl)
          simp only [Act.put, List.getElem_toArray, List.getElem_cons_zero, List.getElem_cons_succ, List.setIfInBounds_toArray, List.set_cons_zero, List.set_cons_succ]
          refine wpAnyH_take (i := 55) (v := ?_) rfl (by kernel_rfl) (by kernel_rfl) (by kernel_rfl) (fun _ _ _ h => h) (Or.inl ⟨by rfl, ?_⟩) hHeld101 ?_
          rotate_left
          · (intro wa hSw; obtain ⟨bx, p7, p8, rr, rs, hb⟩ := OS.out _ hSw; have d1 := bx.2 1 _ rfl; have d2 := bx.2 2 _ rfl; have d3 := bx.2 3 _ rfl; obtain ⟨p0, p1, p2, p3, p4, p5, p6⟩ := row_cells p7; obtain ⟨r0, r1, r2, r3, r4, r5, r6⟩ := row_cells p8; go_simp; try with_reducible rfl)
          simp only [Act.put, List.getElem_toArray, List.getElem_cons_zero, List.getElem_cons_succ, List.setIfInBounds_toArray, List.set_cons_zero, List.set_cons_succ]
          refine wpAnyH_take (i := 56) (v := ?_) rfl (by kernel_rfl) (by kernel_rfl) (by kernel_rfl) (fun _ _ _ h => h) (Or.inl ⟨by rfl, ?_⟩) hHeld101 ?_
          rotate_left
          · (intro wa hSw; obtain ⟨bx, p7, p8, rr, rs, hb⟩ := OS.out _ hSw; skip; go_simp; try with_reducible rfl)
          simp only [Act.put, List.getElem_toArray, List.getElem_cons_zero, List.getElem_cons_succ, List.setIfInBounds_toArray, List.set_cons_zero, List.set_cons_succ]
          refine wpAnyH_take (i := 57) (v := ?_) rfl (by kernel_rfl) (by kernel_rfl) (by kernel_rfl) (fun _ _ _ h => h) (Or.inl ⟨by rfl, ?_⟩) hHeld101 ?_
          rotate_left
          · (intro wa hSw; obtain ⟨bx, p7, p8, rr, rs, hb⟩ := OS.out _ hSw; skip; go_simp; try with_reducible rfl)
          simp only [Act.put, List.getElem_toArray, List.getElem_cons_zero, List.getElem_cons_succ, List.setIfInBounds_toArray, List.set_cons_zero, List.set_cons_succ]
          refine wpAnyH_take (i := 58) (v := ?_) rfl (by kernel_rfl) (by kernel_rfl) (by kernel_rfl) (fun _ _ _ h => h) (Or.inl ⟨by rfl, ?_⟩) hHeld101 ?_
          rotate_left
          · (intro wa hSw; obtain ⟨bx, p7, p8, rr, rs, hb⟩ := OS.out _ hSw; skip; go_simp; try with_reducible rfl)
          simp only [Act.put, List.getElem_toArray, List.getElem_cons_zero, List.getElem_cons_succ, List.setIfInBounds_toArray, List.set_cons_zero, List.set_cons_succ]
          refine wpAnyH_take (i := 59) (v := ?_) rfl (by kernel_rfl) (by kernel_rfl) (by kernel_rfl) (fun _ _ _ h => h) (Or.inl ⟨by rfl, ?_⟩) hHeld101 ?_
          rotate_left
          · (intro wa hSw; obtain ⟨bx, p7, p8, rr, rs, hb⟩ := OS.out _ hSw; skip; go_simp; try with_reducible rfl)
          simp only [Act.put, List.getElem_toArray, List.getElem_cons_zero, List.getElem_cons_succ, List.setIfInBounds_toArray, List.set_cons_zero, List.set_cons_succ]
          refine wpAnyH_take (i := 60) (v := ?_) rfl (by kernel_rfl) (by kernel_rfl) (by kernel_rfl) (fun _ _ _ h => h) (Or.inl ⟨by rfl, ?_⟩) hHeld101 ?_
          rotate_left
          · (intro wa hSw; obtain ⟨bx, p7, p8, rr, rs, hb⟩ := OS.out _ hSw; have d1 := bx.2 1 _ rfl; have d2 := bx.2 2 _ rfl; have d3 := bx.2 3 _ rfl; obtain ⟨p0, p1, p2, p3, p4, p5, p6⟩ := row_cells p7; obtain ⟨r0, r1, r2, r3, r4, r5, r6⟩ := row_cells p8; go_simp; try with_reducible rfl)
          simp only [Act.put, List.getElem_toArray, List.getElem_cons_zero, List.getElem_cons_succ, List.setIfInBounds_toArray, List.set_cons_zero, List.set_cons_succ]
          refine wpAnyH_take (i := 61) (v := ?_) rfl (by kernel_rfl) (by kernel_rfl) (by kernel_rfl) (fun _ _ _ h => h) (Or.inl ⟨by rfl, ?_⟩) hHeld101 ?_
          rotate_left
          · (intro wa hSw; obtain ⟨bx, p7, p8, rr, rs, hb⟩ := OS.out _ hSw; skip; go_simp; try with_reducible rfl)
          simp only [Act.put, List.getElem_toArray, List.getElem_cons_zero, List.getElem_cons_succ, List.setIfInBounds_toArray, List.set_cons_zero, List.set_cons_succ]
          refine wpAnyH_take (i := 62) (v := ?_) rfl (by kernel_rfl) (by kernel_rfl) (by kernel_rfl) (fun _ _ _ h => h) (Or.inl ⟨by rfl, ?_⟩) hHeld101 ?_
          rotate_left
          · (intro wa hSw; obtain ⟨bx, p7, p8, rr, rs, hb⟩ := OS.out _ hSw; skip; go_simp; try with_reducible rfl)
          simp only [Act.put, List.getElem_toArray, List.getElem_cons_zero, List.getElem_cons_succ, List.setIfInBounds_toArray, List.set_cons_zero, List.set_cons_succ]
          refine wpAnyH_take (i := 63) (v := ?_) rfl (by kernel_rfl) (by kernel_rfl) (by kernel_rfl) (fun _ _ _ h => h) (Or.inl ⟨by rfl, ?_⟩) hHeld101 ?_
          rotate_left
          · (intro wa hSw; obtain ⟨bx, p7, p8, rr, rs, hb⟩ := OS.out _ hSw; skip; go_simp; try with_reducible rfl)
          simp only [Act.put, List.getElem_toArray, List.getElem_cons_zero, List.getElem_cons_succ, List.setIfInBounds_toArray, List.set_cons_zero, List.set_cons_succ]
          refine wpAnyH_take (i := 64) (v := ?_) rfl (by kernel_rfl) (by kernel_rfl) (by kernel_rfl) (fun _ _ _ h => h) (Or.inl ⟨by rfl, ?_⟩) hHeld101 ?_
          rotate_left
          · (intro wa hSw; obtain ⟨bx, p7, p8, rr, rs, hb⟩ := OS.out _ hSw; skip; go_simp; try with_reducible rfl)
          simp only [Act.put, List.getElem_toArray, List.getElem_cons_zero, List.getElem_cons_succ, List.setIfInBounds_toArray, List.set_cons_zero, List.set_cons_succ]
          refine wpAnyH_done (by kernel_rfl) ?_ _
          obtain ⟨bx, p7, p8, rr, rs, hb⟩ := OS.out _ hHeld101
          clear KS OS hHeld hHeld101
          go_wp2
          go_roundw
          case rel => exact ⟨t + 1, by omega, by go_num, bx, rr, rs, hb⟩
          case measure => simp [intOf]; omega
        obtain rfl : n = t := by omega
        have hlead := lead_pos T n (by omega)
        obtain ⟨j, hj⟩ : ∃ j : Nat, leadP T n = j := ⟨(leadP T n).toNat, by omega⟩
        have hjn : j < n := by omega
        have hjn' : (j : Int) < n := by omega
        rw [hj] at CL
        have CA : Hid (∀ wa, Calls Try.prog 19 #[.agg #[.int .i64 (T j).played, .int .i64 (T j).wins, .int .i64 (T j).draws, .int .i64 (T j).losses, .int .i64 (T j).scored, .int .i64 (T j).against, .int .i64 (T j).points], .agg #[.int .i64 0, .int .i64 0, .int .i64 0, .int .i64 0, .int .i64 0, .int .i64 0, .int .i64 0]] wa fun e w' => e = .returned (.agg #[.int .i64 (T j).played, .int .i64 (T j).wins, .int .i64 (T j).draws, .int .i64 (T j).losses, .int .i64 (T j).scored, .int .i64 (T j).against, .int .i64 (T j).points]) ∧ Below wa.heap.size wa w') := fun wa => CAR.out (T j) (HBd.out j) wa
        clear hlead hj CAR CDF HRI hlt3 BX RS IG IL HSEL
        go_wp2_with fail
        refine (CL.out _ _ RR.out).mono ?_
        rintro e wl ⟨rfl, bl⟩
        have rr := RR.out.below bl (Nat.le_refl _)
        have hb := HB.out.trans (bl.mono hsz)
        obtain ⟨bo, off, rfl, hcap, pj⟩ := lead_at rr hjn
        generalize T j = y at pj CA
        clear RR HB bl CL HBd hsz
        obtain ⟨S, HSd⟩ : ∃ S : World → Prop, S = fun w' => CellsAt w' bo (off + j * 7) (RowD.cells y) ∧ RowRow w' (.slice (some ⟨bo, off, none⟩) n s7c) n T ∧ Below w.heap.size w w' := ⟨_, rfl⟩
        have KS : Hid (∀ wa wb, S wa → Below wa.heap.size wa wb → S wb) := by subst HSd; exact fun wa wb ⟨pj, rr, hb⟩ b0 => ⟨pj.below b0, rr.below b0 (Nat.le_refl _), hb.trans (b0.mono hb.size)⟩
        have OS : Hid (∀ wa, S wa → CellsAt wa bo (off + j * 7) (RowD.cells y) ∧ RowRow wa (.slice (some ⟨bo, off, none⟩) n s7c) n T ∧ Below w.heap.size w wa) := by subst HSd; exact fun wa h => h
        have KS0 : Hid (S wl.drew) := by subst HSd; exact (fun (b0 : Below wl.heap.size wl wl.drew) => ⟨pj.below b0, rr.below b0 (Nat.le_refl _), hb.trans (b0.mono hb.size)⟩) (Below.refl _ _).drew
        clear HSd
        go_wp2_with fail
        refine wp_region_held_drew (S := S) (by kernel_rfl) ?_ (fun hHeld => ?_)
        · exact KS0.out
        clear KS0 pj rr hb
        refine wpAnyH_take (i := 0) (v := ?_) rfl (by kernel_rfl) (by kernel_rfl) (by kernel_rfl) (fun _ _ _ h => h) (Or.inl ⟨by rfl, ?_⟩) hHeld ?_
        rotate_left
        · (intro wa hSw; obtain ⟨pj, rr, hb⟩ := OS.out _ hSw; skip; go_simp; try with_reducible rfl)
        simp only [Act.put, List.getElem_toArray, List.getElem_cons_zero, List.setIfInBounds_toArray, List.set_cons_zero, List.set_cons_succ]
        refine wpAnyH_take (i := 2) (v := ?_) rfl (by kernel_rfl) (by kernel_rfl) (by kernel_rfl) (fun _ _ _ h => h) (Or.inl ⟨by rfl, ?_⟩) hHeld ?_
        rotate_left
        · (intro wa hSw; obtain ⟨pj, rr, hb⟩ := OS.out _ hSw; skip; go_simp; try with_reducible rfl)
        simp only [Act.put, List.getElem_toArray, List.getElem_cons_zero, List.getElem_cons_succ, List.setIfInBounds_toArray, List.set_cons_zero, List.set_cons_succ]
        refine wpAnyH_ready (rs := [1]) (by kernel_rfl) (by simp) ?_
        refine AllReadyH.cons (o := _) rfl (fun K hK => ?_) AllReadyH.nil
        go_simp
        obtain ⟨pj, rr, hb⟩ := OS.out _ hHeld
        refine (CTP.out _ _ rr).mono ?_
        rintro e w101 ⟨rfl, b101⟩
        clear pj rr hb
        (try go_wp2_with fail)
        refine hK.out _ _ ?_ (fun hHeld101 => ?_)
        · exact KS.out _ _ hHeld b101
        clear hK K
        refine wpAnyH_take (i := 3) (v := ?_) rfl (by kernel_rfl) (by kernel_rfl) (by kernel_rfl) (fun _ _ _ h => h) (Or.inl ⟨by rfl, ?_⟩) hHeld101 ?_
        rotate_left
        · (intro wa hSw; obtain ⟨pj, rr, hb⟩ := OS.out _ hSw; skip; go_simp; try with_reducible rfl)
        simp only [Act.put, List.getElem_toArray, List.getElem_cons_zero, List.getElem_cons_succ, List.setIfInBounds_toArray, List.set_cons_zero, List.set_cons_succ]
        refine wpAnyH_take (i := 4) (v := ?_) rfl (by kernel_rfl) (by kernel_rfl) (by kernel_rfl) (fun _ _ _ h => h) (Or.inl ⟨by rfl, ?_⟩) hHeld101 ?_
        rotate_left
        · (intro wa hSw; obtain ⟨pj, rr, hb⟩ := OS.out _ hSw; skip; go_simp; try with_reducible rfl)
        simp only [Act.put, List.getElem_toArray, List.getElem_cons_zero, List.getElem_cons_succ, List.setIfInBounds_toArray, List.set_cons_zero, List.set_cons_succ]
        refine wpAnyH_take (i := 5) (v := ?_) rfl (by kernel_rfl) (by kernel_rfl) (by kernel_rfl) (fun _ _ _ h => h) (Or.inl ⟨by rfl, ?_⟩) hHeld101 ?_
        rotate_left
        · (intro wa hSw; obtain ⟨pj, rr, hb⟩ := OS.out _ hSw; skip; go_simp; try with_reducible rfl)
        simp only [Act.put, List.getElem_toArray, List.getElem_cons_zero, List.getElem_cons_succ, List.setIfInBounds_toArray, List.set_cons_zero, List.set_cons_succ]
        refine wpAnyH_take (i := 6) (v := ?_) rfl (by kernel_rfl) (by kernel_rfl) (by kernel_rfl) (fun _ _ _ h => h) (Or.inl ⟨by rfl, ?_⟩) hHeld101 ?_
        rotate_left
        · (intro wa hSw; obtain ⟨pj, rr, hb⟩ := OS.out _ hSw; skip; go_simp; try with_reducible rfl)
        simp only [Act.put, List.getElem_toArray, List.getElem_cons_zero, List.getElem_cons_succ, List.setIfInBounds_toArray, List.set_cons_zero, List.set_cons_succ]
        refine wpAnyH_take (i := 7) (v := ?_) rfl (by kernel_rfl) (by kernel_rfl) (by kernel_rfl) (fun _ _ _ h => h) (Or.inl ⟨by rfl, ?_⟩) hHeld101 ?_
        rotate_left
        · (intro wa hSw; obtain ⟨pj, rr, hb⟩ := OS.out _ hSw; skip; go_simp; try with_reducible rfl)
        simp only [Act.put, List.getElem_toArray, List.getElem_cons_zero, List.getElem_cons_succ, List.setIfInBounds_toArray, List.set_cons_zero, List.set_cons_succ]
        refine wpAnyH_take (i := 8) (v := ?_) rfl (by kernel_rfl) (by kernel_rfl) (by kernel_rfl) (fun _ _ _ h => h) (Or.inl ⟨by rfl, ?_⟩) hHeld101 ?_
        rotate_left
        · (intro wa hSw; obtain ⟨pj, rr, hb⟩ := OS.out _ hSw; skip; go_simp; try with_reducible rfl)
        simp only [Act.put, List.getElem_toArray, List.getElem_cons_zero, List.getElem_cons_succ, List.setIfInBounds_toArray, List.set_cons_zero, List.set_cons_succ]
        refine wpAnyH_take (i := 9) (v := ?_) rfl (by kernel_rfl) (by kernel_rfl) (by kernel_rfl) (fun _ _ _ h => h) (Or.inl ⟨by rfl, ?_⟩) hHeld101 ?_
        rotate_left
        · (intro wa hSw; obtain ⟨pj, rr, hb⟩ := OS.out _ hSw; skip; go_simp; try with_reducible rfl)
        simp only [Act.put, List.getElem_toArray, List.getElem_cons_zero, List.getElem_cons_succ, List.setIfInBounds_toArray, List.set_cons_zero, List.set_cons_succ]
        refine wpAnyH_take (i := 10) (v := ?_) rfl (by kernel_rfl) (by kernel_rfl) (by kernel_rfl) (fun _ _ _ h => h) (Or.inl ⟨by rfl, ?_⟩) hHeld101 ?_
        rotate_left
        · (intro wa hSw; obtain ⟨pj, rr, hb⟩ := OS.out _ hSw; skip; go_simp; try with_reducible rfl)
        simp only [Act.put, List.getElem_toArray, List.getElem_cons_zero, List.getElem_cons_succ, List.setIfInBounds_toArray, List.set_cons_zero, List.set_cons_succ]
        refine wpAnyH_take (i := 11) (v := ?_) rfl (by kernel_rfl) (by kernel_rfl) (by kernel_rfl) (fun _ _ _ h => h) (Or.inl ⟨by rfl, ?_⟩) hHeld101 ?_
        rotate_left
        · (intro wa hSw; obtain ⟨pj, rr, hb⟩ := OS.out _ hSw; skip; go_simp; try with_reducible rfl)
        simp only [Act.put, List.getElem_toArray, List.getElem_cons_zero, List.getElem_cons_succ, List.setIfInBounds_toArray, List.set_cons_zero, List.set_cons_succ]
        refine wpAnyH_take (i := 12) (v := ?_) rfl (by kernel_rfl) (by kernel_rfl) (by kernel_rfl) (fun _ _ _ h => h) (Or.inl ⟨by rfl, ?_⟩) hHeld101 ?_
        rotate_left
        · (intro wa hSw; obtain ⟨pj, rr, hb⟩ := OS.out _ hSw; skip; go_simp; try with_reducible rfl)
        simp only [Act.put, List.getElem_toArray, List.getElem_cons_zero, List.getElem_cons_succ, List.setIfInBounds_toArray, List.set_cons_zero, List.set_cons_succ]
        refine wpAnyH_take (i := 13) (v := ?_) rfl (by kernel_rfl) (by kernel_rfl) (by kernel_rfl) (fun _ _ _ h => h) (Or.inl ⟨by rfl, ?_⟩) hHeld101 ?_
        rotate_left
        · (intro wa hSw; obtain ⟨pj, rr, hb⟩ := OS.out _ hSw; skip; go_simp; try with_reducible rfl)
        simp only [Act.put, List.getElem_toArray, List.getElem_cons_zero, List.getElem_cons_succ, List.setIfInBounds_toArray, List.set_cons_zero, List.set_cons_succ]
        refine wpAnyH_take (i := 14) (v := ?_) rfl (by kernel_rfl) (by kernel_rfl) (by kernel_rfl) (fun _ _ _ h => h) (Or.inl ⟨by rfl, ?_⟩) hHeld101 ?_
        rotate_left
        · (intro wa hSw; obtain ⟨pj, rr, hb⟩ := OS.out _ hSw; skip; go_simp; try with_reducible rfl)
        simp only [Act.put, List.getElem_toArray, List.getElem_cons_zero, List.getElem_cons_succ, List.setIfInBounds_toArray, List.set_cons_zero, List.set_cons_succ]
        refine wpAnyH_take (i := 15) (v := ?_) rfl (by kernel_rfl) (by kernel_rfl) (by kernel_rfl) (fun _ _ _ h => h) (Or.inl ⟨by rfl, ?_⟩) hHeld101 ?_
        rotate_left
        · (intro wa hSw; obtain ⟨pj, rr, hb⟩ := OS.out _ hSw; skip; go_simp; try with_reducible rfl)
        simp only [Act.put, List.getElem_toArray, List.getElem_cons_zero, List.getElem_cons_succ, List.setIfInBounds_toArray, List.set_cons_zero, List.set_cons_succ]
        refine wpAnyH_take (i := 16) (v := ?_) rfl (by kernel_rfl) (by kernel_rfl) (by kernel_rfl) (fun _ _ _ h => h) (Or.inl ⟨by rfl, ?_⟩) hHeld101 ?_
        rotate_left
        · (intro wa hSw; obtain ⟨pj, rr, hb⟩ := OS.out _ hSw; skip; go_simp; try with_reducible rfl)
        simp only [Act.put, List.getElem_toArray, List.getElem_cons_zero, List.getElem_cons_succ, List.setIfInBounds_toArray, List.set_cons_zero, List.set_cons_succ]
        refine wpAnyH_take (i := 17) (v := ?_) rfl (by kernel_rfl) (by kernel_rfl) (by kernel_rfl) (fun _ _ _ h => h) (Or.inl ⟨by rfl, ?_⟩) hHeld101 ?_
        rotate_left
        · (intro wa hSw; obtain ⟨pj, rr, hb⟩ := OS.out _ hSw; obtain ⟨c0, c1_, c2_, c3_, c4_, c5_, c6_⟩ := row_cells pj; go_simp; try with_reducible rfl)
        simp only [Act.put, List.getElem_toArray, List.getElem_cons_zero, List.getElem_cons_succ, List.setIfInBounds_toArray, List.set_cons_zero, List.set_cons_succ]
        refine wpAnyH_take (i := 18) (v := ?_) rfl (by kernel_rfl) (by kernel_rfl) (by kernel_rfl) (fun _ _ _ h => h) (Or.inl ⟨by rfl, ?_⟩) hHeld101 ?_
        rotate_left
        · (intro wa hSw; obtain ⟨pj, rr, hb⟩ := OS.out _ hSw; skip; go_simp; try with_reducible rfl)
        simp only [Act.put, List.getElem_toArray, List.getElem_cons_zero, List.getElem_cons_succ, List.setIfInBounds_toArray, List.set_cons_zero, List.set_cons_succ]
        refine wpAnyH_take (i := 20) (v := ?_) rfl (by kernel_rfl) (by kernel_rfl) (by kernel_rfl) (fun _ _ _ h => h) (Or.inl ⟨by rfl, ?_⟩) hHeld101 ?_
        rotate_left
        · (intro wa hSw; obtain ⟨pj, rr, hb⟩ := OS.out _ hSw; skip; go_simp; try with_reducible rfl)
        simp only [Act.put, List.getElem_toArray, List.getElem_cons_zero, List.getElem_cons_succ, List.setIfInBounds_toArray, List.set_cons_zero, List.set_cons_succ]
        refine wpAnyH_take (i := 21) (v := ?_) rfl (by kernel_rfl) (by kernel_rfl) (by kernel_rfl) (fun _ _ _ h => h) (Or.inl ⟨by rfl, ?_⟩) hHeld101 ?_
        rotate_left
        · (intro wa hSw; obtain ⟨pj, rr, hb⟩ := OS.out _ hSw; skip; go_simp; try with_reducible rfl)
        simp only [Act.put, List.getElem_toArray, List.getElem_cons_zero, List.getElem_cons_succ, List.setIfInBounds_toArray, List.set_cons_zero, List.set_cons_succ]
        refine wpAnyH_take (i := 22) (v := ?_) rfl (by kernel_rfl) (by kernel_rfl) (by kernel_rfl) (fun _ _ _ h => h) (Or.inl ⟨by rfl, ?_⟩) hHeld101 ?_
        rotate_left
        · (intro wa hSw; obtain ⟨pj, rr, hb⟩ := OS.out _ hSw; skip; go_simp; try with_reducible rfl)
        simp only [Act.put, List.getElem_toArray, List.getElem_cons_zero, List.getElem_cons_succ, List.setIfInBounds_toArray, List.set_cons_zero, List.set_cons_succ]
        refine wpAnyH_take (i := 23) (v := ?_) rfl (by kernel_rfl) (by kernel_rfl) (by kernel_rfl) (fun _ _ _ h => h) (Or.inl ⟨by rfl, ?_⟩) hHeld101 ?_
        rotate_left
        · (intro wa hSw; obtain ⟨pj, rr, hb⟩ := OS.out _ hSw; obtain ⟨c0, c1_, c2_, c3_, c4_, c5_, c6_⟩ := row_cells pj; go_simp; try with_reducible rfl)
        simp only [Act.put, List.getElem_toArray, List.getElem_cons_zero, List.getElem_cons_succ, List.setIfInBounds_toArray, List.set_cons_zero, List.set_cons_succ]
        refine wpAnyH_ready (rs := [19]) (by kernel_rfl) (by simp) ?_
        refine AllReadyH.cons (o := _) rfl (fun K hK => ?_) AllReadyH.nil
        go_simp
        obtain ⟨pj, rr, hb⟩ := OS.out _ hHeld101
        refine (CA.out _).mono ?_
        rintro e w102 ⟨rfl, b102⟩
        clear pj rr hb
        (try go_wp2_with fail)
        refine hK.out _ _ ?_ (fun hHeld102 => ?_)
        · exact KS.out _ _ hHeld101 b102
        clear hK K
        clear hHeld101
        refine wpAnyH_take (i := 24) (v := ?_) rfl (by kernel_rfl) (by kernel_rfl) (by kernel_rfl) (fun _ _ _ h => h) (Or.inl ⟨by rfl, ?_⟩) hHeld102 ?_
        rotate_left
        · (intro wa hSw; obtain ⟨pj, rr, hb⟩ := OS.out _ hSw; skip; go_simp; try with_reducible rfl)
        simp only [Act.put, List.getElem_toArray, List.getElem_cons_zero, List.getElem_cons_succ, List.setIfInBounds_toArray, List.set_cons_zero, List.set_cons_succ]
        refine wpAnyH_take (i := 25) (v := ?_) rfl (by kernel_rfl) (by kernel_rfl) (by kernel_rfl) (fun _ _ _ h => h) (Or.inl ⟨by rfl, ?_⟩) hHeld102 ?_
        rotate_left
        · (intro wa hSw; obtain ⟨pj, rr, hb⟩ := OS.out _ hSw; skip; go_simp; try with_reducible rfl)
        simp only [Act.put, List.getElem_toArray, List.getElem_cons_zero, List.getElem_cons_succ, List.setIfInBounds_toArray, List.set_cons_zero, List.set_cons_succ]
        refine wpAnyH_take (i := 26) (v := ?_) rfl (by kernel_rfl) (by kernel_rfl) (by kernel_rfl) (fun _ _ _ h => h) (Or.inl ⟨by rfl, ?_⟩) hHeld102 ?_
        rotate_left
        · (intro wa hSw; obtain ⟨pj, rr, hb⟩ := OS.out _ hSw; skip; go_simp; try with_reducible rfl)
        simp only [Act.put, List.getElem_toArray, List.getElem_cons_zero, List.getElem_cons_succ, List.setIfInBounds_toArray, List.set_cons_zero, List.set_cons_succ]
        refine wpAnyH_done (by kernel_rfl) ?_ _
        obtain ⟨pj, rr, hb⟩ := OS.out _ hHeld102
        clear KS OS hHeld hHeld102
        go_wp2
        go_ret
        exact ⟨rfl, hb⟩

set_option maxRecDepth 100000 in
theorem lifted (os : Os) (started : os.Started) (H : Type) (enc : TypeId × Value → H) :
    ReturnsInHanded {} Try.checked os 3 .any (Rows.fnTablesSpec.pre6 enc Try.prog Try.f3 Rows.fnTablesRow.domain false) (Rows.fnTablesSpec.post enc Try.prog Try.f3 false true false false) := by
  refine returnsInHanded_of_change (C := Try.checked) own started (by kernel_rfl) Try.func3
    (ChangeSpec.witness6 (enc := enc) (C := Try.checked) false ⟨#[], #[.slice none 0 0], []⟩ 8 (by kernel_rfl) (by kernel_rfl) (by kernel_rfl) (by kernel_rfl)) ?_
  intro W base args ds gs before hval0 hW hcnd _
  have hval : ∀ (j : Nat) t v, Try.f3.params[j]? = some t → args[j]? = some v → Value.okWide Try.prog W .any base t v := hval0
  have hW' := hW
  obtain ⟨p, q, hA0, hV, rfl, hfz, hnd⟩ := hW
  have hA : DataW.TrodAll enc Try.prog W 0 (fun _ => true) true Try.f3.params.toList args.toList ds p := hA0
  rw [Try.params3] at hA hval
  obtain ⟨v0, vs0, d0, ds0, p0, q0, hargs, rfl, rfl, h0, r0⟩ := trodAll_cons hA
  obtain ⟨rfl, rfl, rfl⟩ := trodAll_nil r0
  obtain rfl : args = #[v0] := by cases args; simp_all
  obtain ⟨rfl, rfl⟩ := trodVars_none hV
  have k0 := h0
  have lt0 : ∀ x ∈ p0, x.block < W.heap.size := by obtain ⟨m, hm⟩ := k0; exact DataW.trod_lt m _ _ _ hm
  obtain ⟨a0, len0, cap0, rfl⟩ := okWide_slice Try.underlying22 (hval 0 22 v0 rfl rfl)
  obtain ⟨z0, w0⟩ : ∃ zs, IsRow .u8 W a0 len0 cap0 zs := by
    obtain ⟨fuel, hf⟩ := h0
    rcases open_ints Try.underlying22 Try.underlying5 (by kernel_rfl) hf with ⟨hcs, _⟩ | ⟨x, l, c, zs, hcs, _, hl, hm, hz, _, hcell, hwz⟩
    · simp [Value.cells] at hcs
      obtain ⟨rfl, rfl, rfl⟩ := hcs
      exact ⟨[], .inl ⟨rfl, rfl, rfl, rfl⟩⟩
    · simp [Value.cells] at hcs
      obtain ⟨rfl, rfl, rfl⟩ := hcs
      exact ⟨zs, .inr ⟨_, rfl, hl, hm, by simpa using hz, hcell, hwz⟩⟩
  clear hA0 hval0
  simp only [List.append_nil] at hW'
  refine (walk a0 len0 cap0 z0 W w0).mono fun e W' ⟨he, bel⟩ => ?_
  subst he
  exact ⟨_, rfl, _, _, _, [], _, [], hW', trodAll_mk1 (shut_bool Try.underlying4 _), (trodAll_cons_mk (Below.trod laidOut (by kernel_rfl) (of_decide_eq_true (by kernel_rfl)) k0 bel lt0) trodAll_mk0), rfl, bel.frame _, fun h => by cases h⟩

theorem over : Rows.fnTablesRow.holds Try.pinned (OpenSpec.ofChange Rows.fnTablesSpec) :=
  OpenClaim.holds_of_wide 3 Try.f3 rfl rfl rfl rfl rfl rfl rfl ⟨rfl, rfl, rfl, rfl, rfl⟩ rfl rfl rfl rfl rfl (by kernel_rfl) Try.func3 (by kernel_rfl)
    (of_decide_eq_true (by kernel_rfl)) (by unfold Func.isWrapper; first | (rw [if_pos (by decide +kernel)]; kernel_rfl) | (rw [if_neg (by decide +kernel)]; exact ⟨rfl, rfl⟩))
    (fun os started H enc _ => lifted os started H enc)

theorem proved : Rows.FnTablesSaid := over
end Go.Proofs.Ytoingkchjiipgaa.fnTables
