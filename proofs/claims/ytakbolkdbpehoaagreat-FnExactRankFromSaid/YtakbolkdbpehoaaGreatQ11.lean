/-
  Packed: RankFrom, FieldPlain, RulesPlain, MadeBook, OrderMake, RankMade, BookKit, MadeIs.
-/
import Derived.Test.YtakbolkdbpehoaaGreatQ3
import Derived.Test.YtakbolkdbpehoaaGreatQ5
import Derived.Test.YtakbolkdbpehoaaGreatQ6
import Derived.Test.YtakbolkdbpehoaaGreatQ7
import Derived.Test.YtakbolkdbpehoaaGreatQ8
import Derived.Test.YtakbolkdbpehoaaGreatQ9
import Derived.Test.YtakbolkdbpehoaaGreatQ10
set_option linter.unusedVariables false
namespace Go.Proofs.YtakbolkdbpehoaaGreat
open Go.RowKit

/-- what is ranked: a valid book, a group of existing and different teams, a step -/
def fromP (b : BookD) (n : Nat) (gg : Nat → Int) (z : Int) : Prop := bookP b ∧ teamsP b.nf n gg ∧ 0 ≤ z ∧ ∀ i, i < n → ¬ hasP gg (gg i) i
theorem ListsL.none {w w' : World} (h : Below w.heap.size w w') : ListsL w [] (.returned (.slice none 0 0)) w' :=
  ⟨_, [], rfl, rfl, ⟨⟨rfl, .inl ⟨rfl, rfl⟩⟩, (fun x hx => by cases hx), (by unfold ApartL; simp)⟩, h⟩
set_option maxRecDepth 100000 in
set_option maxHeartbeats 2000000 in
theorem rankFrom_spec (vf vl vg vfa vta : Value) (b : BookD) (G : List Int) (z : Int) (gv : Value) (R : Bool) (w : World) (hR : R = true ↔ fromP b G.length (getI G) z) (h : BookRow w vf vl vg vfa vta b) (hs : ∀ i, (b.f i).nm.size ≤ maxLen) (hgv : IntRow w gv G.length (getI G)) (hn6 : G.length ≤ 1048576) (hz63 : z ≤ 9223372036854775807) :
    Calls Tryz.prog 29 #[.agg #[vf, .int .i64 b.win, .int .i64 b.draw, .int .i64 b.loss, vl, .bool b.again, vg, vfa, vta], gv, .int .i64 z] w (ListsL w (if R = true then rankP b G z.toNat else [])) := by
  obtain ⟨fa, fc, la, lc, ga, gc, qa, qc, ta, tc, rfl, rfl, rfl, rfl, rfl⟩ := h.form
  have b0 := (Below.refl w.heap.size w).alloc (Nat.le_refl _) (.cells #[.slice fa b.nf fc, .int .i64 b.win, .int .i64 b.draw, .int .i64 b.loss, .slice la b.nl lc, .bool b.again, .slice ga b.m gc, .slice qa b.nfa qc, .slice ta b.nta tc] 29)
  have BX0 := Lib.hid (BoxN.made (Below.refl (w.alloc (.cells #[.slice fa b.nf fc, .int .i64 b.win, .int .i64 b.draw, .int .i64 b.loss, .slice la b.nl lc, .bool b.again, .slice ga b.m gc, .slice qa b.nfa qc, .slice ta b.nta tc] 29)).heap.size (w.alloc (.cells #[.slice fa b.nf fc, .int .i64 b.win, .int .i64 b.draw, .int .i64 b.loss, .slice la b.nl lc, .bool b.again, .slice ga b.m gc, .slice qa b.nfa qc, .slice ta b.nta tc] 29))) (B := w.heap.size) rfl)
  have BR0 := Lib.hid (h.below b0 (Nat.le_refl _))
  have HB0 := Lib.hid b0
  have es : (w.alloc (.cells #[.slice fa b.nf fc, .int .i64 b.win, .int .i64 b.draw, .int .i64 b.loss, .slice la b.nl lc, .bool b.again, .slice ga b.m gc, .slice qa b.nfa qc, .slice ta b.nta tc] 29)).heap.size = w.heap.size + 1 := by simp
  have ES := Lib.hid es
  have GR0 := Lib.hid (hgv.below b0 (Nat.le_refl _))
  obtain ⟨xa, xc, rfl, hx64, _⟩ := hgv.form
  obtain ⟨n, hn⟩ : ∃ n, G.length = n := ⟨_, rfl⟩
  obtain ⟨gg, hgg⟩ : ∃ gg, getI G = gg := ⟨_, rfl⟩
  rw [hn, hgg] at GR0 hR
  rw [hn] at hx64 hn6 ⊢
  obtain ⟨r1, hr1⟩ := boolEx (bookP b)
  obtain ⟨r2, hr2⟩ := boolEx (teamsP b.nf n gg)
  have C1 := Lib.hid (fun wa h1 => bookOk_spec (.slice fa b.nf fc) (.slice la b.nl lc) (.slice ga b.m gc) (.slice qa b.nfa qc) (.slice ta b.nta tc) b r1 wa hr1 h1 hs)
  have C2 := Lib.hid (fun wa h1 h2 => l07Teams_spec (.slice fa b.nf fc) (.slice la b.nl lc) (.slice ga b.m gc) (.slice qa b.nfa qc) (.slice ta b.nta tc) b (.slice xa n xc) n gg r2 wa hr2 h1 h2)
  have C3 : Hid (∀ (hp : bookP b) (ht : teamsP b.nf n gg) (s : Nat) wa, z = (s : Int) → BookRow wa (.slice fa b.nf fc) (.slice la b.nl lc) (.slice ga b.m gc) (.slice qa b.nfa qc) (.slice ta b.nta tc) b → IntRow wa (.slice xa n xc) n gg → Calls Tryz.prog 67 #[.agg #[.slice fa b.nf fc, .int .i64 b.win, .int .i64 b.draw, .int .i64 b.loss, .slice la b.nl lc, .bool b.again, .slice ga b.m gc, .slice qa b.nfa qc, .slice ta b.nta tc], .slice xa n xc, .int .i64 z] wa (ListsL wa (rankP b G s))) := fun hp ht s wa hz h1 h2 => by
    subst hz
    exact l07Rank_spec (.slice fa b.nf fc) (.slice la b.nl lc) (.slice ga b.m gc) (.slice qa b.nfa qc) (.slice ta b.nta tc) b hp _ G s _ wa (Nat.lt_succ_self _) h1 (by rw [hn, hgg]; exact h2) (by rw [hn, hgg]; exact ht) (by omega) hz63
  have hall : R = true ↔ (r1 = true ∧ r2 = true ∧ 0 ≤ z ∧ ∀ i, i < n → ¬ hasP gg (gg i) i) := by rw [hR, hr1, hr2]; exact Iff.rfl
  have HN := Lib.hid (boolF hall)
  have HY := Lib.hid (boolT hall)
  have HP1 : Hid (r1 = true → bookP b) := hr1.1
  have HP2 : Hid (r2 = true → teamsP b.nf n gg) := hr2.1
  obtain ⟨RES, hRES⟩ : ∃ RES, (if R = true then rankP b G z.toNat else []) = RES := ⟨_, rfl⟩
  rw [hRES]
  have HRF : Hid (R = false → RES = []) := fun e => by rw [← hRES, e]; rfl
  have HRT : Hid (R = true → RES = rankP b G z.toNat) := fun e => by rw [← hRES, e]; rfl
  clear h b0 hgv es hR hall hr1 hr2 hs hn hgg hz63 hRES
  have d0 := BX0.out.2 0 _ rfl
  have d1 := BX0.out.2 1 _ rfl
  have d2 := BX0.out.2 2 _ rfl
  have d3 := BX0.out.2 3 _ rfl
  have d4 := BX0.out.2 4 _ rfl
  have d5 := BX0.out.2 5 _ rfl
  have d6 := BX0.out.2 6 _ rfl
  have d7 := BX0.out.2 7 _ rfl
  have d8 := BX0.out.2 8 _ rfl
  by_cases hz : 0 ≤ z
  case neg =>
    obtain rfl := HRF.out (HN.out fun h => hz h.2.2.1)
    have g1 : decide (z < 0) = true := decide_eq_true (by omega)
    clear HN HY hz
    go_enter Tryz.func29, Tryz.ntmps29
    cases r1 with
    | false =>
      go_wp2_with fail
      refine (C1.out _ BR0.out).mono ?_
      rintro e w1 ⟨rfl, b1⟩
      have HE := Lib.hid (HB0.out.trans (b1.mono HB0.out.size))
      clear b1
      go_wp2
      go_ret
      exact ListsL.none HE.out
    | true =>
    go_wp2_with fail
    refine (C1.out _ BR0.out).mono ?_
    rintro e w1 ⟨rfl, b1⟩
    have BX1 := Lib.hid (BoxN.below BX0.out b1)
    have BR1 := Lib.hid (BR0.out.below b1 (Nat.le_refl _))
    have GR1 := Lib.hid (GR0.out.below b1 (Nat.le_refl _))
    have HB1 := Lib.hid (HB0.out.trans (b1.mono HB0.out.size))
    clear d0 d1 d2 d3 d4 d5 d6 d7 d8 BX0 BR0 GR0 HB0 b1
    have d0 := BX1.out.2 0 _ rfl
    have d1 := BX1.out.2 1 _ rfl
    have d2 := BX1.out.2 2 _ rfl
    have d3 := BX1.out.2 3 _ rfl
    have d4 := BX1.out.2 4 _ rfl
    have d5 := BX1.out.2 5 _ rfl
    have d6 := BX1.out.2 6 _ rfl
    have d7 := BX1.out.2 7 _ rfl
    have d8 := BX1.out.2 8 _ rfl
    cases r2 with
    | false =>
      go_wp2_with fail
      refine (C2.out _ BR1.out GR1.out).mono ?_
      rintro e w2 ⟨rfl, b2⟩
      have HE := Lib.hid (HB1.out.trans (b2.mono HB1.out.size))
      clear b2
      go_wp2
      go_ret
      exact ListsL.none HE.out
    | true =>
      go_wp2_with fail
      refine (C2.out _ BR1.out GR1.out).mono ?_
      rintro e w2 ⟨rfl, b2⟩
      have HE := Lib.hid (HB1.out.trans (b2.mono HB1.out.size))
      clear b2
      go_wp2
      go_ret
      exact ListsL.none HE.out
  have HZS : Hid (z = (z.toNat : Int)) := (by show _ = _; omega)
  have g1 : decide (z < 0) = false := decide_eq_false (by omega)
  go_enter Tryz.func29, Tryz.ntmps29
  cases r1 with
  | false =>
    obtain rfl := HRF.out (HN.out fun h => by have := h.1; cases this)
    clear HN HY
    go_wp2_with fail
    refine (C1.out _ BR0.out).mono ?_
    rintro e w1 ⟨rfl, b1⟩
    have HE := Lib.hid (HB0.out.trans (b1.mono HB0.out.size))
    clear b1
    go_wp2
    go_ret
    exact ListsL.none HE.out
  | true =>
  go_wp2_with fail
  refine (C1.out _ BR0.out).mono ?_
  rintro e w1 ⟨rfl, b1⟩
  have BX1 := Lib.hid (BoxN.below BX0.out b1)
  have BR1 := Lib.hid (BR0.out.below b1 (Nat.le_refl _))
  have GR1 := Lib.hid (GR0.out.below b1 (Nat.le_refl _))
  have HB1 := Lib.hid (HB0.out.trans (b1.mono HB0.out.size))
  clear d0 d1 d2 d3 d4 d5 d6 d7 d8 BX0 BR0 GR0 HB0 b1
  have d0 := BX1.out.2 0 _ rfl
  have d1 := BX1.out.2 1 _ rfl
  have d2 := BX1.out.2 2 _ rfl
  have d3 := BX1.out.2 3 _ rfl
  have d4 := BX1.out.2 4 _ rfl
  have d5 := BX1.out.2 5 _ rfl
  have d6 := BX1.out.2 6 _ rfl
  have d7 := BX1.out.2 7 _ rfl
  have d8 := BX1.out.2 8 _ rfl
  cases r2 with
  | false =>
    obtain rfl := HRF.out (HN.out fun h => by have := h.2.1; cases this)
    clear HN HY
    go_wp2_with fail
    refine (C2.out _ BR1.out GR1.out).mono ?_
    rintro e w2 ⟨rfl, b2⟩
    have HE := Lib.hid (HB1.out.trans (b2.mono HB1.out.size))
    clear b2
    go_wp2
    go_ret
    exact ListsL.none HE.out
  | true =>
  go_wp2_with fail
  refine (C2.out _ BR1.out GR1.out).mono ?_
  rintro e w2 ⟨rfl, b2⟩
  have BX2 := Lib.hid (BoxN.below BX1.out b2)
  have BR2 := Lib.hid (BR1.out.below b2 (Nat.le_refl _))
  have GR2 := Lib.hid (GR1.out.below b2 (Nat.le_refl _))
  have HB2 := Lib.hid (HB1.out.trans (b2.mono HB1.out.size))
  clear d0 d1 d2 d3 d4 d5 d6 d7 d8 BX1 BR1 GR1 HB1 b2
  have d0 := BX2.out.2 0 _ rfl
  have d1 := BX2.out.2 1 _ rfl
  have d2 := BX2.out.2 2 _ rfl
  have d3 := BX2.out.2 3 _ rfl
  have d4 := BX2.out.2 4 _ rfl
  have d5 := BX2.out.2 5 _ rfl
  have d6 := BX2.out.2 6 _ rfl
  have d7 := BX2.out.2 7 _ rfl
  have d8 := BX2.out.2 8 _ rfl
  have HN2 : Hid (∀ k, k < n → hasP gg (gg k) k → R = false) := fun k hk h => HN.out fun hp => hp.2.2.2 k hk h
  have HY2 : Hid ((∀ i, i < n → ¬ hasP gg (gg i) i) → R = true) := fun h => HY.out ⟨by first | rfl | trivial, by first | rfl | trivial, hz, h⟩
  have HC3 := Lib.hid (fun wa h1 h2 => C3.out (HP1.out (by first | rfl | trivial)) (HP2.out (by first | rfl | trivial)) z.toNat wa HZS.out h1 h2)
  clear HN HY C1 C2 C3 HP1 HP2 hz
  go_wp2
  clear d0 d1 d2 d3 d4 d5 d6 d7 d8 g1
  go_loopw [24] (fun i wr => ∃ k : Nat, k ≤ n ∧ i = .int .i64 k ∧ Hid (∀ i, i < k → ¬ hasP gg (gg i) i) ∧ wr = w2) (fun i _ => n - (intOf i).toNat)
  case atStart => exact ⟨0, Nat.zero_le _, rfl, fun i hi => absurd hi (by omega), rfl⟩
  case round =>
    obtain ⟨k, hk, rfl, hok, rfl⟩ := hrel
    by_cases hlt : k < n
    · obtain ⟨bo, off, rfl, hcap, c1⟩ := int_at GR2.out hlt
      have hc : ∀ i, i < n → wr.cell? ⟨bo, off + i, none⟩ = some (.int .i64 (gg i)) := fun i hi => by
        obtain ⟨bo', off', he, _, c⟩ := int_at GR2.out hi
        simp only [Option.some.injEq, Addr.mk.injEq, and_true] at he
        obtain ⟨rfl, rfl⟩ := he
        exact c
      have HT := Lib.hid (IntRow.take k hk hx64 hcap hc)
      have hk9 : (k : Int) ≤ xc := by omega
      have hS : Hid (¬ hasP gg (gg k) k → ∀ i, i < k + 1 → ¬ hasP gg (gg i) i) := fun h i hi => by
        by_cases hik : i = k
        · subst hik; exact h
        · exact hok.out i (by omega)
      have HNk := Lib.hid (HN2.out k hlt)
      clear hc hok HN2 HY2 HC3
      by_cases hno : hasP gg (gg k) k
      · obtain rfl := HRF.out (HNk.out hno)
        have HNO := Lib.hid hno
        clear HNk hS hno
        generalize gg k = x at *
        go_wp2_with (go_at_call 66; refine (l02Has_yes _ k gg x _ HT.out HNO.out).mono ?_; rintro e w3 ⟨rfl, rfl⟩)
        go_ret
        exact ListsL.none HB2.out
      · have HSk := Lib.hid (hS.out hno)
        have HNO := Lib.hid hno
        clear HNk hS hno
        generalize gg k = x at *
        go_wp2_with (go_at_call 66; refine (l02Has_no _ k gg x _ HT.out HNO.out).mono ?_; rintro e w3 ⟨rfl, rfl⟩)
        go_roundw
        case rel => exact ⟨k + 1, by omega, by go_num, HSk.out, by first | rfl | trivial⟩
        case measure => simp [intOf]; omega
    · obtain rfl : n = k := by omega
      obtain rfl := HRT.out (HY2.out hok.out)
      clear HN2 HY2 hok HRF HRT
      have d0 := BX2.out.2 0 _ rfl
      have d1 := BX2.out.2 1 _ rfl
      have d2 := BX2.out.2 2 _ rfl
      have d3 := BX2.out.2 3 _ rfl
      have d4 := BX2.out.2 4 _ rfl
      have d5 := BX2.out.2 5 _ rfl
      have d6 := BX2.out.2 6 _ rfl
      have d7 := BX2.out.2 7 _ rfl
      have d8 := BX2.out.2 8 _ rfl
      go_wp2_with fail
      refine (HC3.out _ BR2.out GR2.out).mono ?_
      rintro e w4 ⟨rv, T, rfl, hT, hL, b4⟩
      have HE := Lib.hid (HB2.out.trans (b4.mono HB2.out.size))
      have HL := Lib.hid (hL.mono HB2.out.size)
      have HT := Lib.hid hT
      clear hT hL b4
      go_wp2
      go_ret
      exact ⟨_, T, rfl, HT.out, HL.out, HE.out⟩
/-- all teams of a field -/
def allL (n : Nat) : List Int := valsL (fun i => (i : Int)) n
theorem allL_len (n : Nat) : (allL n).length = n := by unfold allL valsL; simp
theorem allL_get {n i : Nat} (h : i < n) : getI (allL n) i = i := by unfold allL valsL getI; simp [h]
theorem all_from {b : BookD} : fromP b (allL b.nf).length (getI (allL b.nf)) 0 ↔ bookP b := by
  rw [allL_len]
  refine ⟨fun h => h.1, fun h => ⟨h, fun i hi => by rw [allL_get hi]; omega, Int.le_refl _, fun i hi ⟨j, hj, e⟩ => ?_⟩⟩
  rw [allL_get hi, allL_get (by omega)] at e
  omega
set_option maxRecDepth 100000 in
set_option maxHeartbeats 2000000 in
theorem rankGroups_spec (vf vl vg vfa vta : Value) (b : BookD) (R : Bool) (w : World) (hR : R = true ↔ bookP b) (h : BookRow w vf vl vg vfa vta b) (hs : ∀ i, (b.f i).nm.size ≤ maxLen) (hn6 : b.nf ≤ 1048576) :
    Calls Tryz.prog 31 #[.agg #[vf, .int .i64 b.win, .int .i64 b.draw, .int .i64 b.loss, vl, .bool b.again, vg, vfa, vta]] w (ListsL w (if R = true then rankP b (allL b.nf) 0 else [])) := by
  obtain ⟨fa, fc, la, lc, ga, gc, qa, qc, ta, tc, rfl, rfl, rfl, rfl, rfl⟩ := h.form
  have b0 := (Below.refl w.heap.size w).alloc (Nat.le_refl _) (.cells #[.slice fa b.nf fc, .int .i64 b.win, .int .i64 b.draw, .int .i64 b.loss, .slice la b.nl lc, .bool b.again, .slice ga b.m gc, .slice qa b.nfa qc, .slice ta b.nta tc] 29)
  have BX0 := Lib.hid (BoxN.made (Below.refl (w.alloc (.cells #[.slice fa b.nf fc, .int .i64 b.win, .int .i64 b.draw, .int .i64 b.loss, .slice la b.nl lc, .bool b.again, .slice ga b.m gc, .slice qa b.nfa qc, .slice ta b.nta tc] 29)).heap.size (w.alloc (.cells #[.slice fa b.nf fc, .int .i64 b.win, .int .i64 b.draw, .int .i64 b.loss, .slice la b.nl lc, .bool b.again, .slice ga b.m gc, .slice qa b.nfa qc, .slice ta b.nta tc] 29))) (B := w.heap.size) rfl)
  have BR0 := Lib.hid (h.below b0 (Nat.le_refl _))
  have HB0 := Lib.hid b0
  have es : (w.alloc (.cells #[.slice fa b.nf fc, .int .i64 b.win, .int .i64 b.draw, .int .i64 b.loss, .slice la b.nl lc, .bool b.again, .slice ga b.m gc, .slice qa b.nfa qc, .slice ta b.nta tc] 29)).heap.size = w.heap.size + 1 := by simp
  have ES := Lib.hid es
  have C1 := Lib.hid (fun wa h1 => l07All_spec (.slice fa b.nf fc) (.slice la b.nl lc) (.slice ga b.m gc) (.slice qa b.nfa qc) (.slice ta b.nta tc) b wa h1 hn6)
  have C2 : Hid (∀ wa gv, BookRow wa (.slice fa b.nf fc) (.slice la b.nl lc) (.slice ga b.m gc) (.slice qa b.nfa qc) (.slice ta b.nta tc) b → IntRow wa gv (allL b.nf).length (getI (allL b.nf)) → Calls Tryz.prog 29 #[.agg #[.slice fa b.nf fc, .int .i64 b.win, .int .i64 b.draw, .int .i64 b.loss, .slice la b.nl lc, .bool b.again, .slice ga b.m gc, .slice qa b.nfa qc, .slice ta b.nta tc], gv, .int .i64 0] wa (ListsL wa (if R = true then rankP b (allL b.nf) 0 else []))) := fun wa gv h1 h2 =>
    rankFrom_spec (.slice fa b.nf fc) (.slice la b.nl lc) (.slice ga b.m gc) (.slice qa b.nfa qc) (.slice ta b.nta tc) b (allL b.nf) 0 gv R wa (by rw [hR, all_from]) h1 hs h2 (by rw [allL_len]; exact hn6) (by decide)
  have HLN := Lib.hid (allL_len b.nf)
  clear h b0 es hR hs
  obtain ⟨AL, hAL⟩ : ∃ AL, allL b.nf = AL := ⟨_, rfl⟩
  have HAL : Hid (valsL (fun i => (i : Int)) b.nf = AL) := hAL
  rw [hAL] at HLN C2 ⊢
  clear hAL
  rw [HAL.out] at C1
  generalize (if R = true then rankP b AL 0 else []) = RES at *
  go_enter Tryz.func31, Tryz.ntmps31
  obtain ⟨S, HSd⟩ : ∃ S : World → Prop, S = fun w' => BoxN w' w.heap.size [.slice fa b.nf fc, .int .i64 b.win, .int .i64 b.draw, .int .i64 b.loss, .slice la b.nl lc, .bool b.again, .slice ga b.m gc, .slice qa b.nfa qc, .slice ta b.nta tc] ∧ BookRow w' (.slice fa b.nf fc) (.slice la b.nl lc) (.slice ga b.m gc) (.slice qa b.nfa qc) (.slice ta b.nta tc) b ∧ Below w.heap.size w w' := ⟨_, rfl⟩
  have KS : Hid (∀ wa wb, S wa → Below wa.heap.size wa wb → S wb) := by subst HSd; exact fun wa wb ⟨bx, br, hb⟩ b0 => ⟨bx.below b0, br.below b0 (Nat.le_refl _), hb.trans (b0.mono hb.size)⟩
  have OS : Hid (∀ wa, S wa → BoxN wa w.heap.size [.slice fa b.nf fc, .int .i64 b.win, .int .i64 b.draw, .int .i64 b.loss, .slice la b.nl lc, .bool b.again, .slice ga b.m gc, .slice qa b.nfa qc, .slice ta b.nta tc] ∧ BookRow wa (.slice fa b.nf fc) (.slice la b.nl lc) (.slice ga b.m gc) (.slice qa b.nfa qc) (.slice ta b.nta tc) b ∧ Below w.heap.size w wa) := by subst HSd; exact fun wa h => h
  have KS0 : Hid (S (w.alloc (.cells #[.slice fa b.nf fc, .int .i64 b.win, .int .i64 b.draw, .int .i64 b.loss, .slice la b.nl lc, .bool b.again, .slice ga b.m gc, .slice qa b.nfa qc, .slice ta b.nta tc] 29)).drew) := by subst HSd; exact ⟨BX0.out.below (Below.refl _ _).drew, BR0.out.below (Below.refl _ _).drew (Nat.le_refl _), HB0.out.drew⟩
  clear HSd
  go_wp2_with fail
  refine wp_region_held_drew (S := S) (by kernel_rfl) ?_ (fun hHeld => ?_)
  · exact KS0.out
  clear KS0 
  refine wpAnyH_take (i := 0) (v := ?_) rfl (by kernel_rfl) (by kernel_rfl) (by kernel_rfl) (fun _ _ _ h => h) (Or.inl ⟨by rfl, ?_⟩) hHeld ?_
  rotate_left
  · (intro wa hSw; obtain ⟨bx, br, hb⟩ := OS.out _ hSw; have d0 := bx.2 0 _ rfl; have d1 := bx.2 1 _ rfl; have d2 := bx.2 2 _ rfl; have d3 := bx.2 3 _ rfl; have d4 := bx.2 4 _ rfl; have d5 := bx.2 5 _ rfl; have d6 := bx.2 6 _ rfl; have d7 := bx.2 7 _ rfl; have d8 := bx.2 8 _ rfl; go_simp; try with_reducible rfl)
  simp only [Act.put, List.getElem_toArray, List.getElem_cons_zero, List.setIfInBounds_toArray, List.set_cons_zero, List.set_cons_succ]
  refine wpAnyH_take (i := 1) (v := ?_) rfl (by kernel_rfl) (by kernel_rfl) (by kernel_rfl) (fun _ _ _ h => h) (Or.inl ⟨by rfl, ?_⟩) hHeld ?_
  rotate_left
  · (intro wa hSw; obtain ⟨bx, br, hb⟩ := OS.out _ hSw; have d0 := bx.2 0 _ rfl; have d1 := bx.2 1 _ rfl; have d2 := bx.2 2 _ rfl; have d3 := bx.2 3 _ rfl; have d4 := bx.2 4 _ rfl; have d5 := bx.2 5 _ rfl; have d6 := bx.2 6 _ rfl; have d7 := bx.2 7 _ rfl; have d8 := bx.2 8 _ rfl; go_simp; try with_reducible rfl)
  simp only [Act.put, List.getElem_toArray, List.getElem_cons_zero, List.getElem_cons_succ, List.setIfInBounds_toArray, List.set_cons_zero, List.set_cons_succ]
  refine wpAnyH_ready (rs := [2]) (by kernel_rfl) (by simp) ?_
  refine AllReadyH.cons (o := _) rfl (fun K hK => ?_) AllReadyH.nil
  go_simp
  obtain ⟨bx, br, hb⟩ := OS.out _ hHeld
  refine (C1.out _ br).mono ?_
  rintro e w101 ⟨va, rfl, hoa, b101⟩
  clear bx br hb
  have HOA := Lib.hid hoa
  clear hoa
  (try go_wp2_with fail)
  refine hK.out _ _ ?_ (fun hHeld101 => ?_)
  · exact KS.out _ _ hHeld b101
  clear hK K
  refine wpAnyH_ready (rs := [3]) (by kernel_rfl) (by simp) ?_
  refine AllReadyH.cons (o := _) rfl (fun K hK => ?_) AllReadyH.nil
  go_simp
  obtain ⟨bx, br, hb⟩ := OS.out _ hHeld101
  refine (C2.out _ va br (IntRow.of_list HOA.out (by rw [HLN.out]; omega))).mono ?_
  rintro e w102 ⟨rv, T, rfl, hT, hL, b102⟩
  clear bx br hb
  have HT := Lib.hid hT
  have HL := Lib.hid hL
  clear hT hL
  (try go_wp2_with fail)
  refine hK.out _ _ ?_ (fun hHeld102 => ?_)
  · exact KS.out _ _ hHeld101 b102
  clear hK K
  clear hHeld101
  refine wpAnyH_take (i := 4) (v := ?_) rfl (by kernel_rfl) (by kernel_rfl) (by kernel_rfl) (fun _ _ _ h => h) (Or.inl ⟨by rfl, ?_⟩) hHeld102 ?_
  rotate_left
  · (intro wa hSw; obtain ⟨bx, br, hb⟩ := OS.out _ hSw; skip; go_simp; try with_reducible rfl)
  simp only [Act.put, List.getElem_toArray, List.getElem_cons_zero, List.getElem_cons_succ, List.setIfInBounds_toArray, List.set_cons_zero, List.set_cons_succ]
  refine wpAnyH_done (by kernel_rfl) ?_ _
  obtain ⟨bx, br, hb⟩ := OS.out _ hHeld102
  clear KS OS hHeld hHeld102
  go_wp2
  go_ret
  exact ⟨_, T, rfl, HT.out, HL.out.mono (by have h7 := b101.size; simp at h7; omega), hb⟩
/-- the teams of the parts, if each has one -/
def orderL (L : List (List Int)) : List Int := if ∀ p ∈ L, p.length = 1 then L.flatten else []
theorem flat_ones : ∀ (L : List (List Int)), (∀ p ∈ L, p.length = 1) → L.flatten.length = L.length
  | [], _ => rfl
  | p :: L, h => by
    rw [List.flatten_cons, List.length_append, h p (List.mem_cons_self ..), flat_ones L fun q hq => h q (List.mem_cons_of_mem _ hq)]
    simp; omega
theorem LL.kept {w w' : World} {B : Nat} {v : Value} {T : List (Value × List Int)} {row : Option Nat} (h : LL w B v T) (hg : w.grownBy w' row) (h1 : ∀ q, row = some q → Hid (v.ownBlock ≠ some q ∧ ∀ x ∈ T, x.1.ownBlock ≠ some q)) : LL w' B v T := by
  refine ⟨h.1.kept hg ?_, fun x hx => (h.2.1 x hx).kept hg ?_, h.2.2⟩
  · cases hr : row with
    | none => cases hv : v.ownBlock with
      | none => exact .inl rfl
      | some q => exact .inr (by simp)
    | some q => exact .inr fun e => (h1 q hr).out.1 e
  · cases hr : row with
    | none => cases hv : x.1.ownBlock with
      | none => exact .inl rfl
      | some q => exact .inr (by simp)
    | some q => exact .inr fun e => (h1 q hr).out.2 x hx e
theorem IntsL.none {w w' : World} (h : Below w.heap.size w w') : IntsL w [] (.returned (.slice none 0 0)) w' :=
  ⟨_, rfl, ⟨rfl, .inl ⟨rfl, rfl⟩⟩, h⟩
set_option maxRecDepth 100000 in
set_option maxHeartbeats 2000000 in
theorem ranking_spec (vf vl vg vfa vta : Value) (b : BookD) (R : Bool) (w : World) (hR : R = true ↔ bookP b) (h : BookRow w vf vl vg vfa vta b) (hs : ∀ i, (b.f i).nm.size ≤ maxLen) (hn6 : b.nf ≤ 1048576) :
    Calls Tryz.prog 32 #[.agg #[vf, .int .i64 b.win, .int .i64 b.draw, .int .i64 b.loss, vl, .bool b.again, vg, vfa, vta]] w (IntsL w (orderL (if R = true then rankP b (allL b.nf) 0 else []))) := by
  obtain ⟨i0, hi, hz0, hz1, hz2⟩ := info_parts Tryz.infoI
  obtain ⟨fa, fc, la, lc, ga, gc, qa, qc, ta, tc, rfl, rfl, rfl, rfl, rfl⟩ := h.form
  have b0 := (Below.refl w.heap.size w).alloc (Nat.le_refl _) (.cells #[.slice fa b.nf fc, .int .i64 b.win, .int .i64 b.draw, .int .i64 b.loss, .slice la b.nl lc, .bool b.again, .slice ga b.m gc, .slice qa b.nfa qc, .slice ta b.nta tc] 29)
  have BX0 := Lib.hid (BoxN.made (Below.refl (w.alloc (.cells #[.slice fa b.nf fc, .int .i64 b.win, .int .i64 b.draw, .int .i64 b.loss, .slice la b.nl lc, .bool b.again, .slice ga b.m gc, .slice qa b.nfa qc, .slice ta b.nta tc] 29)).heap.size (w.alloc (.cells #[.slice fa b.nf fc, .int .i64 b.win, .int .i64 b.draw, .int .i64 b.loss, .slice la b.nl lc, .bool b.again, .slice ga b.m gc, .slice qa b.nfa qc, .slice ta b.nta tc] 29))) (B := w.heap.size) rfl)
  have BR0 := Lib.hid (h.below b0 (Nat.le_refl _))
  have HB0 := Lib.hid b0
  have es : (w.alloc (.cells #[.slice fa b.nf fc, .int .i64 b.win, .int .i64 b.draw, .int .i64 b.loss, .slice la b.nl lc, .bool b.again, .slice ga b.m gc, .slice qa b.nfa qc, .slice ta b.nta tc] 29)).heap.size = w.heap.size + 1 := by simp
  have ES := Lib.hid es
  have C2 := Lib.hid (fun wa h1 => rankGroups_spec (.slice fa b.nf fc) (.slice la b.nl lc) (.slice ga b.m gc) (.slice qa b.nfa qc) (.slice ta b.nta tc) b R wa hR h1 hs hn6)
  have hLen : (if R = true then rankP b (allL b.nf) 0 else []).length ≤ 1048576 := by
    split
    · have := rankP_len b (allL b.nf) 0
      rw [allL_len] at this
      omega
    · simp
  generalize (if R = true then rankP b (allL b.nf) 0 else []) = PL at *
  have b1 := b0.alloc (by simp) (.cells #[] 3)
  have o1 := World.ownsRow_lit (e := 3) (size := 1) (w.alloc (.cells #[.slice fa b.nf fc, .int .i64 b.win, .int .i64 b.draw, .int .i64 b.loss, .slice la b.nl lc, .bool b.again, .slice ga b.m gc, .slice qa b.nfa qc, .slice ta b.nta tc] 29)) #[] 0 (Nat.le_refl _) (by decide) rfl
  rw [es] at o1
  have BX1 := Lib.hid (BoxN.below BX0.out ((Below.refl _ _).alloc (Nat.le_refl _) (.cells #[] 3)))
  have BR1 := Lib.hid (h.below b1 (Nat.le_refl _))
  have HB1 := Lib.hid b1
  have HO1 := Lib.hid (owns_mono (base' := w.heap.size) o1 (by omega))
  clear h b0 es hR hs b1 o1 BX0 BR0 HB0 hn6
  have d0 := BX1.out.2 0 _ rfl
  have d1 := BX1.out.2 1 _ rfl
  have d2 := BX1.out.2 2 _ rfl
  have d3 := BX1.out.2 3 _ rfl
  have d4 := BX1.out.2 4 _ rfl
  have d5 := BX1.out.2 5 _ rfl
  have d6 := BX1.out.2 6 _ rfl
  have d7 := BX1.out.2 7 _ rfl
  have d8 := BX1.out.2 8 _ rfl
  go_enter Tryz.func32, Tryz.ntmps32
  go_wp2_with fail
  refine (C2.out _ BR1.out).mono ?_
  rintro e w2 ⟨rv, T, rfl, hT, hL, b2⟩
  have hTl : T.length = PL.length := by rw [← hT, List.length_map]
  have hTn : T.length ≤ 1048576 := by omega
  have HTL := Lib.hid hTl
  have HPT := Lib.hid hT
  have HL2 := Lib.hid hL
  have HB2 := Lib.hid (HB1.out.trans (b2.mono HB1.out.size))
  have HO2 := Lib.hid (owns_below HO1.out b2 (Nat.le_refl _))
  have hsep : Hid (∀ k, k < w.heap.size + 2 → ∀ x ∈ T, x.1.ownBlock ≠ some k) := fun k hk x hx e => by have h1 := ((hL.2.1 x hx).lt k e).1; simp at h1; omega
  have hsep2 : Hid (∀ k, k < w.heap.size + 2 → rv.ownBlock ≠ some k) := fun k hk e => by have h1 := (hL.1.lt k e).1; simp at h1; omega
  obtain ⟨pa, pc, hvf⟩ := owns_form hL.1
  subst hvf
  clear d0 d1 d2 d3 d4 d5 d6 d7 d8 hT hL b2 hTl BX1 BR1 HB1 HO1 C2
  go_wp2
  go_loopw [3, 10] (fun ov iv wr => ∃ k : Nat, k ≤ T.length ∧ iv = .int .i64 k ∧ Hid (∀ p ∈ PL.take k, p.length = 1) ∧ Hid (wr.ownsRow w.heap.size 3 1 ov k ((PL.take k).flatten.map (Value.int .i64))) ∧ Hid (LL wr (w.heap.size + 2) (.slice pa T.length pc) T) ∧ (∀ q, ov.ownBlock = some q → Hid ((.slice pa T.length pc : Value).ownBlock ≠ some q ∧ ∀ x ∈ T, x.1.ownBlock ≠ some q)) ∧ Hid (Below w.heap.size w wr)) (fun _ iv _ => T.length - (intOf iv).toNat)
  case atStart =>
    refine ⟨0, Nat.zero_le _, rfl, fun p hp => by simp at hp, HO2, HL2.out.mono (by simp), fun q hq => ?_, HB2⟩
    have : q = w.heap.size + 1 := by simpa [Value.ownBlock] using hq.symm
    subst this
    exact ⟨hsep2.out _ (by omega), hsep.out _ (by omega)⟩
  case round =>
    clear HO2 HL2 HB2 hsep hsep2
    obtain ⟨k, hk, rfl, hone, HO, HL, hsp, HB⟩ := hrel
    have HSP := Lib.hid hsp
    clear hsp
    by_cases hlt : k < T.length
    · obtain ⟨y, hy⟩ : ∃ y, T[k]? = some y := ⟨_, List.getElem?_eq_getElem hlt⟩
      have hyp : PL[k]? = some y.2 := by rw [← HPT.out, List.getElem?_map, hy]; rfl
      have hyT := List.mem_of_getElem? hy
      have hrow := HL.out.2.1 _ hyT
      obtain ⟨pg, pcap, he, hpc, _, cp⟩ := vals_at (x := y.1) (j := k) HL.out.1 (by rw [List.getElem?_map, hy]; rfl)
      simp only [Value.slice.injEq, true_and] at he
      obtain ⟨rfl, rfl⟩ := he
      have hklt : (k : Int) < T.length := by omega
      have htk : PL.take (k + 1) = PL.take k ++ [y.2] := by
        obtain ⟨hkp, e⟩ := List.getElem?_eq_some_iff.1 hyp
        rw [← List.take_append_getElem hkp, e]
      by_cases h1 : y.2.length = 1
      · obtain ⟨x, hx⟩ : ∃ x, y.2 = [x] := List.length_eq_one_iff.1 h1
        rw [hx] at hrow
        obtain ⟨yg, ycap, hyf, hyc, _, cy⟩ := vals_at (x := .int .i64 x) (j := 0) hrow rfl
        have HK1 : Hid (∀ p ∈ PL.take (k + 1), p.length = 1) := fun p hp => by
          rw [htk] at hp
          rcases List.mem_append.1 hp with hp | hp
          · exact hone.out p hp
          · rw [List.mem_singleton.1 hp]; exact h1
        have HFL : Hid ((PL.take (k + 1)).flatten = (PL.take k).flatten ++ [x]) := by show _ = _; rw [htk, List.flatten_append, hx]; rfl
        clear htk hyp hy h1 hx hone hrow
        have HYT := Lib.hid hyT
        clear hyT
        generalize y.1 = yv at *
        subst hyf
        have g1 : ((([x] : List Int).length : Int) == 1) = true := rfl
        have g2 : ((([x] : List Int).length : Int) != 1) = false := rfl
        simp only [List.length_cons, List.length_nil, Nat.zero_add] at *
        have hown := HO.out
        have hsz := HB.out.size
        go_wp2_with (at_builtin; refine wpList_pushL rfl (.tmp 17) (.tmp 21) 24 rfl w.heap.size 3 Tryz.underlying24 hi hz0 hz1 hz2 rfl (by decide) [.int .i64 x] rfl (by intro u hu; simp at hu; subst hu; rfl) rfl (by first | rfl | (show Value.slice (some ⟨_, 0, none⟩) 1 1 = _; simp)) hown (by unfold maxLen; omega) (by omega) hsz ?_; intro g5 c5 w5 o5 gr5 at5 lt5; have O5 := Lib.hid o5; have G5 := Lib.hid gr5; have A5 := Lib.hid at5; clear o5 gr5 at5)
        go_roundw
        case rel =>
          refine ⟨k + 1, by omega, by go_num, HK1, by show World.ownsRow _ _ _ _ _ _ _; rw [HFL.out, List.map_append]; exact O5.out, HL.out.kept G5.out HSP.out, fun q hq => ?_, HB.out.grown G5.out hsz (fun q hq => (HO.out.lt q hq).1)⟩
          have : q = g5 := by simpa [Value.ownBlock] using hq.symm
          subst this
          rcases A5.out with h | h
          · exact (HSP.out _ h).out
          · exact ⟨fun e => by have := (HL.out.1.lt _ e).2; omega, fun x hx e => by have := ((HL.out.2.1 x hx).lt _ e).2; omega⟩
        case measure => simp [intOf]; omega
      · have HNO : Hid (orderL PL = []) := by
          show orderL PL = []
          unfold orderL
          rw [if_neg (fun h => h1 (h _ (List.mem_of_getElem? hyp)))]
        obtain ⟨ya, yc, hyf⟩ := owns_form hrow
        have g1 : ((y.2.length : Int) == 1) = false := beq_eq_false_iff_ne.2 (by omega)
        have g2 : ((y.2.length : Int) != 1) = true := by unfold bne; rw [g1]; rfl
        rw [HNO.out]
        clear htk hyp hy h1 hone hrow hyT
        generalize y.1 = yv at *
        subst hyf
        go_wp2
        go_ret
        exact IntsL.none HB.out
    · obtain rfl : T.length = k := by omega
      have hall := hone.out
      have hO := HO.out
      rw [show PL.take T.length = PL by rw [HTL.out, List.take_length]] at hall hO
      have HR : Hid (orderL PL = PL.flatten) := by
        show orderL PL = _
        unfold orderL
        rw [if_pos hall]
      have HLn : Hid (PL.flatten.length = T.length) := by show _ = _; rw [flat_ones _ hall, HTL.out]
      have HO' := Lib.hid hO
      clear hall hO HO hone
      go_wp2
      go_ret
      exact ⟨_, rfl, by rw [HR.out, HLn.out]; exact HO'.out, HB.out⟩
end Go.Proofs.YtakbolkdbpehoaaGreat
set_option linter.unusedVariables false
namespace Go.Proofs.YtakbolkdbpehoaaGreat
open Go.RowKit

theorem madeNm_eq {i : Nat} (h : i < 10) : madeNm i = ⟨#[116, UInt8.ofNat (48 + i)]⟩ := by
  unfold madeNm
  rw [itoa_pos _ (by omega), Int.toNat_natCast, Lib.decDigits_one h]
  rfl
theorem madeNm_ok : ∀ i : Nat, i < 6 → nameB (madeNm i) = true := by
  intro i h
  rw [madeNm_eq (by omega)]
  have : i = 0 ∨ i = 1 ∨ i = 2 ∨ i = 3 ∨ i = 4 ∨ i = 5 := by omega
  rcases this with rfl | rfl | rfl | rfl | rfl | rfl <;> decide
theorem madeNm_inj {i j : Nat} (hi : i < 6) (hj : j < 6) (h : madeNm i = madeNm j) : i = j := by
  rw [madeNm_eq (by omega), madeNm_eq (by omega)] at h
  have key : ∀ a b : Fin 6, UInt8.ofNat (48 + a.val) = UInt8.ofNat (48 + b.val) → a = b := by decide
  have e : UInt8.ofNat (48 + i) = UInt8.ofNat (48 + j) := by
    have := congrArg (fun b : ByteArray => b.data.toList) h
    simpa using this
  have := key ⟨i, hi⟩ ⟨j, hj⟩ e
  simpa using this
theorem madeSeed_inj {n turn i j : Nat} (hn : 2 ≤ n ∧ n ≤ 6) (hi : i < n) (hj : j < n) (h : (i + turn) % n = (j + turn) % n) : i = j := by
  have : n = 2 ∨ n = 3 ∨ n = 4 ∨ n = 5 ∨ n = 6 := by omega
  rcases this with rfl | rfl | rfl | rfl | rfl <;> omega
section
variable {n : Nat} {G : Nat → TeamD}
theorem FieldGood.field (h : FieldGood n G) : fieldP n G := by
  obtain ⟨hn, ⟨turn, ht, hm⟩, _⟩ := h
  refine ⟨by omega, fun i hi => ⟨⟨?_, ?_, ?_⟩, fun j hj => ⟨fun e => ?_, fun e => ?_⟩⟩⟩
  · rw [(hm i hi).1]; exact madeNm_ok i (by omega)
  · have := (hm i hi).2.1; omega
  · have := (hm i hi).2.2
    have := Nat.mod_lt (i + turn) (show 0 < n by omega)
    omega
  · rw [(hm i hi).1, (hm j (by omega)).1] at e
    have := madeNm_inj (by omega) (by omega) e
    omega
  · rw [(hm i hi).2.2, (hm j (by omega)).2.2] at e
    have := madeSeed_inj (turn := turn) hn (show j < n by omega) hi (by omega)
    omega
end
end Go.Proofs.YtakbolkdbpehoaaGreat
set_option linter.unusedVariables false
namespace Go.Proofs.YtakbolkdbpehoaaGreat
open Go.RowKit

theorem getI_zero {K : List Int} (h : drawnL K) : getI K 0 = 1 := by
  obtain ⟨h1, _, _⟩ := h
  cases K with
  | nil => simp at h1
  | cons x l => simp at h1; simp [getI, h1]
theorem drawn_pos {K : List Int} (h : drawnL K) : 0 < K.length := by
  obtain ⟨h1, _, _⟩ := h
  cases K with
  | nil => simp at h1
  | cons x l => simp
theorem drawn_in {K : List Int} (h : drawnL K) (i : Nat) (hi : i < K.length) : 1 ≤ getI K i ∧ getI K i ≤ 7 := by
  by_cases h0 : i = 0
  · subst h0; rw [getI_zero h]; omega
  · have := h.2.1 i (by omega) hi; omega
theorem lad_drawn {K : List Int} (h : drawnL K) (hl : K.length ≤ 4) : ladP K.length (getI K) :=
  ⟨by have := drawn_pos h; omega, fun i hi => ⟨by have := drawn_in h i hi; omega, fun ⟨j, hj, he⟩ => h.2.2 j i hj hi he⟩⟩
theorem lad_full {K : List Int} (h : drawnL K) (hl : K.length ≤ 4) : ladP (K.length + 1) (getI (K ++ [8])) := by
  refine ⟨by omega, fun i hi => ?_⟩
  by_cases e : i = K.length
  · subst e
    rw [getI_last]
    refine ⟨by omega, fun ⟨j, hj, he⟩ => ?_⟩
    rw [getI_left _ _ _ hj] at he
    have := drawn_in h j hj; omega
  · rw [getI_left _ _ _ (by omega)]
    refine ⟨by have := drawn_in h i (by omega); omega, fun ⟨j, hj, he⟩ => ?_⟩
    rw [getI_left _ _ _ (by omega)] at he
    exact h.2.2 j i hj (by omega) he
theorem good_rules {win : Int} {K : List Int} (hw : win = 2 ∨ win = 3) (h : drawnL K) (hl : K.length ≤ 4) : rulesP win 1 0 (K.length + 1) (getI (K ++ [8])) :=
  ⟨by omega, by omega, by omega, lad_full h hl⟩
end Go.Proofs.YtakbolkdbpehoaaGreat
set_option linter.unusedVariables false
namespace Go.Proofs.YtakbolkdbpehoaaGreat
open Go.RowKit

/-- a made book with a season, as data -/
def caseB (n : Nat) (b : BookI) (LG : List GameD) : BookD :=
  { nf := n, f := fun i => if i < n then b.field i else ⟨ByteArray.empty, 0, 0⟩, win := b.win, draw := 1, loss := 0, nl := b.lad.length, l := getI b.lad, again := b.ag, m := LG.length, g := getG LG, nfa := b.fair.length, fa := getI b.fair, nta := b.taken.length, ta := getI b.taken }
theorem case_names {n : Nat} {b : BookI} {LG : List GameD} {turn : Nat} (h : MadeF n turn b.field n) (hn : n ≤ 8) : ∀ i, ((caseB n b LG).f i).nm.size ≤ maxLen := fun i => by
  show (if i < n then b.field i else ⟨ByteArray.empty, 0, 0⟩ : TeamD).nm.size ≤ maxLen
  by_cases hi : i < n
  · rw [if_pos hi, (h i hi).1]
    have e2 : madeNm i = ⟨#[116, UInt8.ofNat (48 + i)]⟩ := by
      unfold madeNm
      rw [itoa_pos _ (by omega), Int.toNat_natCast, Lib.decDigits_one (by omega)]
      rfl
    rw [e2]
    show (2 : Nat) ≤ maxLen
    unfold maxLen
    omega
  · rw [if_neg hi]
    show (0 : Nat) ≤ maxLen
    omega
theorem case_field {n turn : Nat} {b : BookI} {LG : List GameD} (hn : 2 ≤ n ∧ n ≤ 6) (ht : turn < n) (h : MadeF n turn b.field n) : FieldGood n (caseB n b LG).f := by
  refine ⟨hn, ⟨turn, ht, fun i hi => ?_⟩, fun i hi => ?_⟩
  · show (if i < n then b.field i else ⟨ByteArray.empty, 0, 0⟩ : TeamD).nm = _ ∧ _
    have e : (caseB n b LG).f i = b.field i := by show (if i < n then b.field i else ⟨ByteArray.empty, 0, 0⟩ : TeamD) = _; rw [if_pos hi]
    have := h i hi
    rw [← e] at this
    exact this
  · show (if i < n then b.field i else ⟨ByteArray.empty, 0, 0⟩ : TeamD) = _
    rw [if_neg (by omega)]
/-- a made book with a valid season is valid -/
theorem case_book {n opn : Nat} {b : BookI} {LG : List GameD} (hn : 2 ≤ n ∧ n ≤ 6) (hg : BookI.good n opn b) (hs : seasonP n LG.length (getG LG)) : bookP (caseB n b LG) := by
  obtain ⟨⟨h1, h2⟩, ⟨hw, K, hK, hd, hK4⟩, _, ⟨hf, hf2⟩, ht, ht2⟩ := hg
  refine ⟨(case_field hn h1 h2).field, ?_, hs, hf, ht, fun i hi => ?_⟩
  · have := good_rules hw hd hK4
    show rulesP b.win 1 0 b.lad.length (getI b.lad)
    rw [hK, List.length_append]
    exact this
  · have hi' : i < n := hi
    have e1 : getI b.fair i ∈ b.fair := by simp [getI, show i < b.fair.length by omega]
    have e2 : getI b.taken i ∈ b.taken := by simp [getI, show i < b.taken.length by omega]
    have h3 := hf2 _ e1
    have h4 := ht2 _ e2
    refine ⟨⟨?_, ?_⟩, ?_, ?_⟩
    · show 0 ≤ getI b.fair i; omega
    · show getI b.fair i ≤ 1000; omega
    · show 0 ≤ getI b.taken i; omega
    · show getI b.taken i ≤ 1000; omega
theorem case_first {n opn : Nat} {b : BookI} {LG : List GameD} (hg : BookI.good n opn b) : 0 < (caseB n b LG).nl ∧ (caseB n b LG).l 0 = 1 := by
  obtain ⟨_, ⟨hw, K, hK, hd, hK4⟩, _⟩ := hg
  have hp := drawn_pos hd
  refine ⟨?_, ?_⟩
  · show 0 < b.lad.length
    rw [hK, List.length_append]; simp
  · show getI b.lad 0 = 1
    rw [hK, getI_left _ _ _ hp]
    exact getI_zero hd
theorem case_last {n opn : Nat} {b : BookI} {LG : List GameD} (hg : BookI.good n opn b) : ∃ j, 0 ≤ j ∧ j < (caseB n b LG).nl ∧ (caseB n b LG).l j = 8 := by
  obtain ⟨_, ⟨hw, K, hK, hd, hK4⟩, _⟩ := hg
  refine ⟨K.length, Nat.zero_le _, ?_, ?_⟩
  · show K.length < b.lad.length
    rw [hK, List.length_append]; simp
  · show getI b.lad K.length = 8
    rw [hK]; exact getI_last _ _
end Go.Proofs.YtakbolkdbpehoaaGreat
set_option linter.unusedVariables false
namespace Go.Proofs.YtakbolkdbpehoaaGreat
open Go.RowKit

/-- an order of the numbers below k -/
def permL (k : Nat) (L : List Int) : Prop := L.length = k ∧ (∀ x ∈ L, 0 ≤ x ∧ x < k) ∧ (∀ i : Nat, i < k → (i : Int) ∈ L) ∧ L.Nodup
theorem gapA_mem' {α : Type} {L : List α} {j : Nat} {u y : α} : y ∈ gapA L j u ↔ y = u ∨ y ∈ L := by
  refine ⟨gapA_mem, fun h => ?_⟩
  unfold gapA
  rcases h with rfl | h
  · simp
  · rw [← List.take_append_drop j L] at h
    rcases List.mem_append.1 h with h | h
    · exact List.mem_append_left _ h
    · exact List.mem_append_right _ (List.mem_cons_of_mem _ h)
theorem permL.more {k j : Nat} {L : List Int} (h : permL k L) (hj : j ≤ k) : permL (k + 1) (gapA L j (k : Int)) := by
  obtain ⟨h1, h2, h3, h4⟩ := h
  refine ⟨by rw [gapA_len (by omega), h1], fun x hx => ?_, fun i hi => ?_, ?_⟩
  · rcases gapA_mem'.1 hx with rfl | hx
    · omega
    · have := h2 x hx; omega
  · by_cases e : i = k
    · subst e; exact gapA_mem'.2 (.inl rfl)
    · exact gapA_mem'.2 (.inr (h3 i (by omega)))
  · refine gapA_pairwise h4 (fun y hy e => ?_) fun y hy e => ?_
    · have := h2 y hy; omega
    · have := h2 y hy; omega
def OrdS (B : Nat) (a : Option Addr) (len cap : Nat) (g : Nat → Nat) (w0 : World) (v : Value) (n : Nat) (L : List Int) (w : World) : Prop :=
  Cur B a len cap g w ∧ w.ownsRow w0.heap.size 3 1 v n (L.map (Value.int .i64)) ∧ w0.grownBy w (some B) ∧ B < w0.heap.size
section
variable {B : Nat} {a : Option Addr} {len cap : Nat} {g : Nat → Nat} {w0 w w' : World} {v : Value} {n : Nat} {L : List Int}
theorem OrdS.drawn (h : OrdS B a len cap g w0 v n L w) (hc : Cur B a len cap g w') (hg : w.grownBy w' (some B)) : OrdS B a len cap g w0 v n L w' :=
  ⟨hc, owns_drawn h.2.1 h.2.2.2 hg, grown_trans h.2.2.1 hg, h.2.2.2⟩
theorem OrdS.push {gg cc : Nat} {x : Int} (h : OrdS B a len cap g w0 v n L w) (ho : w'.ownsRow w0.heap.size 3 1 (.slice (some ⟨gg, 0, none⟩) (n + 1) cc) (n + 1) (L.map (Value.int .i64) ++ [.int .i64 x])) (hg : w.grownBy w' v.ownBlock) : OrdS B a len cap g w0 (.slice (some ⟨gg, 0, none⟩) (n + 1) cc) (n + 1) (L ++ [x]) w' := by
  have hb : Below w0.heap.size w w' := (Below.refl _ _).grown hg h.2.2.1.size (fun k hk => (h.2.1.lt k hk).1)
  refine ⟨h.1.belowW hb h.2.2.2, by rw [List.map_append]; exact ho, ?_, h.2.2.2⟩
  exact ⟨hb.os.trans h.2.2.1.os, hb.tape.trans h.2.2.1.tape, hb.output.trans h.2.2.1.output, Nat.le_trans h.2.2.1.size hb.size, fun k hk hne => (hb.block k hk).trans (h.2.2.1.block k hk hne)⟩
theorem OrdS.set {gg cc : Nat} (h : OrdS B a len cap g w0 (.slice (some ⟨gg, 0, none⟩) n cc) n L w) (j : Nat) (x : Int) : OrdS B a len cap g w0 (.slice (some ⟨gg, 0, none⟩) n cc) n (L.set j x) (w.setCell ⟨gg, j, none⟩ (.int .i64 x)) := by
  have hb : Below w0.heap.size w (w.setCell ⟨gg, j, none⟩ (.int .i64 x)) := (Below.refl _ _).setCell (h.2.1.lt gg rfl).1 _
  refine ⟨h.1.belowW hb h.2.2.2, by rw [List.map_set]; exact (h.2.1.stored j _).1, ?_, h.2.2.2⟩
  exact ⟨hb.os.trans h.2.2.1.os, hb.tape.trans h.2.2.1.tape, hb.output.trans h.2.2.1.output, Nat.le_trans h.2.2.1.size hb.size, fun k hk hne => (hb.block k hk).trans (h.2.2.1.block k hk hne)⟩
end
def OrdMade (B : Nat) (a : Option Addr) (len cap : Nat) (g : Nat → Nat) (n : Nat) (w : World) (e : Ending) (w' : World) : Prop :=
  ∃ v L, e = .returned v ∧ permL n L ∧ OrdS B a len cap g w v n L w'
set_option maxHeartbeats 2000000 in
set_option maxRecDepth 100000 in
theorem l02Order_any (B : Nat) (a : Option Addr) (len cap : Nat) (g : Nat → Nat) (n : Nat) (w : World) (hc : Cur B a len cap g w) (hn : n ≤ 200) :
    Calls Tryz.prog 46 #[.pointer (some ⟨B, 0, none⟩), .int .i64 (n : Int)] w (OrdMade B a len cap g n w) := by
  obtain ⟨i0, hi, hz0, hz1, hz2⟩ := info_parts Tryz.infoI
  have LB := Lib.hid (fun (m : Nat) w1 hc (h1 : 0 < m) (h2 : m ≤ 256) => l01Below_small B a len cap g m w1 hc h1 h2)
  have al : Below w.heap.size w (w.alloc (.cells #[] 3)) := (Below.refl _ _).alloc (Nat.le_refl _) _
  have HS : Hid (OrdS B a len cap g w (.slice (some ⟨w.heap.size, 0, none⟩) 0 0) 0 [] (w.alloc (.cells #[] 3))) :=
    ⟨hc.belowW al hc.ltW, World.ownsRow_lit (e := 3) (size := 1) w #[] 0 (Nat.le_refl _) (by decide) rfl, World.grownBy_alloc w _ _, hc.ltW⟩
  clear al hc
  go_enter Tryz.func46, Tryz.ntmps46
  go_wp2
  go_loopw [5, 6] (fun ov iv wr => ∃ (k : Nat) (L : List Int), k ≤ n ∧ iv = .int .i64 k ∧ Hid (permL k L) ∧ Hid (OrdS B a len cap g w ov k L wr)) (fun _ iv _ => n - (intOf iv).toNat)
  case atStart => exact ⟨0, [], Nat.zero_le _, rfl, ⟨rfl, fun x hx => (by cases hx), fun i hi => absurd hi (by omega), List.Pairwise.nil⟩, HS⟩
  case round =>
    clear HS
    obtain ⟨k, L, hk, rfl, HP, HS⟩ := hrel
    obtain ⟨oa, oc, hof⟩ := owns_form HS.out.2.1
    subst hof
    by_cases hlt : k < n
    · obtain ⟨la, hla⟩ : ∃ la : Nat, ((k : Int) + 1) = la := ⟨k + 1, by omega⟩
      have hla0 : 0 < la := by omega
      have hla2 : la ≤ 256 := by omega
      have HLA : Hid (la = k + 1) := by show la = k + 1; omega
      have hlt' : (k : Int) < n := by omega
      go_wp2_with fail
      clear hla
      refine (LB.out la _ HS.out.1 hla0 hla2).mono ?_
      rintro e w2 ⟨at', hat, rfl, c2, g2⟩
      have HS2 := Lib.hid (HS.out.drawn c2 g2)
      have hak : at' ≤ k := by have := HLA.out; omega
      have hsz : w.heap.size ≤ w2.heap.size := HS2.out.2.2.1.size
      have HPL := Lib.hid HP.out.1
      have HP2 := Lib.hid (HP.out.more hak)
      clear c2 g2 HS HLA hla0 hla2 hat HP
      go_wp2_with (at_builtin; refine wpList_pushL rfl (.tmp 19) (.tmp 20) 24 rfl w.heap.size 3 Tryz.underlying24 hi hz0 hz1 hz2 rfl (by decide) [.int .i64 0] rfl (by intro u hu; simp at hu; subst hu; rfl) rfl (by first | rfl | (show Value.slice (some ⟨_, 0, none⟩) 1 1 = _; simp)) HS2.out.2.1 (by unfold maxLen; omega) (by omega) hsz ?_; intro gg cc w5 o5 g5 at5 lt5; have HS5 := Lib.hid (HS2.out.push o5 g5); clear o5 g5 at5 lt5 HS2)
      go_loopw [8] (fun kk wr => ∃ (i : Nat) (u : Int), at' ≤ i ∧ i ≤ k ∧ kk = .int .i64 i ∧ Hid (OrdS B a len cap g w (.slice (some ⟨gg, 0, none⟩) (k + 1) cc) (k + 1) (gapA L i u) wr)) (fun kk _ => (intOf kk).toNat)
      case atStart => exact ⟨k, 0, hak, Nat.le_refl _, by go_num, Lib.hid (by have := HS5.out; rw [← HPL.out]; rw [gapA_end, HPL.out]; exact this)⟩
      case round =>
        clear HS5
        obtain ⟨i, u, hai, hik, rfl, HSi⟩ := hrel
        by_cases hij : at' < i
        · obtain ⟨i', rfl⟩ : ∃ i', i = i' + 1 := ⟨i - 1, by omega⟩
          obtain ⟨y, hy⟩ : ∃ y, L[i']? = some y := ⟨_, List.getElem?_eq_getElem (by have := HPL.out; omega)⟩
          have c1 := owns_cell HSi.out.2.1 i' (by omega) (u := .int .i64 y) (Lib.hid (by rw [List.getElem?_map, gapA_get (by omega) (by have := HPL.out; omega), hy]; rfl))
          obtain ⟨s1, hs1⟩ := owns_some HSi.out.2.1 (i' + 1) (by omega)
          have c3 := owns_cell HSi.out.2.1 (i' + 1) (by omega) (Lib.hid hs1)
          have f3 := HSi.out.2.1.frozenAt (i' + 1)
          have HN : Hid (OrdS B a len cap g w (.slice (some ⟨gg, 0, none⟩) (k + 1) cc) (k + 1) (gapA L i' y) (wr.setCell ⟨gg, i' + 1, none⟩ (.int .i64 y))) := by
            have := HSi.out.set (i' + 1) y
            rw [gapA_set (by have := HPL.out; omega), gapA_step hy] at this
            exact this
          clear hy hs1
          go_wp2
          go_roundw
          case rel => exact ⟨i', y, by omega, by omega, by go_num, HN⟩
          case measure => simp [intOf]
        · have hij' : at' = i := by omega
          subst hij'
          obtain ⟨s1, hs1⟩ := owns_some HSi.out.2.1 at' (by omega)
          have c3 := owns_cell HSi.out.2.1 at' (by omega) (Lib.hid hs1)
          have f3 := HSi.out.2.1.frozenAt at'
          have HN : Hid (OrdS B a len cap g w (.slice (some ⟨gg, 0, none⟩) (k + 1) cc) (k + 1) (gapA L at' k) (wr.setCell ⟨gg, at', none⟩ (.int .i64 k))) := by
            have := HSi.out.set at' (k : Int)
            rw [gapA_set (by have := HPL.out; omega)] at this
            exact this
          clear hs1
          go_wp2
          go_roundw
          case rel => exact ⟨k + 1, gapA L at' k, by omega, by go_num, HP2, HN⟩
          case measure => simp [intOf]; omega
    · obtain rfl : n = k := by omega
      go_wp2
      go_ret
      exact ⟨_, L, rfl, HP.out, HS.out⟩
/-- an order of n numbers, in memory of the call's own -/
def OrderMade (n : Nat) (w : World) (e : Ending) (w' : World) : Prop := ∃ v L, e = .returned v ∧ permL n L ∧ w'.ownsRow w.heap.size 3 1 v n (L.map (Value.int .i64)) ∧ Below w.heap.size w w'
set_option maxHeartbeats 1000000 in
set_option maxRecDepth 100000 in
theorem makeOrder_any (a : Option Addr) (len cap : Nat) (g : Nat → Nat) (n : Nat) (w : World) (hr : ByteRow w a len g) (hg : ∀ i, g i ≤ 255) (hl : len ≤ 1048576) (h1 : 1 ≤ n) (h2 : n ≤ 90) :
    Calls Tryz.prog 16 #[.slice a len cap, .int .i64 (n : Int)] w (OrderMade n w) := by
  have C := Lib.hid (l27New_any a len cap 100 g w hr hg hl (by omega))
  have L2 : Hid (∀ B w1, Cur B a len cap g w1 → ∀ z : Int, z = n → Calls Tryz.prog 46 #[.pointer (some ⟨B, 0, none⟩), .int .i64 z] w1 (OrdMade B a len cap g n w1)) := fun B w1 hc z hz => by subst hz; exact l02Order_any B a len cap g n w1 hc (by omega)
  clear hr hg hl
  go_enter Tryz.func16, Tryz.ntmps16
  go_wp2_with fail
  refine C.out.mono ?_
  rintro e w1 ⟨B, rfl, hB, hc, hb⟩
  have HC := Lib.hid hc
  have HB := Lib.hid hb
  have HBB := Lib.hid hB
  clear C hc hb hB
  go_wp2_with fail
  all_goals
    refine (L2.out B _ HC.out _ (by omega)).mono ?_
    rintro e w2 ⟨v, L, rfl, hp, hs⟩
    have HP := Lib.hid hp
    have HO := Lib.hid (owns_mono (base' := w.heap.size) hs.2.1 HB.out.size)
    have HE := Lib.hid (HB.out.grown hs.2.2.1 HB.out.size (fun k hk => by cases hk; exact HBB.out))
    clear hp hs
    go_wp2
    go_ret
    exact ⟨v, L, rfl, HP.out, HO.out, HE.out⟩
end Go.Proofs.YtakbolkdbpehoaaGreat
set_option linter.unusedVariables false
namespace Go.Proofs.YtakbolkdbpehoaaGreat
open Go.RowKit

theorem case_seeds {n opn : Nat} {b : BookI} {LG : List GameD} (hn : 2 ≤ n ∧ n ≤ 6) (hg : BookI.good n opn b) : seedI (caseB n b LG) := by
  obtain ⟨⟨h1, h2⟩, _⟩ := hg
  intro i j hi hj gg m e
  have hi' : i < n := hi
  have hj' : j < n := hj
  have f : ∀ k, k < n → ((caseB n b LG).f k).seed = (((k + b.turn) % n : Nat) : Int) + 1 := fun k hk => by
    show (if k < n then b.field k else ⟨ByteArray.empty, 0, 0⟩ : TeamD).seed = _
    rw [if_pos hk]
    exact (h2 k hk).2.2
  unfold bookV valD at e
  simp only [show ¬ ((8 : Int) = 1) by decide, show ¬ ((8 : Int) = 5) by decide, show ¬ ((8 : Int) = 2 ∨ (8 : Int) = 6) by decide, show ¬ ((8 : Int) = 3) by decide, show ¬ ((8 : Int) = 4) by decide, show ¬ ((8 : Int) = 7) by decide, if_true, if_false] at e
  rw [f i hi', f j hj'] at e
  have b1 := Nat.mod_lt (i + b.turn) (show 0 < n by omega)
  have b2 := Nat.mod_lt (j + b.turn) (show 0 < n by omega)
  have wid : ∀ z : Int, -9223372036854775808 ≤ z ∧ z ≤ 9223372036854775807 → wrap64 z = z := fun z h => by unfold wrap64; omega
  rw [wid _ (by omega), wid _ (by omega)] at e
  exact madeSeed_inj (turn := b.turn) hn hi' hj' (by omega)
theorem allL_nodup (n : Nat) : (allL n).Nodup := by
  unfold allL valsL
  refine List.Pairwise.map _ (fun a b h e => h (by omega)) List.nodup_range
theorem allL_mem {n : Nat} {u : Int} : u ∈ allL n ↔ 0 ≤ u ∧ u < n := by
  unfold allL valsL
  rw [List.mem_map]
  constructor
  · rintro ⟨i, hi, rfl⟩
    have := List.mem_range.1 hi
    omega
  · rintro ⟨h1, h2⟩
    exact ⟨u.toNat, List.mem_range.2 (by omega), by omega⟩
section
variable {n opn : Nat} {b : BookI} {LG : List GameD}
theorem case_ones (hn : 2 ≤ n ∧ n ≤ 6) (hg : BookI.good n opn b) : ∀ p ∈ rankP (caseB n b LG) (allL n) 0, p.length = 1 :=
  rank_ones _ (case_seeds hn hg) _ _ (allL_nodup n) (fun u hu => allL_mem.1 hu) (case_last hg)
/-- the order of all teams -/
def orderB (n : Nat) (b : BookI) (LG : List GameD) : List Int := (rankP (caseB n b LG) (allL n) 0).flatten
theorem orderB_perm : (orderB n b LG).Perm (allL n) := rank_perm _ _ _
theorem orderB_len : (orderB n b LG).length = n := by rw [orderB_perm.length_eq, allL_len]
theorem orderB_nodup : (orderB n b LG).Nodup := orderB_perm.nodup_iff.2 (allL_nodup n)
theorem orderB_groups (hn : 2 ≤ n ∧ n ≤ 6) (hg : BookI.good n opn b) : (rankP (caseB n b LG) (allL n) 0).length = n := by
  rw [← flat_ones _ (case_ones hn hg)]; exact orderB_len
theorem orderB_ranking (hn : 2 ≤ n ∧ n ≤ 6) (hg : BookI.good n opn b) : orderL (rankP (caseB n b LG) (allL n) 0) = orderB n b LG := by
  unfold orderL; rw [if_pos (case_ones hn hg)]; rfl
theorem orderB_rank (hn : 2 ≤ n ∧ n ≤ 6) (hg : BookI.good n opn b) {i : Nat} {t : Int} (h : (orderB n b LG)[i]? = some t) : rankAt t (rankP (caseB n b LG) (allL n) 0) 1 = (i : Int) + 1 := by
  rw [rankAt_ones _ i 1 (case_ones hn hg) orderB_nodup h]; omega
theorem orderB_order (hn : 2 ≤ n ∧ n ≤ 6) : orderP n (orderB n b LG).length (getI (orderB n b LG)) := by
  have hl := orderB_len (n := n) (b := b) (LG := LG)
  rw [hl]
  refine ⟨by omega, rfl, fun i hi => ?_⟩
  have hm : getI (orderB n b LG) i ∈ orderB n b LG := by
    simp only [getI, List.getD_eq_getElem?_getD, List.getElem?_eq_getElem (show i < (orderB n b LG).length by omega), Option.getD_some]
    exact List.getElem_mem _
  have hr := allL_mem.1 (orderB_perm.mem_iff.1 hm)
  refine ⟨⟨hr.1, by omega⟩, fun ⟨j, hj, e⟩ => ?_⟩
  have hnd := orderB_nodup (n := n) (b := b) (LG := LG)
  have h1 := List.getElem?_eq_getElem (show i < (orderB n b LG).length by omega)
  have h2 := List.getElem?_eq_getElem (show j < (orderB n b LG).length by omega)
  simp only [getI, List.getD_eq_getElem?_getD, h1, h2, Option.getD_some] at e
  have h3 := (List.getElem_inj hnd).1 e
  omega
theorem val_points (d : BookD) (gg gg' : Nat → Int) (m m' : Nat) (i : Nat) : bookV d 1 gg m i = bookV d 1 gg' m' i := by
  have h : mutualB 1 = false := by decide
  unfold bookV bookT
  rw [h]
  rfl
theorem orderB_points (hg : BookI.good n opn b) {gg : Nat → Int} {m i : Nat} {t u : Int} (hi : 0 < i) (h1 : (orderB n b LG)[i - 1]? = some t) (h2 : (orderB n b LG)[i]? = some u) : bookV (caseB n b LG) 1 gg m u.toNat ≤ bookV (caseB n b LG) 1 gg m t.toNat := by
  obtain ⟨h0, hl⟩ := case_first (LG := LG) hg
  have h := rank_desc (caseB n b LG) (allL n) h0
  rw [hl] at h
  obtain ⟨k1, e1⟩ := List.getElem?_eq_some_iff.1 h1
  obtain ⟨k2, e2⟩ := List.getElem?_eq_some_iff.1 h2
  have := List.pairwise_iff_getElem.1 h (i - 1) i k1 k2 (by omega)
  have e1' : (rankP (caseB n b LG) (allL n) 0).flatten[i - 1]'k1 = t := e1
  have e2' : (rankP (caseB n b LG) (allL n) 0).flatten[i]'k2 = u := e2
  rw [e1', e2'] at this
  rw [val_points _ gg (getI (allL n)) m (allL n).length, val_points _ gg (getI (allL n)) m (allL n).length]
  exact this
/-- the order does not depend on the order of the games -/
theorem rankF_same {d d' : BookD} (hnl : d.nl = d'.nl) (hl : d.l = d'.l) (hag : d.again = d'.again) (hV : bookV d = bookV d') : ∀ f G s, rankF d f G s = rankF d' f G s
  | 0, _, _ => rfl
  | f + 1, G, s => by
    have hp : ∀ k gg m, partsL d k gg m = partsL d' k gg m := fun k gg m => by unfold partsL; rw [hV]
    have hs : ∀ m s, nextS d m s = nextS d' m s := fun m s => by unfold nextS; rw [hag, hl]
    unfold rankF
    rw [hnl, hl, hp]
    split
    · rfl
    · split
      · rfl
      · refine congrArg (fun F => List.flatMap F _) ?_
        funext p
        rw [hs]
        exact rankF_same hnl hl hag hV f p _
theorem orderB_games {LG' : List GameD} (h : LG.Perm LG') (hne : ∀ x ∈ LG, x.home.toNat ≠ x.away.toNat) : orderB n b LG = orderB n b LG' := by
  have hT : ∀ sel, tabR b.win 1 0 sel (getG LG) LG.length = tabR b.win 1 0 sel (getG LG') LG'.length := fun sel => tab_perm h hne
  have hV : bookV (caseB n b LG) = bookV (caseB n b LG') := by
    funext key gg m i
    unfold bookV bookT
    show valD key (tabR b.win 1 0 _ (getG LG) LG.length i) _ _ _ = valD key (tabR b.win 1 0 _ (getG LG') LG'.length i) _ _ _
    rw [hT]
    rfl
  unfold orderB rankP
  rw [rankF_same (d := caseB n b LG) (d' := caseB n b LG') rfl rfl rfl hV]
  rfl
end
end Go.Proofs.YtakbolkdbpehoaaGreat
set_option linter.unusedVariables false
namespace Go.Proofs.YtakbolkdbpehoaaGreat
open Go.RowKit

/-- the cells of a book -/
abbrev bkList (fa : Option Addr) (fc : Nat) (la : Option Addr) (lc : Nat) (ga : Option Addr) (gc : Nat) (qa : Option Addr) (qc : Nat) (ta : Option Addr) (tc : Nat) (b : BookD) : List Value :=
  [.slice fa b.nf fc, .int .i64 b.win, .int .i64 b.draw, .int .i64 b.loss, .slice la b.nl lc, .bool b.again, .slice ga b.m gc, .slice qa b.nfa qc, .slice ta b.nta tc]
/-- at w, reached from w0: the box at block B holds the book, and its slices hold what they did -/
structure BkAt (w0 w : World) (B : Nat) (fa : Option Addr) (fc : Nat) (la : Option Addr) (lc : Nat) (ga : Option Addr) (gc : Nat) (qa : Option Addr) (qc : Nat) (ta : Option Addr) (tc : Nat) (b : BookD) : Prop where
  box : BoxN w B (bkList fa fc la lc ga gc qa qc ta tc b)
  row0 : BookRow w0 (.slice fa b.nf fc) (.slice la b.nl lc) (.slice ga b.m gc) (.slice qa b.nfa qc) (.slice ta b.nta tc) b
  bel : Below w0.heap.size w0 w
section
variable {w0 w w' : World} {B : Nat} {fa : Option Addr} {fc : Nat} {la : Option Addr} {lc : Nat} {ga : Option Addr} {gc : Nat} {qa : Option Addr} {qc : Nat} {ta : Option Addr} {tc : Nat} {b : BookD}
theorem BkAt.row (h : BkAt w0 w B fa fc la lc ga gc qa qc ta tc b) : BookRow w (.slice fa b.nf fc) (.slice la b.nl lc) (.slice ga b.m gc) (.slice qa b.nfa qc) (.slice ta b.nta tc) b := h.row0.below h.bel (Nat.le_refl _)
theorem BkAt.next (h : BkAt w0 w B fa fc la lc ga gc qa qc ta tc b) (hb : Below w.heap.size w w') : BkAt w0 w' B fa fc la lc ga gc qa qc ta tc b :=
  ⟨BoxN.below h.box hb, h.row0, h.bel.trans (hb.mono h.bel.size)⟩
theorem box_store {w : World} {B : Nat} {cs : List Value} (h : BoxN w B cs) {p : Addr} (hp : B ≠ p.block) (u : Value) : BoxN (w.setCell p u) B cs :=
  ⟨by have := h.1; simp; omega, fun j v hj => (World.cell?_of_block (w := w) (w' := w.setCell p u) (a := ⟨B, j, none⟩) (Below.heap_setCell w p u B hp)).trans (h.2 j v hj)⟩
theorem BkAt.store (h : BkAt w0 w B fa fc la lc ga gc qa qc ta tc b) {p : Addr} (hp : B ≠ p.block) (h0 : w0.heap.size ≤ p.block) (u : Value) : BkAt w0 (w.setCell p u) B fa fc la lc ga gc qa qc ta tc b :=
  ⟨box_store h.box hp u, h.row0, h.bel.setCell h0 u⟩
theorem BkAt.alloc (h : BkAt w0 w B fa fc la lc ga gc qa qc ta tc b) (o : Obj) : BkAt w0 (w.alloc o) B fa fc la lc ga gc qa qc ta tc b :=
  h.next ((Below.refl _ _).alloc (Nat.le_refl _) _)
theorem BkAt.made (h : BookRow w (.slice fa b.nf fc) (.slice la b.nl lc) (.slice ga b.m gc) (.slice qa b.nfa qc) (.slice ta b.nta tc) b) (t : TypeId) :
    BkAt w (w.alloc (.cells (bkList fa fc la lc ga gc qa qc ta tc b).toArray t)) w.heap.size fa fc la lc ga gc qa qc ta tc b :=
  ⟨BoxN.made (Below.refl _ _) rfl, h, (Below.refl _ _).alloc (Nat.le_refl _) _⟩
/-- the box lies behind a pending other one -/
theorem BkAt.made2 {u : World} (h : BookRow w0 (.slice fa b.nf fc) (.slice la b.nl lc) (.slice ga b.m gc) (.slice qa b.nfa qc) (.slice ta b.nta tc) b) (hu : Below w0.heap.size w0 u) (t : TypeId) (hB : u.heap.size = B) :
    BkAt w0 (u.alloc (.cells (bkList fa fc la lc ga gc qa qc ta tc b).toArray t)) B fa fc la lc ga gc qa qc ta tc b :=
  ⟨BoxN.made (Below.refl _ _) hB, h, hu.trans (((Below.refl _ _).alloc (Nat.le_refl _) _).mono hu.size)⟩
theorem BkAt.grown {q : Nat} (h : BkAt w0 w B fa fc la lc ga gc qa qc ta tc b) (hg : w.grownBy w' (some q)) (hq : B < q) (h0 : w0.heap.size ≤ B) : BkAt w0 w' B fa fc la lc ga gc qa qc ta tc b :=
  ⟨⟨Nat.lt_of_lt_of_le h.box.1 hg.size, fun j v hj => hg.cell (h.box.2 j v hj) (by simp; omega)⟩, h.row0, h.bel.grown hg h.bel.size (fun k e => by cases e; omega)⟩
/-- a world that a walk has built is named -/
theorem code_named {P : Program} {c : Code} {Q : Exit → Act → World → Prop} {a : Act} {w : World} (h : ∀ w', Hid (w' = w) → Code.wp P c Q a w') : Code.wp P c Q a w := h w rfl
theorem BkAt.cells (h : BkAt w0 w B fa fc la lc ga gc qa qc ta tc b) :
    w.cell? ⟨B, 0, none⟩ = some (.slice fa b.nf fc) ∧ w.cell? ⟨B, 1, none⟩ = some (.int .i64 b.win) ∧ w.cell? ⟨B, 2, none⟩ = some (.int .i64 b.draw) ∧ w.cell? ⟨B, 3, none⟩ = some (.int .i64 b.loss) ∧ w.cell? ⟨B, 4, none⟩ = some (.slice la b.nl lc) ∧ w.cell? ⟨B, 5, none⟩ = some (.bool b.again) ∧ w.cell? ⟨B, 6, none⟩ = some (.slice ga b.m gc) ∧ w.cell? ⟨B, 7, none⟩ = some (.slice qa b.nfa qc) ∧ w.cell? ⟨B, 8, none⟩ = some (.slice ta b.nta tc) :=
  ⟨h.box.2 0 _ rfl, h.box.2 1 _ rfl, h.box.2 2 _ rfl, h.box.2 3 _ rfl, h.box.2 4 _ rfl, h.box.2 5 _ rfl, h.box.2 6 _ rfl, h.box.2 7 _ rfl, h.box.2 8 _ rfl⟩
theorem BkAt.lt (h : BkAt w0 w B fa fc la lc ga gc qa qc ta tc b) : B < w.heap.size := h.box.1
theorem BkAt.size (h : BkAt w0 w B fa fc la lc ga gc qa qc ta tc b) : w0.heap.size ≤ w.heap.size := h.bel.size
end
theorem BookRow.sixty {w : World} {vf vl vg vfa vta : Value} {b : BookD} (h : BookRow w vf vl vg vfa vta b) : (b.nf : Int) ≤ 9223372036854775807 ∧ (b.nl : Int) ≤ 9223372036854775807 ∧ (b.m : Int) ≤ 9223372036854775807 ∧ (b.nfa : Int) ≤ 9223372036854775807 ∧ (b.nta : Int) ≤ 9223372036854775807 := by
  obtain ⟨_, _, _, h1, _⟩ := h.1.form
  obtain ⟨_, _, _, h2, _⟩ := h.2.1.form
  obtain ⟨_, _, _, h3, _⟩ := h.2.2.1.form
  obtain ⟨_, _, _, h4, _⟩ := h.2.2.2.1.form
  obtain ⟨_, _, _, h5, _⟩ := h.2.2.2.2.form
  exact ⟨by omega, by omega, by omega, by omega, by omega⟩
end Go.Proofs.YtakbolkdbpehoaaGreat
set_option linter.unusedVariables false
namespace Go.Proofs.YtakbolkdbpehoaaGreat
open Go.RowKit

/-- a made book: 3 to 5 teams, and its games -/
def Made (d : BookD) : Prop := ∃ (n : Nat) (b : BookI), (3 ≤ n ∧ n ≤ 5) ∧ BookI.good n 3 b ∧ d = caseB n b b.games
/-- the order of all teams -/
def ordB (d : BookD) : List Int := (rankP d (allL d.nf) 0).flatten
/-- with other games -/
def withG (d : BookD) (L : List GameD) : BookD := { d with m := L.length, g := getG L }
def gamesB (d : BookD) : List GameD := (List.range d.m).map d.g
theorem SeaL.perm {lo hi : Int} {L L' : List GameD} {m : Nat} (h : SeaL lo hi L m) (p : L.Perm L') : SeaL lo hi L' m := by
  obtain ⟨h1, h2, h3, h4⟩ := h
  refine ⟨fun t ht => h1 t (p.mem_iff.2 ht), (p.pairwise_iff (fun h => ⟨fun e => h.1 ⟨e.1.symm, e.2.symm⟩, fun e => h.2 ⟨e.2.symm, e.1.symm⟩⟩)).1 h2, by rw [← (p.filter _).length_eq]; exact h3, fun e he => ?_⟩
  subst he
  exact h4 e (List.perm_nil.1 p)
theorem range_getG (L : List GameD) : (List.range L.length).map (getG L) = L := by
  refine List.ext_getElem? fun i => ?_
  rw [List.getElem?_map]
  by_cases hi : i < L.length
  · rw [List.getElem?_range hi, List.getElem?_eq_getElem hi]
    simp [getG, hi]
  · rw [List.getElem?_eq_none (by simpa using hi), List.getElem?_eq_none (by omega)]; rfl
section
variable {d : BookD}
theorem Made.nf (h : Made d) : 3 ≤ d.nf ∧ d.nf ≤ 5 := by obtain ⟨n, b, hn, _, rfl⟩ := h; exact hn
theorem Made.m (h : Made d) : 1 ≤ d.m ∧ d.m ≤ 40 := by
  obtain ⟨n, b, hn, ⟨_, _, ⟨hs, _, hl⟩, _⟩, rfl⟩ := h
  have h1 : b.games ≠ [] := hs.2.2.2 (.inr (by omega))
  have h2 := List.length_pos_iff.2 h1
  show 1 ≤ b.games.length ∧ b.games.length ≤ 40
  omega
theorem Made.games (h : Made d) : ∃ n b, (3 ≤ n ∧ n ≤ 5) ∧ BookI.good n 3 b ∧ d = caseB n b b.games ∧ gamesB d = b.games := by
  obtain ⟨n, b, hn, hg, rfl⟩ := h
  exact ⟨n, b, hn, hg, rfl, range_getG _⟩
theorem Made.names (h : Made d) (i : Nat) : (d.f i).nm.size ≤ maxLen := by
  obtain ⟨n, b, hn, hg, rfl⟩ := h
  exact case_names hg.1.2 (by omega) i
theorem Made.book (h : Made d) : bookP d := by
  obtain ⟨n, b, hn, hg, rfl⟩ := h
  exact case_book (by omega) hg (sea_season hg.2.2.1.1 (by omega) (by omega) (by have := hg.2.2.1.2.2; omega))
theorem Made.ones (h : Made d) : ∀ p ∈ rankP d (allL d.nf) 0, p.length = 1 := by
  obtain ⟨n, b, hn, hg, rfl⟩ := h
  exact case_ones (by omega) hg
theorem ord_perm (d : BookD) : (ordB d).Perm (allL d.nf) := rank_perm _ _ _
theorem ord_len (d : BookD) : (ordB d).length = d.nf := by rw [(ord_perm d).length_eq, allL_len]
theorem ord_nodup (d : BookD) : (ordB d).Nodup := (ord_perm d).nodup_iff.2 (allL_nodup d.nf)
theorem ord_in {t : Int} (h : t ∈ ordB d) : 0 ≤ t ∧ t < d.nf := allL_mem.1 ((ord_perm d).mem_iff.1 h)
theorem Made.groups (h : Made d) : (rankP d (allL d.nf) 0).length = d.nf := by rw [← flat_ones _ h.ones]; exact ord_len d
theorem Made.ranking (h : Made d) : orderL (rankP d (allL d.nf) 0) = ordB d := by unfold orderL; rw [if_pos h.ones]; rfl
theorem Made.rank (h : Made d) {i : Nat} {t : Int} (ht : (ordB d)[i]? = some t) : rankAt t (rankP d (allL d.nf) 0) 1 = (i : Int) + 1 := by
  rw [rankAt_ones _ i 1 h.ones (ord_nodup d) ht]; omega
theorem Made.order (h : Made d) : orderP d.nf d.nf (getI (ordB d)) := by
  obtain ⟨n, b, hn, hg, rfl⟩ := h
  have := orderB_order (n := n) (b := b) (LG := b.games) (by omega)
  rw [orderB_len] at this
  exact this
theorem Made.points (h : Made d) {gg : Nat → Int} {m i : Nat} {t u : Int} (hi : 0 < i) (h1 : (ordB d)[i - 1]? = some t) (h2 : (ordB d)[i]? = some u) : bookV d 1 gg m u.toNat ≤ bookV d 1 gg m t.toNat := by
  obtain ⟨n, b, hn, hg, rfl⟩ := h
  exact orderB_points hg hi h1 h2
/-- with its games in another order -/
theorem Made.other (h : Made d) {L : List GameD} (hp : (gamesB d).Perm L) : bookP (withG d L) ∧ ordB (withG d L) = ordB d ∧ orderL (rankP (withG d L) (allL d.nf) 0) = ordB d := by
  obtain ⟨n, b, hn, hg, rfl, hgm⟩ := h.games
  rw [hgm] at hp
  have hw : withG (caseB n b b.games) L = caseB n b L := rfl
  have hs := hg.2.2.1.1
  have hl := hp.length_eq
  have hs2 := hs.perm hp
  have ho : ordB (caseB n b L) = ordB (caseB n b b.games) := (orderB_games hp fun x hx => by
    have := (hs.1 x hx).1
    omega).symm
  rw [hw]
  refine ⟨case_book (by omega) hg (sea_season hs2 (by omega) (by omega) (by have := hg.2.2.1.2.2; omega)), ho, ?_⟩
  rw [← ho]
  show orderL (rankP (caseB n b L) (allL n) 0) = _
  unfold orderL
  rw [if_pos (case_ones (LG := L) (by omega) hg)]
  rfl
end
/-- the games in an order -/
def orderG (d : BookD) (P : List Int) : List GameD := P.map fun i => d.g i.toNat
theorem order_perm {d : BookD} {P : List Int} (h : permL d.m P) : (gamesB d).Perm (orderG d P) := by
  have hp : ((List.range d.m).map fun i : Nat => (i : Int)).Perm P := by
    refine (List.perm_ext_iff_of_nodup ?_ h.2.2.2).2 fun t => ?_
    · exact List.Pairwise.map _ (fun a b h e => h (by omega)) List.nodup_range
    · rw [List.mem_map]
      constructor
      · rintro ⟨i, hi, rfl⟩
        exact h.2.2.1 i (List.mem_range.1 hi)
      · intro ht
        have := h.2.1 t ht
        exact ⟨t.toNat, List.mem_range.2 (by omega), by omega⟩
  have h2 := hp.map fun i : Int => d.g i.toNat
  rw [List.map_map] at h2
  exact h2
theorem orderG_len {d : BookD} {P : List Int} : (orderG d P).length = P.length := List.length_map ..
/-- the contract: the book is made, in memory of the call's own -/
def BookMade (w : World) (e : Ending) (w' : World) : Prop :=
  ∃ (d : BookD) (fa : Option Addr) (fc : Nat) (la : Option Addr) (lc : Nat) (ga : Option Addr) (gc : Nat) (qa : Option Addr) (qc : Nat) (ta : Option Addr) (tc : Nat), Made d ∧ e = .returned (.agg #[.slice fa d.nf fc, .int .i64 d.win, .int .i64 d.draw, .int .i64 d.loss, .slice la d.nl lc, .bool d.again, .slice ga d.m gc, .slice qa d.nfa qc, .slice ta d.nta tc]) ∧
    BookRow w' (.slice fa d.nf fc) (.slice la d.nl lc) (.slice ga d.m gc) (.slice qa d.nfa qc) (.slice ta d.nta tc) d ∧ Below w.heap.size w w'
theorem getI_at {L : List Int} {i : Nat} {t : Int} (h : L[i]? = some t) : getI L i = t := by unfold getI; rw [List.getD_eq_getElem?_getD, h]; rfl
theorem at_getI {L : List Int} {i : Nat} (h : i < L.length) : L[i]? = some (getI L i) := by unfold getI; rw [List.getD_eq_getElem?_getD, List.getElem?_eq_getElem h]; rfl
theorem order_take {d : BookD} {P : List Int} {k q : Nat} (h : P[k]? = some (q : Int)) : orderG d (P.take (k + 1)) = orderG d (P.take k) ++ [d.g q] := by
  obtain ⟨hk, e⟩ := List.getElem?_eq_some_iff.1 h
  rw [← List.take_append_getElem hk, e]
  unfold orderG
  rw [List.map_append]
  rfl
theorem BoxF.block {w w' : World} {B : Nat} {cs : List Value} (h : BoxF w B cs) (hb : w'.heap[B]? = w.heap[B]?) (hs : w.heap.size ≤ w'.heap.size) : BoxF w' B cs := by
  refine ⟨Nat.lt_of_lt_of_le h.1 hs, fun j v hj => ?_⟩
  obtain ⟨h1, h2⟩ := h.2 j v hj
  exact ⟨(World.cell?_of_block (w := w) (w' := w') (a := ⟨B, j, none⟩) hb).trans h1, by rw [← h2]; unfold World.frozen?; simp only [hb]⟩
theorem Touch.more {lo hi : Nat} {u w w' : World} {row : Option Nat} (h : Touch lo hi u w) (g : w.grownBy w' row) (hr : ∀ q, row = some q → u.heap.size ≤ q) : Touch lo hi u w' :=
  ⟨g.os.trans h.os, g.tape.trans h.tape, g.output.trans h.output, Nat.le_trans h.size g.size, fun k hk ho => (g.block k (Nat.lt_of_lt_of_le hk h.size) (fun e => by have := hr k e.symm; omega)).trans (h.block k hk ho)⟩
theorem own_bookRow {base n : Nat} {b : BookI} {vf vl vg vfa vta : Value} {w : World} (hn : n ≤ 8) (hl : b.lad.length ≤ 100) (hm : b.games.length ≤ 100) (hf : b.fair.length ≤ 100) (ht : b.taken.length ≤ 100) (h : BookOwn base n b vf vl vg vfa vta w) : BookRow w vf vl vg vfa vta (caseB n b b.games) := by
  obtain ⟨⟨xf, h1, h0⟩, h2, h3, h4, h5⟩ := h
  refine ⟨TeamRow.of_owns (n := n) h1 (by omega) fun t ht => ?_, IntRow.of_list h2 (by omega), GameRow.of_list h3 (by omega), IntRow.of_list h4 (by omega), IntRow.of_list h5 (by omega)⟩
  have e : (caseB n b b.games).f t = b.field t := by show (if t < n then b.field t else ⟨ByteArray.empty, 0, 0⟩ : TeamD) = _; rw [if_pos ht]
  rw [e]
  exact h0 t ht
theorem madeBook (a : Option Addr) (len cap : Nat) (g : Nat → Nat) (w : World) (hr : ByteRow w a len g) (hg : ∀ i, g i ≤ 255) (hl : len ≤ 1048576) :
    Calls Tryz.prog 9 #[.slice a len cap] w (BookMade w) :=
  (makeBook_any a len cap g w hr hg hl).mono fun e w' ⟨n, b, vf, vl, vg, vfa, vta, hn, he, hgood, hown, hb⟩ => by
    obtain ⟨a1, c1, a2, c2, a3, c3, a4, c4, a5, c5, rfl, rfl, rfl, rfl, rfl⟩ := hown.form
    have h1 := hgood.2.1
    have h2 := hgood.2.2.1.2.2
    have h3 := hgood.2.2.2.1.1
    have h4 := hgood.2.2.2.2.1
    have hl5 : b.lad.length ≤ 5 := by
      obtain ⟨hw, K, hK, hd, hl⟩ := h1
      rw [hK]; simp; omega
    exact ⟨caseB n b b.games, a1, c1, a2, c2, a3, c3, a4, c4, a5, c5, ⟨n, b, hn, hgood, rfl⟩, he, own_bookRow (by omega) (by omega) (by omega) (by omega) (by omega) hown, hb⟩
end Go.Proofs.YtakbolkdbpehoaaGreat
