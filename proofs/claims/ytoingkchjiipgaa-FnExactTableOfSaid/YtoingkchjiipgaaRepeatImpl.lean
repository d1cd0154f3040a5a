/-
  Tables: slices.Repeat of one record, the count of one game for one team.
-/
import Derived.Test.YtoingkchjiipgaaTablesImplA
import Derived.Test.YtoingkchjiipgaaCopyR
import Derived.Test.YtoingkchjiipgaaShelf
set_option linter.unusedVariables false
namespace Go.Proofs.Ytoingkchjiipgaa
open Go.RowKit

theorem Try.infoTeamRow : (Try.prog.info? 102).map (fun i => (i.zero, i.size, i.bytes)) = some (some (.agg #[.int .i64 0, .int .i64 0, .int .i64 0, .int .i64 0, .int .i64 0, .int .i64 0, .int .i64 0, .int .i64 0, .int .i64 0, .int .i64 0, .slice none 0 0, .bool false]), 12, 112) := by kernel_rfl

set_option maxRecDepth 100000 in
set_option maxHeartbeats 1000000 in
theorem repeat_impl (n : Nat) (hn : 1 ≤ n ∧ n ≤ 8) (B : Nat) (cs : List Value) (hl : cs.length = 12) (h1 : ∀ v ∈ cs, v.oneCell' = true) (w : World) (hB : CellsAt w B 0 cs) :
    Calls Try.prog 71 #[.slice (some ⟨B, 0, none⟩) 1 1, .int .i64 n] w fun e w' => ∃ gg xs, e = .returned (.slice (some ⟨gg, 0, none⟩) n n) ∧ w'.ownsRow w.heap.size 102 12 (.slice (some ⟨gg, 0, none⟩) n n) n xs ∧
      RecCells 12 n xs (fun _ => cs) ∧ Below w.heap.size w w' := by
  obtain ⟨hn1, hn8⟩ := hn
  obtain ⟨i0, hi, hz0, hz1, hz2⟩ := info_parts Try.infoTeamRow
  have hw1 : IntKind.u64.wrap (n : Int) = n := by simp [IntKind.wrap, IntKind.bits, IntKind.signed]; omega
  have CM : Hid (∀ w1, Calls Try.prog 85 #[.int .u64 1, .int .u64 n] w1 fun e w' => e = .returned (.tuple #[.int .u64 0, .int .u64 n]) ∧ w' = w1) := fun w1 => by
    have h := Try.bits_Mul 1 n (by decide) (by omega) w1
    rw [Nat.one_mul, Nat.div_eq_of_lt (by omega), Nat.mod_eq_of_lt (by omega)] at h
    exact h
  have g0 : decide ((n : Int) < 0) = false := decide_eq_false (by omega)
  have g1 : decide (9223372036854775807 < (n : Int)) = false := decide_eq_false (by omega)
  have hn0 : (0 : Int) ≤ n := by omega
  have HBc := Lib.hid hB
  have H1 := Lib.hid h1
  clear hB h1
  go_enter Try.func71, Try.ntmps71
  go_wp2_with (first | (go_at_call 85; refine (CM.out _).mono ?_; rintro e w1 ⟨rfl, hw⟩; rw [hw]; clear hw) | (at_make; refine wpList_make_full _ rfl _ _ 99 rfl w.heap.size 102 i0 (.agg #[.int .i64 0, .int .i64 0, .int .i64 0, .int .i64 0, .int .i64 0, .int .i64 0, .int .i64 0, .int .i64 0, .int .i64 0, .int .i64 0, .slice none 0 0, .bool false]) 12 Try.underlying99 hi hz0 hz1 .i64 .i64 n n n rfl rfl rfl rfl (by rw [hz2]; omega) (by unfold maxLen; omega) (Nat.le_refl _) ?_; intro w1 hown hg1) | (with_reducible show wpList _ _ _ ((⟨some 33, _, _, _, _, _⟩ : Oper) :: _) _ _; refine wpList_copyR (o := ⟨some 33, _, _, _, _, _⟩) rfl (.tmp 31) (.tmp 32) 99 99 rfl Try.underlying99 hi hz1 hown 0 n n ⟨B, 0, none⟩ 1 1 rfl rfl cs 1 (by show 1 = min 1 n; omega) (by omega) (cells_add (HBc.out.below ((Below.refl _ _).grown hg1 (Nat.le_refl _) (fun k hk => by cases hk)))) (by omega) H1.out ?_; intro w2 ho2 hb2))
  have HO2 := Lib.hid ho2
  have HC2 := Lib.hid (first_cells (xs := (madeCells (Value.agg #[.int .i64 0, .int .i64 0, .int .i64 0, .int .i64 0, .int .i64 0, .int .i64 0, .int .i64 0, .int .i64 0, .int .i64 0, .int .i64 0, .slice none 0 0, .bool false]).cells (n * 12)).toList) hl (by have := hown.1; omega))
  have HB2 := Lib.hid (((Below.refl w.heap.size w).grown hg1 (Nat.le_refl _) (fun k hk => by cases hk)).trans hb2)
  clear ho2 hb2 hown hg1 HBc CM hw1
  go_loopw [8] (fun i wr => ∃ (m : Nat) (xs : List Value), 1 ≤ m ∧ m ≤ n ∧ i = .int .i64 m ∧ Hid (wr.ownsRow w.heap.size 102 12 (.slice (some ⟨w.heap.size, 0, none⟩) n n) n xs) ∧ Hid (RecCells 12 m xs (fun _ => cs)) ∧ Hid (Below w.heap.size w wr)) (fun i _ => n - (intOf i).toNat)
  case atStart => exact ⟨1, _, Nat.le_refl _, hn1, rfl, HO2, HC2, HB2⟩
  case round =>
    clear HO2 HC2 HB2
    obtain ⟨m, xs, hm1, hmn, rfl, HO, HC, HB⟩ := hrel
    by_cases hlt : m < n
    · have hmi : (m : Int) < n := by omega
      have hm0 : (0 : Int) ≤ m := by omega
      have hmn' : (m : Int) ≤ n := by omega
      obtain ⟨q, hq⟩ : ∃ q, q = min m (n - m) := ⟨_, rfl⟩
      have hq1 : 1 ≤ q := by omega
      have hqm : q ≤ m := by omega
      have hqn : m + q ≤ n := by omega
      have HQ := Lib.hid hq
      have hwr : IntKind.i64.wrap ((m : Int) + q) = m + q := by simp [IntKind.wrap, IntKind.bits, IntKind.signed]; omega
      clear hq
      have HOd := Lib.hid (owns_below HO.out (Below.refl wr.heap.size wr).drew (Nat.le_refl _))
      have HBd := Lib.hid (HB.out.drew)
      obtain ⟨gg, hgg⟩ : ∃ gg, gg = w.heap.size := ⟨_, rfl⟩
      have Hgg := Lib.hid hgg
      clear hgg
      go_wp2_with fail
      refine Await.begin (S := Until 7 (fun _ => True)) (by kernel_rfl) ?_ (fun hS => ?_)
      · exact Until.of trivial
      refine Await.pure (i := 0) (v := ?_) rfl (by kernel_rfl) (by kernel_rfl) (by kernel_rfl) (by kernel_rfl) (fun _ _ _ h => h) (Or.inl ⟨by rfl, ?_⟩) (by assumption) ?_
      rotate_left
      · (intro wa _; go_simp; try with_reducible rfl)
      simp only [Act.put, List.getElem_toArray, List.getElem_cons_zero, List.setIfInBounds_toArray, List.set_cons_zero, List.set_cons_succ]
      refine Await.pure (i := 1) (v := ?_) rfl (by kernel_rfl) (by kernel_rfl) (by kernel_rfl) (by kernel_rfl) (fun _ _ _ h => h) (Or.inl ⟨by rfl, ?_⟩) (by assumption) ?_
      rotate_left
      · (intro wa _; go_simp; try with_reducible rfl)
      simp only [Act.put, List.getElem_toArray, List.getElem_cons_zero, List.getElem_cons_succ, List.setIfInBounds_toArray, List.set_cons_zero, List.set_cons_succ]
      refine Await.pure (i := 2) (v := ?_) rfl (by kernel_rfl) (by kernel_rfl) (by kernel_rfl) (by kernel_rfl) (fun _ _ _ h => h) (Or.inl ⟨by rfl, ?_⟩) (by assumption) ?_
      rotate_left
      · (intro wa _; go_simp; try with_reducible rfl)
      simp only [Act.put, List.getElem_toArray, List.getElem_cons_zero, List.getElem_cons_succ, List.setIfInBounds_toArray, List.set_cons_zero, List.set_cons_succ]
      refine Await.pure (i := 3) (v := .slice (some ⟨w.heap.size, m * 12, none⟩) (n - m) (n - m)) rfl (by kernel_rfl) (by kernel_rfl) (by kernel_rfl) (by kernel_rfl) (fun _ _ _ h => h) (Or.inl ⟨by rfl, ?_⟩) (by assumption) ?_
      · (intro wa _; go_simp; try omega)
      simp only [Act.put, List.getElem_toArray, List.getElem_cons_zero, List.getElem_cons_succ, List.setIfInBounds_toArray, List.set_cons_zero, List.set_cons_succ]
      refine Await.pure (i := 4) (v := ?_) rfl (by kernel_rfl) (by kernel_rfl) (by kernel_rfl) (by kernel_rfl) (fun _ _ _ h => h) (Or.inl ⟨by rfl, ?_⟩) (by assumption) ?_
      rotate_left
      · (intro wa _; go_simp; try with_reducible rfl)
      simp only [Act.put, List.getElem_toArray, List.getElem_cons_zero, List.getElem_cons_succ, List.setIfInBounds_toArray, List.set_cons_zero, List.set_cons_succ]
      refine Await.pure (i := 5) (v := ?_) rfl (by kernel_rfl) (by kernel_rfl) (by kernel_rfl) (by kernel_rfl) (fun _ _ _ h => h) (Or.inl ⟨by rfl, ?_⟩) (by assumption) ?_
      rotate_left
      · (intro wa _; go_simp; try with_reducible rfl)
      simp only [Act.put, List.getElem_toArray, List.getElem_cons_zero, List.getElem_cons_succ, List.setIfInBounds_toArray, List.set_cons_zero, List.set_cons_succ]
      refine Await.pure (i := 6) (v := .slice (some ⟨w.heap.size, 0, none⟩) m n) rfl (by kernel_rfl) (by kernel_rfl) (by kernel_rfl) (by kernel_rfl) (fun _ _ _ h => h) (Or.inl ⟨by rfl, ?_⟩) (by assumption) ?_
      · (intro wa _; go_simp; try omega)
      simp only [Act.put, List.getElem_toArray, List.getElem_cons_zero, List.getElem_cons_succ, List.setIfInBounds_toArray, List.set_cons_zero, List.set_cons_succ]
      refine Await.step (i := 7) (o := _) (by kernel_rfl) rfl (fun K1 hK1' => ?_)
      refine step_copyR rfl (.tmp 41) (.tmp 44) 99 99 rfl Try.underlying99 hi hz1 HOd.out (m * 12) (n - m) (n - m) ⟨w.heap.size, 0, none⟩ m n rfl rfl (rep cs q) q HQ.out (rep_len hl q) (rep_at HOd.out HC.out hl (by decide) hqm hmn) (by rw [rep_len hl q]; omega) (fun v hv => rep_one H1.out hv) ?_
      intro w3 ho3 hb3
      refine hK1'.out _ _ ?_ (fun hS => ?_)
      · exact Until.over (by kernel_rfl)
      clear hK1' K1
      clear hS
      have hS : Until 7 (fun _ : World => True) #[true, true, true, true, true, true, true, true, false, false] w3 := Until.of trivial
      refine Await.pure (i := 8) (v := ?_) rfl (by kernel_rfl) (by kernel_rfl) (by kernel_rfl) (by kernel_rfl) (fun _ _ _ h => h) (Or.inl ⟨by rfl, ?_⟩) (by assumption) ?_
      rotate_left
      · (intro wa _; go_simp; try with_reducible rfl)
      simp only [Act.put, List.getElem_toArray, List.getElem_cons_zero, List.getElem_cons_succ, List.setIfInBounds_toArray, List.set_cons_zero, List.set_cons_succ]
      refine Await.pure (i := 9) (v := ?_) rfl (by kernel_rfl) (by kernel_rfl) (by kernel_rfl) (by kernel_rfl) (fun _ _ _ h => h) (Or.inl ⟨by rfl, ?_⟩) (by assumption) ?_
      rotate_left
      · (intro wa _; go_simp; try with_reducible rfl)
      simp only [Act.put, List.getElem_toArray, List.getElem_cons_zero, List.getElem_cons_succ, List.setIfInBounds_toArray, List.set_cons_zero, List.set_cons_succ]
      refine Await.done (by kernel_rfl) ?_ _
      have HC3 := Lib.hid (cells_more HC.out HOd.out.1 hl hqn)
      have HO3 := Lib.hid ho3
      have HB3 := Lib.hid (HBd.out.trans hb3)
      clear hS ho3 hb3 HOd HBd HO HC HB
      go_wp2
      go_roundw
      case rel => exact ⟨m + q, _, by omega, hqn, by go_num, HO3, HC3, HB3⟩
      case measure => simp [intOf]; omega
    · obtain rfl : m = n := by omega
      go_wp2
      go_ret
      exact ⟨_, xs, rfl, HO.out, HC.out, HB.out⟩

/-- what a game with these goals adds to the row of a team -/
def sideR (win draw loss sc ag : Int) : RowD := if ag < sc then ⟨1, 1, 0, 0, sc, ag, win⟩ else if sc < ag then ⟨1, 0, 0, 1, sc, ag, loss⟩ else ⟨1, 0, 1, 0, sc, ag, draw⟩
/-- a team's record: its sums and the rules -/
def teamCs (x : RowD) (win draw loss : Int) (lad : Value) (agn : Bool) : List Value := x.cells ++ [.int .i64 win, .int .i64 draw, .int .i64 loss, lad, .bool agn]
theorem team_rules {w : World} {b o : Nat} {x : RowD} {win draw loss : Int} {lad : Value} {agn : Bool} (h : CellsAt w b o (teamCs x win draw loss lad agn)) :
    w.cell? ⟨b, o + 7, none⟩ = some (.int .i64 win) ∧ w.cell? ⟨b, o + 8, none⟩ = some (.int .i64 draw) ∧ w.cell? ⟨b, o + 9, none⟩ = some (.int .i64 loss) ∧ w.cell? ⟨b, o + 10, none⟩ = some lad ∧ w.cell? ⟨b, o + 11, none⟩ = some (.bool agn) :=
  ⟨h.2 7 _ rfl, h.2 8 _ rfl, h.2 9 _ rfl, h.2 10 _ rfl, h.2 11 _ rfl⟩
theorem team_row {w : World} {b o : Nat} {x : RowD} {win draw loss : Int} {lad : Value} {agn : Bool} (h : CellsAt w b o (teamCs x win draw loss lad agn)) : CellsAt w b o x.cells :=
  ⟨h.1, fun j u hu => h.2 j u (by unfold teamCs; rw [List.getElem?_append_left (List.getElem?_eq_some_iff.1 hu).1]; exact hu)⟩
set_option maxRecDepth 100000 in
set_option maxHeartbeats 1000000 in
theorem count_impl (win draw loss sc ag : Int) (s : RowD) (lad : Value) (agn : Bool) (B off : Nat) (w : World) (hlad : ∃ a l c, lad = .slice a l c) (hc : CellsAt w B off (teamCs s win draw loss lad agn)) (hf : ∀ j, j < 7 → w.frozen? ⟨B, off + j, none⟩ = false) :
    Calls Try.prog 72 #[.pointer (some ⟨B, off, none⟩), .int .i64 sc, .int .i64 ag] w fun e w' => e = .returned (.tuple #[]) ∧ ∃ w1, Below w.heap.size w w1 ∧ w' = set7 w1 B off (addW s (sideR win draw loss sc ag)) := by
  obtain ⟨la, ll, lc, rfl⟩ := hlad
  have hBs := hc.1
  have hne : B ≠ w.heap.size := by omega
  have HF := Lib.hid hf
  have HCC := Lib.hid hc
  obtain ⟨r7, r8, r9, r10, r11⟩ := team_rules hc
  clear hc hf
  by_cases h1 : ag < sc
  · have g1 : decide (ag < sc) = true := decide_eq_true h1
    have HS : Hid (sideR win draw loss sc ag = ⟨1, 1, 0, 0, sc, ag, win⟩) := if_pos h1
    clear h1
    rw [HS.out]
    go_enter Try.func72, Try.ntmps72
    go_wp2_with fail
    go_region
    obtain ⟨X, hX⟩ : ∃ X : RowD, X = ⟨1, 1, 0, 0, sc, ag, win⟩ := ⟨_, rfl⟩
    have HX := Lib.hid hX
    obtain ⟨W3, hW3⟩ : ∃ W3, W3 = (w.alloc (.cells #[.int .i64 1, .int .i64 1, .int .i64 0, .int .i64 0, .int .i64 sc, .int .i64 ag, .int .i64 win] 39)).drew := ⟨_, rfl⟩
    have hbw : Below w.heap.size w W3 := by subst hW3; exact ((Below.refl _ _).alloc (Nat.le_refl _) _).drew
    have hbx : CellsAt W3 w.heap.size 0 X.cells := by
      subst hW3; subst hX
      have hb : BoxF (w.alloc (.cells #[.int .i64 1, .int .i64 1, .int .i64 0, .int .i64 0, .int .i64 sc, .int .i64 ag, .int .i64 win] 39)) w.heap.size (RowD.cells ⟨1, 1, 0, 0, sc, ag, win⟩) := BoxF.made (Below.refl _ _) rfl
      exact hb.at0.below (Below.refl _ _).drew
    rw [← hW3]
    clear hW3 hX HS r7 r8 r9 r10 r11
    obtain ⟨F, HFd⟩ : ∃ F : World → Prop, F = fun w' => CellsAt w' B off s.cells ∧ (∀ j, j < 7 → w'.frozen? ⟨B, off + j, none⟩ = false) ∧ CellsAt w' w.heap.size 0 X.cells ∧ Below w.heap.size w w' := ⟨_, rfl⟩
    have FE : Hid (∀ wa, F wa → CellsAt wa B off s.cells ∧ (∀ j, j < 7 → wa.frozen? ⟨B, off + j, none⟩ = false) ∧ CellsAt wa w.heap.size 0 X.cells ∧ Below w.heap.size w wa) := by subst HFd; exact fun _ h => h
    have F0 : Hid (F W3.drew) := by
      subst HFd
      have hd := (Below.refl W3.heap.size W3).drew
      exact ⟨((team_row HCC.out).below hbw).below hd, fun j hj => ((hbw.drew).frozen (p := ⟨B, off + j, none⟩) hBs).trans (HF.out j hj), hbx.below hd, hbw.drew⟩
    clear HFd hbw hbx HCC HF
    go_wp2_with fail
    refine Await.begin (S := Until 4 F) (by kernel_rfl) ?_ (fun hS => ?_)
    · exact Until.of F0.out
    clear F0
    refine Await.pure (i := 0) (v := ?_) rfl (by kernel_rfl) (by kernel_rfl) (by kernel_rfl) (by kernel_rfl) (fun _ _ _ h => h) (Or.inl ⟨by rfl, ?_⟩) (by assumption) ?_
    rotate_left
    · (intro wa _; go_simp; try with_reducible rfl)
    simp only [Act.put, List.getElem_toArray, List.getElem_cons_zero, List.setIfInBounds_toArray, List.set_cons_zero, List.set_cons_succ]
    refine Await.pure (i := 1) (v := ?_) rfl (by kernel_rfl) (by kernel_rfl) (by kernel_rfl) (by kernel_rfl) (fun _ _ _ h => h) (Or.inl ⟨by rfl, ?_⟩) (by assumption) ?_
    rotate_left
    · (intro wa _; go_simp; try with_reducible rfl)
    simp only [Act.put, List.getElem_toArray, List.getElem_cons_zero, List.getElem_cons_succ, List.setIfInBounds_toArray, List.set_cons_zero, List.set_cons_succ]
    refine Await.pure (i := 2) (v := ?_) rfl (by kernel_rfl) (by kernel_rfl) (by kernel_rfl) (by kernel_rfl) (fun _ _ _ h => h) (Or.inl ⟨by rfl, ?_⟩) (by assumption) ?_
    rotate_left
    · (intro wa _; go_simp; try with_reducible rfl)
    simp only [Act.put, List.getElem_toArray, List.getElem_cons_zero, List.getElem_cons_succ, List.setIfInBounds_toArray, List.set_cons_zero, List.set_cons_succ]
    refine Await.takes (i := 3) [] (v := ?_) rfl (by kernel_rfl) (by kernel_rfl) (by kernel_rfl) (by kernel_rfl) (fun _ _ _ h => h) (Or.inl ⟨by rfl, ?_⟩) (by assumption) ?_
    rotate_left
    · (intro wa hSw; obtain ⟨fs, ff, fx, fb⟩ := FE.out wa hSw; obtain ⟨b0, b1, b2, b3, b4, b5, b6⟩ := row_cells fx; go_simp; try with_reducible rfl)
    simp only [Act.put, List.getElem_toArray, List.getElem_cons_zero, List.getElem_cons_succ, List.setIfInBounds_toArray, List.set_cons_zero, List.set_cons_succ]
    refine Await.step (i := 4) (o := _) (by kernel_rfl) rfl (fun K1 hK1' => ?_)
    go_simp
    have hs4 := FE.out _ (hS (by kernel_rfl))
    refine (sumsAdd_impl s X B off _ hs4.1 hs4.2.1).mono ?_
    rintro e w4 ⟨rfl, w5, b5, rfl⟩
    have hb5 := Lib.hid (hs4.2.2.2.trans (b5.mono hs4.2.2.2.size))
    clear hs4 b5
    (try go_wp2_with fail)
    refine hK1'.out _ _ ?_ (fun hS => ?_)
    · exact Until.over (by kernel_rfl)
    clear hK1' K1
    clear hS
    refine Await.done (by kernel_rfl) ?_ _
    go_wp2
    go_end0
    exact ⟨rfl, w5, hb5.out, by rw [HX.out]⟩
  · by_cases h2 : sc < ag
    · have g1 : decide (ag < sc) = false := decide_eq_false h1
      have g2 : decide (sc < ag) = true := decide_eq_true h2
      have HS : Hid (sideR win draw loss sc ag = ⟨1, 0, 0, 1, sc, ag, loss⟩) := (if_neg h1).trans (if_pos h2)
      clear h1 h2
      rw [HS.out]
      go_enter Try.func72, Try.ntmps72
      go_wp2_with fail
      go_region
      obtain ⟨X, hX⟩ : ∃ X : RowD, X = ⟨1, 0, 0, 1, sc, ag, loss⟩ := ⟨_, rfl⟩
      have HX := Lib.hid hX
      obtain ⟨W3, hW3⟩ : ∃ W3, W3 = (w.alloc (.cells #[.int .i64 1, .int .i64 0, .int .i64 0, .int .i64 1, .int .i64 sc, .int .i64 ag, .int .i64 loss] 39)).drew := ⟨_, rfl⟩
      have hbw : Below w.heap.size w W3 := by subst hW3; exact ((Below.refl _ _).alloc (Nat.le_refl _) _).drew
      have hbx : CellsAt W3 w.heap.size 0 X.cells := by
        subst hW3; subst hX
        have hb : BoxF (w.alloc (.cells #[.int .i64 1, .int .i64 0, .int .i64 0, .int .i64 1, .int .i64 sc, .int .i64 ag, .int .i64 loss] 39)) w.heap.size (RowD.cells ⟨1, 0, 0, 1, sc, ag, loss⟩) := BoxF.made (Below.refl _ _) rfl
        exact hb.at0.below (Below.refl _ _).drew
      rw [← hW3]
      clear hW3 hX HS r7 r8 r9 r10 r11
      obtain ⟨F, HFd⟩ : ∃ F : World → Prop, F = fun w' => CellsAt w' B off s.cells ∧ (∀ j, j < 7 → w'.frozen? ⟨B, off + j, none⟩ = false) ∧ CellsAt w' w.heap.size 0 X.cells ∧ Below w.heap.size w w' := ⟨_, rfl⟩
      have FE : Hid (∀ wa, F wa → CellsAt wa B off s.cells ∧ (∀ j, j < 7 → wa.frozen? ⟨B, off + j, none⟩ = false) ∧ CellsAt wa w.heap.size 0 X.cells ∧ Below w.heap.size w wa) := by subst HFd; exact fun _ h => h
      have F0 : Hid (F W3.drew) := by
        subst HFd
        have hd := (Below.refl W3.heap.size W3).drew
        exact ⟨((team_row HCC.out).below hbw).below hd, fun j hj => ((hbw.drew).frozen (p := ⟨B, off + j, none⟩) hBs).trans (HF.out j hj), hbx.below hd, hbw.drew⟩
      clear HFd hbw hbx HCC HF
      go_wp2_with fail
      refine Await.begin (S := Until 4 F) (by kernel_rfl) ?_ (fun hS => ?_)
      · exact Until.of F0.out
      clear F0
      refine Await.pure (i := 0) (v := ?_) rfl (by kernel_rfl) (by kernel_rfl) (by kernel_rfl) (by kernel_rfl) (fun _ _ _ h => h) (Or.inl ⟨by rfl, ?_⟩) (by assumption) ?_
      rotate_left
      · (intro wa _; go_simp; try with_reducible rfl)
      simp only [Act.put, List.getElem_toArray, List.getElem_cons_zero, List.setIfInBounds_toArray, List.set_cons_zero, List.set_cons_succ]
      refine Await.pure (i := 1) (v := ?_) rfl (by kernel_rfl) (by kernel_rfl) (by kernel_rfl) (by kernel_rfl) (fun _ _ _ h => h) (Or.inl ⟨by rfl, ?_⟩) (by assumption) ?_
      rotate_left
      · (intro wa _; go_simp; try with_reducible rfl)
      simp only [Act.put, List.getElem_toArray, List.getElem_cons_zero, List.getElem_cons_succ, List.setIfInBounds_toArray, List.set_cons_zero, List.set_cons_succ]
      refine Await.pure (i := 2) (v := ?_) rfl (by kernel_rfl) (by kernel_rfl) (by kernel_rfl) (by kernel_rfl) (fun _ _ _ h => h) (Or.inl ⟨by rfl, ?_⟩) (by assumption) ?_
      rotate_left
      · (intro wa _; go_simp; try with_reducible rfl)
      simp only [Act.put, List.getElem_toArray, List.getElem_cons_zero, List.getElem_cons_succ, List.setIfInBounds_toArray, List.set_cons_zero, List.set_cons_succ]
      refine Await.takes (i := 3) [] (v := ?_) rfl (by kernel_rfl) (by kernel_rfl) (by kernel_rfl) (by kernel_rfl) (fun _ _ _ h => h) (Or.inl ⟨by rfl, ?_⟩) (by assumption) ?_
      rotate_left
      · (intro wa hSw; obtain ⟨fs, ff, fx, fb⟩ := FE.out wa hSw; obtain ⟨b0, b1, b2, b3, b4, b5, b6⟩ := row_cells fx; go_simp; try with_reducible rfl)
      simp only [Act.put, List.getElem_toArray, List.getElem_cons_zero, List.getElem_cons_succ, List.setIfInBounds_toArray, List.set_cons_zero, List.set_cons_succ]
      refine Await.step (i := 4) (o := _) (by kernel_rfl) rfl (fun K1 hK1' => ?_)
      go_simp
      have hs4 := FE.out _ (hS (by kernel_rfl))
      refine (sumsAdd_impl s X B off _ hs4.1 hs4.2.1).mono ?_
      rintro e w4 ⟨rfl, w5, b5, rfl⟩
      have hb5 := Lib.hid (hs4.2.2.2.trans (b5.mono hs4.2.2.2.size))
      clear hs4 b5
      (try go_wp2_with fail)
      refine hK1'.out _ _ ?_ (fun hS => ?_)
      · exact Until.over (by kernel_rfl)
      clear hK1' K1
      clear hS
      refine Await.done (by kernel_rfl) ?_ _
      go_wp2
      go_end0
      exact ⟨rfl, w5, hb5.out, by rw [HX.out]⟩
    · have g1 : decide (ag < sc) = false := decide_eq_false h1
      have g2 : decide (sc < ag) = false := decide_eq_false h2
      have HS : Hid (sideR win draw loss sc ag = ⟨1, 0, 1, 0, sc, ag, draw⟩) := (if_neg h1).trans (if_neg h2)
      clear h1 h2
      rw [HS.out]
      go_enter Try.func72, Try.ntmps72
      go_wp2_with fail
      go_region
      obtain ⟨X, hX⟩ : ∃ X : RowD, X = ⟨1, 0, 1, 0, sc, ag, draw⟩ := ⟨_, rfl⟩
      have HX := Lib.hid hX
      obtain ⟨W3, hW3⟩ : ∃ W3, W3 = (w.alloc (.cells #[.int .i64 1, .int .i64 0, .int .i64 1, .int .i64 0, .int .i64 sc, .int .i64 ag, .int .i64 draw] 39)).drew := ⟨_, rfl⟩
      have hbw : Below w.heap.size w W3 := by subst hW3; exact ((Below.refl _ _).alloc (Nat.le_refl _) _).drew
      have hbx : CellsAt W3 w.heap.size 0 X.cells := by
        subst hW3; subst hX
        have hb : BoxF (w.alloc (.cells #[.int .i64 1, .int .i64 0, .int .i64 1, .int .i64 0, .int .i64 sc, .int .i64 ag, .int .i64 draw] 39)) w.heap.size (RowD.cells ⟨1, 0, 1, 0, sc, ag, draw⟩) := BoxF.made (Below.refl _ _) rfl
        exact hb.at0.below (Below.refl _ _).drew
      rw [← hW3]
      clear hW3 hX HS r7 r8 r9 r10 r11
      obtain ⟨F, HFd⟩ : ∃ F : World → Prop, F = fun w' => CellsAt w' B off s.cells ∧ (∀ j, j < 7 → w'.frozen? ⟨B, off + j, none⟩ = false) ∧ CellsAt w' w.heap.size 0 X.cells ∧ Below w.heap.size w w' := ⟨_, rfl⟩
      have FE : Hid (∀ wa, F wa → CellsAt wa B off s.cells ∧ (∀ j, j < 7 → wa.frozen? ⟨B, off + j, none⟩ = false) ∧ CellsAt wa w.heap.size 0 X.cells ∧ Below w.heap.size w wa) := by subst HFd; exact fun _ h => h
      have F0 : Hid (F W3.drew) := by
        subst HFd
        have hd := (Below.refl W3.heap.size W3).drew
        exact ⟨((team_row HCC.out).below hbw).below hd, fun j hj => ((hbw.drew).frozen (p := ⟨B, off + j, none⟩) hBs).trans (HF.out j hj), hbx.below hd, hbw.drew⟩
      clear HFd hbw hbx HCC HF
      go_wp2_with fail
      refine Await.begin (S := Until 4 F) (by kernel_rfl) ?_ (fun hS => ?_)
      · exact Until.of F0.out
      clear F0
      refine Await.pure (i := 0) (v := ?_) rfl (by kernel_rfl) (by kernel_rfl) (by kernel_rfl) (by kernel_rfl) (fun _ _ _ h => h) (Or.inl ⟨by rfl, ?_⟩) (by assumption) ?_
      rotate_left
      · (intro wa _; go_simp; try with_reducible rfl)
      simp only [Act.put, List.getElem_toArray, List.getElem_cons_zero, List.setIfInBounds_toArray, List.set_cons_zero, List.set_cons_succ]
      refine Await.pure (i := 1) (v := ?_) rfl (by kernel_rfl) (by kernel_rfl) (by kernel_rfl) (by kernel_rfl) (fun _ _ _ h => h) (Or.inl ⟨by rfl, ?_⟩) (by assumption) ?_
      rotate_left
      · (intro wa _; go_simp; try with_reducible rfl)
      simp only [Act.put, List.getElem_toArray, List.getElem_cons_zero, List.getElem_cons_succ, List.setIfInBounds_toArray, List.set_cons_zero, List.set_cons_succ]
      refine Await.pure (i := 2) (v := ?_) rfl (by kernel_rfl) (by kernel_rfl) (by kernel_rfl) (by kernel_rfl) (fun _ _ _ h => h) (Or.inl ⟨by rfl, ?_⟩) (by assumption) ?_
      rotate_left
      · (intro wa _; go_simp; try with_reducible rfl)
      simp only [Act.put, List.getElem_toArray, List.getElem_cons_zero, List.getElem_cons_succ, List.setIfInBounds_toArray, List.set_cons_zero, List.set_cons_succ]
      refine Await.takes (i := 3) [] (v := ?_) rfl (by kernel_rfl) (by kernel_rfl) (by kernel_rfl) (by kernel_rfl) (fun _ _ _ h => h) (Or.inl ⟨by rfl, ?_⟩) (by assumption) ?_
      rotate_left
      · (intro wa hSw; obtain ⟨fs, ff, fx, fb⟩ := FE.out wa hSw; obtain ⟨b0, b1, b2, b3, b4, b5, b6⟩ := row_cells fx; go_simp; try with_reducible rfl)
      simp only [Act.put, List.getElem_toArray, List.getElem_cons_zero, List.getElem_cons_succ, List.setIfInBounds_toArray, List.set_cons_zero, List.set_cons_succ]
      refine Await.step (i := 4) (o := _) (by kernel_rfl) rfl (fun K1 hK1' => ?_)
      go_simp
      have hs4 := FE.out _ (hS (by kernel_rfl))
      refine (sumsAdd_impl s X B off _ hs4.1 hs4.2.1).mono ?_
      rintro e w4 ⟨rfl, w5, b5, rfl⟩
      have hb5 := Lib.hid (hs4.2.2.2.trans (b5.mono hs4.2.2.2.size))
      clear hs4 b5
      (try go_wp2_with fail)
      refine hK1'.out _ _ ?_ (fun hS => ?_)
      · exact Until.over (by kernel_rfl)
      clear hK1' K1
      clear hS
      refine Await.done (by kernel_rfl) ?_ _
      go_wp2
      go_end0
      exact ⟨rfl, w5, hb5.out, by rw [HX.out]⟩

end Go.Proofs.Ytoingkchjiipgaa
