/-
  Packed: RepeatImpl, RulesImpl, GamesBase, GamesFuns.
-/
import Derived.Test.YteciobkjfmddcaaGreatDoorShelf
import Derived.Test.YteciobkjfmddcaaGreatDoorQ2
import Derived.Test.YteciobkjfmddcaaGreatDoorQ3
import Derived.Test.YteciobkjfmddcaaGreatDoorQ7
set_option linter.unusedVariables false
namespace Go.Proofs.YteciobkjfmddcaaGreatDoor
open Go.RowKit

theorem Tryz.infoTeamRow : (Tryz.prog.info? 128).map (fun i => (i.zero, i.size, i.bytes)) = some (some (.agg #[.int .i64 0, .int .i64 0, .int .i64 0, .int .i64 0, .int .i64 0, .int .i64 0, .int .i64 0, .int .i64 0, .int .i64 0, .int .i64 0, .slice none 0 0, .bool false]), 12, 112) := by kernel_rfl

set_option maxRecDepth 100000 in
set_option maxHeartbeats 1000000 in
theorem repeat_impl (n : Nat) (hn : 1 ≤ n ∧ n ≤ 8) (B : Nat) (cs : List Value) (hl : cs.length = 12) (h1 : ∀ v ∈ cs, v.oneCell' = true) (w : World) (hB : CellsAt w B 0 cs) :
    Calls Tryz.prog 84 #[.slice (some ⟨B, 0, none⟩) 1 1, .int .i64 n] w fun e w' => ∃ gg xs, e = .returned (.slice (some ⟨gg, 0, none⟩) n n) ∧ w'.ownsRow w.heap.size 128 12 (.slice (some ⟨gg, 0, none⟩) n n) n xs ∧
      RecCells 12 n xs (fun _ => cs) ∧ Below w.heap.size w w' := by
  obtain ⟨hn1, hn8⟩ := hn
  obtain ⟨i0, hi, hz0, hz1, hz2⟩ := info_parts Tryz.infoTeamRow
  have hw1 : IntKind.u64.wrap (n : Int) = n := by simp [IntKind.wrap, IntKind.bits, IntKind.signed]; omega
  have CM : Hid (∀ w1, Calls Tryz.prog 98 #[.int .u64 1, .int .u64 n] w1 fun e w' => e = .returned (.tuple #[.int .u64 0, .int .u64 n]) ∧ w' = w1) := fun w1 => by
    have h := Tryz.bits_Mul 1 n (by decide) (by omega) w1
    rw [Nat.one_mul, Nat.div_eq_of_lt (by omega), Nat.mod_eq_of_lt (by omega)] at h
    exact h
  have g0 : decide ((n : Int) < 0) = false := decide_eq_false (by omega)
  have g1 : decide (9223372036854775807 < (n : Int)) = false := decide_eq_false (by omega)
  have hn0 : (0 : Int) ≤ n := by omega
  have HBc := Lib.hid hB
  have H1 := Lib.hid h1
  clear hB h1
  go_enter Tryz.func84, Tryz.ntmps84
  go_wp2_with (first | (go_at_call 98; refine (CM.out _).mono ?_; rintro e w1 ⟨rfl, hw⟩; rw [hw]; clear hw) | (at_make; refine wpList_make_full _ rfl _ _ 123 rfl w.heap.size 128 i0 (.agg #[.int .i64 0, .int .i64 0, .int .i64 0, .int .i64 0, .int .i64 0, .int .i64 0, .int .i64 0, .int .i64 0, .int .i64 0, .int .i64 0, .slice none 0 0, .bool false]) 12 Tryz.underlying123 hi hz0 hz1 .i64 .i64 n n n rfl rfl rfl rfl (by rw [hz2]; omega) (by unfold maxLen; omega) (Nat.le_refl _) ?_; intro w1 hown hg1) | (with_reducible show wpList _ _ _ ((⟨some 33, _, _, _, _, _⟩ : Oper) :: _) _ _; refine wpList_copyR (o := ⟨some 33, _, _, _, _, _⟩) rfl (.tmp 31) (.tmp 32) 123 123 rfl Tryz.underlying123 hi hz1 hown 0 n n ⟨B, 0, none⟩ 1 1 rfl rfl cs 1 (by show 1 = min 1 n; omega) (by omega) (cells_add (HBc.out.below ((Below.refl _ _).grown hg1 (Nat.le_refl _) (fun k hk => by cases hk)))) (by omega) H1.out ?_; intro w2 ho2 hb2))
  have HO2 := Lib.hid ho2
  have HC2 := Lib.hid (first_cells (xs := (madeCells (Value.agg #[.int .i64 0, .int .i64 0, .int .i64 0, .int .i64 0, .int .i64 0, .int .i64 0, .int .i64 0, .int .i64 0, .int .i64 0, .int .i64 0, .slice none 0 0, .bool false]).cells (n * 12)).toList) hl (by have := hown.1; omega))
  have HB2 := Lib.hid (((Below.refl w.heap.size w).grown hg1 (Nat.le_refl _) (fun k hk => by cases hk)).trans hb2)
  clear ho2 hb2 hown hg1 HBc CM hw1
  go_loopw [8] (fun i wr => ∃ (m : Nat) (xs : List Value), 1 ≤ m ∧ m ≤ n ∧ i = .int .i64 m ∧ Hid (wr.ownsRow w.heap.size 128 12 (.slice (some ⟨w.heap.size, 0, none⟩) n n) n xs) ∧ Hid (RecCells 12 m xs (fun _ => cs)) ∧ Hid (Below w.heap.size w wr)) (fun i _ => n - (RowKit.intOf i).toNat)
  case atStart => exact ⟨1, _, Nat.le_refl _, hn1, rfl, HO2, HC2, HB2⟩
  case round =>
    clear HO2 HC2 HB2
    obtain ⟨m, xs, hm1, hmn, rfl, HO, HC, HB⟩ := hrel
    by_cases hlt : m < n
    · have hmi : (m : Int) < n := by omega
      have hm0 : (0 : Int) ≤ m := by omega
      have hmn' : (m : Int) ≤ n := by omega
      obtain ⟨q, hq⟩ : ∃ q, q = min m (n - m) := ⟨_, rfl⟩
      have hq1 : 1 ≤ q := by omega
      have hqm : q ≤ m := by omega
      have hqn : m + q ≤ n := by omega
      have HQ := Lib.hid hq
      have hwr : IntKind.i64.wrap ((m : Int) + q) = m + q := by simp [IntKind.wrap, IntKind.bits, IntKind.signed]; omega
      clear hq
      have HOd := Lib.hid (owns_below HO.out (Below.refl wr.heap.size wr).drew (Nat.le_refl _))
      have HBd := Lib.hid (HB.out.drew)
      obtain ⟨gg, hgg⟩ : ∃ gg, gg = w.heap.size := ⟨_, rfl⟩
      have Hgg := Lib.hid hgg
      clear hgg
      go_wp2_with fail
      refine Await.begin (S := Until 7 (fun _ => True)) (by kernel_rfl) ?_ (fun hS => ?_)
      · exact Until.of trivial
      refine Await.pure (i := 0) (v := ?_) rfl (by kernel_rfl) (by kernel_rfl) (by kernel_rfl) (by kernel_rfl) (fun _ _ _ h => h) (Or.inl ⟨by rfl, ?_⟩) (by assumption) ?_
      rotate_left
      · (intro wa _; go_simp; try with_reducible rfl)
      simp only [Act.put, List.getElem_toArray, List.getElem_cons_zero, List.setIfInBounds_toArray, List.set_cons_zero, List.set_cons_succ]
      refine Await.pure (i := 1) (v := ?_) rfl (by kernel_rfl) (by kernel_rfl) (by kernel_rfl) (by kernel_rfl) (fun _ _ _ h => h) (Or.inl ⟨by rfl, ?_⟩) (by assumption) ?_
      rotate_left
      · (intro wa _; go_simp; try with_reducible rfl)
      simp only [Act.put, List.getElem_toArray, List.getElem_cons_zero, List.getElem_cons_succ, List.setIfInBounds_toArray, List.set_cons_zero, List.set_cons_succ]
      refine Await.pure (i := 2) (v := ?_) rfl (by kernel_rfl) (by kernel_rfl) (by kernel_rfl) (by kernel_rfl) (fun _ _ _ h => h) (Or.inl ⟨by rfl, ?_⟩) (by assumption) ?_
      rotate_left
      · (intro wa _; go_simp; try with_reducible rfl)
      simp only [Act.put, List.getElem_toArray, List.getElem_cons_zero, List.getElem_cons_succ, List.setIfInBounds_toArray, List.set_cons_zero, List.set_cons_succ]
      refine Await.pure (i := 3) (v := .slice (some ⟨w.heap.size, m * 12, none⟩) (n - m) (n - m)) rfl (by kernel_rfl) (by kernel_rfl) (by kernel_rfl) (by kernel_rfl) (fun _ _ _ h => h) (Or.inl ⟨by rfl, ?_⟩) (by assumption) ?_
      · (intro wa _; go_simp; try omega)
      simp only [Act.put, List.getElem_toArray, List.getElem_cons_zero, List.getElem_cons_succ, List.setIfInBounds_toArray, List.set_cons_zero, List.set_cons_succ]
      refine Await.pure (i := 4) (v := ?_) rfl (by kernel_rfl) (by kernel_rfl) (by kernel_rfl) (by kernel_rfl) (fun _ _ _ h => h) (Or.inl ⟨by rfl, ?_⟩) (by assumption) ?_
      rotate_left
      · (intro wa _; go_simp; try with_reducible rfl)
      simp only [Act.put, List.getElem_toArray, List.getElem_cons_zero, List.getElem_cons_succ, List.setIfInBounds_toArray, List.set_cons_zero, List.set_cons_succ]
      refine Await.pure (i := 5) (v := ?_) rfl (by kernel_rfl) (by kernel_rfl) (by kernel_rfl) (by kernel_rfl) (fun _ _ _ h => h) (Or.inl ⟨by rfl, ?_⟩) (by assumption) ?_
      rotate_left
      · (intro wa _; go_simp; try with_reducible rfl)
      simp only [Act.put, List.getElem_toArray, List.getElem_cons_zero, List.getElem_cons_succ, List.setIfInBounds_toArray, List.set_cons_zero, List.set_cons_succ]
      refine Await.pure (i := 6) (v := .slice (some ⟨w.heap.size, 0, none⟩) m n) rfl (by kernel_rfl) (by kernel_rfl) (by kernel_rfl) (by kernel_rfl) (fun _ _ _ h => h) (Or.inl ⟨by rfl, ?_⟩) (by assumption) ?_
      · (intro wa _; go_simp; try omega)
      simp only [Act.put, List.getElem_toArray, List.getElem_cons_zero, List.getElem_cons_succ, List.setIfInBounds_toArray, List.set_cons_zero, List.set_cons_succ]
      refine Await.step (i := 7) (o := _) (by kernel_rfl) rfl (fun K1 hK1' => ?_)
      refine step_copyR rfl (.tmp 41) (.tmp 44) 123 123 rfl Tryz.underlying123 hi hz1 HOd.out (m * 12) (n - m) (n - m) ⟨w.heap.size, 0, none⟩ m n rfl rfl (rep cs q) q HQ.out (rep_len hl q) (rep_at HOd.out HC.out hl (by decide) hqm hmn) (by rw [rep_len hl q]; omega) (fun v hv => rep_one H1.out hv) ?_
      intro w3 ho3 hb3
      refine hK1'.out _ _ ?_ (fun hS => ?_)
      · exact Until.over (by kernel_rfl)
      clear hK1' K1
      clear hS
      have hS : Until 7 (fun _ : World => True) #[true, true, true, true, true, true, true, true, false, false] w3 := Until.of trivial
      refine Await.pure (i := 8) (v := ?_) rfl (by kernel_rfl) (by kernel_rfl) (by kernel_rfl) (by kernel_rfl) (fun _ _ _ h => h) (Or.inl ⟨by rfl, ?_⟩) (by assumption) ?_
      rotate_left
      · (intro wa _; go_simp; try with_reducible rfl)
      simp only [Act.put, List.getElem_toArray, List.getElem_cons_zero, List.getElem_cons_succ, List.setIfInBounds_toArray, List.set_cons_zero, List.set_cons_succ]
      refine Await.pure (i := 9) (v := ?_) rfl (by kernel_rfl) (by kernel_rfl) (by kernel_rfl) (by kernel_rfl) (fun _ _ _ h => h) (Or.inl ⟨by rfl, ?_⟩) (by assumption) ?_
      rotate_left
      · (intro wa _; go_simp; try with_reducible rfl)
      simp only [Act.put, List.getElem_toArray, List.getElem_cons_zero, List.getElem_cons_succ, List.setIfInBounds_toArray, List.set_cons_zero, List.set_cons_succ]
      refine Await.done (by kernel_rfl) ?_ _
      have HC3 := Lib.hid (cells_more HC.out HOd.out.1 hl hqn)
      have HO3 := Lib.hid ho3
      have HB3 := Lib.hid (HBd.out.trans hb3)
      clear hS ho3 hb3 HOd HBd HO HC HB
      go_wp2
      go_roundw
      case rel => exact ⟨m + q, _, by omega, hqn, by go_num, HO3, HC3, HB3⟩
      case measure => simp [RowKit.intOf]; omega
    · obtain rfl : m = n := by omega
      go_wp2
      go_ret
      exact ⟨_, xs, rfl, HO.out, HC.out, HB.out⟩

def sideR (win draw loss sc ag : Int) : RowD := if ag < sc then ⟨1, 1, 0, 0, sc, ag, win⟩ else if sc < ag then ⟨1, 0, 0, 1, sc, ag, loss⟩ else ⟨1, 0, 1, 0, sc, ag, draw⟩
def teamCs (x : RowD) (win draw loss : Int) (lad : Value) (agn : Bool) : List Value := x.cells ++ [.int .i64 win, .int .i64 draw, .int .i64 loss, lad, .bool agn]
theorem team_rules {w : World} {b o : Nat} {x : RowD} {win draw loss : Int} {lad : Value} {agn : Bool} (h : CellsAt w b o (teamCs x win draw loss lad agn)) :
    w.cell? ⟨b, o + 7, none⟩ = some (.int .i64 win) ∧ w.cell? ⟨b, o + 8, none⟩ = some (.int .i64 draw) ∧ w.cell? ⟨b, o + 9, none⟩ = some (.int .i64 loss) ∧ w.cell? ⟨b, o + 10, none⟩ = some lad ∧ w.cell? ⟨b, o + 11, none⟩ = some (.bool agn) :=
  ⟨h.2 7 _ rfl, h.2 8 _ rfl, h.2 9 _ rfl, h.2 10 _ rfl, h.2 11 _ rfl⟩
theorem team_row {w : World} {b o : Nat} {x : RowD} {win draw loss : Int} {lad : Value} {agn : Bool} (h : CellsAt w b o (teamCs x win draw loss lad agn)) : CellsAt w b o x.cells :=
  ⟨h.1, fun j u hu => h.2 j u (by unfold teamCs; rw [List.getElem?_append_left (List.getElem?_eq_some_iff.1 hu).1]; exact hu)⟩
set_option maxRecDepth 100000 in
set_option maxHeartbeats 1000000 in
theorem count_impl (win draw loss sc ag : Int) (s : RowD) (lad : Value) (agn : Bool) (B off : Nat) (w : World) (hlad : ∃ a l c, lad = .slice a l c) (hc : CellsAt w B off (teamCs s win draw loss lad agn)) (hf : ∀ j, j < 7 → w.frozen? ⟨B, off + j, none⟩ = false) :
    Calls Tryz.prog 86 #[.pointer (some ⟨B, off, none⟩), .int .i64 sc, .int .i64 ag] w fun e w' => e = .returned (.tuple #[]) ∧ ∃ w1, Below w.heap.size w w1 ∧ w' = set7 w1 B off (addW s (sideR win draw loss sc ag)) := by
  obtain ⟨la, ll, lc, rfl⟩ := hlad
  have hBs := hc.1
  have hne : B ≠ w.heap.size := by omega
  have HF := Lib.hid hf
  have HCC := Lib.hid hc
  obtain ⟨r7, r8, r9, r10, r11⟩ := team_rules hc
  clear hc hf
  by_cases h1 : ag < sc
  · have g1 : decide (ag < sc) = true := decide_eq_true h1
    have HS : Hid (sideR win draw loss sc ag = ⟨1, 1, 0, 0, sc, ag, win⟩) := if_pos h1
    clear h1
    rw [HS.out]
    go_enter Tryz.func86, Tryz.ntmps86
    go_wp2_with fail
    go_region
    obtain ⟨X, hX⟩ : ∃ X : RowD, X = ⟨1, 1, 0, 0, sc, ag, win⟩ := ⟨_, rfl⟩
    have HX := Lib.hid hX
    obtain ⟨W3, hW3⟩ : ∃ W3, W3 = (w.alloc (.cells #[.int .i64 1, .int .i64 1, .int .i64 0, .int .i64 0, .int .i64 sc, .int .i64 ag, .int .i64 win] 115)).drew := ⟨_, rfl⟩
    have hbw : Below w.heap.size w W3 := by subst hW3; exact ((Below.refl _ _).alloc (Nat.le_refl _) _).drew
    have hbx : CellsAt W3 w.heap.size 0 X.cells := by
      subst hW3; subst hX
      have hb : BoxF (w.alloc (.cells #[.int .i64 1, .int .i64 1, .int .i64 0, .int .i64 0, .int .i64 sc, .int .i64 ag, .int .i64 win] 115)) w.heap.size (RowD.cells ⟨1, 1, 0, 0, sc, ag, win⟩) := BoxF.made (Below.refl _ _) rfl
      exact hb.at0.below (Below.refl _ _).drew
    rw [← hW3]
    clear hW3 hX HS r7 r8 r9 r10 r11
    obtain ⟨F, HFd⟩ : ∃ F : World → Prop, F = fun w' => CellsAt w' B off s.cells ∧ (∀ j, j < 7 → w'.frozen? ⟨B, off + j, none⟩ = false) ∧ CellsAt w' w.heap.size 0 X.cells ∧ Below w.heap.size w w' := ⟨_, rfl⟩
    have FE : Hid (∀ wa, F wa → CellsAt wa B off s.cells ∧ (∀ j, j < 7 → wa.frozen? ⟨B, off + j, none⟩ = false) ∧ CellsAt wa w.heap.size 0 X.cells ∧ Below w.heap.size w wa) := by subst HFd; exact fun _ h => h
    have F0 : Hid (F W3.drew) := by
      subst HFd
      have hd := (Below.refl W3.heap.size W3).drew
      exact ⟨((team_row HCC.out).below hbw).below hd, fun j hj => ((hbw.drew).frozen (p := ⟨B, off + j, none⟩) hBs).trans (HF.out j hj), hbx.below hd, hbw.drew⟩
    clear HFd hbw hbx HCC HF
    go_wp2_with fail
    refine Await.begin (S := Until 4 F) (by kernel_rfl) ?_ (fun hS => ?_)
    · exact Until.of F0.out
    clear F0
    refine Await.pure (i := 0) (v := ?_) rfl (by kernel_rfl) (by kernel_rfl) (by kernel_rfl) (by kernel_rfl) (fun _ _ _ h => h) (Or.inl ⟨by rfl, ?_⟩) (by assumption) ?_
    rotate_left
    · (intro wa _; go_simp; try with_reducible rfl)
    simp only [Act.put, List.getElem_toArray, List.getElem_cons_zero, List.setIfInBounds_toArray, List.set_cons_zero, List.set_cons_succ]
    refine Await.pure (i := 1) (v := ?_) rfl (by kernel_rfl) (by kernel_rfl) (by kernel_rfl) (by kernel_rfl) (fun _ _ _ h => h) (Or.inl ⟨by rfl, ?_⟩) (by assumption) ?_
    rotate_left
    · (intro wa _; go_simp; try with_reducible rfl)
    simp only [Act.put, List.getElem_toArray, List.getElem_cons_zero, List.getElem_cons_succ, List.setIfInBounds_toArray, List.set_cons_zero, List.set_cons_succ]
    refine Await.pure (i := 2) (v := ?_) rfl (by kernel_rfl) (by kernel_rfl) (by kernel_rfl) (by kernel_rfl) (fun _ _ _ h => h) (Or.inl ⟨by rfl, ?_⟩) (by assumption) ?_
    rotate_left
    · (intro wa _; go_simp; try with_reducible rfl)
    simp only [Act.put, List.getElem_toArray, List.getElem_cons_zero, List.getElem_cons_succ, List.setIfInBounds_toArray, List.set_cons_zero, List.set_cons_succ]
    refine Await.takes (i := 3) [] (v := ?_) rfl (by kernel_rfl) (by kernel_rfl) (by kernel_rfl) (by kernel_rfl) (fun _ _ _ h => h) (Or.inl ⟨by rfl, ?_⟩) (by assumption) ?_
    rotate_left
    · (intro wa hSw; obtain ⟨fs, ff, fx, fb⟩ := FE.out wa hSw; obtain ⟨b0, b1, b2, b3, b4, b5, b6⟩ := row_cells fx; go_simp; try with_reducible rfl)
    simp only [Act.put, List.getElem_toArray, List.getElem_cons_zero, List.getElem_cons_succ, List.setIfInBounds_toArray, List.set_cons_zero, List.set_cons_succ]
    refine Await.step (i := 4) (o := _) (by kernel_rfl) rfl (fun K1 hK1' => ?_)
    go_simp
    have hs4 := FE.out _ (hS (by kernel_rfl))
    refine (sumsAdd_impl s X B off _ hs4.1 hs4.2.1).mono ?_
    rintro e w4 ⟨rfl, w5, b5, rfl⟩
    have hb5 := Lib.hid (hs4.2.2.2.trans (b5.mono hs4.2.2.2.size))
    clear hs4 b5
    (try go_wp2_with fail)
    refine hK1'.out _ _ ?_ (fun hS => ?_)
    · exact Until.over (by kernel_rfl)
    clear hK1' K1
    clear hS
    refine Await.done (by kernel_rfl) ?_ _
    go_wp2
    go_end0
    exact ⟨rfl, w5, hb5.out, by rw [HX.out]⟩
  · by_cases h2 : sc < ag
    · have g1 : decide (ag < sc) = false := decide_eq_false h1
      have g2 : decide (sc < ag) = true := decide_eq_true h2
      have HS : Hid (sideR win draw loss sc ag = ⟨1, 0, 0, 1, sc, ag, loss⟩) := (if_neg h1).trans (if_pos h2)
      clear h1 h2
      rw [HS.out]
      go_enter Tryz.func86, Tryz.ntmps86
      go_wp2_with fail
      go_region
      obtain ⟨X, hX⟩ : ∃ X : RowD, X = ⟨1, 0, 0, 1, sc, ag, loss⟩ := ⟨_, rfl⟩
      have HX := Lib.hid hX
      obtain ⟨W3, hW3⟩ : ∃ W3, W3 = (w.alloc (.cells #[.int .i64 1, .int .i64 0, .int .i64 0, .int .i64 1, .int .i64 sc, .int .i64 ag, .int .i64 loss] 115)).drew := ⟨_, rfl⟩
      have hbw : Below w.heap.size w W3 := by subst hW3; exact ((Below.refl _ _).alloc (Nat.le_refl _) _).drew
      have hbx : CellsAt W3 w.heap.size 0 X.cells := by
        subst hW3; subst hX
        have hb : BoxF (w.alloc (.cells #[.int .i64 1, .int .i64 0, .int .i64 0, .int .i64 1, .int .i64 sc, .int .i64 ag, .int .i64 loss] 115)) w.heap.size (RowD.cells ⟨1, 0, 0, 1, sc, ag, loss⟩) := BoxF.made (Below.refl _ _) rfl
        exact hb.at0.below (Below.refl _ _).drew
      rw [← hW3]
      clear hW3 hX HS r7 r8 r9 r10 r11
      obtain ⟨F, HFd⟩ : ∃ F : World → Prop, F = fun w' => CellsAt w' B off s.cells ∧ (∀ j, j < 7 → w'.frozen? ⟨B, off + j, none⟩ = false) ∧ CellsAt w' w.heap.size 0 X.cells ∧ Below w.heap.size w w' := ⟨_, rfl⟩
      have FE : Hid (∀ wa, F wa → CellsAt wa B off s.cells ∧ (∀ j, j < 7 → wa.frozen? ⟨B, off + j, none⟩ = false) ∧ CellsAt wa w.heap.size 0 X.cells ∧ Below w.heap.size w wa) := by subst HFd; exact fun _ h => h
      have F0 : Hid (F W3.drew) := by
        subst HFd
        have hd := (Below.refl W3.heap.size W3).drew
        exact ⟨((team_row HCC.out).below hbw).below hd, fun j hj => ((hbw.drew).frozen (p := ⟨B, off + j, none⟩) hBs).trans (HF.out j hj), hbx.below hd, hbw.drew⟩
      clear HFd hbw hbx HCC HF
      go_wp2_with fail
      refine Await.begin (S := Until 4 F) (by kernel_rfl) ?_ (fun hS => ?_)
      · exact Until.of F0.out
      clear F0
      refine Await.pure (i := 0) (v := ?_) rfl (by kernel_rfl) (by kernel_rfl) (by kernel_rfl) (by kernel_rfl) (fun _ _ _ h => h) (Or.inl ⟨by rfl, ?_⟩) (by assumption) ?_
      rotate_left
      · (intro wa _; go_simp; try with_reducible rfl)
      simp only [Act.put, List.getElem_toArray, List.getElem_cons_zero, List.setIfInBounds_toArray, List.set_cons_zero, List.set_cons_succ]
      refine Await.pure (i := 1) (v := ?_) rfl (by kernel_rfl) (by kernel_rfl) (by kernel_rfl) (by kernel_rfl) (fun _ _ _ h => h) (Or.inl ⟨by rfl, ?_⟩) (by assumption) ?_
      rotate_left
      · (intro wa _; go_simp; try with_reducible rfl)
      simp only [Act.put, List.getElem_toArray, List.getElem_cons_zero, List.getElem_cons_succ, List.setIfInBounds_toArray, List.set_cons_zero, List.set_cons_succ]
      refine Await.pure (i := 2) (v := ?_) rfl (by kernel_rfl) (by kernel_rfl) (by kernel_rfl) (by kernel_rfl) (fun _ _ _ h => h) (Or.inl ⟨by rfl, ?_⟩) (by assumption) ?_
      rotate_left
      · (intro wa _; go_simp; try with_reducible rfl)
      simp only [Act.put, List.getElem_toArray, List.getElem_cons_zero, List.getElem_cons_succ, List.setIfInBounds_toArray, List.set_cons_zero, List.set_cons_succ]
      refine Await.takes (i := 3) [] (v := ?_) rfl (by kernel_rfl) (by kernel_rfl) (by kernel_rfl) (by kernel_rfl) (fun _ _ _ h => h) (Or.inl ⟨by rfl, ?_⟩) (by assumption) ?_
      rotate_left
      · (intro wa hSw; obtain ⟨fs, ff, fx, fb⟩ := FE.out wa hSw; obtain ⟨b0, b1, b2, b3, b4, b5, b6⟩ := row_cells fx; go_simp; try with_reducible rfl)
      simp only [Act.put, List.getElem_toArray, List.getElem_cons_zero, List.getElem_cons_succ, List.setIfInBounds_toArray, List.set_cons_zero, List.set_cons_succ]
      refine Await.step (i := 4) (o := _) (by kernel_rfl) rfl (fun K1 hK1' => ?_)
      go_simp
      have hs4 := FE.out _ (hS (by kernel_rfl))
      refine (sumsAdd_impl s X B off _ hs4.1 hs4.2.1).mono ?_
      rintro e w4 ⟨rfl, w5, b5, rfl⟩
      have hb5 := Lib.hid (hs4.2.2.2.trans (b5.mono hs4.2.2.2.size))
      clear hs4 b5
      (try go_wp2_with fail)
      refine hK1'.out _ _ ?_ (fun hS => ?_)
      · exact Until.over (by kernel_rfl)
      clear hK1' K1
      clear hS
      refine Await.done (by kernel_rfl) ?_ _
      go_wp2
      go_end0
      exact ⟨rfl, w5, hb5.out, by rw [HX.out]⟩
    · have g1 : decide (ag < sc) = false := decide_eq_false h1
      have g2 : decide (sc < ag) = false := decide_eq_false h2
      have HS : Hid (sideR win draw loss sc ag = ⟨1, 0, 1, 0, sc, ag, draw⟩) := (if_neg h1).trans (if_neg h2)
      clear h1 h2
      rw [HS.out]
      go_enter Tryz.func86, Tryz.ntmps86
      go_wp2_with fail
      go_region
      obtain ⟨X, hX⟩ : ∃ X : RowD, X = ⟨1, 0, 1, 0, sc, ag, draw⟩ := ⟨_, rfl⟩
      have HX := Lib.hid hX
      obtain ⟨W3, hW3⟩ : ∃ W3, W3 = (w.alloc (.cells #[.int .i64 1, .int .i64 0, .int .i64 1, .int .i64 0, .int .i64 sc, .int .i64 ag, .int .i64 draw] 115)).drew := ⟨_, rfl⟩
      have hbw : Below w.heap.size w W3 := by subst hW3; exact ((Below.refl _ _).alloc (Nat.le_refl _) _).drew
      have hbx : CellsAt W3 w.heap.size 0 X.cells := by
        subst hW3; subst hX
        have hb : BoxF (w.alloc (.cells #[.int .i64 1, .int .i64 0, .int .i64 1, .int .i64 0, .int .i64 sc, .int .i64 ag, .int .i64 draw] 115)) w.heap.size (RowD.cells ⟨1, 0, 1, 0, sc, ag, draw⟩) := BoxF.made (Below.refl _ _) rfl
        exact hb.at0.below (Below.refl _ _).drew
      rw [← hW3]
      clear hW3 hX HS r7 r8 r9 r10 r11
      obtain ⟨F, HFd⟩ : ∃ F : World → Prop, F = fun w' => CellsAt w' B off s.cells ∧ (∀ j, j < 7 → w'.frozen? ⟨B, off + j, none⟩ = false) ∧ CellsAt w' w.heap.size 0 X.cells ∧ Below w.heap.size w w' := ⟨_, rfl⟩
      have FE : Hid (∀ wa, F wa → CellsAt wa B off s.cells ∧ (∀ j, j < 7 → wa.frozen? ⟨B, off + j, none⟩ = false) ∧ CellsAt wa w.heap.size 0 X.cells ∧ Below w.heap.size w wa) := by subst HFd; exact fun _ h => h
      have F0 : Hid (F W3.drew) := by
        subst HFd
        have hd := (Below.refl W3.heap.size W3).drew
        exact ⟨((team_row HCC.out).below hbw).below hd, fun j hj => ((hbw.drew).frozen (p := ⟨B, off + j, none⟩) hBs).trans (HF.out j hj), hbx.below hd, hbw.drew⟩
      clear HFd hbw hbx HCC HF
      go_wp2_with fail
      refine Await.begin (S := Until 4 F) (by kernel_rfl) ?_ (fun hS => ?_)
      · exact Until.of F0.out
      clear F0
      refine Await.pure (i := 0) (v := ?_) rfl (by kernel_rfl) (by kernel_rfl) (by kernel_rfl) (by kernel_rfl) (fun _ _ _ h => h) (Or.inl ⟨by rfl, ?_⟩) (by assumption) ?_
      rotate_left
      · (intro wa _; go_simp; try with_reducible rfl)
      simp only [Act.put, List.getElem_toArray, List.getElem_cons_zero, List.setIfInBounds_toArray, List.set_cons_zero, List.set_cons_succ]
      refine Await.pure (i := 1) (v := ?_) rfl (by kernel_rfl) (by kernel_rfl) (by kernel_rfl) (by kernel_rfl) (fun _ _ _ h => h) (Or.inl ⟨by rfl, ?_⟩) (by assumption) ?_
      rotate_left
      · (intro wa _; go_simp; try with_reducible rfl)
      simp only [Act.put, List.getElem_toArray, List.getElem_cons_zero, List.getElem_cons_succ, List.setIfInBounds_toArray, List.set_cons_zero, List.set_cons_succ]
      refine Await.pure (i := 2) (v := ?_) rfl (by kernel_rfl) (by kernel_rfl) (by kernel_rfl) (by kernel_rfl) (fun _ _ _ h => h) (Or.inl ⟨by rfl, ?_⟩) (by assumption) ?_
      rotate_left
      · (intro wa _; go_simp; try with_reducible rfl)
      simp only [Act.put, List.getElem_toArray, List.getElem_cons_zero, List.getElem_cons_succ, List.setIfInBounds_toArray, List.set_cons_zero, List.set_cons_succ]
      refine Await.takes (i := 3) [] (v := ?_) rfl (by kernel_rfl) (by kernel_rfl) (by kernel_rfl) (by kernel_rfl) (fun _ _ _ h => h) (Or.inl ⟨by rfl, ?_⟩) (by assumption) ?_
      rotate_left
      · (intro wa hSw; obtain ⟨fs, ff, fx, fb⟩ := FE.out wa hSw; obtain ⟨b0, b1, b2, b3, b4, b5, b6⟩ := row_cells fx; go_simp; try with_reducible rfl)
      simp only [Act.put, List.getElem_toArray, List.getElem_cons_zero, List.getElem_cons_succ, List.setIfInBounds_toArray, List.set_cons_zero, List.set_cons_succ]
      refine Await.step (i := 4) (o := _) (by kernel_rfl) rfl (fun K1 hK1' => ?_)
      go_simp
      have hs4 := FE.out _ (hS (by kernel_rfl))
      refine (sumsAdd_impl s X B off _ hs4.1 hs4.2.1).mono ?_
      rintro e w4 ⟨rfl, w5, b5, rfl⟩
      have hb5 := Lib.hid (hs4.2.2.2.trans (b5.mono hs4.2.2.2.size))
      clear hs4 b5
      (try go_wp2_with fail)
      refine hK1'.out _ _ ?_ (fun hS => ?_)
      · exact Until.over (by kernel_rfl)
      clear hK1' K1
      clear hS
      refine Await.done (by kernel_rfl) ?_ _
      go_wp2
      go_end0
      exact ⟨rfl, w5, hb5.out, by rw [HX.out]⟩

end Go.Proofs.YteciobkjfmddcaaGreatDoor
set_option linter.unusedVariables false
namespace Go.Proofs.YteciobkjfmddcaaGreatDoor
open Go.RowKit

def SeenN (K : Nat) (w : World) (B : Nat) (S : Nat → Bool) : Prop := B < w.heap.size ∧ ∀ j, j < K → w.cell? ⟨B, j, none⟩ = some (.bool (S j)) ∧ w.frozen? ⟨B, j, none⟩ = false
theorem SeenN.made (K : Nat) (w : World) (cs : Array Value) (t : TypeId) (h : ∀ j, j < K → cs[j]? = some (.bool false)) : SeenN K (w.alloc (.cells cs t)) w.heap.size (fun _ => false) := by
  refine ⟨by simp, fun j hj => ⟨?_, ?_⟩⟩
  · rw [cell_of_row _ w.heap.size j _ t (0, 0) (heap_alloc_new w _)]
    exact h j hj
  · exact frozen_of_row _ w.heap.size j _ t (heap_alloc_new w _)
theorem SeenN.set {K : Nat} {w : World} {B : Nat} {S : Nat → Bool} (h : SeenN K w B S) (m : Nat) (hm : m < K) : SeenN K (w.setCell ⟨B, m, none⟩ (.bool true)) B (fun j => S j || decide (j = m)) := by
  refine ⟨by simpa [World.setCell] using h.1, fun j hj => ⟨?_, (World.frozen?_setCell _ _ _ _).trans (h.2 j hj).2⟩⟩
  by_cases hjm : j = m
  · subst hjm
    rw [World.cell?_setCell_same' _ _ _ (by rw [(h.2 j hj).1]; rfl)]
    simp
  · rw [World.cell?_setCell_other _ _ _ _ (by intro e; simp only [Addr.mk.injEq] at e; omega), (h.2 j hj).1]
    simp [hjm]
theorem pigeon (m : Nat) : ∀ (k : Nat) (g : Nat → Int), (∀ i, i < k → 1 ≤ g i ∧ g i ≤ m) → (∀ i j, i < j → j < k → g i ≠ g j) → k ≤ m := by
  induction m with
  | zero => intro k g h _; by_cases h0 : k = 0; · omega
            · have := h 0 (by omega); omega
  | succ m ih =>
    intro k g h hd
    by_cases hx : ∃ i, i < k ∧ g i = m + 1
    · obtain ⟨i0, hi0, he⟩ := hx
      have hk1 := ih (k - 1) (fun i => if i = i0 then g (k - 1) else g i) (fun i hi => by
          by_cases e : i = i0
          · simp only [e, if_true]
            have h1 := h (k - 1) (by omega)
            have h2 := hd i0 (k - 1) (by omega) (by omega)
            omega
          · simp only [e, if_false]
            have h1 := h i (by omega)
            have h2 : g i ≠ g i0 := by
              by_cases hlt : i < i0
              · exact hd i i0 hlt hi0
              · exact fun hh => hd i0 i (by omega) (by omega) hh.symm
            omega)
        (fun i j hij hj => by
          by_cases e : i = i0
          · by_cases e2 : j = i0
            · omega
            · simp only [e, e2, if_true, if_false]
              exact fun hh => hd j (k - 1) (by omega) (by omega) hh.symm
          · by_cases e2 : j = i0
            · simp only [e, e2, if_true, if_false]
              exact hd i (k - 1) (by omega) (by omega)
            · simp only [e, e2, if_false]
              exact hd i j hij (by omega))
      omega
    · have := ih k g (fun i hi => by
        have h1 := h i hi
        have h2 : g i ≠ m + 1 := fun he => hx ⟨i, hi, he⟩
        omega) hd
      omega
theorem pigeon8 {k : Nat} {g : Nat → Int} (h : ∀ i, i < k → (1 ≤ g i ∧ g i ≤ 8) ∧ ¬ hasP g (g i) i) : k ≤ 8 :=
  pigeon 8 k g (fun i hi => by have := (h i hi).1; omega) (fun i j hij hj he => (h j hj).2 ⟨i, hij, he⟩)
theorem knm_ne (m : Nat) (h1 : 1 ≤ m) (h8 : m ≤ 8) : (knm m).toList.isEmpty = false ∧ (knm m).toList ≠ [] := by
  have : m = 1 ∨ m = 2 ∨ m = 3 ∨ m = 4 ∨ m = 5 ∨ m = 6 ∨ m = 7 ∨ m = 8 := by omega
  rcases this with rfl | rfl | rfl | rfl | rfl | rfl | rfl | rfl <;> exact ⟨by decide +kernel, by decide +kernel⟩
set_option maxRecDepth 100000 in
theorem isLadder_impl (n : Nat) (g : Nat → Int) (R : Bool) (v : Value) (w : World) (hR : R = true ↔ ladP n g) (h : IntRow w v n g) :
    Calls Tryz.prog 65 #[v] w fun e w' => e = .returned (.bool R) ∧ Below w.heap.size w w' := by
  obtain ⟨a, cap, rfl, hn, hv⟩ := h.form
  have HV := Lib.hid hv
  have HR := Lib.hid hR
  clear hv h hR
  have HNO2 : Hid (∀ k, k < n → ¬ ((1 ≤ g k ∧ g k ≤ 8) ∧ ¬ hasP g (g k) k) → R = false) := fun k hk h => by
    cases R with
    | false => rfl
    | true => exact absurd ((HR.out.1 rfl).2 k hk) h
  have HYES2 : Hid (0 < n → (∀ i, i < n → (1 ≤ g i ∧ g i ≤ 8) ∧ ¬ hasP g (g i) i) → R = true) := fun h0 h => HR.out.2 ⟨⟨by omega, by have := pigeon8 h; omega⟩, h⟩
  have HZ : Hid (n = 0 → R = false) := fun h0 => by
    cases R with
    | false => rfl
    | true => have := (HR.out.1 rfl).1; omega
  clear HR
  go_enter Tryz.func65, Tryz.ntmps65
  go_wp2
  have s1 := SeenN.made 9 w #[.bool false, .bool false, .bool false, .bool false, .bool false, .bool false, .bool false, .bool false, .bool false] 119 (fun j hj => by
    have : j = 0 ∨ j = 1 ∨ j = 2 ∨ j = 3 ∨ j = 4 ∨ j = 5 ∨ j = 6 ∨ j = 7 ∨ j = 8 := by omega
    rcases this with rfl | rfl | rfl | rfl | rfl | rfl | rfl | rfl | rfl <;> rfl)
  go_loopw [8] (fun i wr => ∃ (k : Nat) (S : Nat → Bool), k ≤ n ∧ i = .int .i64 k ∧ Hid (∀ i, i < k → (1 ≤ g i ∧ g i ≤ 8) ∧ ¬ hasP g (g i) i) ∧ SeenN 9 wr w.heap.size S ∧ Hid (∀ j : Nat, S j = true ↔ hasP g j k) ∧ Below w.heap.size w wr) (fun i _ => n - (RowKit.intOf i).toNat)
  case atStart => exact ⟨0, _, Nat.zero_le _, rfl, fun i hi => absurd hi (by omega), s1, fun j => ⟨fun h => absurd h (by simp), fun ⟨i, hi, _⟩ => absurd hi (by omega)⟩, (Below.refl _ _).alloc (Nat.le_refl _) _⟩
  case round =>
    clear s1
    obtain ⟨k, S, hk, rfl, hall, hS, hSk, hb⟩ := hrel
    by_cases hlt : k < n
    · obtain ⟨b, off, rfl, hc⟩ := HV.out (by omega)
      have c1 := (hb.cell (p := ⟨b, off + k, none⟩) (World.block_lt_of_cell? w _ (hc k hlt))).trans (hc k hlt)
      have HN := Lib.hid (HNO2.out k hlt)
      clear hc HV
      have HY : Hid (((1 ≤ g k ∧ g k ≤ 8) ∧ ¬ hasP g (g k) k) → ∀ i, i < k + 1 → (1 ≤ g i ∧ g i ≤ 8) ∧ ¬ hasP g (g i) i) := fun h i hi => by
        by_cases hik : i = k
        · subst hik; exact h
        · exact hall.out i (by omega)
      have HE : Hid (∀ m : Nat, g k = m → ∀ j : Nat, (S j || decide (j = m)) = true ↔ hasP g j (k + 1)) := fun m hm j => by
        simp only [Bool.or_eq_true, decide_eq_true_eq]
        constructor
        · rintro (h | rfl)
          · obtain ⟨i, hi, hij⟩ := (hSk.out j).1 h
            exact ⟨i, by omega, hij⟩
          · exact ⟨k, by omega, hm⟩
        · rintro ⟨i, hi, hij⟩
          by_cases hik : i = k
          · subst hik; right; omega
          · exact .inl ((hSk.out j).2 ⟨i, by omega, hij⟩)
      have HSm : Hid (∀ m : Nat, g k = m → (S m = true ↔ hasP g (g k) k)) := fun m hm => by rw [hm]; exact hSk.out m
      clear hall hSk HNO2 HYES2 HZ
      generalize hasP g (g k) k = hp at *
      generalize hy : g k = y at *
      clear hy
      by_cases hy18 : 1 ≤ y ∧ y ≤ 8
      · obtain ⟨m, rfl⟩ : ∃ m : Nat, y = m := ⟨y.toNat, by omega⟩
        obtain ⟨h1, h8⟩ := hy18
        have hm9 : m < 9 := by omega
        have hm9' : (m : Int) < 9 := by omega
        obtain ⟨e1, f1⟩ := hS.2 m hm9
        have CN := Lib.hid (fun w => keyNameI_yes m w (by omega) (by omega))
        obtain ⟨n1, n2⟩ := knm_ne m (by omega) (by omega)
        generalize knm m = s at *
        by_cases hSm : S m = true
        · rw [hSm] at e1
          have hf : R = false := HN.out fun h => h.2 ((HSm.out m rfl).1 hSm)
          subst hf
          clear HN HY HE HSm hSm
          go_wp2_with (go_at_call 22; refine (CN.out _).mono ?_; rintro e w' ⟨rfl, rfl⟩)
          go_ret
          exact ⟨rfl, hb⟩
        · have hSm' : S m = false := by simpa using hSm
          rw [hSm'] at e1
          have HY2 := Lib.hid (HY.out ⟨⟨by omega, by omega⟩, fun h => hSm ((HSm.out m rfl).2 h)⟩)
          have HS2 := Lib.hid (hS.set m hm9)
          have HE2 := Lib.hid (HE.out m rfl)
          clear HN HY HE HSm hSm hSm' hS
          go_wp2_with (go_at_call 22; refine (CN.out _).mono ?_; rintro e w' ⟨rfl, rfl⟩)
          go_roundw
          case rel => exact ⟨k + 1, _, by omega, by go_num, HY2.out, HS2.out, HE2.out, hb.setCell (Nat.le_refl _) _⟩
          case measure => simp [RowKit.intOf]; omega
      · have hf : R = false := HN.out fun h => hy18 h.1
        subst hf
        clear HN HY HE HSm
        go_wp2_with (go_at_call 22; refine (keyNameI_no y _ hy18).mono ?_; rintro e w' ⟨rfl, rfl⟩)
        go_ret
        exact ⟨rfl, hb⟩
    · obtain rfl : k = n := by omega
      by_cases h0 : k = 0
      · have hf : R = false := HZ.out h0
        subst hf
        subst h0
        clear HNO2 HYES2 HZ hall hSk hS
        go_wp2
        go_ret
        exact ⟨rfl, hb⟩
      · have h1 : 0 < k := by omega
        have hf : R = true := HYES2.out h1 hall.out
        subst hf
        clear HNO2 HYES2 HZ hall hSk hS
        go_wp2
        go_ret
        exact ⟨rfl, hb⟩
end Go.Proofs.YteciobkjfmddcaaGreatDoor
set_option linter.unusedVariables false
namespace Go.Proofs.YteciobkjfmddcaaGreatDoor
open Go.RowKit

theorem bool_of {R : Bool} {p : Prop} (h : R = true ↔ p) (hp : p) : R = true := h.2 hp
theorem bool_not {R : Bool} {p : Prop} (h : R = true ↔ p) (hp : ¬ p) : R = false := by
  cases R with
  | false => rfl
  | true => exact absurd (h.1 rfl) hp

theorem areOpp_impl (n a b : Int) (R : Bool) (w : World) (hR : R = true ↔ (0 ≤ a ∧ a < n ∧ 0 ≤ b ∧ b < n ∧ a ≠ b)) :
    Calls Tryz.prog 81 #[.int .i64 n, .int .i64 a, .int .i64 b] w fun e w' => e = .returned (.bool R) ∧ w = w' := by
  have HN := Lib.hid (bool_not hR)
  have HY := Lib.hid (bool_of hR)
  clear hR
  by_cases h1 : 0 ≤ a
  case neg =>
    have g1 : decide (0 ≤ a) = false := decide_eq_false h1
    obtain rfl := HN.out fun h => h1 h.1
    clear HN HY h1
    go_enter Tryz.func81, Tryz.ntmps81
    go_wp2
    go_ret
    exact ⟨by first | rfl | exact congrArg (fun q => Ending.returned (Value.bool q)) (by unfold bne; rw [g5]; rfl), rfl⟩
  have g1 : decide (0 ≤ a) = true := decide_eq_true h1
  by_cases h2 : a < n
  case neg =>
    have g2 : decide (a < n) = false := decide_eq_false h2
    obtain rfl := HN.out fun h => h2 h.2.1
    clear HN HY h2
    go_enter Tryz.func81, Tryz.ntmps81
    go_wp2
    go_ret
    exact ⟨by first | rfl | exact congrArg (fun q => Ending.returned (Value.bool q)) (by unfold bne; rw [g5]; rfl), rfl⟩
  have g2 : decide (a < n) = true := decide_eq_true h2
  by_cases h3 : 0 ≤ b
  case neg =>
    have g3 : decide (0 ≤ b) = false := decide_eq_false h3
    obtain rfl := HN.out fun h => h3 h.2.2.1
    clear HN HY h3
    go_enter Tryz.func81, Tryz.ntmps81
    go_wp2
    go_ret
    exact ⟨by first | rfl | exact congrArg (fun q => Ending.returned (Value.bool q)) (by unfold bne; rw [g5]; rfl), rfl⟩
  have g3 : decide (0 ≤ b) = true := decide_eq_true h3
  by_cases h4 : b < n
  case neg =>
    have g4 : decide (b < n) = false := decide_eq_false h4
    obtain rfl := HN.out fun h => h4 h.2.2.2.1
    clear HN HY h4
    go_enter Tryz.func81, Tryz.ntmps81
    go_wp2
    go_ret
    exact ⟨by first | rfl | exact congrArg (fun q => Ending.returned (Value.bool q)) (by unfold bne; rw [g5]; rfl), rfl⟩
  have g4 : decide (b < n) = true := decide_eq_true h4
  by_cases h5 : a ≠ b
  case neg =>
    have g5 : (a == b) = true := by simpa using h5
    obtain rfl := HN.out fun h => h5 h.2.2.2.2
    clear HN HY h5
    go_enter Tryz.func81, Tryz.ntmps81
    go_wp2
    go_ret
    exact ⟨by first | rfl | exact congrArg (fun q => Ending.returned (Value.bool q)) (by unfold bne; rw [g5]; rfl), rfl⟩
  have g5 : (a == b) = false := beq_eq_false_iff_ne.2 h5
  obtain rfl := HY.out ⟨h1, h2, h3, h4, h5⟩
  clear HN HY h5
  go_enter Tryz.func81, Tryz.ntmps81
  go_wp2
  go_ret
  exact ⟨congrArg (fun q => Ending.returned (Value.bool q)) (by unfold bne; rw [g5]; rfl), rfl⟩
theorem exists_impl (st : Int) (R : Bool) (w : World) (hR : R = true ↔ (0 ≤ st ∧ st ≤ 4)) :
    Calls Tryz.prog 82 #[.int .i64 st] w fun e w' => e = .returned (.bool R) ∧ w = w' := by
  have HN := Lib.hid (bool_not hR)
  have HY := Lib.hid (bool_of hR)
  clear hR
  by_cases h1 : 0 ≤ st
  case neg =>
    have g1 : decide (0 ≤ st) = false := decide_eq_false h1
    obtain rfl := HN.out fun h => h1 h.1
    clear HN HY h1
    go_enter Tryz.func82, Tryz.ntmps82
    go_wp2
    go_ret
    exact ⟨rfl, rfl⟩
  have g1 : decide (0 ≤ st) = true := decide_eq_true h1
  by_cases h2 : st ≤ 4
  case neg =>
    have g2 : decide (st ≤ 4) = false := decide_eq_false h2
    obtain rfl := HN.out fun h => h2 h.2
    clear HN HY h2
    go_enter Tryz.func82, Tryz.ntmps82
    go_wp2
    go_ret
    exact ⟨rfl, rfl⟩
  have g2 : decide (st ≤ 4) = true := decide_eq_true h2
  obtain rfl := HY.out ⟨h1, h2⟩
  clear HN HY
  go_enter Tryz.func82, Tryz.ntmps82
  go_wp2
  go_ret
  exact ⟨rfl, rfl⟩
theorem allows_impl (st q : Int) (R : Bool) (w : World) (hR : R = true ↔ ((st = 1 ∧ 0 ≤ q ∧ q ≤ 99) ∨ (st ≠ 1 ∧ q = 0))) :
    Calls Tryz.prog 83 #[.int .i64 st, .int .i64 q] w fun e w' => e = .returned (.bool R) ∧ w = w' := by
  have HN := Lib.hid (bool_not hR)
  have HY := Lib.hid (bool_of hR)
  clear hR
  by_cases h0 : st = 1
  · have HN2 := Lib.hid (fun (h : ¬ (0 ≤ q ∧ q ≤ 99)) => HN.out fun h1 => h1.elim (fun h2 => h h2.2) fun h2 => h2.1 h0)
    have HY2 := Lib.hid (fun (h : 0 ≤ q ∧ q ≤ 99) => HY.out (.inl ⟨h0, h⟩))
    clear HN HY
    subst h0
    by_cases h1 : 0 ≤ q
    case neg =>
      have g1 : decide (0 ≤ q) = false := decide_eq_false h1
      obtain rfl := HN2.out fun h => h1 h.1
      clear HN2 HY2 h1
      go_enter Tryz.func83, Tryz.ntmps83
      go_wp2
      go_ret
      exact ⟨rfl, rfl⟩
    have g1 : decide (0 ≤ q) = true := decide_eq_true h1
    by_cases h2 : q ≤ 99
    case neg =>
      have g2 : decide (q ≤ 99) = false := decide_eq_false h2
      obtain rfl := HN2.out fun h => h2 h.2
      clear HN2 HY2 h2
      go_enter Tryz.func83, Tryz.ntmps83
      go_wp2
      go_ret
      exact ⟨rfl, rfl⟩
    have g2 : decide (q ≤ 99) = true := decide_eq_true h2
    obtain rfl := HY2.out ⟨h1, h2⟩
    clear HN2 HY2
    go_enter Tryz.func83, Tryz.ntmps83
    go_wp2
    go_ret
    exact ⟨rfl, rfl⟩
  · have g0 : (st == 1) = false := beq_eq_false_iff_ne.2 h0
    by_cases h1 : q = 0
    · obtain rfl := HY.out (.inr ⟨h0, h1⟩)
      have g1 : (q == 0) = true := by simpa using h1
      clear HN HY h0 h1
      go_enter Tryz.func83, Tryz.ntmps83
      go_wp2
      go_ret
      exact ⟨rfl, rfl⟩
    · obtain rfl := HN.out fun h => h.elim (fun h2 => h0 h2.1) fun h2 => h1 h2.2
      have g1 : (q == 0) = false := beq_eq_false_iff_ne.2 h1
      clear HN HY h0 h1
      go_enter Tryz.func83, Tryz.ntmps83
      go_wp2
      go_ret
      exact ⟨rfl, rfl⟩
theorem bool_ex (p : Prop) : ∃ R : Bool, R = true ↔ p := by
  by_cases h : p
  · exact ⟨true, fun _ => h, fun _ => rfl⟩
  · exact ⟨false, (fun e => by cases e), fun e => absurd e h⟩
set_option maxHeartbeats 1000000 in
theorem gameOk_impl (n : Int) (home away hg ag st : Int) (R : Bool) (w : World) (hR : R = true ↔ gameP n ⟨home, away, hg, ag, st⟩) :
    Calls Tryz.prog 66 #[.int .i64 n, .agg #[.int .i64 home, .int .i64 away, .int .i64 hg, .int .i64 ag, .int .i64 st]] w fun e w' => e = .returned (.bool R) ∧ Below w.heap.size w w' := by
  obtain ⟨ro, hro⟩ := bool_ex (0 ≤ home ∧ home < n ∧ 0 ≤ away ∧ away < n ∧ home ≠ away)
  obtain ⟨re, hre⟩ := bool_ex (0 ≤ st ∧ st ≤ 4)
  obtain ⟨rh, hrh⟩ := bool_ex ((st = 1 ∧ 0 ≤ hg ∧ hg ≤ 99) ∨ (st ≠ 1 ∧ hg = 0))
  obtain ⟨ra, hra⟩ := bool_ex ((st = 1 ∧ 0 ≤ ag ∧ ag ≤ 99) ∨ (st ≠ 1 ∧ ag = 0))
  have hall : R = true ↔ (2 ≤ n ∧ n ≤ 8 ∧ ro = true ∧ re = true ∧ rh = true ∧ ra = true) := by
    rw [hR, hro, hre, hrh, hra]
    unfold gameP
    constructor
    · rintro ⟨⟨a1, a2⟩, ⟨b1, b2⟩, ⟨c1, c2⟩, d, ⟨e1, e2⟩, f⟩
      rcases f with ⟨f1, f2, f3⟩ | ⟨f1, f2, f3⟩
      · exact ⟨a1, a2, ⟨b1, by simp only at *; omega, c1, by simp only at *; omega, d⟩, ⟨e1, e2⟩, .inl ⟨f1, f2⟩, .inl ⟨f1, f3⟩⟩
      · exact ⟨a1, a2, ⟨b1, by simp only at *; omega, c1, by simp only at *; omega, d⟩, ⟨e1, e2⟩, .inr ⟨f1, f2⟩, .inr ⟨f1, f3⟩⟩
    · rintro ⟨a1, a2, ⟨b1, b2, c1, c2, d⟩, ⟨e1, e2⟩, f, f'⟩
      refine ⟨⟨a1, a2⟩, ⟨b1, by simp only at *; omega⟩, ⟨c1, by simp only at *; omega⟩, d, ⟨e1, e2⟩, ?_⟩
      rcases f with ⟨f1, f2⟩ | ⟨f1, f2⟩
      · rcases f' with ⟨f3, f4⟩ | ⟨f3, f4⟩
        · exact .inl ⟨f1, f2, f4⟩
        · exact absurd f1 f3
      · rcases f' with ⟨f3, f4⟩ | ⟨f3, f4⟩
        · exact absurd f3 f1
        · exact .inr ⟨f1, f2, f4⟩
  have CO := Lib.hid (fun w1 => areOpp_impl n home away ro w1 hro)
  have CE := Lib.hid (fun w1 => exists_impl st re w1 hre)
  have CH := Lib.hid (fun w1 => allows_impl st hg rh w1 hrh)
  have CA := Lib.hid (fun w1 => allows_impl st ag ra w1 hra)
  have HN := Lib.hid (bool_not hall)
  have HY := Lib.hid (bool_of hall)
  clear hR hro hre hrh hra hall
  by_cases h1 : 2 ≤ n
  case neg =>
    have g1 : decide (2 ≤ n) = false := decide_eq_false h1
    obtain rfl := HN.out fun h => h1 h.1
    clear HN HY h1
    go_enter Tryz.func66, Tryz.ntmps66
    go_wp2
    go_ret
    exact ⟨rfl, (Below.refl _ _).alloc (Nat.le_refl _) _⟩
  have g1 : decide (2 ≤ n) = true := decide_eq_true h1
  by_cases h2 : n ≤ 8
  case neg =>
    have g2 : decide (n ≤ 8) = false := decide_eq_false h2
    obtain rfl := HN.out fun h => h2 h.2.1
    clear HN HY h2
    go_enter Tryz.func66, Tryz.ntmps66
    go_wp2
    go_ret
    exact ⟨rfl, (Below.refl _ _).alloc (Nat.le_refl _) _⟩
  have g2 : decide (n ≤ 8) = true := decide_eq_true h2
  cases ro with
  | false =>
    obtain rfl := HN.out fun h => by have := h.2.2.1; cases this
    clear HN HY
    go_enter Tryz.func66, Tryz.ntmps66
    go_wp2_with fail
    refine (CO.out _).mono ?_
    rintro e w' ⟨rfl, rfl⟩
    go_wp2
    go_ret
    exact ⟨rfl, (Below.refl _ _).alloc (Nat.le_refl _) _⟩
  | true =>
  cases re with
  | false =>
    obtain rfl := HN.out fun h => by have := h.2.2.2.1; cases this
    clear HN HY
    go_enter Tryz.func66, Tryz.ntmps66
    go_wp2_with fail
    refine (CO.out _).mono ?_
    rintro e w' ⟨rfl, rfl⟩
    go_wp2_with fail
    refine (CE.out _).mono ?_
    rintro e w' ⟨rfl, rfl⟩
    go_wp2
    go_ret
    exact ⟨rfl, (Below.refl _ _).alloc (Nat.le_refl _) _⟩
  | true =>
  cases rh with
  | false =>
    obtain rfl := HN.out fun h => by have := h.2.2.2.2.1; cases this
    clear HN HY
    go_enter Tryz.func66, Tryz.ntmps66
    go_wp2_with fail
    refine (CO.out _).mono ?_
    rintro e w' ⟨rfl, rfl⟩
    go_wp2_with fail
    refine (CE.out _).mono ?_
    rintro e w' ⟨rfl, rfl⟩
    go_wp2_with fail
    refine (CH.out _).mono ?_
    rintro e w' ⟨rfl, rfl⟩
    go_wp2
    go_ret
    exact ⟨rfl, (Below.refl _ _).alloc (Nat.le_refl _) _⟩
  | true =>
  cases ra with
  | false =>
    obtain rfl := HN.out fun h => by have := h.2.2.2.2.2; cases this
    clear HN HY
    go_enter Tryz.func66, Tryz.ntmps66
    go_wp2_with fail
    refine (CO.out _).mono ?_
    rintro e w' ⟨rfl, rfl⟩
    go_wp2_with fail
    refine (CE.out _).mono ?_
    rintro e w' ⟨rfl, rfl⟩
    go_wp2_with fail
    refine (CH.out _).mono ?_
    rintro e w' ⟨rfl, rfl⟩
    go_wp2_with fail
    refine (CA.out _).mono ?_
    rintro e w' ⟨rfl, rfl⟩
    go_wp2
    go_ret
    exact ⟨rfl, (Below.refl _ _).alloc (Nat.le_refl _) _⟩
  | true =>
  obtain rfl := HY.out ⟨h1, h2, rfl, rfl, rfl, rfl⟩
  clear HN HY
  go_enter Tryz.func66, Tryz.ntmps66
  go_wp2_with fail
  refine (CO.out _).mono ?_
  rintro e w' ⟨rfl, rfl⟩
  go_wp2_with fail
  refine (CE.out _).mono ?_
  rintro e w' ⟨rfl, rfl⟩
  go_wp2_with fail
  refine (CH.out _).mono ?_
  rintro e w' ⟨rfl, rfl⟩
  go_wp2_with fail
  refine (CA.out _).mono ?_
  rintro e w' ⟨rfl, rfl⟩
  go_wp2
  go_ret
  exact ⟨rfl, (Below.refl _ _).alloc (Nat.le_refl _) _⟩
theorem counts_impl (hg ag st : Int) (d : Int × Int × Bool) (w : World) (hd : d = goalsD ⟨0, 0, hg, ag, st⟩) :
    Calls Tryz.prog 99 #[.int .i64 st, .int .i64 hg, .int .i64 ag] w fun e w' => e = .returned (.tuple #[.int .i64 d.1, .int .i64 d.2.1, .bool d.2.2]) ∧ Below w.heap.size w w' := by
  subst hd
  unfold goalsD
  simp only
  by_cases h1 : st = 1
  · subst h1
    rw [if_pos rfl]
    go_enter Tryz.func99, Tryz.ntmps99
    go_wp2
    (try (go_quiet (fail); go_wp2))
    go_ret3
    exact ⟨rfl, by first | exact Below.refl _ _ | exact below_drewN (Below.refl _ _) _⟩
  rw [if_neg h1]
  have g1 : (st == 1) = false := beq_eq_false_iff_ne.2 h1
  by_cases h2 : st = 2
  · subst h2
    rw [if_pos rfl]
    clear g1 h1
    go_enter Tryz.func99, Tryz.ntmps99
    go_wp2
    go_ret3
    exact ⟨rfl, Below.refl _ _⟩
  rw [if_neg h2]
  have g2 : (st == 2) = false := beq_eq_false_iff_ne.2 h2
  by_cases h3 : st = 3
  · subst h3
    rw [if_pos rfl]
    clear g1 h1 g2 h2
    go_enter Tryz.func99, Tryz.ntmps99
    go_wp2
    go_ret3
    exact ⟨rfl, Below.refl _ _⟩
  rw [if_neg h3]
  have g3 : (st == 3) = false := beq_eq_false_iff_ne.2 h3
  clear h1 h2 h3
  go_enter Tryz.func99, Tryz.ntmps99
  go_wp2
  go_ret3
  exact ⟨rfl, Below.refl _ _⟩
end Go.Proofs.YteciobkjfmddcaaGreatDoor
set_option linter.unusedVariables false
namespace Go.Proofs.YteciobkjfmddcaaGreatDoor
open Go.RowKit

theorem goalsOf_impl (home away hg ag st : Int) (w : World) :
    Calls Tryz.prog 85 #[.agg #[.int .i64 home, .int .i64 away, .int .i64 hg, .int .i64 ag, .int .i64 st]] w fun e w' => e = .returned (.tuple #[.int .i64 (goalsD ⟨home, away, hg, ag, st⟩).1, .int .i64 (goalsD ⟨home, away, hg, ag, st⟩).2.1, .bool (goalsD ⟨home, away, hg, ag, st⟩).2.2]) ∧ Below w.heap.size w w' := by
  have C := Lib.hid (fun w1 => counts_impl hg ag st (goalsD ⟨home, away, hg, ag, st⟩) w1 rfl)
  generalize goalsD ⟨home, away, hg, ag, st⟩ = q at *
  obtain ⟨a, b, ok⟩ := q
  simp only at C ⊢
  go_enter Tryz.func85, Tryz.ntmps85
  go_wp2_with fail
  refine (C.out _).mono ?_
  rintro e w1 ⟨rfl, b1⟩
  have b2 := below_prev b1
  go_wp2
  go_ret3
  exact ⟨rfl, b2⟩
def twoBoxes (f B1 B2 : Nat) : Value := .func (.func f) #[] #[.pointer (some ⟨B1, 0, none⟩), .pointer (some ⟨B2, 0, none⟩)]
end Go.Proofs.YteciobkjfmddcaaGreatDoor
