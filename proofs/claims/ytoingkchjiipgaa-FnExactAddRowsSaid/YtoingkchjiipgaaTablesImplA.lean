/-
  Tables: the program's functions on rows.
-/
import Derived.Test.YtoingkchjiipgaaTables2
import Derived.Test.YtoingkchjiipgaaAwait
import Derived.Test.YtoingkchjiipgaaFirst
set_option linter.unusedVariables false
namespace Go.Proofs.Ytoingkchjiipgaa
open Go.RowKit

theorem addRows_impl (a b : RowD) (w : World) :
    Calls Try.prog 19 #[.agg #[.int .i64 a.played, .int .i64 a.wins, .int .i64 a.draws, .int .i64 a.losses, .int .i64 a.scored, .int .i64 a.against, .int .i64 a.points], .agg #[.int .i64 b.played, .int .i64 b.wins, .int .i64 b.draws, .int .i64 b.losses, .int .i64 b.scored, .int .i64 b.against, .int .i64 b.points]] w fun e w' => e = .returned (addW a b).val ∧ Below w.heap.size w w' := by
  unfold addW RowD.val
  go_enter Try.func19, Try.ntmps19
  go_wp2
  refine bodyPost_ret (by simp [results, Try.results19, go_sem]) rfl ⟨rfl, ?_⟩
  repeat (first | exact Below.refl _ _ | refine Below.setCell ?_ (by simp <;> omega) _ | refine Below.alloc ?_ (by simp <;> omega) _)
theorem differenceOf_impl (a : RowD) (w : World) :
    Calls Try.prog 16 #[.agg #[.int .i64 a.played, .int .i64 a.wins, .int .i64 a.draws, .int .i64 a.losses, .int .i64 a.scored, .int .i64 a.against, .int .i64 a.points]] w fun e w' => e = .returned (.int .i64 (wrap64 (a.scored - a.against))) ∧ Below w.heap.size w w' := by
  go_enter Try.func16, Try.ntmps16
  go_wp2
  go_ret
  exact ⟨rfl, (Below.refl _ _).alloc (Nat.le_refl _) _⟩
theorem leaderOf_impl (v : Value) (n : Nat) (g : Nat → RowD) (w : World) (hv : RowRow w v n g) :
    Calls Try.prog 17 #[v] w fun e w' => e = .returned (.int .i64 (leadP g n)) ∧ Below w.heap.size w w' := by
  obtain ⟨aa, cap, rfl, hn, hc⟩ := hv.form
  have HV := Lib.hid hc
  clear hc hv
  go_enter Try.func17, Try.ntmps17
  go_wp2
  go_loopw [3, 8] (fun s i wr => ∃ k : Nat, k ≤ n ∧ i = .int .i64 k ∧ s = .int .i64 (leadP g k) ∧ Below w.heap.size w wr) (fun _ i _ => n - (intOf i).toNat)
  case atStart => exact ⟨0, Nat.zero_le _, rfl, rfl, Below.refl _ _⟩
  case round =>
    obtain ⟨k, hk, rfl, rfl, hb⟩ := hrel
    by_cases hlt : k < n
    · obtain ⟨b, off, rfl, hcap, hc⟩ := HV.out (by omega)
      have hq := (hc k hlt).belowB hb (hc k hlt).1
      have HS : Hid (leadP g (k + 1) = if leadP g k < 0 then (k : Int) else if (g (leadP g k).toNat).points < (g k).points then (k : Int) else leadP g k) := rfl
      have hl := leadP_lt g k
      have hsz := hb.size
      by_cases hneg : leadP g k < 0
      · have HE : Hid (leadP g (k + 1) = (k : Int)) := HS.out.trans (if_pos hneg)
        have g1 : decide (leadP g k < 0) = true := decide_eq_true hneg
        clear HS hl
        generalize leadP g k = t at *
        generalize g k = x at *
        obtain ⟨c0, c1, c2, c3, c4, c5, c6⟩ := row_cells hq
        have hb1 := hb.alloc hsz (.cells #[.int .i64 x.played, .int .i64 x.wins, .int .i64 x.draws, .int .i64 x.losses, .int .i64 x.scored, .int .i64 x.against, .int .i64 x.points] 39)
        clear hc HV hq hneg
        go_wp2
        go_quiet (fail)
        go_wp2
        go_roundw
        case rel => exact ⟨k + 1, by omega, by go_num, by rw [HE.out], below_drewN hb1 _⟩
        case measure => simp [intOf]; omega
      · have g1 : decide (leadP g k < 0) = false := decide_eq_false hneg
        have hE := HS.out.trans (if_neg hneg)
        obtain ⟨j, hj⟩ : ∃ j : Nat, leadP g k = j := ⟨(leadP g k).toNat, by omega⟩
        have hjk : j < k := by omega
        have hqj := (hc j (by omega)).belowB hb (hc j (by omega)).1
        rw [hj] at hE g1
        simp only [Int.toNat_natCast] at hE
        have HY : Hid ((g j).points < (g k).points → leadP g (k + 1) = (k : Int)) := fun h => hE.trans (if_pos h)
        have HN : Hid (¬ (g j).points < (g k).points → leadP g (k + 1) = (j : Int)) := fun h => hE.trans (if_neg h)
        clear HS hl hneg hE
        rw [hj]
        have hjn : j < n := by omega
        have hjn' : (j : Int) < n := by omega
        obtain ⟨_, _, _, _, _, _, d6⟩ := row_cells hqj
        obtain ⟨py, hpy⟩ : ∃ py, py = (g j).points := ⟨_, rfl⟩
        rw [← hpy] at d6 HY HN
        clear hj hqj hpy
        generalize g k = x at *
        obtain ⟨c0, c1, c2, c3, c4, c5, c6⟩ := row_cells hq
        have hb1 := hb.alloc hsz (.cells #[.int .i64 x.played, .int .i64 x.wins, .int .i64 x.draws, .int .i64 x.losses, .int .i64 x.scored, .int .i64 x.against, .int .i64 x.points] 39)
        have e6 := (cell_at_alloc d6 (.cells #[.int .i64 x.played, .int .i64 x.wins, .int .i64 x.draws, .int .i64 x.losses, .int .i64 x.scored, .int .i64 x.against, .int .i64 x.points] 39))
        clear hc HV hq
        by_cases hlt2 : py < x.points
        · have g2 : decide (py < x.points) = true := decide_eq_true hlt2
          have HE2 := Lib.hid (HY.out hlt2)
          clear HY HN hlt2
          go_wp2
          go_quiet (fail)
          go_wp2
          go_roundw
          case rel => exact ⟨k + 1, by omega, by go_num, by rw [HE2.out], below_drewN hb1 _⟩
          case measure => simp [intOf]; omega
        · have g2 : decide (py < x.points) = false := decide_eq_false hlt2
          have HE2 := Lib.hid (HN.out hlt2)
          clear HY HN hlt2
          go_wp2
          go_quiet (fail)
          go_wp2
          go_roundw
          case rel => exact ⟨k + 1, by omega, by go_num, by rw [HE2.out], below_drewN hb1 _⟩
          case measure => simp [intOf]; omega
    · obtain rfl : k = n := by omega
      go_wp2
      go_ret
      exact ⟨rfl, hb⟩
/-- seven stores, one behind the other -/
def set7 (w : World) (B o : Nat) (y : RowD) : World := ((((((w.setCell ⟨B, o, none⟩ (Value.int .i64 y.played)).setCell ⟨B, o + 1, none⟩ (Value.int .i64 y.wins)).setCell ⟨B, o + 2, none⟩ (Value.int .i64 y.draws)).setCell ⟨B, o + 3, none⟩ (Value.int .i64 y.losses)).setCell ⟨B, o + 4, none⟩ (Value.int .i64 y.scored)).setCell ⟨B, o + 5, none⟩ (Value.int .i64 y.against)).setCell ⟨B, o + 6, none⟩ (Value.int .i64 y.points)
theorem BoxF.set7 {w : World} {B : Nat} {x y : RowD} (h : BoxF w B x.cells) : BoxF (set7 w B 0 y) B y.cells := BoxF.row7 h
theorem below_set7 {a w : World} {B0 B : Nat} {o : Nat} {y : RowD} (h : Below B0 a w) (hB : B0 ≤ B) : Below B0 a (set7 w B o y) :=
  Below.setCell (Below.setCell (Below.setCell (Below.setCell (Below.setCell (Below.setCell (Below.setCell h (p := ⟨B, o, none⟩) hB (Value.int .i64 y.played)) (p := ⟨B, o + 1, none⟩) hB (Value.int .i64 y.wins)) (p := ⟨B, o + 2, none⟩) hB (Value.int .i64 y.draws)) (p := ⟨B, o + 3, none⟩) hB (Value.int .i64 y.losses)) (p := ⟨B, o + 4, none⟩) hB (Value.int .i64 y.scored)) (p := ⟨B, o + 5, none⟩) hB (Value.int .i64 y.against)) (p := ⟨B, o + 6, none⟩) hB (Value.int .i64 y.points)
theorem BoxF.other7 {w : World} {B D : Nat} {cs : List Value} (h : BoxF w B cs) (o : Nat) (y : RowD) (hD : B ≠ D) : BoxF (Go.Proofs.Ytoingkchjiipgaa.set7 w D o y) B cs :=
  ((((((h.other o _ hD).other (o + 1) _ hD).other (o + 2) _ hD).other (o + 3) _ hD).other (o + 4) _ hD).other (o + 5) _ hD).other (o + 6) _ hD
theorem BoxF.at0 {w : World} {B : Nat} {x : RowD} (h : BoxF w B x.cells) : CellsAt w B 0 x.cells := ⟨h.1, fun j u hu => by rw [Nat.zero_add]; exact (h.2 j u hu).1⟩
theorem BoxF.free0 {w : World} {B : Nat} {x : RowD} (h : BoxF w B x.cells) : ∀ j, j < 7 → w.frozen? ⟨B, 0 + j, none⟩ = false := fun j hj => by
  rw [Nat.zero_add]
  obtain ⟨v, hv⟩ : ∃ v, x.cells[j]? = some v := ⟨_, List.getElem?_eq_getElem (by simpa [RowD.cells] using hj)⟩
  exact (h.2 j v hv).2

set_option maxRecDepth 100000 in
set_option maxHeartbeats 1000000 in
theorem sumsAdd_impl (s x : RowD) (B off : Nat) (w : World) (hc : CellsAt w B off s.cells) (hf : ∀ j, j < 7 → w.frozen? ⟨B, off + j, none⟩ = false) :
    Calls Try.prog 74 #[.pointer (some ⟨B, off, none⟩), .agg #[.int .i64 x.played, .int .i64 x.wins, .int .i64 x.draws, .int .i64 x.losses, .int .i64 x.scored, .int .i64 x.against, .int .i64 x.points]] w fun e w' => e = .returned (.tuple #[]) ∧ ∃ w1, Below w.heap.size w w1 ∧ w' = set7 w1 B off (addW s x) := by
  have hBs := hc.1
  have HF := Lib.hid hf
  have hb0 : Below w.heap.size w (w.alloc (.cells #[.int .i64 x.played, .int .i64 x.wins, .int .i64 x.draws, .int .i64 x.losses, .int .i64 x.scored, .int .i64 x.against, .int .i64 x.points] 39)) := (Below.refl _ _).alloc (Nat.le_refl _) _
  obtain ⟨W1, hW1⟩ : ∃ W1, W1 = w.alloc (.cells #[.int .i64 x.played, .int .i64 x.wins, .int .i64 x.draws, .int .i64 x.losses, .int .i64 x.scored, .int .i64 x.against, .int .i64 x.points] 39) := ⟨_, rfl⟩
  have HB : Hid (Below w.heap.size w W1.drew) := by subst hW1; exact hb0.drew
  obtain ⟨F, HFd⟩ : ∃ F : World → Prop, F = fun w' => CellsAt w' B off s.cells ∧ CellsAt w' w.heap.size 0 x.cells := ⟨_, rfl⟩
  have FE : Hid (∀ wa, F wa → CellsAt wa B off s.cells ∧ CellsAt wa w.heap.size 0 x.cells) := by subst HFd; exact fun _ h => h
  have FI : Hid (∀ wa, CellsAt wa B off s.cells → CellsAt wa w.heap.size 0 x.cells → F wa) := by subst HFd; exact fun _ h1 h2 => ⟨h1, h2⟩
  have F0 : Hid (F W1.drew) := FI.out _ (by subst hW1; exact hc.below hb0.drew) (by
    subst hW1
    have hbx : BoxF (w.alloc (.cells #[.int .i64 x.played, .int .i64 x.wins, .int .i64 x.draws, .int .i64 x.losses, .int .i64 x.scored, .int .i64 x.against, .int .i64 x.points] 39)) w.heap.size x.cells := BoxF.made (Below.refl _ _) rfl
    exact hbx.at0.below (Below.refl _ _).drew)
  clear HFd hc hf hb0
  go_enter Try.func74, Try.ntmps74
  go_wp2_with fail
  rw [← hW1]
  refine Await.begin (S := Until 9 F) (by kernel_rfl) ?_ (fun hS => ?_)
  · exact Until.of F0.out
  clear F0 hW1
  refine Await.pure (i := 0) (v := ?_) rfl (by kernel_rfl) (by kernel_rfl) (by kernel_rfl) (by kernel_rfl) (fun _ _ _ h => h) (Or.inl ⟨by rfl, ?_⟩) (by assumption) ?_
  rotate_left
  · (intro wa _; go_simp; try with_reducible rfl)
  simp only [Act.put, List.getElem_toArray, List.getElem_cons_zero, List.setIfInBounds_toArray, List.set_cons_zero, List.set_cons_succ]
  refine Await.pure (i := 1) (v := ?_) rfl (by kernel_rfl) (by kernel_rfl) (by kernel_rfl) (by kernel_rfl) (fun _ _ _ h => h) (Or.inl ⟨by rfl, ?_⟩) (by assumption) ?_
  rotate_left
  · (intro wa _; go_simp; try with_reducible rfl)
  simp only [Act.put, List.getElem_toArray, List.getElem_cons_zero, List.getElem_cons_succ, List.setIfInBounds_toArray, List.set_cons_zero, List.set_cons_succ]
  refine Await.pure (i := 2) (v := ?_) rfl (by kernel_rfl) (by kernel_rfl) (by kernel_rfl) (by kernel_rfl) (fun _ _ _ h => h) (Or.inl ⟨by rfl, ?_⟩) (by assumption) ?_
  rotate_left
  · (intro wa _; go_simp; try with_reducible rfl)
  simp only [Act.put, List.getElem_toArray, List.getElem_cons_zero, List.getElem_cons_succ, List.setIfInBounds_toArray, List.set_cons_zero, List.set_cons_succ]
  refine Await.pure (i := 3) (v := ?_) rfl (by kernel_rfl) (by kernel_rfl) (by kernel_rfl) (by kernel_rfl) (fun _ _ _ h => h) (Or.inl ⟨by rfl, ?_⟩) (by assumption) ?_
  rotate_left
  · (intro wa _; go_simp; try with_reducible rfl)
  simp only [Act.put, List.getElem_toArray, List.getElem_cons_zero, List.getElem_cons_succ, List.setIfInBounds_toArray, List.set_cons_zero, List.set_cons_succ]
  refine Await.takes (i := 4) [6] (v := ?_) rfl (by kernel_rfl) (by kernel_rfl) (by kernel_rfl) (by kernel_rfl) (fun _ _ _ h => h) (Or.inl ⟨by rfl, ?_⟩) (by assumption) ?_
  rotate_left
  · (intro wa hSw; obtain ⟨fs, fx⟩ := FE.out wa hSw; obtain ⟨a0, a1, a2, a3, a4, a5, a6⟩ := row_cells fs; obtain ⟨b0, b1, b2, b3, b4, b5, b6⟩ := row_cells fx; go_simp; try with_reducible rfl)
  simp only [Act.put, List.getElem_toArray, List.getElem_cons_zero, List.getElem_cons_succ, List.setIfInBounds_toArray, List.set_cons_zero, List.set_cons_succ]
  refine Await.takes (i := 5) [6] (v := ?_) rfl (by kernel_rfl) (by kernel_rfl) (by kernel_rfl) (by kernel_rfl) (fun _ _ _ h => h) (Or.inl ⟨by rfl, ?_⟩) (by assumption) ?_
  rotate_left
  · (intro wa hSw; obtain ⟨fs, fx⟩ := FE.out wa hSw; obtain ⟨a0, a1, a2, a3, a4, a5, a6⟩ := row_cells fs; obtain ⟨b0, b1, b2, b3, b4, b5, b6⟩ := row_cells fx; go_simp; try with_reducible rfl)
  simp only [Act.put, List.getElem_toArray, List.getElem_cons_zero, List.getElem_cons_succ, List.setIfInBounds_toArray, List.set_cons_zero, List.set_cons_succ]
  refine Await.step (i := 6) (o := _) (by kernel_rfl) rfl (fun K1 hK1' => ?_)
  go_simp
  refine (addRows_impl s x _).mono ?_
  rintro e w9 ⟨rfl, b9⟩
  generalize hz : addW s x = z
  have HZ := Lib.hid hz
  clear hz
  unfold RowD.val
  (try go_wp2_with fail)
  refine hK1'.out _ _ ?_ (fun hS => ?_)
  · exact Until.of (FI.out _ ((FE.out _ (hS (by kernel_rfl))).1.below b9) ((FE.out _ (hS (by kernel_rfl))).2.below b9))
  clear hK1' K1
  refine Await.pure (i := 7) (v := ?_) rfl (by kernel_rfl) (by kernel_rfl) (by kernel_rfl) (by kernel_rfl) (fun _ _ _ h => h) (Or.inl ⟨by rfl, ?_⟩) (by assumption) ?_
  rotate_left
  · (intro wa _; go_simp; try with_reducible rfl)
  simp only [Act.put, List.getElem_toArray, List.getElem_cons_zero, List.getElem_cons_succ, List.setIfInBounds_toArray, List.set_cons_zero, List.set_cons_succ]
  refine Await.pure (i := 8) (v := ?_) rfl (by kernel_rfl) (by kernel_rfl) (by kernel_rfl) (by kernel_rfl) (fun _ _ _ h => h) (Or.inl ⟨by rfl, ?_⟩) (by assumption) ?_
  rotate_left
  · (intro wa _; go_simp; try with_reducible rfl)
  simp only [Act.put, List.getElem_toArray, List.getElem_cons_zero, List.getElem_cons_succ, List.setIfInBounds_toArray, List.set_cons_zero, List.set_cons_succ]
  have hcs9 := (FE.out _ (hS (by kernel_rfl))).1
  have hb9 := Lib.hid (HB.out.trans (b9.mono HB.out.size))
  have hfr : ∀ j, j < 7 → w9.frozen? ⟨B, off + j, none⟩ = false := fun j hj => (hb9.out.frozen (p := ⟨B, off + j, none⟩) hBs).trans (HF.out j hj)
  obtain ⟨d0, d1, d2, d3, d4, d5, d6⟩ := row_cells hcs9
  have e0 := hfr 0 (by omega)
  have e1 := hfr 1 (by omega)
  have e2 := hfr 2 (by omega)
  have e3 := hfr 3 (by omega)
  have e4 := hfr 4 (by omega)
  have e5 := hfr 5 (by omega)
  have e6 := hfr 6 (by omega)
  rw [Nat.add_zero] at e0
  clear hcs9 hfr b9
  refine Await.step (i := 9) (o := _) (by kernel_rfl) rfl (fun K1 hK1' => ?_)
  go_simp
  refine hK1'.out _ _ ?_ (fun hS => ?_)
  · exact Until.over (by kernel_rfl)
  clear hK1' K1
  refine Await.done (by kernel_rfl) ?_ _
  go_wp2
  go_end0
  refine ⟨rfl, w9, hb9.out, ?_⟩
  rw [← HZ.out] at *
  rfl
set_option maxHeartbeats 1000000 in
theorem sumOf_impl (v : Value) (n : Nat) (g : Nat → RowD) (w : World) (hv : RowRow w v n g) :
    Calls Try.prog 52 #[v] w fun e w' => e = .returned (sumR g n).val ∧ Below w.heap.size w w' := by
  obtain ⟨aa, cap, rfl, hn, hc⟩ := hv.form
  have HV := Lib.hid hc
  clear hc hv
  have b1 : Below w.heap.size w (w.alloc (.cells #[.int .i64 0, .int .i64 0, .int .i64 0, .int .i64 0, .int .i64 0, .int .i64 0, .int .i64 0] 78)) := (Below.refl _ _).alloc (Nat.le_refl _) _
  have b2 : Below w.heap.size w ((w.alloc (.cells #[.int .i64 0, .int .i64 0, .int .i64 0, .int .i64 0, .int .i64 0, .int .i64 0, .int .i64 0] 78)).alloc (.cells #[.int .i64 0, .int .i64 0, .int .i64 0, .int .i64 0, .int .i64 0, .int .i64 0, .int .i64 0] 78)) := b1.alloc (by simp) _
  have s0 : Hid (BoxF ((w.alloc (.cells #[.int .i64 0, .int .i64 0, .int .i64 0, .int .i64 0, .int .i64 0, .int .i64 0, .int .i64 0] 78)).alloc (.cells #[.int .i64 0, .int .i64 0, .int .i64 0, .int .i64 0, .int .i64 0, .int .i64 0, .int .i64 0] 78)) w.heap.size zeroR.cells) := BoxF.below (BoxF.made (Below.refl _ _) rfl) ((Below.refl _ _).alloc (Nat.le_refl _) _)
  have s1 : Hid (BoxF ((w.alloc (.cells #[.int .i64 0, .int .i64 0, .int .i64 0, .int .i64 0, .int .i64 0, .int .i64 0, .int .i64 0] 78)).alloc (.cells #[.int .i64 0, .int .i64 0, .int .i64 0, .int .i64 0, .int .i64 0, .int .i64 0, .int .i64 0] 78)) (w.heap.size + 1) (sumR g 0).cells) := BoxF.made (Below.refl _ _) (by simp)
  have HB2 := Lib.hid b2
  clear b1 b2
  go_enter Try.func52, Try.ntmps52
  go_wp2
  go_loopw [8] (fun i wr => ∃ k : Nat, k ≤ n ∧ i = .int .i64 k ∧ Hid (BoxF wr w.heap.size zeroR.cells) ∧ Hid (BoxF wr (w.heap.size + 1) (sumR g k).cells) ∧ Hid (Below w.heap.size w wr)) (fun i _ => n - (intOf i).toNat)
  case atStart => exact ⟨0, Nat.zero_le _, rfl, s0, s1, HB2⟩
  case round =>
    clear s0 s1 HB2
    obtain ⟨k, hk, rfl, h0, h1, HB⟩ := hrel
    by_cases hlt : k < n
    · obtain ⟨b, off, rfl, hcap, hc⟩ := HV.out (by omega)
      have hq := (hc k hlt).belowB HB.out (hc k hlt).1
      have HS : Hid (sumR g (k + 1) = addW (sumR g k) (g k)) := rfl
      generalize g k = x at *
      generalize sumR g k = s at *
      obtain ⟨c0, c1, c2, c3, c4, c5, c6⟩ := row_cells hq
      have hsz := HB.out.size
      have hal := (Below.refl wr.heap.size wr).alloc (Nat.le_refl _) (.cells #[.int .i64 x.played, .int .i64 x.wins, .int .i64 x.draws, .int .i64 x.losses, .int .i64 x.scored, .int .i64 x.against, .int .i64 x.points] 39)
      have h01 := Lib.hid (h0.out.below hal)
      have h11 := Lib.hid (h1.out.below hal)
      have HB1 := Lib.hid (HB.out.trans (hal.mono hsz))
      have C := Lib.hid (sumsAdd_impl s x (w.heap.size + 1) 0 _ h11.out.at0 h11.out.free0)
      generalize hz : addW s x = z at *
      clear hz
      clear hc HV hq h0 h1 HB hal
      go_wp2_with fail
      refine C.out.mono ?_
      rintro e w3 ⟨rfl, w2, hb2, rfl⟩
      have h02 := Lib.hid ((h01.out.below hb2).other7 (D := w.heap.size + 1) 0 z (by omega))
      have h12 := Lib.hid ((h11.out.below hb2).set7 (y := z))
      have HB3 := Lib.hid (below_set7 (B := w.heap.size + 1) (o := 0) (y := z) (HB1.out.trans (hb2.mono HB1.out.size)) (by omega))
      clear h01 h11 HB1 hb2 C
      generalize Go.Proofs.Ytoingkchjiipgaa.set7 w2 (w.heap.size + 1) 0 z = w3 at *
      go_wp2
      go_roundw
      case rel => exact ⟨k + 1, by omega, by go_num, h02, Lib.hid (by rw [HS.out]; exact h12.out), HB3⟩
      case measure => simp [intOf]; omega
    · obtain rfl : k = n := by omega
      generalize hs : sumR g k = s at *
      have Hs := Lib.hid hs
      clear hs
      have l1 := h1.out.1
      have l0 := h0.out.1
      obtain ⟨⟨d0, _⟩, ⟨d1, _⟩, ⟨d2, _⟩, ⟨d3, _⟩, ⟨d4, _⟩, ⟨d5, _⟩, ⟨d6, _⟩⟩ := boxF_row h1.out
      obtain ⟨⟨r0, f0⟩, ⟨r1, f1⟩, ⟨r2, f2⟩, ⟨r3, f3⟩, ⟨r4, f4⟩, ⟨r5, f5⟩, ⟨r6, f6⟩⟩ := boxF_row h0.out
      have HX := Lib.hid (BoxF.row7 (y := s) h0.out)
      have HB3 := Lib.hid (below_row7 (y := s) HB.out (Nat.le_refl _))
      clear h0 h1 HB HV
      go_wp2
      generalize ((((((wr.setCell ⟨w.heap.size, 0, none⟩ (Value.int .i64 s.played)).setCell ⟨w.heap.size, 1, none⟩ (Value.int .i64 s.wins)).setCell ⟨w.heap.size, 2, none⟩ (Value.int .i64 s.draws)).setCell ⟨w.heap.size, 3, none⟩ (Value.int .i64 s.losses)).setCell ⟨w.heap.size, 4, none⟩ (Value.int .i64 s.scored)).setCell ⟨w.heap.size, 5, none⟩ (Value.int .i64 s.against)).setCell ⟨w.heap.size, 6, none⟩ (Value.int .i64 s.points) = w3 at *
      obtain ⟨⟨q0, _⟩, ⟨q1, _⟩, ⟨q2, _⟩, ⟨q3, _⟩, ⟨q4, _⟩, ⟨q5, _⟩, ⟨q6, _⟩⟩ := boxF_row HX.out
      refine bodyPost_ret (v := s.val) (by unfold RowD.val; simp [results, Try.results52, go_sem, q0, q1, q2, q3, q4, q5, q6]) rfl ⟨by rw [Hs.out], HB3.out⟩

theorem field_sums (s : RowD) (w : World) : Sem.run Try.prog (Instr.field 78 (.agg #[.int .i64 s.played, .int .i64 s.wins, .int .i64 s.draws, .int .i64 s.losses, .int .i64 s.scored, .int .i64 s.against, .int .i64 s.points]) 0) w = .ok (.agg #[.int .i64 s.played, .int .i64 s.wins, .int .i64 s.draws, .int .i64 s.losses, .int .i64 s.scored, .int .i64 s.against, .int .i64 s.points]) w := by kernel_rfl
theorem field_row (s : RowD) (w : World) : Sem.run Try.prog (Instr.field 39 (.agg #[.int .i64 s.played, .int .i64 s.wins, .int .i64 s.draws, .int .i64 s.losses, .int .i64 s.scored, .int .i64 s.against, .int .i64 s.points]) 0) w = .ok (.int .i64 s.played) w := by kernel_rfl
theorem sumR_played (g : Nat → RowD) : ∀ k, (sumR g k).played = playedN g k
  | 0 => rfl
  | k + 1 => by
    show wrap64 ((sumR g k).played + (g k).played) = wrap64 (playedN g k + (g k).played)
    rw [sumR_played g k]
set_option maxRecDepth 100000 in
theorem totalPlayed_impl (v : Value) (n : Nat) (g : Nat → RowD) (w : World) (hv : RowRow w v n g) :
    Calls Try.prog 18 #[v] w fun e w' => e = .returned (.int .i64 (wrap64 ((playedN g n).tdiv 2))) ∧ Below w.heap.size w w' := by
  have C := Lib.hid (sumOf_impl v n g w hv)
  rw [← sumR_played]
  generalize sumR g n = s at *
  clear hv
  go_enter Try.func18, Try.ntmps18
  go_wp2_with fail
  refine C.out.mono ?_
  rintro e w1 ⟨rfl, b1⟩
  unfold RowD.val
  have FF := fun w' => field_sums s w'
  have F2 := fun w' => field_row s w'
  go_wp2
  go_ret
  exact ⟨rfl, b1⟩

def agreeP (s : RowD) : Prop := s.wins = s.losses ∧ s.draws.tmod 2 = 0 ∧ s.scored = s.against
theorem sidesAgree_impl (s : RowD) (R : Bool) (w : World) (hR : R = true ↔ agreeP s) :
    Calls Try.prog 53 #[.agg #[.int .i64 s.played, .int .i64 s.wins, .int .i64 s.draws, .int .i64 s.losses, .int .i64 s.scored, .int .i64 s.against, .int .i64 s.points]] w fun e w' => e = .returned (.bool R) ∧ Below w.heap.size w w' := by
  unfold agreeP at hR
  have HN := Lib.hid (boolF hR)
  have HY := Lib.hid (boolT hR)
  clear hR
  have HB : Hid (Below w.heap.size w (w.alloc (.cells #[.int .i64 s.played, .int .i64 s.wins, .int .i64 s.draws, .int .i64 s.losses, .int .i64 s.scored, .int .i64 s.against, .int .i64 s.points] 78))) := (Below.refl _ _).alloc (Nat.le_refl _) _
  by_cases h1 : s.wins = s.losses
  case neg =>
    obtain rfl := HN.out fun h => h1 h.1
    have g1 : (s.wins == s.losses) = false := beq_eq_false_iff_ne.2 h1
    clear HN HY h1
    go_enter Try.func53, Try.ntmps53
    go_wp2
    go_ret
    exact ⟨rfl, HB.out⟩
  have g1 : (s.wins == s.losses) = true := beq_iff_eq.2 h1
  by_cases h2 : s.draws.tmod 2 = 0
  case neg =>
    obtain rfl := HN.out fun h => h2 h.2.1
    have g2 : (s.draws.tmod 2 == 0) = false := beq_eq_false_iff_ne.2 h2
    clear HN HY h2 h1
    go_enter Try.func53, Try.ntmps53
    go_wp2
    go_ret
    exact ⟨rfl, HB.out⟩
  have g2 : (s.draws.tmod 2 == 0) = true := beq_iff_eq.2 h2
  by_cases h3 : s.scored = s.against
  case neg =>
    obtain rfl := HN.out fun h => h3 h.2.2
    have g3 : (s.scored == s.against) = false := beq_eq_false_iff_ne.2 h3
    clear HN HY h2 h1 h3
    go_enter Try.func53, Try.ntmps53
    go_wp2
    go_ret
    exact ⟨rfl, HB.out⟩
  have g3 : (s.scored == s.against) = true := beq_iff_eq.2 h3
  obtain rfl := HY.out ⟨h1, h2, h3⟩
  clear HN HY h2 h1 h3
  go_enter Try.func53, Try.ntmps53
  go_wp2
  go_ret
  exact ⟨rfl, HB.out⟩

/-- the row is off -/
def offB (x : RowD) : Bool := wrap64 (wrap64 (x.wins + x.draws) + x.losses) != x.played
theorem offB_iff (x : RowD) : offB x = true ↔ ¬ balR x := by unfold offB balR; simp
theorem offCl_impl (x : RowD) (w : World) :
    Calls Try.prog 55 #[.agg #[.int .i64 x.played, .int .i64 x.wins, .int .i64 x.draws, .int .i64 x.losses, .int .i64 x.scored, .int .i64 x.against, .int .i64 x.points]] w fun e w' => e = .returned (.bool (offB x)) ∧ Below w.heap.size w w' := by
  unfold offB
  go_enter Try.func55, Try.ntmps55
  go_wp2
  go_ret
  exact ⟨rfl, (Below.refl _ _).alloc (Nat.le_refl _) _⟩

theorem indexOff_impl (v : Value) (n : Nat) (g : Nat → RowD) (w : World) (hv : RowRow w v n g) :
    Calls Try.prog 75 #[v, .func (.func 55) #[] #[]] w fun e w' => e = .returned (.int .i64 (firstI (fun i => offB (g i)) n 0)) ∧ Below w.heap.size w w' := by
  obtain ⟨aa, cap, rfl, hn, hc⟩ := hv.form
  have HV := Lib.hid hc
  clear hc hv
  generalize hr : firstI (fun i => offB (g i)) n 0 = R
  have HR := Lib.hid hr
  clear hr
  go_enter Try.func75, Try.ntmps75
  go_wp2
  go_loopw [8] (fun i wr => ∃ k : Nat, k ≤ n ∧ i = .int .i64 k ∧ Hid (firstI (fun i => offB (g i)) (n - k) k = R) ∧ Below w.heap.size w wr) (fun i _ => n - (intOf i).toNat)
  case atStart => exact ⟨0, Nat.zero_le _, rfl, HR.out, Below.refl _ _⟩
  case round =>
    obtain ⟨k, hk, rfl, hp, hb⟩ := hrel
    by_cases hlt : k < n
    · obtain ⟨b, off, rfl, hcap, hc⟩ := HV.out (by omega)
      have hstep := firstI_step (p := fun i => offB (g i)) hlt
      rw [hp.out] at hstep
      have HY := Lib.hid (fun (e : offB (g k) = true) => hstep.trans (if_pos e))
      have HN := Lib.hid (fun (e : offB (g k) = false) => hstep.trans (if_neg (by rw [e]; simp)))
      have hq := (hc k hlt).belowB hb (hc k hlt).1
      clear hstep
      generalize hx : g k = x at *
      obtain ⟨c0, c1, c2, c3, c4, c5, c6⟩ := row_cells hq
      have hsz := hb.size
      have C2 := Lib.hid (offCl_impl x wr)
      clear hc HV hp HR hq hx
      generalize offB x = r at *
      cases r with
      | true =>
        obtain rfl := HY.out rfl
        clear HY HN
        go_wp2_with (go_at_call 55; refine C2.out.mono ?_; rintro e w2 ⟨rfl, b2⟩)
        go_ret
        exact ⟨rfl, hb.trans (b2.mono hsz)⟩
      | false =>
        have HS := Lib.hid (HN.out rfl).symm
        clear HY HN
        go_wp2_with (go_at_call 55; refine C2.out.mono ?_; rintro e w2 ⟨rfl, b2⟩)
        go_roundw
        case rel => exact ⟨k + 1, by omega, by go_num, HS.out, hb.trans (b2.mono hsz)⟩
        case measure => simp [intOf]; omega
    · obtain rfl : k = n := by omega
      have hR : R = -1 := by rw [← hp.out, Nat.sub_self]; rfl
      subst hR
      clear hp HR
      go_wp2
      go_ret
      exact ⟨rfl, hb⟩
theorem anyOff_impl (v : Value) (n : Nat) (g : Nat → RowD) (R : Bool) (w : World) (hR : R = true ↔ ∃ j, j < n ∧ offB (g j) = true) (hv : RowRow w v n g) :
    Calls Try.prog 54 #[v, .func (.func 55) #[] #[]] w fun e w' => e = .returned (.bool R) ∧ Below w.heap.size w w' := by
  have H := Lib.hid (indexOff_impl v n g w hv)
  have hp : R = decide (0 ≤ firstI (fun i => offB (g i)) n 0) := by
    rw [Bool.eq_iff_iff, hR, decide_eq_true_eq, firstI_pos]
    exact ⟨fun ⟨j, h1, h2⟩ => ⟨j, by omega, by omega, h2⟩, fun ⟨j, _, h1, h2⟩ => ⟨j, by omega, h2⟩⟩
  generalize firstI (fun i => offB (g i)) n 0 = q at *
  subst hp
  clear hv hR
  go_enter Try.func54, Try.ntmps54
  go_wp2_with (go_at_call 75; refine H.out.mono ?_; rintro e w' ⟨rfl, b1⟩)
  go_ret
  exact ⟨rfl, b1⟩

theorem isBalanced_impl (v : Value) (n : Nat) (g : Nat → RowD) (R : Bool) (w : World) (hR : R = true ↔ balP n g) (hv : RowRow w v n g) :
    Calls Try.prog 14 #[v] w fun e w' => e = .returned (.bool R) ∧ Below w.heap.size w w' := by
  have C1 := Lib.hid (sumOf_impl v n g w hv)
  have hform : ∃ a c, v = .slice a n c := by obtain ⟨a, c, h, _⟩ := hv.form; exact ⟨a, c, h⟩
  obtain ⟨aa, cc, rfl⟩ := hform
  have HV := Lib.hid hv
  unfold balP at hR
  obtain ⟨r1, hr1⟩ : ∃ r : Bool, r = true ↔ agreeP (sumR g n) := by
    by_cases h : agreeP (sumR g n)
    · exact ⟨true, fun _ => h, fun _ => rfl⟩
    · exact ⟨false, (fun e => by cases e), fun e => absurd e h⟩
  have C2 := Lib.hid (fun w1 => sidesAgree_impl (sumR g n) r1 w1 hr1)
  unfold agreeP at hr1
  rw [← hr1] at hR
  generalize sumR g n = s at *
  cases r1 with
  | false =>
    obtain rfl : R = false := boolF hR fun h => by cases h.2
    clear hR hr1 hv HV
    go_enter Try.func14, Try.ntmps14
    go_wp2_with fail
    refine C1.out.mono ?_
    rintro e w1 ⟨rfl, b1⟩
    have HB1 := Lib.hid b1
    unfold RowD.val
    clear b1
    go_wp2_with fail
    refine (C2.out _).mono ?_
    rintro e w2 ⟨rfl, b2⟩
    have HB2 := Lib.hid (HB1.out.trans (b2.mono HB1.out.size))
    clear b2
    go_wp2
    go_ret
    exact ⟨rfl, HB2.out⟩
  | true =>
    have C3 := Lib.hid (fun w1 h1 => anyOff_impl (.slice aa n cc) n g (!R) w1 (by
      constructor
      · intro h
        have hb : R = false := by simpa using h
        by_cases hex : ∃ j, j < n ∧ offB (g j) = true
        · exact hex
        · exfalso
          have : R = true := hR.2 ⟨fun i hi => by
            by_cases hb2 : balR (g i)
            · exact hb2
            · exact absurd ⟨i, hi, (offB_iff _).2 hb2⟩ hex, rfl⟩
          rw [hb] at this; cases this
      · rintro ⟨j, hj, hoff⟩
        have : R = false := boolF hR fun h => (offB_iff _).1 hoff (h.1 j hj)
        rw [this]; rfl) h1)
    clear hR hr1 hv
    go_enter Try.func14, Try.ntmps14
    go_wp2_with fail
    refine C1.out.mono ?_
    rintro e w1 ⟨rfl, b1⟩
    have HB1 := Lib.hid b1
    unfold RowD.val
    clear b1
    go_wp2_with fail
    refine (C2.out _).mono ?_
    rintro e w2 ⟨rfl, b2⟩
    have HB2 := Lib.hid (HB1.out.trans (b2.mono HB1.out.size))
    have HV2 := Lib.hid (HV.out.below HB2.out (Nat.le_refl _))
    clear b2
    go_wp2_with fail
    refine (C3.out _ HV2.out).mono ?_
    rintro e w3 ⟨rfl, b3⟩
    have HB3 := Lib.hid (HB2.out.trans (b3.mono HB2.out.size))
    clear b3
    go_wp2
    go_ret
    exact ⟨by simp, HB3.out⟩
end Go.Proofs.Ytoingkchjiipgaa
