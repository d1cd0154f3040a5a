/-
  Records: the model's l05Note, NoteOk.
-/
import Derived.Test.YtlahjaakegdigaaRecords
set_option linter.unusedVariables false
namespace Go.Proofs.Ytlahjaakegdigaa
open Go.RowKit

/-- the note fits the games of n teams -/
def noteP (n : Int) (m : Nat) (g : Nat → GameD) (x : NoteD) : Prop :=
  (1 ≤ x.serial ∧ x.serial ≤ 100000) ∧ (0 ≤ x.game ∧ x.game ≤ (m : Int) - 1) ∧ gameP n x.res ∧ x.res.st ≠ 0 ∧ x.res.home = (g x.game.toNat).home ∧ x.res.away = (g x.game.toNat).away
theorem l05Note_spec (n : Int) (v : Value) (m : Nat) (g : Nat → GameD) (serial game home away hg ag st : Int) (R : Bool) (w : World) (hR : R = true ↔ noteP n m g ⟨serial, game, ⟨home, away, hg, ag, st⟩⟩) (hv : GameRow w v m g) :
    Calls Try.prog 39 #[.int .i64 n, v, .agg #[.int .i64 serial, .int .i64 game, .int .i64 home, .int .i64 away, .int .i64 hg, .int .i64 ag, .int .i64 st]] w fun e w' => e = .returned (.bool R) ∧ Below w.heap.size w w' := by
  obtain ⟨aa, cap, rfl, hn, hc⟩ := hv.form
  have HV := Lib.hid hc
  clear hc hv
  have HN : Hid (¬ noteP n m g ⟨serial, game, ⟨home, away, hg, ag, st⟩⟩ → R = false) := fun h => by
    cases R with
    | false => rfl
    | true => exact absurd (hR.1 rfl) h
  have HY := Lib.hid hR.2
  clear hR
  by_cases h1 : 1 ≤ serial ∧ serial ≤ 100000
  rotate_left
  · obtain rfl := HN.out fun h => h1 h.1
    clear HN HY HV
    go_enter Try.func39, Try.ntmps39
    go_wp2_with (go_at_call 56; refine (l01In_no _ _ _ _ (by omega)).mono ?_; rintro e w' ⟨rfl, rfl⟩)
    go_ret
    exact ⟨rfl, (Below.refl _ _).alloc (Nat.le_refl _) _⟩
  by_cases h2 : 0 ≤ game ∧ game ≤ (m : Int) - 1
  rotate_left
  · obtain rfl := HN.out fun h => h2 h.2.1
    clear HN HY HV
    go_enter Try.func39, Try.ntmps39
    go_wp2_with (go_at_call 56; first | (refine (l01In_yes _ _ _ _ (by omega)).mono ?_; rintro e w' ⟨rfl, rfl⟩) | (refine (l01In_no _ _ _ _ (by omega)).mono ?_; rintro e w' ⟨rfl, rfl⟩))
    go_ret
    exact ⟨rfl, (Below.refl _ _).alloc (Nat.le_refl _) _⟩
  obtain ⟨j, rfl⟩ : ∃ j : Nat, game = (j : Int) := ⟨game.toNat, by omega⟩
  have hj : j < m := by omega
  obtain ⟨b, off, rfl, hcap, hc⟩ := HV.out (by omega)
  have HQ := Lib.hid (hc j hj)
  clear HV hc
  obtain ⟨r, hr⟩ : ∃ r : Bool, r = true ↔ gameP n ⟨home, away, hg, ag, st⟩ := by
    by_cases h : gameP n ⟨home, away, hg, ag, st⟩
    · exact ⟨true, fun _ => h, fun _ => rfl⟩
    · exact ⟨false, (fun e => by cases e), fun e => absurd e h⟩
  have C := Lib.hid (fun w1 => gameOk_spec n home away hg ag st r w1 hr)
  have HR2 := Lib.hid hr
  clear hr
  cases r with
  | false =>
    obtain rfl := HN.out fun h => by have := HR2.out.2 h.2.2.1; cases this
    clear HN HY HR2 HQ
    go_enter Try.func39, Try.ntmps39
    go_wp2_with (go_at_call 56; refine (l01In_yes _ _ _ _ (by omega)).mono ?_; rintro e w' ⟨rfl, rfl⟩)
    refine (C.out _).mono ?_
    rintro e w2 ⟨rfl, b2⟩
    have b3 := below_prev b2
    go_wp2
    go_ret
    exact ⟨rfl, b3⟩
  | true =>
    have HG := Lib.hid (HR2.out.1 rfl)
    clear HR2
    have CI := Lib.hid (fun w1 => isOpen_spec home away hg ag st w1)
    go_enter Try.func39, Try.ntmps39
    go_wp2_with (go_at_call 56; refine (l01In_yes _ _ _ _ (by omega)).mono ?_; rintro e w' ⟨rfl, rfl⟩)
    refine (C.out _).mono ?_
    rintro e w2 ⟨rfl, b2⟩
    have bx2 := Lib.hid (BoxN.made b2 (B := w.heap.size) rfl)
    have b3 := below_prev b2
    have d2 := bx2.out.2 2 _ rfl
    have d3 := bx2.out.2 3 _ rfl
    have d4 := bx2.out.2 4 _ rfl
    have d5 := bx2.out.2 5 _ rfl
    have d6 := bx2.out.2 6 _ rfl
    have HB3 := Lib.hid b3
    have hz2 := b3.size
    clear b2 b3 C
    go_wp2_with fail
    refine (CI.out _).mono ?_
    rintro e w3 ⟨rfl, b4⟩
    have bx3 := Lib.hid (bx2.out.below b4)
    have HB4 := Lib.hid (HB3.out.trans (b4.mono hz2))
    clear d2 d3 d4 d5 d6 bx2 HB3 b4 CI
    by_cases h4 : st = 0
    · obtain rfl := HN.out fun h => h.2.2.2.1 h4
      have g4 : (st == 0) = true := by simpa using h4
      clear HN HY HQ HG bx3
      go_wp2
      go_ret
      exact ⟨rfl, HB4.out⟩
    have g4 : (st == 0) = false := beq_eq_false_iff_ne.2 h4
    have H4 := Lib.hid h4
    have d1 := bx3.out.2 1 _ rfl
    have d2 := bx3.out.2 2 _ rfl
    have d3 := bx3.out.2 3 _ rfl
    have hbx := bx3.out.1
    have hq := HQ.out.belowB HB4.out HQ.out.1
    generalize hy : g j = y at *
    have hyj : g ((j : Int)).toNat = y := by simpa using hy
    have HYJ := Lib.hid hyj
    obtain ⟨c0, c1, c2, c3, c4⟩ := game_cells hq
    have hz3 := HB4.out.size
    have HB5 := Lib.hid (HB4.out.alloc hz3 (.cells #[.int .i64 y.home, .int .i64 y.away, .int .i64 y.hg, .int .i64 y.ag, .int .i64 y.st] 31))
    clear hq hy hyj HQ h4 bx3 HB4
    by_cases h5 : home = y.home
    · have g5 : (home == y.home) = true := by simpa using h5
      have H5 := Lib.hid h5
      by_cases h6 : away = y.away
      · have g6 : (away == y.away) = true := by simpa using h6
        obtain rfl := HY.out ⟨h1, h2, HG.out, H4.out, by rw [HYJ.out]; exact h5, by rw [HYJ.out]; exact h6⟩
        clear HN HY h5 h6 HG H4
        go_wp2
        go_ret
        exact ⟨rfl, HB5.out⟩
      · have g6 : (away == y.away) = false := beq_eq_false_iff_ne.2 h6
        obtain rfl := HN.out fun h => h6 (by have := h.2.2.2.2.2; rw [HYJ.out] at this; exact this)
        clear HN HY h5 h6 HG H4
        go_wp2
        go_ret
        exact ⟨rfl, HB5.out⟩
    · have g5 : (home == y.home) = false := beq_eq_false_iff_ne.2 h5
      obtain rfl := HN.out fun h => h5 (by have := h.2.2.2.2.1; rw [HYJ.out] at this; exact this)
      clear HN HY h5 HG H4
      go_wp2
      go_ret
      exact ⟨rfl, HB5.out⟩
theorem noteOk_spec (n : Int) (v : Value) (m : Nat) (g : Nat → GameD) (serial game home away hg ag st : Int) (R : Bool) (w : World) (hR : R = true ↔ seasonP n m g ∧ noteP n m g ⟨serial, game, ⟨home, away, hg, ag, st⟩⟩) (hv : GameRow w v m g) :
    Calls Try.prog 12 #[.int .i64 n, v, .agg #[.int .i64 serial, .int .i64 game, .int .i64 home, .int .i64 away, .int .i64 hg, .int .i64 ag, .int .i64 st]] w fun e w' => e = .returned (.bool R) ∧ Below w.heap.size w w' := by
  obtain ⟨r, hr⟩ : ∃ r : Bool, r = true ↔ seasonP n m g := by
    by_cases h : seasonP n m g
    · exact ⟨true, fun _ => h, fun _ => rfl⟩
    · exact ⟨false, (fun e => by cases e), fun e => absurd e h⟩
  have HG := Lib.hid hv
  have C := Lib.hid (fun w1 h1 => seasonOk_spec n v m g r w1 hr h1)
  have HRR := Lib.hid hr
  have HR := Lib.hid hR
  clear hr hR hv
  cases r with
  | false =>
    have hf : R = false := by
      cases R with
      | false => rfl
      | true => have := HRR.out.2 (HR.out.1 rfl).1; cases this
    subst hf
    clear HR HRR
    go_enter Try.func12, Try.ntmps12
    go_wp2_with fail
    refine (C.out _ (HG.out.below ((Below.refl _ w).alloc (Nat.le_refl _) _) (Nat.le_refl _))).mono ?_
    rintro e w2 ⟨rfl, b2⟩
    have b3 := below_prev b2
    go_wp2
    go_ret
    exact ⟨rfl, b3⟩
  | true =>
    have CN := Lib.hid (fun w1 h1 => l05Note_spec n v m g serial game home away hg ag st R w1 (HR.out.trans ⟨fun h => h.2, fun h => ⟨HRR.out.1 rfl, h⟩⟩) h1)
    clear HR HRR
    go_enter Try.func12, Try.ntmps12
    go_wp2_with fail
    refine (C.out _ (HG.out.below ((Below.refl _ w).alloc (Nat.le_refl _) _) (Nat.le_refl _))).mono ?_
    rintro e w2 ⟨rfl, b2⟩
    have bx2 := BoxN.made b2 (B := w.heap.size) rfl
    have b3 := Lib.hid (below_prev b2)
    have d0 := bx2.2 0 _ rfl
    have d1 := bx2.2 1 _ rfl
    have d2 := bx2.2 2 _ rfl
    have d3 := bx2.2 3 _ rfl
    have d4 := bx2.2 4 _ rfl
    have d5 := bx2.2 5 _ rfl
    have d6 := bx2.2 6 _ rfl
    have hz2 := b3.out.size
    clear b2 bx2 C
    go_wp2_with fail
    refine (CN.out _ (HG.out.below b3.out (Nat.le_refl _))).mono ?_
    rintro e w3 ⟨rfl, b4⟩
    have b5 := Lib.hid (b3.out.trans (b4.mono hz2))
    clear b3 b4 CN d0 d1 d2 d3 d4 d5 d6
    go_wp2
    go_ret
    exact ⟨rfl, b5.out⟩
end Go.Proofs.Ytlahjaakegdigaa
