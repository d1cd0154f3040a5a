/-
  Games: the model's GameOk, GoalsOf, OutcomeOf, IsOpen, GameOf, OpenGames, PlayGame, GamesBetween, SeasonOk.
-/
import Derived.Test.YtoingkchjiipgaaTypeGame
import Derived.Test.YtoingkchjiipgaaTextA
import Derived.Test.YtoingkchjiipgaaFirst
set_option linter.unusedVariables false
namespace Go.Proofs.Ytoingkchjiipgaa
open Go.RowKit


/-- the game is one of n teams -/
def gameP (n : Int) (t : GameD) : Prop :=
  (2 ≤ n ∧ n ≤ 8) ∧ (0 ≤ t.home ∧ t.home ≤ n - 1) ∧ (0 ≤ t.away ∧ t.away ≤ n - 1) ∧ t.home ≠ t.away ∧ (0 ≤ t.st ∧ t.st ≤ 4) ∧
    ((t.st = 1 ∧ (0 ≤ t.hg ∧ t.hg ≤ 99) ∧ (0 ≤ t.ag ∧ t.ag ≤ 99)) ∨ (t.st ≠ 1 ∧ t.hg = 0 ∧ t.ag = 0))
theorem gameOk_spec (n : Int) (home away hg ag st : Int) (R : Bool) (w : World) (hR : R = true ↔ gameP n ⟨home, away, hg, ag, st⟩) :
    Calls Try.prog 78 #[.int .i64 n, .agg #[.int .i64 home, .int .i64 away, .int .i64 hg, .int .i64 ag, .int .i64 st]] w fun e w' => e = .returned (.bool R) ∧ Below w.heap.size w w' := by
  have hno : ¬ gameP n ⟨home, away, hg, ag, st⟩ → R = false := fun h => by
    cases R with
    | false => rfl
    | true => exact absurd (hR.1 rfl) h
  have hyes : gameP n ⟨home, away, hg, ag, st⟩ → R = true := hR.2
  have HN := Lib.hid hno
  have HY := Lib.hid hyes
  clear hR hno hyes
  by_cases h0 : 2 ≤ n ∧ n ≤ 8
  case neg =>
    obtain rfl := HN.out fun h => h0 h.1
    clear HN HY
    go_enter Try.func78, Try.ntmps78
    go_wp2_with (go_at_call 59; first | (refine (l01In_yes _ _ _ _ (by omega)).mono ?_; rintro e w' ⟨rfl, rfl⟩) | (refine (l01In_no _ _ _ _ (by omega)).mono ?_; rintro e w' ⟨rfl, rfl⟩))
    go_ret
    exact ⟨rfl, (Below.refl _ _).alloc (Nat.le_refl _) _⟩
  by_cases h1 : 0 ≤ home ∧ home ≤ n - 1
  case neg =>
    obtain rfl := HN.out fun h => h1 h.2.1
    clear HN HY
    go_enter Try.func78, Try.ntmps78
    go_wp2_with (go_at_call 59; first | (refine (l01In_yes _ _ _ _ (by omega)).mono ?_; rintro e w' ⟨rfl, rfl⟩) | (refine (l01In_no _ _ _ _ (by omega)).mono ?_; rintro e w' ⟨rfl, rfl⟩))
    go_ret
    exact ⟨rfl, (Below.refl _ _).alloc (Nat.le_refl _) _⟩
  by_cases h2 : 0 ≤ away ∧ away ≤ n - 1
  case neg =>
    obtain rfl := HN.out fun h => h2 h.2.2.1
    clear HN HY
    go_enter Try.func78, Try.ntmps78
    go_wp2_with (go_at_call 59; first | (refine (l01In_yes _ _ _ _ (by omega)).mono ?_; rintro e w' ⟨rfl, rfl⟩) | (refine (l01In_no _ _ _ _ (by omega)).mono ?_; rintro e w' ⟨rfl, rfl⟩))
    go_ret
    exact ⟨rfl, (Below.refl _ _).alloc (Nat.le_refl _) _⟩
  by_cases h3 : home = away
  · obtain rfl := HN.out fun h => h.2.2.2.1 h3
    have g1 : (home == away) = true := by simpa using h3
    have H3 := Lib.hid h3
    clear HN HY h3
    go_enter Try.func78, Try.ntmps78
    go_wp2_with (go_at_call 59; first | (refine (l01In_yes _ _ _ _ (by omega)).mono ?_; rintro e w' ⟨rfl, rfl⟩) | (refine (l01In_no _ _ _ _ (by omega)).mono ?_; rintro e w' ⟨rfl, rfl⟩))
    go_ret
    exact ⟨rfl, (Below.refl _ _).alloc (Nat.le_refl _) _⟩
  have g1 : (home == away) = false := beq_eq_false_iff_ne.2 h3
  by_cases h4 : 0 ≤ st ∧ st ≤ 4
  case neg =>
    obtain rfl := HN.out fun h => h4 h.2.2.2.2.1
    clear HN HY h3
    go_enter Try.func78, Try.ntmps78
    go_wp2_with (go_at_call 59; first | (refine (l01In_yes _ _ _ _ (by omega)).mono ?_; rintro e w' ⟨rfl, rfl⟩) | (refine (l01In_no _ _ _ _ (by omega)).mono ?_; rintro e w' ⟨rfl, rfl⟩))
    go_ret
    exact ⟨rfl, (Below.refl _ _).alloc (Nat.le_refl _) _⟩
  by_cases h5 : st = 1
  · by_cases h6 : 0 ≤ hg ∧ hg ≤ 99
    case neg =>
      obtain rfl := HN.out fun h => h.2.2.2.2.2.elim (fun h => h6 h.2.1) fun h => h.1 h5
      subst h5
      clear HN HY h3
      go_enter Try.func78, Try.ntmps78
      go_wp2_with (go_at_call 59; first | (refine (l01In_yes _ _ _ _ (by omega)).mono ?_; rintro e w' ⟨rfl, rfl⟩) | (refine (l01In_no _ _ _ _ (by omega)).mono ?_; rintro e w' ⟨rfl, rfl⟩))
      go_ret
      exact ⟨rfl, (Below.refl _ _).alloc (Nat.le_refl _) _⟩
    by_cases h7 : 0 ≤ ag ∧ ag ≤ 99
    case neg =>
      obtain rfl := HN.out fun h => h.2.2.2.2.2.elim (fun h => h7 h.2.2) fun h => h.1 h5
      subst h5
      clear HN HY h3
      go_enter Try.func78, Try.ntmps78
      go_wp2_with (go_at_call 59; first | (refine (l01In_yes _ _ _ _ (by omega)).mono ?_; rintro e w' ⟨rfl, rfl⟩) | (refine (l01In_no _ _ _ _ (by omega)).mono ?_; rintro e w' ⟨rfl, rfl⟩))
      go_ret
      exact ⟨rfl, (Below.refl _ _).alloc (Nat.le_refl _) _⟩
    obtain rfl := HY.out ⟨h0, h1, h2, h3, h4, .inl ⟨h5, h6, h7⟩⟩
    subst h5
    clear HN HY h3
    go_enter Try.func78, Try.ntmps78
    go_wp2_with (go_at_call 59; first | (refine (l01In_yes _ _ _ _ (by omega)).mono ?_; rintro e w' ⟨rfl, rfl⟩) | (refine (l01In_no _ _ _ _ (by omega)).mono ?_; rintro e w' ⟨rfl, rfl⟩))
    go_ret
    exact ⟨rfl, (Below.refl _ _).alloc (Nat.le_refl _) _⟩
  have g2 : (st != 1) = true := bne_iff_ne.2 h5
  by_cases h6 : hg = 0
  case neg =>
    obtain rfl := HN.out fun h => h.2.2.2.2.2.elim (fun h => h5 h.1) fun h => h6 h.2.1
    have g3 : (hg == 0) = false := beq_eq_false_iff_ne.2 h6
    clear HN HY h3 h5 h6
    go_enter Try.func78, Try.ntmps78
    go_wp2_with (go_at_call 59; first | (refine (l01In_yes _ _ _ _ (by omega)).mono ?_; rintro e w' ⟨rfl, rfl⟩) | (refine (l01In_no _ _ _ _ (by omega)).mono ?_; rintro e w' ⟨rfl, rfl⟩))
    go_ret
    exact ⟨rfl, (Below.refl _ _).alloc (Nat.le_refl _) _⟩
  subst h6
  by_cases h7 : ag = 0
  · obtain rfl := HY.out ⟨h0, h1, h2, h3, h4, .inr ⟨h5, rfl, h7⟩⟩
    subst h7
    clear HN HY h3 h5
    go_enter Try.func78, Try.ntmps78
    go_wp2_with (go_at_call 59; first | (refine (l01In_yes _ _ _ _ (by omega)).mono ?_; rintro e w' ⟨rfl, rfl⟩) | (refine (l01In_no _ _ _ _ (by omega)).mono ?_; rintro e w' ⟨rfl, rfl⟩))
    go_ret
    exact ⟨rfl, (Below.refl _ _).alloc (Nat.le_refl _) _⟩
  · obtain rfl := HN.out fun h => h.2.2.2.2.2.elim (fun h => h5 h.1) fun h => h7 h.2.2
    have g3 : (ag == 0) = false := beq_eq_false_iff_ne.2 h7
    clear HN HY h3 h5 h7
    go_enter Try.func78, Try.ntmps78
    go_wp2_with (go_at_call 59; first | (refine (l01In_yes _ _ _ _ (by omega)).mono ?_; rintro e w' ⟨rfl, rfl⟩) | (refine (l01In_no _ _ _ _ (by omega)).mono ?_; rintro e w' ⟨rfl, rfl⟩))
    go_ret
    exact ⟨rfl, (Below.refl _ _).alloc (Nat.le_refl _) _⟩
/-- the goals that count -/
def goalsD (t : GameD) : Int × Int × Bool := if t.st = 1 then (t.hg, t.ag, true) else if t.st = 2 then (3, 0, true) else if t.st = 3 then (0, 3, true) else (0, 0, false)
theorem goalsOf_spec (home away hg ag st : Int) (w : World) :
    Calls Try.prog 86 #[.agg #[.int .i64 home, .int .i64 away, .int .i64 hg, .int .i64 ag, .int .i64 st]] w fun e w' => e = .returned (.tuple #[.int .i64 (goalsD ⟨home, away, hg, ag, st⟩).1, .int .i64 (goalsD ⟨home, away, hg, ag, st⟩).2.1, .bool (goalsD ⟨home, away, hg, ag, st⟩).2.2]) ∧ Below w.heap.size w w' := by
  unfold goalsD
  simp only
  by_cases h1 : st = 1
  · subst h1
    rw [if_pos rfl]
    go_enter Try.func86, Try.ntmps86
    go_wp2
    go_quiet (fail)
    go_wp2
    go_ret3
    exact ⟨rfl, below_drewN ((Below.refl _ _).alloc (Nat.le_refl _) _) _⟩
  rw [if_neg h1]
  have g1 : (st == 1) = false := beq_eq_false_iff_ne.2 h1
  by_cases h2 : st = 2
  · subst h2
    rw [if_pos rfl]
    clear g1 h1
    go_enter Try.func86, Try.ntmps86
    go_wp2
    go_ret3
    exact ⟨rfl, (Below.refl _ _).alloc (Nat.le_refl _) _⟩
  rw [if_neg h2]
  have g2 : (st == 2) = false := beq_eq_false_iff_ne.2 h2
  by_cases h3 : st = 3
  · subst h3
    rw [if_pos rfl]
    clear g1 h1 g2 h2
    go_enter Try.func86, Try.ntmps86
    go_wp2
    go_ret3
    exact ⟨rfl, (Below.refl _ _).alloc (Nat.le_refl _) _⟩
  rw [if_neg h3]
  have g3 : (st == 3) = false := beq_eq_false_iff_ne.2 h3
  clear h1 h2 h3
  go_enter Try.func86, Try.ntmps86
  go_wp2
  go_ret3
  exact ⟨rfl, (Below.refl _ _).alloc (Nat.le_refl _) _⟩
def outcomeD (t : GameD) : Int := if (goalsD t).2.2 = true then (if (goalsD t).2.1 < (goalsD t).1 then 1 else if (goalsD t).1 = (goalsD t).2.1 then 2 else 3) else 0
theorem outcomeOf_spec (home away hg ag st : Int) (w : World) :
    Calls Try.prog 87 #[.agg #[.int .i64 home, .int .i64 away, .int .i64 hg, .int .i64 ag, .int .i64 st]] w fun e w' => e = .returned (.int .i64 (outcomeD ⟨home, away, hg, ag, st⟩)) ∧ Below w.heap.size w w' := by
  have C := Lib.hid (fun w1 => goalsOf_spec home away hg ag st w1)
  unfold outcomeD
  generalize goalsD ⟨home, away, hg, ag, st⟩ = q at *
  obtain ⟨a, b, ok⟩ := q
  simp only at C ⊢
  cases ok with
  | false =>
    rw [if_neg (by simp)]
    go_enter Try.func87, Try.ntmps87
    go_wp2_with fail
    refine (C.out _).mono ?_
    rintro e w1 ⟨rfl, b1⟩
    have b2 := below_prev b1
    go_wp2
    go_ret
    exact ⟨rfl, b2⟩
  | true =>
    rw [if_pos rfl]
    by_cases h1 : b < a
    · rw [if_pos h1]
      have g1 : decide (b < a) = true := decide_eq_true h1
      go_enter Try.func87, Try.ntmps87
      go_wp2_with fail
      refine (C.out _).mono ?_
      rintro e w1 ⟨rfl, b1⟩
      have b2 := below_prev b1
      go_wp2
      go_ret
      exact ⟨rfl, b2⟩
    rw [if_neg h1]
    have g1 : decide (b < a) = false := decide_eq_false h1
    by_cases h2 : a = b
    · rw [if_pos h2]
      have g2 : (a == b) = true := by simpa using h2
      have HH := Lib.hid h2
      clear h2 h1
      go_enter Try.func87, Try.ntmps87
      go_wp2_with fail
      refine (C.out _).mono ?_
      rintro e w1 ⟨rfl, b1⟩
      have b2 := below_prev b1
      go_wp2
      go_ret
      exact ⟨rfl, b2⟩
    · rw [if_neg h2]
      have g2 : (a == b) = false := beq_eq_false_iff_ne.2 h2
      go_enter Try.func87, Try.ntmps87
      go_wp2_with fail
      refine (C.out _).mono ?_
      rintro e w1 ⟨rfl, b1⟩
      have b2 := below_prev b1
      go_wp2
      go_ret
      exact ⟨rfl, b2⟩
def playD (t : GameD) (o : Int) : GameD := if 1 ≤ o ∧ o ≤ 3 then ⟨t.home, t.away, if o = 1 then 1 else 0, if o = 3 then 1 else 0, 1⟩ else t
end Go.Proofs.Ytoingkchjiipgaa
