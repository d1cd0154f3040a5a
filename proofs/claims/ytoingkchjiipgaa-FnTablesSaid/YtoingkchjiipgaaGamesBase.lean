/-
  GamesBase: contracts of the states of the program's games, and GameOk.
-/
import Derived.Test.YtoingkchjiipgaaSeason
import Derived.Test.YtoingkchjiipgaaRulesImpl
set_option linter.unusedVariables false
namespace Go.Proofs.Ytoingkchjiipgaa
open Go.RowKit

theorem bool_of {R : Bool} {p : Prop} (h : R = true ↔ p) (hp : p) : R = true := h.2 hp
theorem bool_not {R : Bool} {p : Prop} (h : R = true ↔ p) (hp : ¬ p) : R = false := by
  cases R with
  | false => rfl
  | true => exact absurd (h.1 rfl) hp

theorem areOpp_impl (n a b : Int) (R : Bool) (w : World) (hR : R = true ↔ (0 ≤ a ∧ a < n ∧ 0 ≤ b ∧ b < n ∧ a ≠ b)) :
    Calls Try.prog 89 #[.int .i64 n, .int .i64 a, .int .i64 b] w fun e w' => e = .returned (.bool R) ∧ w = w' := by
  have HN := Lib.hid (bool_not hR)
  have HY := Lib.hid (bool_of hR)
  clear hR
  by_cases h1 : 0 ≤ a
  case neg =>
    have g1 : decide (0 ≤ a) = false := decide_eq_false h1
    obtain rfl := HN.out fun h => h1 h.1
    clear HN HY h1
    go_enter Try.func89, Try.ntmps89
    go_wp2
    go_ret
    exact ⟨by first | rfl | exact congrArg (fun q => Ending.returned (Value.bool q)) (by unfold bne; rw [g5]; rfl), rfl⟩
  have g1 : decide (0 ≤ a) = true := decide_eq_true h1
  by_cases h2 : a < n
  case neg =>
    have g2 : decide (a < n) = false := decide_eq_false h2
    obtain rfl := HN.out fun h => h2 h.2.1
    clear HN HY h2
    go_enter Try.func89, Try.ntmps89
    go_wp2
    go_ret
    exact ⟨by first | rfl | exact congrArg (fun q => Ending.returned (Value.bool q)) (by unfold bne; rw [g5]; rfl), rfl⟩
  have g2 : decide (a < n) = true := decide_eq_true h2
  by_cases h3 : 0 ≤ b
  case neg =>
    have g3 : decide (0 ≤ b) = false := decide_eq_false h3
    obtain rfl := HN.out fun h => h3 h.2.2.1
    clear HN HY h3
    go_enter Try.func89, Try.ntmps89
    go_wp2
    go_ret
    exact ⟨by first | rfl | exact congrArg (fun q => Ending.returned (Value.bool q)) (by unfold bne; rw [g5]; rfl), rfl⟩
  have g3 : decide (0 ≤ b) = true := decide_eq_true h3
  by_cases h4 : b < n
  case neg =>
    have g4 : decide (b < n) = false := decide_eq_false h4
    obtain rfl := HN.out fun h => h4 h.2.2.2.1
    clear HN HY h4
    go_enter Try.func89, Try.ntmps89
    go_wp2
    go_ret
    exact ⟨by first | rfl | exact congrArg (fun q => Ending.returned (Value.bool q)) (by unfold bne; rw [g5]; rfl), rfl⟩
  have g4 : decide (b < n) = true := decide_eq_true h4
  by_cases h5 : a ≠ b
  case neg =>
    have g5 : (a == b) = true := by simpa using h5
    obtain rfl := HN.out fun h => h5 h.2.2.2.2
    clear HN HY h5
    go_enter Try.func89, Try.ntmps89
    go_wp2
    go_ret
    exact ⟨by first | rfl | exact congrArg (fun q => Ending.returned (Value.bool q)) (by unfold bne; rw [g5]; rfl), rfl⟩
  have g5 : (a == b) = false := beq_eq_false_iff_ne.2 h5
  obtain rfl := HY.out ⟨h1, h2, h3, h4, h5⟩
  clear HN HY h5
  go_enter Try.func89, Try.ntmps89
  go_wp2
  go_ret
  exact ⟨congrArg (fun q => Ending.returned (Value.bool q)) (by unfold bne; rw [g5]; rfl), rfl⟩
theorem exists_impl (st : Int) (R : Bool) (w : World) (hR : R = true ↔ (0 ≤ st ∧ st ≤ 4)) :
    Calls Try.prog 90 #[.int .i64 st] w fun e w' => e = .returned (.bool R) ∧ w = w' := by
  have HN := Lib.hid (bool_not hR)
  have HY := Lib.hid (bool_of hR)
  clear hR
  by_cases h1 : 0 ≤ st
  case neg =>
    have g1 : decide (0 ≤ st) = false := decide_eq_false h1
    obtain rfl := HN.out fun h => h1 h.1
    clear HN HY h1
    go_enter Try.func90, Try.ntmps90
    go_wp2
    go_ret
    exact ⟨rfl, rfl⟩
  have g1 : decide (0 ≤ st) = true := decide_eq_true h1
  by_cases h2 : st ≤ 4
  case neg =>
    have g2 : decide (st ≤ 4) = false := decide_eq_false h2
    obtain rfl := HN.out fun h => h2 h.2
    clear HN HY h2
    go_enter Try.func90, Try.ntmps90
    go_wp2
    go_ret
    exact ⟨rfl, rfl⟩
  have g2 : decide (st ≤ 4) = true := decide_eq_true h2
  obtain rfl := HY.out ⟨h1, h2⟩
  clear HN HY
  go_enter Try.func90, Try.ntmps90
  go_wp2
  go_ret
  exact ⟨rfl, rfl⟩
theorem allows_impl (st q : Int) (R : Bool) (w : World) (hR : R = true ↔ ((st = 1 ∧ 0 ≤ q ∧ q ≤ 99) ∨ (st ≠ 1 ∧ q = 0))) :
    Calls Try.prog 91 #[.int .i64 st, .int .i64 q] w fun e w' => e = .returned (.bool R) ∧ w = w' := by
  have HN := Lib.hid (bool_not hR)
  have HY := Lib.hid (bool_of hR)
  clear hR
  by_cases h0 : st = 1
  · have HN2 := Lib.hid (fun (h : ¬ (0 ≤ q ∧ q ≤ 99)) => HN.out fun h1 => h1.elim (fun h2 => h h2.2) fun h2 => h2.1 h0)
    have HY2 := Lib.hid (fun (h : 0 ≤ q ∧ q ≤ 99) => HY.out (.inl ⟨h0, h⟩))
    clear HN HY
    subst h0
    by_cases h1 : 0 ≤ q
    case neg =>
      have g1 : decide (0 ≤ q) = false := decide_eq_false h1
      obtain rfl := HN2.out fun h => h1 h.1
      clear HN2 HY2 h1
      go_enter Try.func91, Try.ntmps91
      go_wp2
      go_ret
      exact ⟨rfl, rfl⟩
    have g1 : decide (0 ≤ q) = true := decide_eq_true h1
    by_cases h2 : q ≤ 99
    case neg =>
      have g2 : decide (q ≤ 99) = false := decide_eq_false h2
      obtain rfl := HN2.out fun h => h2 h.2
      clear HN2 HY2 h2
      go_enter Try.func91, Try.ntmps91
      go_wp2
      go_ret
      exact ⟨rfl, rfl⟩
    have g2 : decide (q ≤ 99) = true := decide_eq_true h2
    obtain rfl := HY2.out ⟨h1, h2⟩
    clear HN2 HY2
    go_enter Try.func91, Try.ntmps91
    go_wp2
    go_ret
    exact ⟨rfl, rfl⟩
  · have g0 : (st == 1) = false := beq_eq_false_iff_ne.2 h0
    by_cases h1 : q = 0
    · obtain rfl := HY.out (.inr ⟨h0, h1⟩)
      have g1 : (q == 0) = true := by simpa using h1
      clear HN HY h0 h1
      go_enter Try.func91, Try.ntmps91
      go_wp2
      go_ret
      exact ⟨rfl, rfl⟩
    · obtain rfl := HN.out fun h => h.elim (fun h2 => h0 h2.1) fun h2 => h1 h2.2
      have g1 : (q == 0) = false := beq_eq_false_iff_ne.2 h1
      clear HN HY h0 h1
      go_enter Try.func91, Try.ntmps91
      go_wp2
      go_ret
      exact ⟨rfl, rfl⟩
theorem bool_ex (p : Prop) : ∃ R : Bool, R = true ↔ p := by
  by_cases h : p
  · exact ⟨true, fun _ => h, fun _ => rfl⟩
  · exact ⟨false, (fun e => by cases e), fun e => absurd e h⟩
set_option maxHeartbeats 1000000 in
theorem gameOk_impl (n : Int) (home away hg ag st : Int) (R : Bool) (w : World) (hR : R = true ↔ gameP n ⟨home, away, hg, ag, st⟩) :
    Calls Try.prog 84 #[.int .i64 n, .agg #[.int .i64 home, .int .i64 away, .int .i64 hg, .int .i64 ag, .int .i64 st]] w fun e w' => e = .returned (.bool R) ∧ Below w.heap.size w w' := by
  obtain ⟨ro, hro⟩ := bool_ex (0 ≤ home ∧ home < n ∧ 0 ≤ away ∧ away < n ∧ home ≠ away)
  obtain ⟨re, hre⟩ := bool_ex (0 ≤ st ∧ st ≤ 4)
  obtain ⟨rh, hrh⟩ := bool_ex ((st = 1 ∧ 0 ≤ hg ∧ hg ≤ 99) ∨ (st ≠ 1 ∧ hg = 0))
  obtain ⟨ra, hra⟩ := bool_ex ((st = 1 ∧ 0 ≤ ag ∧ ag ≤ 99) ∨ (st ≠ 1 ∧ ag = 0))
  have hall : R = true ↔ (2 ≤ n ∧ n ≤ 8 ∧ ro = true ∧ re = true ∧ rh = true ∧ ra = true) := by
    rw [hR, hro, hre, hrh, hra]
    unfold gameP
    constructor
    · rintro ⟨⟨a1, a2⟩, ⟨b1, b2⟩, ⟨c1, c2⟩, d, ⟨e1, e2⟩, f⟩
      rcases f with ⟨f1, f2, f3⟩ | ⟨f1, f2, f3⟩
      · exact ⟨a1, a2, ⟨b1, by simp only at *; omega, c1, by simp only at *; omega, d⟩, ⟨e1, e2⟩, .inl ⟨f1, f2⟩, .inl ⟨f1, f3⟩⟩
      · exact ⟨a1, a2, ⟨b1, by simp only at *; omega, c1, by simp only at *; omega, d⟩, ⟨e1, e2⟩, .inr ⟨f1, f2⟩, .inr ⟨f1, f3⟩⟩
    · rintro ⟨a1, a2, ⟨b1, b2, c1, c2, d⟩, ⟨e1, e2⟩, f, f'⟩
      refine ⟨⟨a1, a2⟩, ⟨b1, by simp only at *; omega⟩, ⟨c1, by simp only at *; omega⟩, d, ⟨e1, e2⟩, ?_⟩
      rcases f with ⟨f1, f2⟩ | ⟨f1, f2⟩
      · rcases f' with ⟨f3, f4⟩ | ⟨f3, f4⟩
        · exact .inl ⟨f1, f2, f4⟩
        · exact absurd f1 f3
      · rcases f' with ⟨f3, f4⟩ | ⟨f3, f4⟩
        · exact absurd f3 f1
        · exact .inr ⟨f1, f2, f4⟩
  have CO := Lib.hid (fun w1 => areOpp_impl n home away ro w1 hro)
  have CE := Lib.hid (fun w1 => exists_impl st re w1 hre)
  have CH := Lib.hid (fun w1 => allows_impl st hg rh w1 hrh)
  have CA := Lib.hid (fun w1 => allows_impl st ag ra w1 hra)
  have HN := Lib.hid (bool_not hall)
  have HY := Lib.hid (bool_of hall)
  clear hR hro hre hrh hra hall
  by_cases h1 : 2 ≤ n
  case neg =>
    have g1 : decide (2 ≤ n) = false := decide_eq_false h1
    obtain rfl := HN.out fun h => h1 h.1
    clear HN HY h1
    go_enter Try.func84, Try.ntmps84
    go_wp2
    go_ret
    exact ⟨rfl, (Below.refl _ _).alloc (Nat.le_refl _) _⟩
  have g1 : decide (2 ≤ n) = true := decide_eq_true h1
  by_cases h2 : n ≤ 8
  case neg =>
    have g2 : decide (n ≤ 8) = false := decide_eq_false h2
    obtain rfl := HN.out fun h => h2 h.2.1
    clear HN HY h2
    go_enter Try.func84, Try.ntmps84
    go_wp2
    go_ret
    exact ⟨rfl, (Below.refl _ _).alloc (Nat.le_refl _) _⟩
  have g2 : decide (n ≤ 8) = true := decide_eq_true h2
  cases ro with
  | false =>
    obtain rfl := HN.out fun h => by have := h.2.2.1; cases this
    clear HN HY
    go_enter Try.func84, Try.ntmps84
    go_wp2_with fail
    refine (CO.out _).mono ?_
    rintro e w' ⟨rfl, rfl⟩
    go_wp2
    go_ret
    exact ⟨rfl, (Below.refl _ _).alloc (Nat.le_refl _) _⟩
  | true =>
  cases re with
  | false =>
    obtain rfl := HN.out fun h => by have := h.2.2.2.1; cases this
    clear HN HY
    go_enter Try.func84, Try.ntmps84
    go_wp2_with fail
    refine (CO.out _).mono ?_
    rintro e w' ⟨rfl, rfl⟩
    go_wp2_with fail
    refine (CE.out _).mono ?_
    rintro e w' ⟨rfl, rfl⟩
    go_wp2
    go_ret
    exact ⟨rfl, (Below.refl _ _).alloc (Nat.le_refl _) _⟩
  | true =>
  cases rh with
  | false =>
    obtain rfl := HN.out fun h => by have := h.2.2.2.2.1; cases this
    clear HN HY
    go_enter Try.func84, Try.ntmps84
    go_wp2_with fail
    refine (CO.out _).mono ?_
    rintro e w' ⟨rfl, rfl⟩
    go_wp2_with fail
    refine (CE.out _).mono ?_
    rintro e w' ⟨rfl, rfl⟩
    go_wp2_with fail
    refine (CH.out _).mono ?_
    rintro e w' ⟨rfl, rfl⟩
    go_wp2
    go_ret
    exact ⟨rfl, (Below.refl _ _).alloc (Nat.le_refl _) _⟩
  | true =>
  cases ra with
  | false =>
    obtain rfl := HN.out fun h => by have := h.2.2.2.2.2; cases this
    clear HN HY
    go_enter Try.func84, Try.ntmps84
    go_wp2_with fail
    refine (CO.out _).mono ?_
    rintro e w' ⟨rfl, rfl⟩
    go_wp2_with fail
    refine (CE.out _).mono ?_
    rintro e w' ⟨rfl, rfl⟩
    go_wp2_with fail
    refine (CH.out _).mono ?_
    rintro e w' ⟨rfl, rfl⟩
    go_wp2_with fail
    refine (CA.out _).mono ?_
    rintro e w' ⟨rfl, rfl⟩
    go_wp2
    go_ret
    exact ⟨rfl, (Below.refl _ _).alloc (Nat.le_refl _) _⟩
  | true =>
  obtain rfl := HY.out ⟨h1, h2, rfl, rfl, rfl, rfl⟩
  clear HN HY
  go_enter Try.func84, Try.ntmps84
  go_wp2_with fail
  refine (CO.out _).mono ?_
  rintro e w' ⟨rfl, rfl⟩
  go_wp2_with fail
  refine (CE.out _).mono ?_
  rintro e w' ⟨rfl, rfl⟩
  go_wp2_with fail
  refine (CH.out _).mono ?_
  rintro e w' ⟨rfl, rfl⟩
  go_wp2_with fail
  refine (CA.out _).mono ?_
  rintro e w' ⟨rfl, rfl⟩
  go_wp2
  go_ret
  exact ⟨rfl, (Below.refl _ _).alloc (Nat.le_refl _) _⟩
theorem counts_impl (hg ag st : Int) (d : Int × Int × Bool) (w : World) (hd : d = goalsD ⟨0, 0, hg, ag, st⟩) :
    Calls Try.prog 76 #[.int .i64 st, .int .i64 hg, .int .i64 ag] w fun e w' => e = .returned (.tuple #[.int .i64 d.1, .int .i64 d.2.1, .bool d.2.2]) ∧ Below w.heap.size w w' := by
  subst hd
  unfold goalsD
  simp only
  by_cases h1 : st = 1
  · subst h1
    rw [if_pos rfl]
    go_enter Try.func76, Try.ntmps76
    go_wp2
    (try (go_quiet (fail); go_wp2))
    go_ret3
    exact ⟨rfl, by first | exact Below.refl _ _ | exact below_drewN (Below.refl _ _) _⟩
  rw [if_neg h1]
  have g1 : (st == 1) = false := beq_eq_false_iff_ne.2 h1
  by_cases h2 : st = 2
  · subst h2
    rw [if_pos rfl]
    clear g1 h1
    go_enter Try.func76, Try.ntmps76
    go_wp2
    go_ret3
    exact ⟨rfl, Below.refl _ _⟩
  rw [if_neg h2]
  have g2 : (st == 2) = false := beq_eq_false_iff_ne.2 h2
  by_cases h3 : st = 3
  · subst h3
    rw [if_pos rfl]
    clear g1 h1 g2 h2
    go_enter Try.func76, Try.ntmps76
    go_wp2
    go_ret3
    exact ⟨rfl, Below.refl _ _⟩
  rw [if_neg h3]
  have g3 : (st == 3) = false := beq_eq_false_iff_ne.2 h3
  clear h1 h2 h3
  go_enter Try.func76, Try.ntmps76
  go_wp2
  go_ret3
  exact ⟨rfl, Below.refl _ _⟩
end Go.Proofs.Ytoingkchjiipgaa
