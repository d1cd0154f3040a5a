/-
  GamesFuns: contracts of the program's games: predicates handed on.
-/
import Derived.Test.YtoingkchjiipgaaGamesBase
set_option linter.unusedVariables false
namespace Go.Proofs.Ytoingkchjiipgaa
open Go.RowKit

theorem goalsOf_impl (home away hg ag st : Int) (w : World) :
    Calls Try.prog 56 #[.agg #[.int .i64 home, .int .i64 away, .int .i64 hg, .int .i64 ag, .int .i64 st]] w fun e w' => e = .returned (.tuple #[.int .i64 (goalsD ⟨home, away, hg, ag, st⟩).1, .int .i64 (goalsD ⟨home, away, hg, ag, st⟩).2.1, .bool (goalsD ⟨home, away, hg, ag, st⟩).2.2]) ∧ Below w.heap.size w w' := by
  have C := Lib.hid (fun w1 => counts_impl hg ag st (goalsD ⟨home, away, hg, ag, st⟩) w1 rfl)
  generalize goalsD ⟨home, away, hg, ag, st⟩ = q at *
  obtain ⟨a, b, ok⟩ := q
  simp only at C ⊢
  go_enter Try.func56, Try.ntmps56
  go_wp2_with fail
  refine (C.out _).mono ?_
  rintro e w1 ⟨rfl, b1⟩
  have b2 := below_prev b1
  go_wp2
  go_ret3
  exact ⟨rfl, b2⟩
theorem outcomeOf_impl (home away hg ag st : Int) (w : World) :
    Calls Try.prog 15 #[.agg #[.int .i64 home, .int .i64 away, .int .i64 hg, .int .i64 ag, .int .i64 st]] w fun e w' => e = .returned (.int .i64 (outcomeD ⟨home, away, hg, ag, st⟩)) ∧ Below w.heap.size w w' := by
  have C := Lib.hid (fun w1 => goalsOf_impl home away hg ag st w1)
  unfold outcomeD
  generalize goalsD ⟨home, away, hg, ag, st⟩ = q at *
  obtain ⟨a, b, ok⟩ := q
  simp only at C ⊢
  cases ok with
  | false =>
    rw [if_neg (by simp)]
    go_enter Try.func15, Try.ntmps15
    go_wp2_with fail
    refine (C.out _).mono ?_
    rintro e w1 ⟨rfl, b1⟩
    have b2 := below_prev b1
    go_wp2
    go_ret
    exact ⟨rfl, b2⟩
  | true =>
    rw [if_pos rfl]
    by_cases h1 : b < a
    · rw [if_pos h1]
      have g1 : decide (b < a) = true := decide_eq_true h1
      go_enter Try.func15, Try.ntmps15
      go_wp2_with fail
      refine (C.out _).mono ?_
      rintro e w1 ⟨rfl, b1⟩
      have b2 := below_prev b1
      go_wp2
      go_ret
      exact ⟨rfl, b2⟩
    rw [if_neg h1]
    have g1 : decide (b < a) = false := decide_eq_false h1
    by_cases h2 : a = b
    · rw [if_pos h2]
      have g2 : decide (a < b) = false := decide_eq_false (by omega)
      have HH := Lib.hid h2
      clear h2 h1
      go_enter Try.func15, Try.ntmps15
      go_wp2_with fail
      refine (C.out _).mono ?_
      rintro e w1 ⟨rfl, b1⟩
      have b2 := below_prev b1
      go_wp2
      go_ret
      exact ⟨rfl, b2⟩
    · rw [if_neg h2]
      have g2 : decide (a < b) = true := decide_eq_true (by omega)
      go_enter Try.func15, Try.ntmps15
      go_wp2_with fail
      refine (C.out _).mono ?_
      rintro e w1 ⟨rfl, b1⟩
      have b2 := below_prev b1
      go_wp2
      go_ret
      exact ⟨rfl, b2⟩
/-- a function value that holds two numbers in boxes B1, B2 -/
def twoBoxes (f B1 B2 : Nat) : Value := .func (.func f) #[] #[.pointer (some ⟨B1, 0, none⟩), .pointer (some ⟨B2, 0, none⟩)]
end Go.Proofs.Ytoingkchjiipgaa
