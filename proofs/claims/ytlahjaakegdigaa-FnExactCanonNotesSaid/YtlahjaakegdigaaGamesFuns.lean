/-
  GamesFuns: contracts of the program's games: predicates handed on.
-/
import Derived.Test.YtlahjaakegdigaaGamesBase
set_option linter.unusedVariables false
namespace Go.Proofs.Ytlahjaakegdigaa
open Go.RowKit

theorem isOpen_impl (home away hg ag st : Int) (w : World) :
    Calls Try.prog 44 #[.agg #[.int .i64 home, .int .i64 away, .int .i64 hg, .int .i64 ag, .int .i64 st]] w fun e w' => e = .returned (.bool (st == 0)) ∧ Below w.heap.size w w' := by
  go_enter Try.func44, Try.ntmps44
  go_wp2
  go_ret
  exact ⟨rfl, (Below.refl _ _).alloc (Nat.le_refl _) _⟩
theorem isFixture_impl (home away hg ag st h a : Int) (w : World) :
    Calls Try.prog 43 #[.agg #[.int .i64 home, .int .i64 away, .int .i64 hg, .int .i64 ag, .int .i64 st], .int .i64 h, .int .i64 a] w fun e w' => e = .returned (.bool (home == h && away == a)) ∧ Below w.heap.size w w' := by
  cases g1 : home == h with
  | true =>
    cases g2 : away == a with
    | true =>
      go_enter Try.func43, Try.ntmps43
      go_wp2
      go_ret
      exact ⟨rfl, (Below.refl _ _).alloc (Nat.le_refl _) _⟩
    | false =>
      go_enter Try.func43, Try.ntmps43
      go_wp2
      go_ret
      exact ⟨rfl, (Below.refl _ _).alloc (Nat.le_refl _) _⟩
  | false =>
    go_enter Try.func43, Try.ntmps43
    go_wp2
    go_ret
    exact ⟨rfl, (Below.refl _ _).alloc (Nat.le_refl _) _⟩
/-- a function value that holds two numbers in boxes B1, B2 -/
def twoBoxes (f B1 B2 : Nat) : Value := .func (.func f) #[] #[.pointer (some ⟨B1, 0, none⟩), .pointer (some ⟨B2, 0, none⟩)]
end Go.Proofs.Ytlahjaakegdigaa
