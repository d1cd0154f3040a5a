/-
  Rule books: FaultOf of the model and of the program.
-/
import Derived.Test.YtoingkchjiipgaaDecisive
import Derived.Test.YtoingkchjiipgaaFirst
set_option linter.unusedVariables false
namespace Go.Proofs.Ytoingkchjiipgaa
open Go.RowKit

/-- the points come, and no mutual key before them -/
def lateP (n : Nat) (g : Nat → Int) : Prop := ∃ p, p < n ∧ g p = 1 ∧ ∀ i, i < p → g i ≠ 1 ∧ mutualB (g i) = false
/-- where the first x is -/
theorem placeI_at (g : Nat → Int) (x : Int) (r : Nat) : ∀ k, placeI g x r k = -1 ∨ ∃ j : Nat, placeI g x r k = j ∧ k ≤ j ∧ j < k + r ∧ g j = x ∧ ∀ i, k ≤ i → i < j → g i ≠ x := by
  induction r with
  | zero => intro k; exact .inl rfl
  | succ r ih =>
    intro k
    unfold placeI
    by_cases h : g k = x
    · rw [if_pos h]
      exact .inr ⟨k, rfl, Nat.le_refl _, by omega, h, fun i h1 h2 => by omega⟩
    · rw [if_neg h]
      rcases ih (k + 1) with h1 | ⟨j, h1, h2, h3, h4, h5⟩
      · exact .inl h1
      · refine .inr ⟨j, h1, by omega, by omega, h4, fun i h6 h7 => ?_⟩
        by_cases e : i = k
        · subst e; exact h
        · exact h5 i (by omega) h7
end Go.Proofs.Ytoingkchjiipgaa
