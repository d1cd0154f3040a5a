/-
  Rule books: FaultOf of the model and of the program.
-/
import Derived.Test.YtoingkchjiipgaaFault
set_option linter.unusedVariables false
namespace Go.Proofs.Ytoingkchjiipgaa
open Go.RowKit

/-- s is the fault of the rules -/
def faultP (win draw loss : Int) (n : Nat) (g : Nat → Int) (s : ByteArray) : Prop :=
  (¬ rulesP win draw loss n g ∧ s = ⟨#[105, 110, 118, 97, 108, 105, 100]⟩) ∨
  (rulesP win draw loss n g ∧ win = loss ∧ s = ⟨#[112, 111, 105, 110, 116, 108, 101, 115, 115]⟩) ∨
  (rulesP win draw loss n g ∧ win ≠ loss ∧ ¬ hasP g 8 n ∧ s = ⟨#[117, 110, 100, 101, 99, 105, 100, 101, 100]⟩) ∨
  (rulesP win draw loss n g ∧ win ≠ loss ∧ hasP g 8 n ∧ g (n - 1) ≠ 8 ∧ s = ⟨#[100, 101, 97, 100]⟩) ∨
  (rulesP win draw loss n g ∧ win ≠ loss ∧ hasP g 8 n ∧ g (n - 1) = 8 ∧ ¬ lateP n g ∧ s = ⟨#[101, 97, 114, 108, 121]⟩) ∨
  (rulesP win draw loss n g ∧ win ≠ loss ∧ hasP g 8 n ∧ g (n - 1) = 8 ∧ lateP n g ∧ s = ⟨#[110, 111, 110, 101]⟩)
theorem faultP_some (win draw loss : Int) (n : Nat) (g : Nat → Int) : ∃ s, faultP win draw loss n g s := by
  unfold faultP
  by_cases h1 : rulesP win draw loss n g
  · by_cases h2 : win = loss
    · exact ⟨_, .inr (.inl ⟨h1, h2, rfl⟩)⟩
    by_cases h3 : hasP g 8 n
    · by_cases h4 : g (n - 1) = 8
      · by_cases h5 : lateP n g
        · exact ⟨_, .inr (.inr (.inr (.inr (.inr ⟨h1, h2, h3, h4, h5, rfl⟩))))⟩
        · exact ⟨_, .inr (.inr (.inr (.inr (.inl ⟨h1, h2, h3, h4, h5, rfl⟩))))⟩
      · exact ⟨_, .inr (.inr (.inr (.inl ⟨h1, h2, h3, h4, rfl⟩)))⟩
    · exact ⟨_, .inr (.inr (.inl ⟨h1, h2, h3, rfl⟩))⟩
  · exact ⟨_, .inl ⟨h1, rfl⟩⟩
end Go.Proofs.Ytoingkchjiipgaa
