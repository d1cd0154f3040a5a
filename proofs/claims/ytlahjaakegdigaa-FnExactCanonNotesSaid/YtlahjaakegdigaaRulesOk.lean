/-
  Rule books: RulesOk, IsDecisive of the model and of the program.
-/
import Derived.Test.YtlahjaakegdigaaKeys
import Derived.Test.YtlahjaakegdigaaOrders
set_option linter.unusedVariables false
namespace Go.Proofs.Ytlahjaakegdigaa
open Go.RowKit

/-- the ladder n, g is one: from 1 to 8 keys, all valid and different -/
def ladP (n : Nat) (g : Nat → Int) : Prop := (1 ≤ (n : Int) ∧ (n : Int) ≤ 8) ∧ ∀ i, i < n → (1 ≤ g i ∧ g i ≤ 8) ∧ ¬ hasP g (g i) i
def rulesP (win draw loss : Int) (n : Nat) (g : Nat → Int) : Prop := (0 ≤ win ∧ win ≤ 10) ∧ (0 ≤ draw ∧ draw ≤ win) ∧ (0 ≤ loss ∧ loss ≤ draw) ∧ ladP n g
end Go.Proofs.Ytlahjaakegdigaa
