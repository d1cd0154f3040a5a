/-
  Rule books: SameRules and UsualRules of the model and of the program.
-/
import Derived.Test.YtoingkchjiipgaaDecisive
import Derived.Deep.RegionHeld3
import Derived.Deep.RegionWith
set_option linter.unusedVariables false
namespace Go.Proofs.Ytoingkchjiipgaa
open Go.RowKit

def sameL (n n' : Nat) (g g' : Nat → Int) : Prop := n = n' ∧ ∀ i, i < n → g i = g' i
def sameP (win draw loss : Int) (ag : Bool) (n : Nat) (g : Nat → Int) (win' draw' loss' : Int) (ag' : Bool) (n' : Nat) (g' : Nat → Int) : Prop :=
  (win = win' ∧ draw = draw' ∧ loss = loss' ∧ ag = ag') ∧ sameL n n' g g'
def Box5 (w : World) (B : Nat) (a b c d f : Value) : Prop := w.cell? ⟨B, 0, none⟩ = some a ∧ w.cell? ⟨B, 1, none⟩ = some b ∧ w.cell? ⟨B, 2, none⟩ = some c ∧ w.cell? ⟨B, 3, none⟩ = some d ∧ w.cell? ⟨B, 4, none⟩ = some f
theorem Box5.below {w w2 : World} {B : Nat} {a b c d f : Value} (k : Box5 w B a b c d f) (h : Below w.heap.size w w2) : Box5 w2 B a b c d f := cells5_below k h
theorem Box5.made (w : World) (t : TypeId) {a b c d f : Value} : Box5 (w.alloc (.cells #[a, b, c, d, f] t)) w.heap.size a b c d f := cells5 (Below.refl _ _)
end Go.Proofs.Ytoingkchjiipgaa
