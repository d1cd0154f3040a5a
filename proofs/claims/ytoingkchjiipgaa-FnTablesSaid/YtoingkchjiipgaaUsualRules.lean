/-
  Rule books: UsualRules of the model and of the program.
-/
import Derived.Test.YtoingkchjiipgaaLawKit
set_option linter.unusedVariables false
namespace Go.Proofs.Ytoingkchjiipgaa
open Go.RowKit

def usualG (i : Nat) : Int := match i with | 0 => 1 | 1 => 5 | 2 => 6 | 3 => 2 | 4 => 3 | _ => 8
theorem usual_owns (w w9 : World) (h : w9.heap[w.heap.size + 1]? = some (.cells #[.int .i64 1, .int .i64 5, .int .i64 6, .int .i64 2, .int .i64 3, .int .i64 8] 3 (0, 0))) :
    w9.ownsRow w.heap.size 3 1 (.slice (some ⟨w.heap.size + 1, 0, none⟩) 6 6) 6 [.int .i64 1, .int .i64 5, .int .i64 6, .int .i64 2, .int .i64 3, .int .i64 8] :=
  ⟨rfl, .inr ⟨w.heap.size + 1, 6, _, rfl, by omega, h, Nat.le_refl _, by decide, rfl, rfl⟩⟩
theorem usual_row (w w9 : World) (o : w9.ownsRow w.heap.size 3 1 (.slice (some ⟨w.heap.size + 1, 0, none⟩) 6 6) 6 [.int .i64 1, .int .i64 5, .int .i64 6, .int .i64 2, .int .i64 3, .int .i64 8]) :
    IntRow w9 (.slice (some ⟨w.heap.size + 1, 0, none⟩) 6 6) 6 usualG :=
  IntRow.of_owns o (by omega) fun i hi => by
    have : i = 0 ∨ i = 1 ∨ i = 2 ∨ i = 3 ∨ i = 4 ∨ i = 5 := by omega
    rcases this with rfl | rfl | rfl | rfl | rfl | rfl <;> rfl
end Go.Proofs.Ytoingkchjiipgaa
