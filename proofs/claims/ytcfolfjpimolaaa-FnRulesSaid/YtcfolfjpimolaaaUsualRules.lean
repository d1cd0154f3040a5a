/-
  Rule books: UsualRules of the model and of the program.
-/
import Derived.Test.YtcfolfjpimolaaaLawKit
set_option linter.unusedVariables false
namespace Go.Proofs.Ytcfolfjpimolaaa
open Go.RowKit

def usualG (i : Nat) : Int := match i with | 0 => 1 | 1 => 5 | 2 => 6 | 3 => 2 | 4 => 3 | _ => 8
theorem usual_owns (w w9 : World) (h : w9.heap[w.heap.size + 1]? = some (.cells #[.int .i64 1, .int .i64 5, .int .i64 6, .int .i64 2, .int .i64 3, .int .i64 8] 3 (0, 0))) :
    w9.ownsRow w.heap.size 3 1 (.slice (some ⟨w.heap.size + 1, 0, none⟩) 6 6) 6 [.int .i64 1, .int .i64 5, .int .i64 6, .int .i64 2, .int .i64 3, .int .i64 8] :=
  ⟨rfl, .inr ⟨w.heap.size + 1, 6, _, rfl, by omega, h, Nat.le_refl _, by decide, rfl, rfl⟩⟩
theorem usual_row (w w9 : World) (o : w9.ownsRow w.heap.size 3 1 (.slice (some ⟨w.heap.size + 1, 0, none⟩) 6 6) 6 [.int .i64 1, .int .i64 5, .int .i64 6, .int .i64 2, .int .i64 3, .int .i64 8]) :
    IntRow w9 (.slice (some ⟨w.heap.size + 1, 0, none⟩) 6 6) 6 usualG :=
  IntRow.of_owns o (by omega) fun i hi => by
    have : i = 0 ∨ i = 1 ∨ i = 2 ∨ i = 3 ∨ i = 4 ∨ i = 5 := by omega
    rcases this with rfl | rfl | rfl | rfl | rfl | rfl <;> rfl
theorem usualRules_spec (w : World) : Calls Try.prog 30 #[] w fun e w' => ∃ v, e = .returned (.agg #[.int .i64 3, .int .i64 1, .int .i64 0, v, .bool true]) ∧ IntRow w' v 6 usualG ∧ (∃ xs, w'.ownsRow w.heap.size 3 1 v 6 xs) ∧ Below w.heap.size w w' := by
  go_enter Try.func30, Try.ntmps30
  go_wp2
  refine bodyPost_ret (v := .agg #[.int .i64 3, .int .i64 1, .int .i64 0, .slice (some ⟨w.heap.size + 1, 0, none⟩) 6 6, .bool true]) (by simp [results, Try.results30, go_sem]) rfl ?_
  have hh := heap_alloc_new (w.alloc (.cells #[.int .i64 3, .int .i64 1, .int .i64 0, .slice (some ⟨w.heap.size + 1, 0, none⟩) 6 6, .bool true] 25)) (.cells #[.int .i64 1, .int .i64 5, .int .i64 6, .int .i64 2, .int .i64 3, .int .i64 8] 3 (0, 0))
  rw [show (w.alloc (.cells #[.int .i64 3, .int .i64 1, .int .i64 0, .slice (some ⟨w.heap.size + 1, 0, none⟩) 6 6, .bool true] 25)).heap.size = w.heap.size + 1 by simp] at hh
  have o := usual_owns w _ hh
  exact ⟨_, rfl, usual_row w _ o, ⟨_, o⟩, ((Below.refl _ _).alloc (Nat.le_refl _) _).alloc (by simp) _⟩
theorem usualRules_impl (w : World) : Calls Try.prog 16 #[] w fun e w' => ∃ v, e = .returned (.agg #[.int .i64 3, .int .i64 1, .int .i64 0, v, .bool true]) ∧ IntRow w' v 6 usualG ∧ (∃ xs, w'.ownsRow w.heap.size 3 1 v 6 xs) ∧ Below w.heap.size w w' := by
  go_enter Try.func16, Try.ntmps16
  go_wp2
  refine bodyPost_ret (v := .agg #[.int .i64 3, .int .i64 1, .int .i64 0, .slice (some ⟨w.heap.size + 1, 0, none⟩) 6 6, .bool true]) (by simp [results, Try.results16, go_sem]) rfl ?_
  have hh := heap_alloc_new (w.alloc (.cells #[.int .i64 3, .int .i64 1, .int .i64 0, .slice (some ⟨w.heap.size + 1, 0, none⟩) 6 6, .bool true] 25)) (.cells #[.int .i64 1, .int .i64 5, .int .i64 6, .int .i64 2, .int .i64 3, .int .i64 8] 3 (0, 0))
  rw [show (w.alloc (.cells #[.int .i64 3, .int .i64 1, .int .i64 0, .slice (some ⟨w.heap.size + 1, 0, none⟩) 6 6, .bool true] 25)).heap.size = w.heap.size + 1 by simp] at hh
  have o := usual_owns w _ hh
  exact ⟨_, rfl, usual_row w _ o, ⟨_, o⟩, ((Below.refl _ _).alloc (Nat.le_refl _) _).alloc (by simp) _⟩
end Go.Proofs.Ytcfolfjpimolaaa
