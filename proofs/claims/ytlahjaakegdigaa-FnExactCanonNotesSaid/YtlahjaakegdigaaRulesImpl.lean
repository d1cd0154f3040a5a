/-
  Rule books: RulesOk, IsDecisive of the program.
-/
import Derived.Test.YtlahjaakegdigaaRulesOk
set_option linter.unusedVariables false
namespace Go.Proofs.Ytlahjaakegdigaa
open Go.RowKit

/-- block B of w is an array of K marks that says S -/
def SeenN (K : Nat) (w : World) (B : Nat) (S : Nat → Bool) : Prop := B < w.heap.size ∧ ∀ j, j < K → w.cell? ⟨B, j, none⟩ = some (.bool (S j)) ∧ w.frozen? ⟨B, j, none⟩ = false
theorem SeenN.made (K : Nat) (w : World) (cs : Array Value) (t : TypeId) (h : ∀ j, j < K → cs[j]? = some (.bool false)) : SeenN K (w.alloc (.cells cs t)) w.heap.size (fun _ => false) := by
  refine ⟨by simp, fun j hj => ⟨?_, ?_⟩⟩
  · rw [cell_of_row _ w.heap.size j _ t (0, 0) (heap_alloc_new w _)]
    exact h j hj
  · exact frozen_of_row _ w.heap.size j _ t (heap_alloc_new w _)
theorem SeenN.set {K : Nat} {w : World} {B : Nat} {S : Nat → Bool} (h : SeenN K w B S) (m : Nat) (hm : m < K) : SeenN K (w.setCell ⟨B, m, none⟩ (.bool true)) B (fun j => S j || decide (j = m)) := by
  refine ⟨by simpa [World.setCell] using h.1, fun j hj => ⟨?_, (World.frozen?_setCell _ _ _ _).trans (h.2 j hj).2⟩⟩
  by_cases hjm : j = m
  · subst hjm
    rw [World.cell?_setCell_same' _ _ _ (by rw [(h.2 j hj).1]; rfl)]
    simp
  · rw [World.cell?_setCell_other _ _ _ _ (by intro e; simp only [Addr.mk.injEq] at e; omega), (h.2 j hj).1]
    simp [hjm]
/-- so many different numbers from 1 to m are at most m -/
theorem pigeon (m : Nat) : ∀ (k : Nat) (g : Nat → Int), (∀ i, i < k → 1 ≤ g i ∧ g i ≤ m) → (∀ i j, i < j → j < k → g i ≠ g j) → k ≤ m := by
  induction m with
  | zero => intro k g h _; by_cases h0 : k = 0; · omega
            · have := h 0 (by omega); omega
  | succ m ih =>
    intro k g h hd
    by_cases hx : ∃ i, i < k ∧ g i = m + 1
    · obtain ⟨i0, hi0, he⟩ := hx
      have hk1 := ih (k - 1) (fun i => if i = i0 then g (k - 1) else g i) (fun i hi => by
          by_cases e : i = i0
          · simp only [e, if_true]
            have h1 := h (k - 1) (by omega)
            have h2 := hd i0 (k - 1) (by omega) (by omega)
            omega
          · simp only [e, if_false]
            have h1 := h i (by omega)
            have h2 : g i ≠ g i0 := by
              by_cases hlt : i < i0
              · exact hd i i0 hlt hi0
              · exact fun hh => hd i0 i (by omega) (by omega) hh.symm
            omega)
        (fun i j hij hj => by
          by_cases e : i = i0
          · by_cases e2 : j = i0
            · omega
            · simp only [e, e2, if_true, if_false]
              exact fun hh => hd j (k - 1) (by omega) (by omega) hh.symm
          · by_cases e2 : j = i0
            · simp only [e, e2, if_true, if_false]
              exact hd i (k - 1) (by omega) (by omega)
            · simp only [e, e2, if_false]
              exact hd i j hij (by omega))
      omega
    · have := ih k g (fun i hi => by
        have h1 := h i hi
        have h2 : g i ≠ m + 1 := fun he => hx ⟨i, hi, he⟩
        omega) hd
      omega
theorem pigeon8 {k : Nat} {g : Nat → Int} (h : ∀ i, i < k → (1 ≤ g i ∧ g i ≤ 8) ∧ ¬ hasP g (g i) i) : k ≤ 8 :=
  pigeon 8 k g (fun i hi => by have := (h i hi).1; omega) (fun i j hij hj he => (h j hj).2 ⟨i, hij, he⟩)
theorem knm_ne (m : Nat) (h1 : 1 ≤ m) (h8 : m ≤ 8) : (knm m).toList.isEmpty = false ∧ (knm m).toList ≠ [] := by
  have : m = 1 ∨ m = 2 ∨ m = 3 ∨ m = 4 ∨ m = 5 ∨ m = 6 ∨ m = 7 ∨ m = 8 := by omega
  rcases this with rfl | rfl | rfl | rfl | rfl | rfl | rfl | rfl <;> exact ⟨by decide +kernel, by decide +kernel⟩
end Go.Proofs.Ytlahjaakegdigaa
