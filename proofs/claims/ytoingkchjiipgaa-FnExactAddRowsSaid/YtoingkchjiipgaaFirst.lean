/-
  The first index at which something holds; the list of all such indices. Plain facts.
-/
import Derived.Test.YtoingkchjiipgaaInts
set_option linter.unusedVariables false
namespace Go.Proofs.Ytoingkchjiipgaa
open Go.RowKit

/-- the first index from k on, of r more, where p holds; else -1 -/
def firstI (p : Nat → Bool) : Nat → Nat → Int
  | 0, _ => -1
  | r + 1, k => if p k = true then (k : Int) else firstI p r (k + 1)
theorem firstI_pos (p : Nat → Bool) (r : Nat) : ∀ k, 0 ≤ firstI p r k ↔ ∃ j, k ≤ j ∧ j < k + r ∧ p j = true := by
  induction r with
  | zero => intro k; unfold firstI; constructor
            · intro h; omega
            · rintro ⟨j, h1, h2, _⟩; omega
  | succ r ih =>
    intro k
    unfold firstI
    by_cases h : p k = true
    · rw [if_pos h]
      exact ⟨fun _ => ⟨k, Nat.le_refl _, by omega, h⟩, fun _ => by omega⟩
    · rw [if_neg h, ih (k + 1)]
      constructor
      · rintro ⟨j, h1, h2, h3⟩; exact ⟨j, by omega, by omega, h3⟩
      · rintro ⟨j, h1, h2, h3⟩
        refine ⟨j, ?_, by omega, h3⟩
        rcases Nat.lt_or_ge k j with h4 | h4
        · omega
        · obtain rfl : j = k := by omega
          exact absurd h3 h
theorem firstI_step {p : Nat → Bool} {k n : Nat} (h : k < n) : firstI p (n - k) k = if p k = true then (k : Int) else firstI p (n - (k + 1)) (k + 1) := by
  rw [show n - k = n - (k + 1) + 1 by omega]; rfl
theorem firstI_ge (p : Nat → Bool) (r : Nat) : ∀ k, firstI p r k = -1 ∨ (k : Int) ≤ firstI p r k ∧ firstI p r k < (k : Int) + r := by
  induction r with
  | zero => intro k; exact .inl rfl
  | succ r ih =>
    intro k
    unfold firstI
    by_cases h : p k = true
    · rw [if_pos h]; right; omega
    · rw [if_neg h]
      rcases ih (k + 1) with h1 | h1
      · exact .inl h1
      · right; omega
theorem firstI_congr {p q : Nat → Bool} (r : Nat) : ∀ k, (∀ i, k ≤ i → i < k + r → p i = q i) → firstI p r k = firstI q r k := by
  induction r with
  | zero => intro k _; rfl
  | succ r ih =>
    intro k h
    unfold firstI
    rw [h k (Nat.le_refl _) (by omega), ih (k + 1) fun i h1 h2 => h i (by omega) (by omega)]
/-- it is the first -/
theorem firstI_eq {p : Nat → Bool} (r : Nat) : ∀ k j, firstI p r k = (j : Nat) ↔ (k ≤ j ∧ j < k + r) ∧ p j = true ∧ ∀ i, k ≤ i → i < j → p i = false := by
  induction r with
  | zero => intro k j; unfold firstI; constructor
            · intro h; omega
            · rintro ⟨h, _⟩; omega
  | succ r ih =>
    intro k j
    unfold firstI
    by_cases h : p k = true
    · rw [if_pos h]
      constructor
      · intro e
        obtain rfl : k = j := by omega
        exact ⟨by omega, h, fun i h1 h2 => by omega⟩
      · rintro ⟨h1, h2, h3⟩
        by_cases e : k = j
        · rw [e]
        · have := h3 k (Nat.le_refl _) (by omega)
          rw [h] at this; cases this
    · rw [if_neg h, ih (k + 1) j]
      have hk : p k = false := by simpa using h
      constructor
      · rintro ⟨h1, h2, h3⟩
        refine ⟨by omega, h2, fun i h4 h5 => ?_⟩
        by_cases e : i = k
        · rw [e]; exact hk
        · exact h3 i (by omega) h5
      · rintro ⟨h1, h2, h3⟩
        have : k ≠ j := fun e => by rw [e] at hk; rw [hk] at h2; cases h2
        exact ⟨by omega, h2, fun i h4 h5 => h3 i (by omega) h5⟩
/-- the indices below k at which p holds, in order -/
def idxL (p : Nat → Bool) : Nat → List Int
  | 0 => []
  | k + 1 => if p k = true then idxL p k ++ [(k : Int)] else idxL p k
theorem idxL_yes {p : Nat → Bool} {k : Nat} (h : p k = true) : idxL p (k + 1) = idxL p k ++ [(k : Int)] := if_pos h
theorem idxL_no {p : Nat → Bool} {k : Nat} (h : p k = false) : idxL p (k + 1) = idxL p k := if_neg (by rw [h]; simp)
theorem idxL_len (p : Nat → Bool) : ∀ k, (idxL p k).length ≤ k := by
  intro k
  induction k with
  | zero => exact Nat.le_refl _
  | succ k ih =>
    unfold idxL
    split
    · simp; omega
    · omega
theorem idxL_congr {p q : Nat → Bool} : ∀ k, (∀ i, i < k → p i = q i) → idxL p k = idxL q k := by
  intro k
  induction k with
  | zero => intro _; rfl
  | succ k ih => intro h; unfold idxL; rw [h k (by omega), ih fun i hi => h i (by omega)]
/-- the call makes the numbers L in memory of its own -/
def IntsL (w : World) (L : List Int) (e : Ending) (w' : World) : Prop :=
  ∃ v, e = .returned v ∧ w'.ownsRow w.heap.size 3 1 v L.length (L.map (Value.int .i64)) ∧ Below w.heap.size w w'
theorem IntsL.made {w w' : World} {L : List Int} {e : Ending} (h : IntsL w L e w') (hl : L.length ≤ 9223372036854775807) :
    ∃ v, e = .returned v ∧ IntRow w' v L.length (getI L) ∧ (∃ xs, w'.ownsRow w.heap.size 3 1 v L.length xs) ∧ Below w.heap.size w w' := by
  obtain ⟨v, he, ho, hb⟩ := h
  exact ⟨v, he, IntRow.of_list ho (by omega), ⟨_, ho⟩, hb⟩
end Go.Proofs.Ytoingkchjiipgaa
