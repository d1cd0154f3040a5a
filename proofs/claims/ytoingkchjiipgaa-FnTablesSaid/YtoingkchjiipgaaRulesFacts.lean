/-
  Plain facts of drawn rules.
-/
import Derived.Test.YtoingkchjiipgaaRulesMake
import Derived.Test.YtoingkchjiipgaaFaultOf
import Derived.Test.YtoingkchjiipgaaSameRules
import Derived.Test.YtoingkchjiipgaaUsualRules
set_option linter.unusedVariables false
namespace Go.Proofs.Ytoingkchjiipgaa
open Go.RowKit

theorem getI_zero {K : List Int} (h : drawnL K) : getI K 0 = 1 := by
  obtain ⟨h1, _, _⟩ := h
  cases K with
  | nil => simp at h1
  | cons x l => simp at h1; simp [getI, h1]
theorem drawn_pos {K : List Int} (h : drawnL K) : 0 < K.length := by
  obtain ⟨h1, _, _⟩ := h
  cases K with
  | nil => simp at h1
  | cons x l => simp
theorem drawn_in {K : List Int} (h : drawnL K) (i : Nat) (hi : i < K.length) : 1 ≤ getI K i ∧ getI K i ≤ 7 := by
  by_cases h0 : i = 0
  · subst h0; rw [getI_zero h]; omega
  · have := h.2.1 i (by omega) hi; omega
theorem lad_drawn {K : List Int} (h : drawnL K) (hl : K.length ≤ 4) : ladP K.length (getI K) :=
  ⟨by have := drawn_pos h; omega, fun i hi => ⟨by have := drawn_in h i hi; omega, fun ⟨j, hj, he⟩ => h.2.2 j i hj hi he⟩⟩
theorem lad_full {K : List Int} (h : drawnL K) (hl : K.length ≤ 4) : ladP (K.length + 1) (getI (K ++ [8])) := by
  refine ⟨by omega, fun i hi => ?_⟩
  by_cases e : i = K.length
  · subst e
    rw [getI_last]
    refine ⟨by omega, fun ⟨j, hj, he⟩ => ?_⟩
    rw [getI_left _ _ _ hj] at he
    have := drawn_in h j hj; omega
  · rw [getI_left _ _ _ (by omega)]
    refine ⟨by have := drawn_in h i (by omega); omega, fun ⟨j, hj, he⟩ => ?_⟩
    rw [getI_left _ _ _ (by omega)] at he
    exact h.2.2 j i hj (by omega) he
theorem good_rules {win : Int} {K : List Int} (hw : win = 2 ∨ win = 3) (h : drawnL K) (hl : K.length ≤ 4) : rulesP win 1 0 (K.length + 1) (getI (K ++ [8])) :=
  ⟨by omega, by omega, by omega, lad_full h hl⟩
theorem good_decisive {win : Int} {K : List Int} (hw : win = 2 ∨ win = 3) (h : drawnL K) (hl : K.length ≤ 4) : decisiveP win 1 0 (K.length + 1) (getI (K ++ [8])) :=
  ⟨good_rules hw h hl, K.length, by omega, getI_last K 8⟩
theorem good_fault {win : Int} {K : List Int} (hw : win = 2 ∨ win = 3) (h : drawnL K) (hl : K.length ≤ 4) : faultP win 1 0 (K.length + 1) (getI (K ++ [8])) ⟨#[110, 111, 110, 101]⟩ :=
  .inr (.inr (.inr (.inr (.inr ⟨good_rules hw h hl, by omega, (good_decisive hw h hl).2, getI_last K 8, ⟨0, by omega, by rw [getI_left _ _ _ (drawn_pos h)]; exact getI_zero h, fun i hi => by omega⟩, rfl⟩))))
theorem cut_fault {win : Int} {K : List Int} (hw : win = 2 ∨ win = 3) (h : drawnL K) (hl : K.length ≤ 4) : faultP win 1 0 K.length (getI K) ⟨#[117, 110, 100, 101, 99, 105, 100, 101, 100]⟩ :=
  .inr (.inr (.inl ⟨⟨by omega, by omega, by omega, lad_drawn h hl⟩, by omega, fun ⟨j, hj, he⟩ => by have := drawn_in h j hj; omega, rfl⟩))
theorem twice_fault {win : Int} {K : List Int} (h : drawnL K) : faultP win 1 0 (K.length + 1 + 1) (getI (K ++ [8] ++ [1])) ⟨#[105, 110, 118, 97, 108, 105, 100]⟩ := by
  refine .inl ⟨fun hr => ?_, rfl⟩
  have hl : (K ++ [8]).length = K.length + 1 := by simp
  have h1 := (hr.2.2.2.2 (K.length + 1) (by omega)).2
  apply h1
  refine ⟨0, by omega, ?_⟩
  have e1 : getI (K ++ [8] ++ [1]) (K.length + 1) = 1 := by rw [← hl]; exact getI_last (K ++ [8]) 1
  rw [e1, getI_left _ _ _ (by simp), getI_left _ _ _ (drawn_pos h)]
  exact getI_zero h
theorem flat_fault {K : List Int} (h : drawnL K) (hl : K.length ≤ 4) : faultP 0 0 0 (K.length + 1) (getI (K ++ [8])) ⟨#[112, 111, 105, 110, 116, 108, 101, 115, 115]⟩ :=
  .inr (.inl ⟨⟨by omega, by omega, by omega, lad_full h hl⟩, rfl, rfl⟩)
theorem usual_fault : faultP 3 1 0 6 usualG ⟨#[110, 111, 110, 101]⟩ := by
  have e0 : usualG 0 = 1 := rfl
  have e1 : usualG 1 = 5 := rfl
  have e2 : usualG 2 = 6 := rfl
  have e3 : usualG 3 = 2 := rfl
  have e4 : usualG 4 = 3 := rfl
  have e5 : usualG 5 = 8 := rfl
  refine .inr (.inr (.inr (.inr (.inr ⟨⟨by omega, by omega, by omega, by omega, fun i hi => ?_⟩, by omega, ⟨5, by omega, rfl⟩, rfl, ⟨0, by omega, rfl, fun i hi => by omega⟩, rfl⟩))))
  have hi' : i = 0 ∨ i = 1 ∨ i = 2 ∨ i = 3 ∨ i = 4 ∨ i = 5 := by omega
  refine ⟨by rcases hi' with rfl | rfl | rfl | rfl | rfl | rfl <;> omega, fun ⟨j, hj, he⟩ => ?_⟩
  have hj' : j = 0 ∨ j = 1 ∨ j = 2 ∨ j = 3 ∨ j = 4 := by omega
  rcases hi' with rfl | rfl | rfl | rfl | rfl | rfl <;> rcases hj' with rfl | rfl | rfl | rfl | rfl <;> omega
theorem twice_cells (K : List Int) : ∀ i, i < K.length + 1 + 1 → (((List.range (K.length + 1)).map fun j => Value.int .i64 (getI (K ++ [8]) j)) ++ [Value.int .i64 1])[i]? = some (.int .i64 (getI (K ++ [8] ++ [1]) i)) := by
  intro i hi
  by_cases e : i = K.length + 1
  · subst e
    have hl : (K ++ [8]).length = K.length + 1 := by simp
    have e1 : getI (K ++ [8] ++ [1]) (K.length + 1) = 1 := by rw [← hl]; exact getI_last (K ++ [8]) 1
    rw [e1, List.getElem?_append_right (by simp)]
    simp
  · rw [getI_left _ _ _ (by simp; omega), List.getElem?_append_left (by simp; omega)]
    rw [List.getElem?_map, List.getElem?_range (by omega)]
    rfl
theorem BoxN.belowB {w w' : World} {B base : Nat} {cs : List Value} (h : BoxN w B cs) (hb : Below base w w') (hB : B < base) : BoxN w' B cs :=
  ⟨Nat.lt_of_lt_of_le h.1 hb.size, fun j v hv => (hb.cell (p := ⟨B, j, none⟩) hB).trans (h.2 j v hv)⟩
theorem row_cell {w : World} {b m c : Nat} {g : Nat → Int} (h : IntRow w (.slice (some ⟨b, 0, none⟩) m c) m g) (j : Nat) (hj : j < m) : w.cell? ⟨b, j, none⟩ = some (.int .i64 (g j)) := by
  rcases h with ⟨_, _, _, h1⟩ | ⟨b', off, c', he, _, _, hc, _⟩
  · omega
  · simp only [Value.slice.injEq, Option.some.injEq, Addr.mk.injEq, and_true] at he
    obtain ⟨⟨rfl, rfl⟩, _⟩ := he
    simpa using hc j hj
theorem key_one : keyOf (knm 1) 8 1 = 1 := if_pos rfl
theorem not_same {win win' a b c d : Int} {ag : Bool} {K : List Int} : ¬ sameP win a b ag (K.length + 1) (getI (K ++ [8])) win' c d ag K.length (getI K) := fun h => by
  have := h.2.1; omega
theorem BoxN.set {w : World} {B : Nat} {cs : List Value} (h : BoxN w B cs) (j : Nat) (v : Value) : BoxN (w.setCell ⟨B, j, none⟩ v) B (cs.set j v) := by
  refine ⟨by simpa [World.setCell] using h.1, fun i u hu => ?_⟩
  by_cases e : i = j
  · subst e
    by_cases hi : i < cs.length
    · rw [List.getElem?_set_self hi] at hu
      rw [World.cell?_setCell_same' _ _ _ (by rw [h.2 i _ (List.getElem?_eq_getElem hi)]; rfl)]
      exact hu
    · rw [List.getElem?_eq_none (by simp; omega)] at hu; cases hu
  · rw [List.getElem?_set_ne (by omega)] at hu
    rw [World.cell?_setCell_other _ _ _ _ (by intro e2; simp only [Addr.mk.injEq] at e2; omega)]
    exact h.2 i u hu
theorem BoxN.other {w : World} {B D : Nat} {cs : List Value} (h : BoxN w B cs) (j : Nat) (v : Value) (hne : B ≠ D) : BoxN (w.setCell ⟨D, j, none⟩ v) B cs := by
  refine ⟨by simpa [World.setCell] using h.1, fun i u hu => ?_⟩
  rw [World.cell?_setCell_other _ _ _ _ (by intro e2; simp only [Addr.mk.injEq] at e2; omega)]
  exact h.2 i u hu
theorem IntRow.setOther {w : World} {D : Nat} {v : Value} {n : Nat} {g : Nat → Int} (h : IntRow w v n g) (j : Nat) (u : Value) (hne : v.ownBlock ≠ some D) : IntRow (w.setCell ⟨D, j, none⟩ u) v n g := by
  rcases h with h | ⟨b, off, cap, rfl, h0, h2, h3, h4⟩
  · exact .inl h
  · have hbD : b ≠ D := fun e => hne (by simp [Value.ownBlock, e])
    exact .inr ⟨b, off, cap, rfl, h0, h2, fun i hi => by rw [World.cell?_setCell_other _ _ _ _ (by intro e2; simp only [Addr.mk.injEq] at e2; omega)]; exact h3 i hi, h4⟩
end Go.Proofs.Ytoingkchjiipgaa
