/-
  Rule books: RulesOk, IsDecisive, SameRules of the program and the model; slices.Contains, slices.Equal.
-/
import Derived.Test.YtoingkchjiipgaaRulesImpl
import Derived.Test.YtoingkchjiipgaaOrdersImpl
set_option linter.unusedVariables false
namespace Go.Proofs.Ytoingkchjiipgaa
open Go.RowKit

theorem placeI_pos (g : Nat → Int) (x : Int) (r : Nat) : ∀ k, 0 ≤ placeI g x r k ↔ ∃ j, k ≤ j ∧ j < k + r ∧ g j = x := by
  induction r with
  | zero => intro k; unfold placeI; constructor
            · intro h; omega
            · rintro ⟨j, h1, h2, _⟩; omega
  | succ r ih =>
    intro k
    unfold placeI
    by_cases h : g k = x
    · rw [if_pos h]
      exact ⟨fun _ => ⟨k, Nat.le_refl _, by omega, h⟩, fun _ => by omega⟩
    · rw [if_neg h, ih (k + 1)]
      constructor
      · rintro ⟨j, h1, h2, h3⟩; exact ⟨j, by omega, by omega, h3⟩
      · rintro ⟨j, h1, h2, h3⟩
        refine ⟨j, ?_, by omega, h3⟩
        rcases Nat.lt_or_ge k j with h4 | h4
        · omega
        · obtain rfl : j = k := by omega
          exact absurd h3 h
theorem placeI_has (g : Nat → Int) (x : Int) (n : Nat) : 0 ≤ placeI g x n 0 ↔ hasP g x n := by
  rw [placeI_pos]
  constructor
  · rintro ⟨j, _, h2, h3⟩; exact ⟨j, by omega, h3⟩
  · rintro ⟨j, h2, h3⟩; exact ⟨j, by omega, by omega, h3⟩
theorem slicesContains_int (v : Value) (n : Nat) (g : Nat → Int) (x : Int) (R : Bool) (w : World) (hR : R = true ↔ hasP g x n) (h : IntRow w v n g) :
    Calls Try.prog 51 #[v, .int .i64 x] w fun e w' => e = .returned (.bool R) ∧ w = w' := by
  have H := Lib.hid (slicesIndex_int v n g x w h)
  have hp : R = decide (0 ≤ placeI g x n 0) := by
    rw [Bool.eq_iff_iff, hR, decide_eq_true_eq, placeI_has]
  generalize placeI g x n 0 = q at *
  subst hp
  clear h hR
  go_enter Try.func51, Try.ntmps51
  go_wp2_with (go_at_call 73; refine H.out.mono ?_; rintro e w' ⟨rfl, rfl⟩)
  go_ret
  exact ⟨rfl, rfl⟩
theorem rulesOk_impl (win draw loss : Int) (ag R : Bool) (v : Value) (n : Nat) (g : Nat → Int) (w : World) (hR : R = true ↔ rulesP win draw loss n g) (h : IntRow w v n g) :
    Calls Try.prog 69 #[.agg #[.int .i64 win, .int .i64 draw, .int .i64 loss, v, .bool ag]] w fun e w' => e = .returned (.bool R) ∧ Below w.heap.size w w' := by
  by_cases hasc : 0 ≤ loss ∧ loss ≤ draw ∧ draw ≤ win ∧ win ≤ 10
  · obtain ⟨h1, h2, h3, h4⟩ := hasc
    have g1 : decide (0 ≤ loss) = true := decide_eq_true h1
    have g2 : decide (loss ≤ draw) = true := decide_eq_true h2
    have g3 : decide (draw ≤ win) = true := decide_eq_true h3
    have g4 : decide (win ≤ 10) = true := decide_eq_true h4
    have hR' : R = true ↔ ladP n g := by
      rw [hR]; unfold rulesP
      exact ⟨fun h => h.2.2.2, fun h => ⟨by omega, by omega, by omega, h⟩⟩
    have C := Lib.hid (fun w1 h1 => isLadder_impl n g R v w1 hR' h1)
    have HW := Lib.hid h
    clear hR hR' h
    go_enter Try.func69, Try.ntmps69
    go_wp2_with fail
    refine (C.out _ (HW.out.below ((Below.refl _ w).alloc (Nat.le_refl _) _) (Nat.le_refl _))).mono ?_
    rintro e w1 ⟨rfl, b1⟩
    go_wp2
    go_ret
    exact ⟨rfl, ((Below.refl _ w).alloc (Nat.le_refl _) _).trans (b1.mono (by simp))⟩
  · have hf : R = false := by
      cases R with
      | false => rfl
      | true => obtain ⟨⟨_, h1⟩, ⟨_, h2⟩, ⟨h3, h4⟩, _⟩ := hR.1 rfl
                exact absurd ⟨h3, h4, h2, h1⟩ hasc
    subst hf
    clear hR
    have g0 : decide (0 ≤ loss) = false ∨ (decide (0 ≤ loss) = true ∧ decide (loss ≤ draw) = false) ∨ (decide (0 ≤ loss) = true ∧ decide (loss ≤ draw) = true ∧ decide (draw ≤ win) = false) ∨
        (decide (0 ≤ loss) = true ∧ decide (loss ≤ draw) = true ∧ decide (draw ≤ win) = true ∧ decide (win ≤ 10) = false) := by
      simp only [decide_eq_true_eq, decide_eq_false_iff_not]; omega
    clear hasc
    rcases g0 with g1 | ⟨g1, g2⟩ | ⟨g1, g2, g3⟩ | ⟨g1, g2, g3, g4⟩
    all_goals
      go_enter Try.func69, Try.ntmps69
      go_wp2
      go_ret
      exact ⟨rfl, (Below.refl _ w).alloc (Nat.le_refl _) _⟩
/-- five cells of a block that was made, later -/
theorem cells5 {w w2 : World} {t : TypeId} {a b c d f : Value} (h : Below (w.alloc (.cells #[a, b, c, d, f] t)).heap.size (w.alloc (.cells #[a, b, c, d, f] t)) w2) :
    w2.cell? ⟨w.heap.size, 0, none⟩ = some a ∧ w2.cell? ⟨w.heap.size, 1, none⟩ = some b ∧ w2.cell? ⟨w.heap.size, 2, none⟩ = some c ∧ w2.cell? ⟨w.heap.size, 3, none⟩ = some d ∧ w2.cell? ⟨w.heap.size, 4, none⟩ = some f := by
  have k : ∀ j, w2.cell? ⟨w.heap.size, j, none⟩ = #[a, b, c, d, f][j]? := fun j => by
    rw [h.cell (p := ⟨w.heap.size, j, none⟩) (by simp), cell_of_row _ w.heap.size j _ t (0, 0) (heap_alloc_new w _)]
  exact ⟨k 0, k 1, k 2, k 3, k 4⟩
theorem cells5_below {w w2 : World} {B : Nat} {a b c d f : Value} (k : w.cell? ⟨B, 0, none⟩ = some a ∧ w.cell? ⟨B, 1, none⟩ = some b ∧ w.cell? ⟨B, 2, none⟩ = some c ∧ w.cell? ⟨B, 3, none⟩ = some d ∧ w.cell? ⟨B, 4, none⟩ = some f) (h : Below w.heap.size w w2) :
    w2.cell? ⟨B, 0, none⟩ = some a ∧ w2.cell? ⟨B, 1, none⟩ = some b ∧ w2.cell? ⟨B, 2, none⟩ = some c ∧ w2.cell? ⟨B, 3, none⟩ = some d ∧ w2.cell? ⟨B, 4, none⟩ = some f := by
  have hb : B < w.heap.size := World.block_lt_of_cell? w _ k.1
  exact ⟨(h.cell (p := ⟨B, 0, none⟩) hb).trans k.1, (h.cell (p := ⟨B, 1, none⟩) hb).trans k.2.1, (h.cell (p := ⟨B, 2, none⟩) hb).trans k.2.2.1, (h.cell (p := ⟨B, 3, none⟩) hb).trans k.2.2.2.1, (h.cell (p := ⟨B, 4, none⟩) hb).trans k.2.2.2.2⟩
def decisiveP (win draw loss : Int) (n : Nat) (g : Nat → Int) : Prop := rulesP win draw loss n g ∧ hasP g 8 n
end Go.Proofs.Ytoingkchjiipgaa
