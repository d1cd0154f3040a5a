/-
  A block of cells that can be read and written: all of them told.
-/
import Derived.Test.YtoingkchjiipgaaRecs
set_option linter.unusedVariables false
namespace Go.Proofs.Ytoingkchjiipgaa
open Go.RowKit

/-- block B of w holds the cells cs, none of them frozen -/
def BoxF (w : World) (B : Nat) (cs : List Value) : Prop := B < w.heap.size ∧ ∀ j v, cs[j]? = some v → w.cell? ⟨B, j, none⟩ = some v ∧ w.frozen? ⟨B, j, none⟩ = false
theorem BoxF.made {u w2 : World} {cs : Array Value} {t : TypeId} {B : Nat} (h : Below (u.alloc (.cells cs t)).heap.size (u.alloc (.cells cs t)) w2) (hB : u.heap.size = B) : BoxF w2 B cs.toList :=
  ⟨(BoxN.made h hB).1, fun j v hv => ⟨(BoxN.made h hB).2 j v hv, BoxN.free h hB j⟩⟩
theorem BoxF.box {w : World} {B : Nat} {cs : List Value} (h : BoxF w B cs) : BoxN w B cs := ⟨h.1, fun j v hv => (h.2 j v hv).1⟩
theorem BoxF.below {w w' : World} {B : Nat} {cs : List Value} (h : BoxF w B cs) (hb : Below w.heap.size w w') : BoxF w' B cs :=
  ⟨Nat.lt_of_lt_of_le h.1 hb.size, fun j v hv => ⟨(hb.cell (p := ⟨B, j, none⟩) h.1).trans (h.2 j v hv).1, (hb.frozen (p := ⟨B, j, none⟩) h.1).trans (h.2 j v hv).2⟩⟩
theorem BoxF.set {w : World} {B : Nat} {cs : List Value} (h : BoxF w B cs) (j : Nat) (u : Value) (hj : j < cs.length) : BoxF (w.setCell ⟨B, j, none⟩ u) B (cs.set j u) := by
  refine ⟨by simpa [World.setCell] using h.1, fun i v hv => ?_⟩
  have hf : ∀ (i : Nat) (v0 : Value), cs[i]? = some v0 → (w.setCell ⟨B, j, none⟩ u).frozen? ⟨B, i, none⟩ = false := fun i v0 h0 => (World.frozen?_setCell _ _ _ _).trans (h.2 i v0 h0).2
  by_cases e : i = j
  · subst e
    obtain ⟨v0, h0⟩ : ∃ v0, cs[i]? = some v0 := ⟨_, List.getElem?_eq_getElem hj⟩
    rw [List.getElem?_set_self hj] at hv
    cases hv
    refine ⟨?_, hf i v0 h0⟩
    rw [World.cell?_setCell_same' _ _ _ (by rw [(h.2 i v0 h0).1]; rfl)]
  · rw [List.getElem?_set_ne (Ne.symm e)] at hv
    refine ⟨?_, hf i v hv⟩
    rw [World.cell?_setCell_other _ _ _ _ (by intro e2; simp only [Addr.mk.injEq] at e2; omega)]
    exact (h.2 i v hv).1
theorem BoxF.other {w : World} {B D : Nat} {cs : List Value} (h : BoxF w B cs) (j : Nat) (u : Value) (hD : B ≠ D) : BoxF (w.setCell ⟨D, j, none⟩ u) B cs := by
  refine ⟨by simpa [World.setCell] using h.1, fun i v hv => ⟨?_, (World.frozen?_setCell _ _ _ _).trans (h.2 i v hv).2⟩⟩
  rw [World.cell?_setCell_other _ _ _ _ (by intro e2; simp only [Addr.mk.injEq] at e2; omega)]
  exact (h.2 i v hv).1
theorem BoxN.elsewhere {w : World} {B D : Nat} {cs : List Value} (h : BoxN w B cs) (j : Nat) (u : Value) (hD : B ≠ D) : BoxN (w.setCell ⟨D, j, none⟩ u) B cs := by
  refine ⟨by simpa [World.setCell] using h.1, fun i v hv => ?_⟩
  rw [World.cell?_setCell_other _ _ _ _ (by intro e2; simp only [Addr.mk.injEq] at e2; omega)]
  exact h.2 i v hv
end Go.Proofs.Ytoingkchjiipgaa
