/-
  The model's making of a book: l07Book, MakeBook.
-/
import Derived.Test.YtoingkchjiipgaaSeasonMake2
import Derived.Test.YtoingkchjiipgaaFieldMake
import Derived.Test.YtoingkchjiipgaaAwait
set_option linter.unusedVariables false
namespace Go.Proofs.Ytoingkchjiipgaa
open Go.RowKit

/-- what the making of a book leaves alone behind block D -/
def BkFix (B : Nat) (a : Option Addr) (len cap : Nat) (g : Nat → Nat) (w0 : World) (D n : Nat) (vf : Value) (xf : List Value) (vl : Value) (LL : List Int) (vg : Value) (LG : List GameD) (w : World) : Prop :=
  Cur B a len cap g w ∧ w.ownsRow (w0.heap.size + 1) 113 3 vf n xf ∧ w.ownsRow (w0.heap.size + 1) 3 1 vl LL.length (LL.map (Value.int .i64)) ∧ w.ownsRow (w0.heap.size + 1) 36 5 vg LG.length (gcells LG) ∧
    w.heap[w0.heap.size]? = some (.cells #[.slice none 0 0, .int .i64 0, .int .i64 0, .int .i64 0, .slice none 0 0, .bool false, .slice none 0 0, .slice none 0 0, .slice none 0 0] 29 (0, 0)) ∧ w0.grownBy w (some B) ∧
    (B < w0.heap.size ∧ w0.heap.size < D ∧ D < w.heap.size ∧ (∀ k, vf.ownBlock = some k → k < D) ∧ (∀ k, vl.ownBlock = some k → k < D) ∧ (∀ k, vg.ownBlock = some k → k < D))
section
variable {B : Nat} {a : Option Addr} {len cap : Nat} {g : Nat → Nat} {w0 : World} {D n : Nat} {vf : Value} {xf : List Value} {vl : Value} {LL : List Int} {vg : Value} {LG : List GameD} {w w' : World}
theorem BkFix.below (h : BkFix B a len cap g w0 D n vf xf vl LL vg LG w) (hb : Below D w w') : BkFix B a len cap g w0 D n vf xf vl LL vg LG w' := by
  obtain ⟨h1, h2, h3, h4, h5, h6, h7, h8, h9, h10, h11, h12⟩ := h
  have hs := h6.size
  refine ⟨h1.belowW hb (by omega), owns_kept h2 hb h10, owns_kept h3 hb h11, owns_kept h4 hb h12, (hb.block _ h8).trans h5, ⟨hb.os.trans h6.os, hb.tape.trans h6.tape, hb.output.trans h6.output, Nat.le_trans hs hb.size, fun k hk hne => (hb.block k (by omega)).trans (h6.block k hk hne)⟩, h7, h8, Nat.lt_of_lt_of_le h9 hb.size, h10, h11, h12⟩
theorem BkFix.drawn (h : BkFix B a len cap g w0 D n vf xf vl LL vg LG w) (hc : Cur B a len cap g w') (hg : w.grownBy w' (some B)) : BkFix B a len cap g w0 D n vf xf vl LL vg LG w' := by
  obtain ⟨h1, h2, h3, h4, h5, h6, h7, h8, h9, h10, h11, h12⟩ := h
  have key : ∀ {e : TypeId} {size m : Nat} {v : Value} {xs : List Value}, w.ownsRow (w0.heap.size + 1) e size v m xs → v.ownBlock = none ∨ v.ownBlock ≠ some B := fun {e size m v xs} ho => by
    cases hv : v.ownBlock with
    | none => exact .inl rfl
    | some k => exact .inr fun e => by have := (ho.lt k hv).1; simp at e; omega
  exact ⟨hc, h2.kept hg (key h2), h3.kept hg (key h3), h4.kept hg (key h4), (hg.block _ (by omega) (by intro e; simp at e; omega)).trans h5, grown_trans h6 hg, h7, h8, Nat.lt_of_lt_of_le h9 hg.size, h10, h11, h12⟩
end
/-- and its box in block D, with two lists that grow -/
def BkBox (B : Nat) (a : Option Addr) (len cap : Nat) (g : Nat → Nat) (w0 : World) (D n : Nat) (vf : Value) (xf : List Value) (vl : Value) (LL : List Int) (vg : Value) (LG : List GameD) (win : Int) (ag : Bool) (vfa : Value) (F : List Int) (vta : Value) (T : List Int) (w : World) : Prop :=
  BkFix B a len cap g w0 D n vf xf vl LL vg LG w ∧ w.heap[D]? = some (.cells #[vf, .int .i64 win, .int .i64 1, .int .i64 0, vl, .bool ag, vg, vfa, vta] 29 (0, 0)) ∧
    w.ownsRow (D + 1) 3 1 vfa F.length (F.map (Value.int .i64)) ∧ w.ownsRow (D + 1) 3 1 vta T.length (T.map (Value.int .i64)) ∧ (∀ k, vfa.ownBlock = some k → vta.ownBlock ≠ some k)
section
variable {B : Nat} {a : Option Addr} {len cap : Nat} {g : Nat → Nat} {w0 : World} {D n : Nat} {vf : Value} {xf : List Value} {vl : Value} {LL : List Int} {vg : Value} {LG : List GameD} {win : Int} {ag : Bool} {vfa : Value} {F : List Int} {vta : Value} {T : List Int} {w w' : World}
theorem BkBox.below (h : BkBox B a len cap g w0 D n vf xf vl LL vg LG win ag vfa F vta T w) (hb : Below w.heap.size w w') : BkBox B a len cap g w0 D n vf xf vl LL vg LG win ag vfa F vta T w' := by
  obtain ⟨h1, h2, h3, h4, h5⟩ := h
  have hD : D < w.heap.size := (Array.getElem?_eq_some_iff.1 h2).1
  exact ⟨h1.below (hb.mono (by omega)), (hb.block D hD).trans h2, owns_below h3 hb (Nat.le_refl _), owns_below h4 hb (Nat.le_refl _), h5⟩
theorem BkBox.drawn (h : BkBox B a len cap g w0 D n vf xf vl LL vg LG win ag vfa F vta T w) (hc : Cur B a len cap g w') (hg : w.grownBy w' (some B)) : BkBox B a len cap g w0 D n vf xf vl LL vg LG win ag vfa F vta T w' := by
  obtain ⟨h1, h2, h3, h4, h5⟩ := h
  have hD : D < w.heap.size := (Array.getElem?_eq_some_iff.1 h2).1
  have h7 := h1.2.2.2.2.2.2.1
  have h8 := h1.2.2.2.2.2.2.2.1
  have key : ∀ {m : Nat} {v : Value} {xs : List Value}, w.ownsRow (D + 1) 3 1 v m xs → v.ownBlock = none ∨ v.ownBlock ≠ some B := fun {m v xs} ho => by
    cases hv : v.ownBlock with
    | none => exact .inl rfl
    | some k => exact .inr fun e => by have := (ho.lt k hv).1; simp at e; omega
  exact ⟨h1.drawn hc hg, (hg.block D hD (by intro e; simp at e; omega)).trans h2, h3.kept hg (key h3), h4.kept hg (key h4), h5⟩
theorem BkBox.cell (h : BkBox B a len cap g w0 D n vf xf vl LL vg LG win ag vfa F vta T w) (j : Nat) : w.cell? ⟨D, j, none⟩ = #[vf, .int .i64 win, .int .i64 1, .int .i64 0, vl, .bool ag, vg, vfa, vta][j]? := cell_of_row w D j _ _ (0, 0) h.2.1
theorem BkBox.free (h : BkBox B a len cap g w0 D n vf xf vl LL vg LG win ag vfa F vta T w) (j : Nat) : w.frozen? ⟨D, j, none⟩ = false := frozen_of_row w D j _ _ h.2.1
theorem BkBox.cur (h : BkBox B a len cap g w0 D n vf xf vl LL vg LG win ag vfa F vta T w) : Cur B a len cap g w := h.1.1
theorem BkBox.size (h : BkBox B a len cap g w0 D n vf xf vl LL vg LG win ag vfa F vta T w) : D + 1 ≤ w.heap.size := h.1.2.2.2.2.2.2.2.2.1
/-- behind an append to the one list: everything but that list is there -/
theorem BkBox.fair (h : BkBox B a len cap g w0 D n vf xf vl LL vg LG win ag vfa F vta T w) {x : Int} {v : Value} {gg : Nat} (ho : w'.ownsRow (D + 1) 3 1 v (F.length + 1) (F.map (Value.int .i64) ++ [.int .i64 x])) (hg : w.grownBy w' vfa.ownBlock)
    (hv : v.ownBlock = some gg) (hat : vfa.ownBlock = some gg ∨ w.heap.size ≤ gg) :
    (w'.cell? ⟨D, 7, none⟩ = some vfa ∧ w'.frozen? ⟨D, 7, none⟩ = false) ∧ BkBox B a len cap g w0 D n vf xf vl LL vg LG win ag v (F ++ [x]) vta T (w'.setCell ⟨D, 7, none⟩ v) := by
  obtain ⟨h1, h2, h3, h4, h5⟩ := h
  have hsz : D < w.heap.size := (Array.getElem?_eq_some_iff.1 h2).1
  have hb : Below (D + 1) w w' := (Below.refl _ _).grown hg (by omega) (fun k hk => (h3.lt k hk).1)
  have hD := (hb.block D (by omega)).trans h2
  have hgg : D + 1 ≤ gg := (ho.lt gg hv).1
  have h4' : w'.ownsRow (D + 1) 3 1 vta T.length (T.map (Value.int .i64)) := h4.kept hg (by
    cases hk : vta.ownBlock with
    | none => exact .inl rfl
    | some k => exact .inr fun e => h5 k e.symm hk)
  have key : ∀ {m : Nat} {u : Value} {xs : List Value}, w'.ownsRow (D + 1) 3 1 u m xs → (w'.setCell ⟨D, 7, none⟩ v).ownsRow (D + 1) 3 1 u m xs := fun {m u xs} ho => ho.kept (grown_set w' D 7 v) (by
    cases hk : u.ownBlock with
    | none => exact .inl rfl
    | some k => exact .inr fun e => by have := (ho.lt k hk).1; simp at e; omega)
  refine ⟨⟨by rw [cell_of_row w' D 7 _ _ (0, 0) hD]; rfl, frozen_of_row w' D 7 _ _ hD⟩, h1.below ((hb.mono (show D ≤ D + 1 by omega)).setCell (p := ⟨D, 7, none⟩) (Nat.le_refl D) _), by rw [heap_setCell_same w' D 7 _ _ _ hD]; rfl, by simpa using key ho, key h4', fun k hk e => ?_⟩
  rw [hv] at hk
  simp only [Option.some.injEq] at hk
  subst hk
  rcases hat with h6 | h6
  · exact h5 gg h6 e
  · have := (h4.lt gg e).2; omega
theorem BkBox.taken (h : BkBox B a len cap g w0 D n vf xf vl LL vg LG win ag vfa F vta T w) {x : Int} {v : Value} {gg : Nat} (ho : w'.ownsRow (D + 1) 3 1 v (T.length + 1) (T.map (Value.int .i64) ++ [.int .i64 x])) (hg : w.grownBy w' vta.ownBlock)
    (hv : v.ownBlock = some gg) (hat : vta.ownBlock = some gg ∨ w.heap.size ≤ gg) :
    (w'.cell? ⟨D, 8, none⟩ = some vta ∧ w'.frozen? ⟨D, 8, none⟩ = false) ∧ BkBox B a len cap g w0 D n vf xf vl LL vg LG win ag vfa F v (T ++ [x]) (w'.setCell ⟨D, 8, none⟩ v) := by
  obtain ⟨h1, h2, h3, h4, h5⟩ := h
  have hsz : D < w.heap.size := (Array.getElem?_eq_some_iff.1 h2).1
  have hb : Below (D + 1) w w' := (Below.refl _ _).grown hg (by omega) (fun k hk => (h4.lt k hk).1)
  have hD := (hb.block D (by omega)).trans h2
  have hgg : D + 1 ≤ gg := (ho.lt gg hv).1
  have h3' : w'.ownsRow (D + 1) 3 1 vfa F.length (F.map (Value.int .i64)) := h3.kept hg (by
    cases hk : vfa.ownBlock with
    | none => exact .inl rfl
    | some k => exact .inr fun e => h5 k hk e.symm)
  have key : ∀ {m : Nat} {u : Value} {xs : List Value}, w'.ownsRow (D + 1) 3 1 u m xs → (w'.setCell ⟨D, 8, none⟩ v).ownsRow (D + 1) 3 1 u m xs := fun {m u xs} ho => ho.kept (grown_set w' D 8 v) (by
    cases hk : u.ownBlock with
    | none => exact .inl rfl
    | some k => exact .inr fun e => by have := (ho.lt k hk).1; simp at e; omega)
  refine ⟨⟨by rw [cell_of_row w' D 8 _ _ (0, 0) hD]; rfl, frozen_of_row w' D 8 _ _ hD⟩, h1.below ((hb.mono (show D ≤ D + 1 by omega)).setCell (p := ⟨D, 8, none⟩) (Nat.le_refl D) _), by rw [heap_setCell_same w' D 8 _ _ _ hD]; rfl, key h3', by simpa using key ho, fun k hk e => ?_⟩
  rw [hv] at e
  simp only [Option.some.injEq] at e
  subst e
  rcases hat with h6 | h6
  · exact h5 gg hk h6
  · have := (h3.lt gg hk).2; omega
end
end Go.Proofs.Ytoingkchjiipgaa
