/-
  For the walks of exact laws (tools/exact.py writes them): what is kept of boxes, slices and owned rows while the law goes on.
-/
import Derived.Test.YtlahjaakegdigaaKit
import Derived.Test.YtlahjaakegdigaaInts
set_option linter.unusedVariables false
namespace Go.Proofs.Ytlahjaakegdigaa
open Go.RowKit

/-- block B holds the cells cs -/
def BoxN (w : World) (B : Nat) (cs : List Value) : Prop := B < w.heap.size ∧ ∀ j v, cs[j]? = some v → w.cell? ⟨B, j, none⟩ = some v
theorem BoxN.below {w w' : World} {B : Nat} {cs : List Value} (h : BoxN w B cs) (hb : Below w.heap.size w w') : BoxN w' B cs :=
  ⟨Nat.lt_of_lt_of_le h.1 hb.size, fun j v hv => (hb.cell (p := ⟨B, j, none⟩) h.1).trans (h.2 j v hv)⟩
theorem BoxN.made {u w2 : World} {cs : Array Value} {t : TypeId} {B : Nat} (h : Below (u.alloc (.cells cs t)).heap.size (u.alloc (.cells cs t)) w2) (hB : u.heap.size = B) : BoxN w2 B cs.toList := by
  subst hB
  refine ⟨Nat.lt_of_lt_of_le (by simp) h.size, fun j v hv => ?_⟩
  rw [h.cell (p := ⟨u.heap.size, j, none⟩) (by simp), cell_of_row _ u.heap.size j _ t (0, 0) (heap_alloc_new u _)]
  simpa using hv
theorem below_prev {u w2 : World} {o : Obj} (h : Below (u.alloc o).heap.size (u.alloc o) w2) : Below u.heap.size u w2 :=
  ((Below.refl _ _).alloc (Nat.le_refl _) _).trans (h.mono (by simp))
/-- w' is w but for blocks from lo up to hi -/
structure Touch (lo hi : Nat) (w w' : World) : Prop where
  os : w'.os = w.os
  tape : w'.tape = w.tape
  output : w'.output = w.output
  size : w.heap.size ≤ w'.heap.size
  block : ∀ k, k < w.heap.size → (k < lo ∨ hi ≤ k) → w'.heap[k]? = w.heap[k]?
theorem Touch.refl (lo hi : Nat) (w : World) : Touch lo hi w w := ⟨rfl, rfl, rfl, Nat.le_refl _, fun _ _ _ => rfl⟩
theorem Touch.trans {lo hi : Nat} {a b c : World} (h : Touch lo hi a b) (k : Touch lo hi b c) : Touch lo hi a c :=
  ⟨k.os.trans h.os, k.tape.trans h.tape, k.output.trans h.output, Nat.le_trans h.size k.size, fun i hi ho => (k.block i (Nat.lt_of_lt_of_le hi h.size) ho).trans (h.block i hi ho)⟩
theorem Touch.of_below {lo hi : Nat} {w w' : World} (h : Below w.heap.size w w') : Touch lo hi w w' := ⟨h.os, h.tape, h.output, h.size, fun k hk _ => h.block k hk⟩
theorem Touch.below {lo hi B : Nat} {w w' : World} (h : Touch lo hi w w') (hB : B ≤ lo) (hs : B ≤ w.heap.size) : Below B w w' := ⟨h.os, h.tape, h.output, h.size, fun k hk => h.block k (by omega) (.inl (by omega))⟩
theorem Touch.grown {lo hi : Nat} {w w' : World} {row : Option Nat} (h : w.grownBy w' row) (hr : ∀ k, row = some k → lo ≤ k ∧ k < hi) : Touch lo hi w w' :=
  ⟨h.os, h.tape, h.output, h.size, fun k hk ho => h.block k hk (fun e => by have := hr k e.symm; omega)⟩
theorem BoxN.touch {lo hi : Nat} {w w' : World} {B : Nat} {cs : List Value} (h : BoxN w B cs) (t : Touch lo hi w w') (ho : B < lo ∨ hi ≤ B) : BoxN w' B cs :=
  ⟨Nat.lt_of_lt_of_le h.1 t.size, fun j v hv => (World.cell?_of_block (w := w) (a := ⟨B, j, none⟩) (t.block B h.1 ho)).trans (h.2 j v hv)⟩
theorem BoxN.free {u w2 : World} {cs : Array Value} {t : TypeId} {B : Nat} (h : Below (u.alloc (.cells cs t)).heap.size (u.alloc (.cells cs t)) w2) (hB : u.heap.size = B) (j : Nat) : w2.frozen? ⟨B, j, none⟩ = false := by
  subst hB
  rw [h.frozen (p := ⟨u.heap.size, j, none⟩) (by simp)]
  exact frozen_of_row _ u.heap.size j _ t (heap_alloc_new u _)
theorem Touch.setCell {lo hi : Nat} {a w : World} (h : Touch lo hi a w) (p : Addr) (u : Value) (h1 : lo ≤ p.block) (h2 : p.block < hi) : Touch lo hi a (w.setCell p u) :=
  h.trans ⟨rfl, rfl, rfl, by simp [World.setCell], fun k _ ho => Below.heap_setCell _ _ _ _ (by omega)⟩
/-- the slice v lies in blocks from lo up to hi -/
def InW (lo hi : Nat) (v : Value) : Prop := ∀ k, v.ownBlock = some k → lo ≤ k ∧ k < hi
theorem InW.of_owns {w : World} {base : Nat} {e : TypeId} {size : Nat} {v : Value} {n : Nat} {xs : List Value} (h : w.ownsRow base e size v n xs) : InW base w.heap.size v := h.lt
theorem InW.mono {lo hi lo' hi' : Nat} {v : Value} (h : InW lo hi v) (h1 : lo' ≤ lo) (h2 : hi ≤ hi') : InW lo' hi' v := fun k hk => by have := h k hk; omega
theorem InW.nat {hi : Nat} {v : Value} {w : World} {n : Nat} {g : Nat → Int} (h : IntRow w v n g) (h0 : 0 < n) (hs : w.heap.size ≤ hi) : InW 0 hi v := by
  rcases h with ⟨_, _, _, rfl⟩ | ⟨b, off, cap, rfl, _, _, hc, _⟩
  · omega
  · intro k hk
    have := World.block_lt_of_cell? w _ (hc 0 h0)
    simp only [Value.ownBlock, Option.some.injEq] at hk
    subst hk
    exact ⟨Nat.zero_le _, Nat.lt_of_lt_of_le this hs⟩
theorem owns_touch {lo hi lo' hi' : Nat} {w w' : World} {base : Nat} {e : TypeId} {size : Nat} {v : Value} {n : Nat} {xs : List Value} (h : w.ownsRow base e size v n xs) (t : Touch lo hi w w') (hv : InW lo' hi' v) (ho : hi' ≤ lo ∨ hi ≤ lo') : w'.ownsRow base e size v n xs := by
  refine ⟨h.1, ?_⟩
  rcases h.2 with hn | ⟨g, cap, cur, rfl, hbg, hgg, rest⟩
  · exact .inl hn
  · have := hv g rfl
    exact .inr ⟨g, cap, cur, rfl, hbg, (t.block g (Array.getElem?_eq_some_iff.1 hgg).1 (by omega)).trans hgg, rest⟩
theorem IntRow.touch {lo hi lo' hi' : Nat} {w w' : World} {v : Value} {n : Nat} {g : Nat → Int} (h : IntRow w v n g) (t : Touch lo hi w w') (hv : 0 < n → InW lo' hi' v) (ho : hi' ≤ lo ∨ hi ≤ lo') : IntRow w' v n g := by
  rcases h with h | ⟨b, off, cap, rfl, h0, h2, h3, h4⟩
  · exact .inl h
  · have := hv h0 b rfl
    exact .inr ⟨b, off, cap, rfl, h0, h2, fun i hi => (World.cell?_of_block (w := w) (a := ⟨b, off + i, none⟩) (t.block b (World.block_lt_of_cell? w _ (h3 i hi)) (by omega))).trans (h3 i hi), h4⟩
/-- a slice of n ints with g, in memory of the call's own from base on -/
def SzPost (c : Nat) (left : Int) (w : World) (e : Ending) (w' : World) : Prop := (∃ r : Int, e = .returned (.int .i64 r) ∧ (r < 0 ∨ (0 ≤ r ∧ (c : Int) + r = left))) ∧ Below w.heap.size w w'
end Go.Proofs.Ytlahjaakegdigaa
