/-
  The model's making of a season: l01Pick, l04Season.
-/
import Derived.Test.YtoingkchjiipgaaGames
import Derived.Test.YtoingkchjiipgaaRulesMake
set_option linter.unusedVariables false
namespace Go.Proofs.Ytoingkchjiipgaa
open Go.RowKit

theorem l01Pick_any (B : Nat) (a : Option Addr) (len cap : Nat) (g : Nat → Nat) (v : Value) (n : Nat) (gl : Nat → Int) (w : World) (hc : Cur B a len cap g w) (h0 : 0 < n) (hn : n ≤ 256) (hv : IntRow w v n gl) (hB : v.ownBlock ≠ some B) :
    Calls Try.prog 67 #[.pointer (some ⟨B, 0, none⟩), v] w fun e w' => (∃ x : Nat, x < n ∧ e = .returned (.int .i64 (gl x))) ∧ Cur B a len cap g w' ∧ w.grownBy w' (some B) := by
  rcases hv with ⟨_, _, _, h⟩ | ⟨b, off, c, rfl, _, hn2, hcell, hcap⟩
  · omega
  have C := Lib.hid (l01Below_small B a len cap g n w hc h0 hn)
  have HC := Lib.hid hcell
  have hbB : some b ≠ some B := hB
  clear hc hcell hB
  go_enter Try.func67, Try.ntmps67
  go_wp2_with fail
  refine C.out.mono ?_
  rintro e w1 ⟨x, hx, rfl, c1, g1⟩
  have c0 := g1.cell (HC.out x hx) hbB
  have C1 := Lib.hid c1
  have G1 := Lib.hid g1
  clear c1 g1
  generalize hz : gl x = z at *
  have Hz := Lib.hid hz
  clear hz
  go_wp2
  go_ret
  exact ⟨⟨x, hx, by rw [Hz.out]; rfl⟩, C1.out, G1.out⟩

def gcells (L : List GameD) : List Value := L.flatMap GameD.cells
theorem gcells_push (L : List GameD) (x : GameD) : gcells (L ++ [x]) = gcells L ++ x.cells := by simp [gcells]
/-- what a round of the making holds of the world: out holds the games L -/
def SeaS (B : Nat) (a : Option Addr) (len cap : Nat) (g : Nat → Nat) (w0 : World) (out : Value) (L : List GameD) (w : World) : Prop :=
  Cur B a len cap g w ∧ w.ownsRow w0.heap.size 36 5 out L.length (gcells L) ∧ w0.grownBy w (some B) ∧ B < w0.heap.size
/-- and block D holds the cells cs -/
def SeaB (B : Nat) (a : Option Addr) (len cap : Nat) (g : Nat → Nat) (w0 : World) (out : Value) (L : List GameD) (D : Nat) (cs : Array Value) (w : World) : Prop :=
  SeaS B a len cap g w0 out L w ∧ w.heap[D]? = some (.cells cs 36 (0, 0)) ∧ w0.heap.size ≤ D ∧ out.ownBlock ≠ some D
section
variable {B : Nat} {a : Option Addr} {len cap : Nat} {g : Nat → Nat} {w0 : World} {out : Value} {L : List GameD} {D : Nat} {cs : Array Value} {w w' : World}
theorem SeaS.below (h : SeaS B a len cap g w0 out L w) (hb : Below w.heap.size w w') : SeaS B a len cap g w0 out L w' :=
  ⟨h.1.belowW hb (Nat.lt_of_lt_of_le h.2.2.2 h.2.2.1.size), owns_below h.2.1 hb (Nat.le_refl _), grown_to h.2.2.1 hb, h.2.2.2⟩
theorem SeaS.drawn (h : SeaS B a len cap g w0 out L w) (hc : Cur B a len cap g w') (hg : w.grownBy w' (some B)) : SeaS B a len cap g w0 out L w' := by
  refine ⟨hc, h.2.1.kept hg ?_, grown_trans h.2.2.1 hg, h.2.2.2⟩
  cases hv : out.ownBlock with
  | none => exact .inl rfl
  | some k => exact .inr fun e => by have := (h.2.1.lt k hv).1; have := h.2.2.2; simp at e; omega
theorem SeaB.drawn (h : SeaB B a len cap g w0 out L D cs w) (hc : Cur B a len cap g w') (hg : w.grownBy w' (some B)) : SeaB B a len cap g w0 out L D cs w' := by
  have hD : D < w.heap.size := (Array.getElem?_eq_some_iff.1 h.2.1).1
  exact ⟨h.1.drawn hc hg, (hg.block D hD (by intro e; have := h.2.2.1; have := h.1.2.2.2; simp at e; omega)).trans h.2.1, h.2.2⟩
theorem SeaB.below (h : SeaB B a len cap g w0 out L D cs w) (hb : Below w.heap.size w w') : SeaB B a len cap g w0 out L D cs w' := by
  have hD : D < w.heap.size := (Array.getElem?_eq_some_iff.1 h.2.1).1
  exact ⟨h.1.below hb, (hb.block D hD).trans h.2.1, h.2.2⟩
theorem SeaB.start (h : SeaS B a len cap g w0 out L w) (cs : Array Value) : SeaB B a len cap g w0 out L w.heap.size cs (w.alloc (.cells cs 36)) := by
  refine ⟨h.below ((Below.refl _ _).alloc (Nat.le_refl _) _), heap_alloc_new w _, h.2.2.1.size, fun e => ?_⟩
  have := (h.2.1.lt _ e).2
  omega
theorem SeaB.set (h : SeaB B a len cap g w0 out L D cs w) (j : Nat) (u : Value) : SeaB B a len cap g w0 out L D (cs.setIfInBounds j u) (w.setCell ⟨D, j, none⟩ u) := by
  obtain ⟨⟨h1, h2, h3, h4⟩, h5, h6, h7⟩ := h
  have hs := h3.size
  refine ⟨⟨h1.belowW (base := w0.heap.size) ((Below.refl _ _).setCell h6 _) h4, h2.kept (grown_set w D j u) (.inr h7), ⟨h3.os, h3.tape, h3.output, by simpa [World.setCell] using hs, fun k hk hne => ?_⟩, h4⟩, ?_, h6, h7⟩
  · rw [Below.heap_setCell _ _ _ _ (by show k ≠ D; omega)]; exact h3.block k hk hne
  · rw [heap_setCell_same w D j _ _ _ h5]
theorem SeaB.cur (h : SeaB B a len cap g w0 out L D cs w) : Cur B a len cap g w := h.1.1
theorem SeaB.cell (h : SeaB B a len cap g w0 out L D cs w) (j : Nat) : w.cell? ⟨D, j, none⟩ = cs[j]? := cell_of_row w D j _ _ (0, 0) h.2.1
theorem SeaB.free (h : SeaB B a len cap g w0 out L D cs w) (j : Nat) : w.frozen? ⟨D, j, none⟩ = false := frozen_of_row w D j _ _ h.2.1
/-- the game in the block is appended -/
theorem SeaB.push {x : GameD} {v : Value} (h : SeaB B a len cap g w0 out L D x.cells.toArray w) (ho : w'.ownsRow w0.heap.size 36 5 v (L.length + 1) (gcells L ++ x.cells)) (hg : w.grownBy w' out.ownBlock) :
    SeaS B a len cap g w0 v (L ++ [x]) w' := by
  obtain ⟨⟨h1, h2, h3, h4⟩, _⟩ := h
  have hs := h3.size
  have hb : Below w0.heap.size w w' := (Below.refl _ _).grown hg hs (fun k hk => (h2.lt k hk).1)
  refine ⟨h1.belowW hb h4, ?_, ⟨hb.os.trans h3.os, hb.tape.trans h3.tape, hb.output.trans h3.output, Nat.le_trans hs hb.size, fun k hk hne => (hb.block k hk).trans (h3.block k hk hne)⟩, h4⟩
  rw [gcells_push]
  simpa using ho
end
/-- the games drawn so far: those of pairs before (lo, hi), each once; m are open -/
def SeaL (lo hi : Int) (L : List GameD) (m : Nat) : Prop :=
  (∀ t ∈ L, ((t.home < t.away ∧ 0 ≤ t.home ∧ (t.away < hi ∨ (t.away = hi ∧ t.home < lo))) ∨ (t.away < t.home ∧ 0 ≤ t.away ∧ (t.home < hi ∨ (t.home = hi ∧ t.away < lo)))) ∧
    (0 ≤ t.st ∧ t.st ≤ 4) ∧ ((t.st = 1 ∧ (0 ≤ t.hg ∧ t.hg ≤ 3) ∧ (0 ≤ t.ag ∧ t.ag ≤ 3)) ∨ (t.st ≠ 1 ∧ t.hg = 0 ∧ t.ag = 0))) ∧
  L.Pairwise (fun s t => ¬ (s.home = t.home ∧ s.away = t.away) ∧ ¬ (s.home = t.away ∧ s.away = t.home)) ∧ (L.filter fun t => t.st == 0).length = m ∧ (0 < lo ∨ 1 < hi → L ≠ [])
theorem SeaL.next {lo hi : Int} {L : List GameD} {m : Nat} {x : GameD} (h : SeaL lo hi L m) (h0 : 0 ≤ lo) (h1 : lo < hi) (hx : (x.home = lo ∧ x.away = hi) ∨ (x.home = hi ∧ x.away = lo)) (hst : 0 ≤ x.st ∧ x.st ≤ 4)
    (hg : (x.st = 1 ∧ (0 ≤ x.hg ∧ x.hg ≤ 3) ∧ (0 ≤ x.ag ∧ x.ag ≤ 3)) ∨ (x.st ≠ 1 ∧ x.hg = 0 ∧ x.ag = 0)) : SeaL (lo + 1) hi (L ++ [x]) (m + if x.st = 0 then 1 else 0) := by
  obtain ⟨ha, hp, hc, _⟩ := h
  refine ⟨fun t ht => ?_, ?_, ?_, fun _ => by simp⟩
  · rw [List.mem_append, List.mem_singleton] at ht
    rcases ht with ht | rfl
    · obtain ⟨k1, k2, k3⟩ := ha t ht
      exact ⟨by omega, k2, k3⟩
    · exact ⟨by omega, hst, hg⟩
  · rw [List.pairwise_append]
    refine ⟨hp, List.pairwise_singleton _ _, fun s hs t ht => ?_⟩
    rw [List.mem_singleton] at ht
    subst ht
    have := (ha s hs).1
    omega
  · rw [List.filter_append, List.length_append, hc]
    congr 1
    by_cases e : x.st = 0 <;> simp [e]
theorem SeaL.row {hi : Int} {L : List GameD} {m : Nat} (h : SeaL hi hi L m) : SeaL 0 (hi + 1) L m := by
  obtain ⟨ha, hp, hc, hq⟩ := h
  exact ⟨fun t ht => by obtain ⟨k1, k2, k3⟩ := ha t ht; exact ⟨by omega, k2, k3⟩, hp, hc, fun h => hq (.inl (by omega))⟩
def SeaMade (B : Nat) (a : Option Addr) (len cap : Nat) (g : Nat → Nat) (n opn : Nat) (w : World) (e : Ending) (w' : World) : Prop :=
  ∃ v L m, e = .returned v ∧ SeaL 0 n L m ∧ m ≤ opn ∧ L.length ≤ 8 * n ∧ w'.ownsRow w.heap.size 36 5 v L.length (gcells L) ∧ Cur B a len cap g w' ∧ w.grownBy w' (some B)
def pickG (i : Nat) : Int := match i with | 6 => 2 | 7 => 3 | 8 => 4 | _ => 1
theorem pickG_in (i : Nat) (h : i < 9) : 1 ≤ pickG i ∧ pickG i ≤ 4 := by
  have : i = 0 ∨ i = 1 ∨ i = 2 ∨ i = 3 ∨ i = 4 ∨ i = 5 ∨ i = 6 ∨ i = 7 ∨ i = 8 := by omega
  rcases this with rfl | rfl | rfl | rfl | rfl | rfl | rfl | rfl | rfl <;> decide
end Go.Proofs.Ytoingkchjiipgaa
