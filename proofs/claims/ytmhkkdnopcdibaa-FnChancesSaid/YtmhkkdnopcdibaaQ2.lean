/-
  Packed: Recs, BoxF, Mat, Draw1, Marks.
-/
import Derived.BigRegion
import Derived.Test.YtmhkkdnopcdibaaProg
import Derived.WalkKit
import Derived.BigQuiet
import Derived.Deep.QuietTactic
import Derived.Lib.Hide
import Derived.Deep.RegionHeld3
import Derived.Outline
import Derived.Test.YtmhkkdnopcdibaaQ1
set_option linter.unusedVariables false
namespace Go.Proofs.Ytmhkkdnopcdibaa
open Go.RowKit

def CellsAt (w : World) (b o : Nat) (cs : List Value) : Prop := b < w.heap.size ∧ ∀ j u, cs[j]? = some u → w.cell? ⟨b, o + j, none⟩ = some u
theorem CellsAt.below {w w' : World} {b o : Nat} {cs : List Value} (h : CellsAt w b o cs) (hb : Below w.heap.size w w') : CellsAt w' b o cs :=
  ⟨Nat.lt_of_lt_of_le h.1 hb.size, fun j u hu => (hb.cell (p := ⟨b, o + j, none⟩) h.1).trans (h.2 j u hu)⟩
theorem CellsAt.belowB {w w' : World} {b o base : Nat} {cs : List Value} (h : CellsAt w b o cs) (hb : Below base w w') (hB : b < base) : CellsAt w' b o cs :=
  ⟨Nat.lt_of_lt_of_le h.1 hb.size, fun j u hu => (hb.cell (p := ⟨b, o + j, none⟩) hB).trans (h.2 j u hu)⟩
def RecRow (k : Nat) (w : World) (v : Value) (n : Nat) (g : Nat → List Value) : Prop :=
  (∃ a cap, v = .slice a 0 cap ∧ n = 0) ∨ ∃ b off cap, v = .slice (some ⟨b, off, none⟩) n cap ∧ 0 < n ∧ n ≤ 9223372036854775807 ∧ (∀ i, i < n → CellsAt w b (off + i * k) (g i)) ∧ n ≤ cap
section
variable {k : Nat} {w w' : World} {v : Value} {n : Nat} {g : Nat → List Value}
theorem RecRow.form (h : RecRow k w v n g) : ∃ a cap, v = .slice a n cap ∧ n ≤ 9223372036854775807 ∧ (0 < n → ∃ b off, a = some ⟨b, off, none⟩ ∧ n ≤ cap ∧ ∀ i, i < n → CellsAt w b (off + i * k) (g i)) := by
  rcases h with ⟨a, cap, rfl, rfl⟩ | ⟨b, off, cap, rfl, _, hn, hc, hcap⟩
  · exact ⟨_, _, rfl, by omega, fun h => absurd h (by omega)⟩
  · exact ⟨_, _, rfl, hn, fun _ => ⟨b, off, rfl, hcap, hc⟩⟩
theorem RecRow.below {B : Nat} (h : RecRow k w v n g) (hb : Below B w w') (hB : w.heap.size ≤ B) : RecRow k w' v n g := by
  rcases h with h | ⟨b, off, cap, h1, h0, h2, h3, h4⟩
  · exact .inl h
  · exact .inr ⟨b, off, cap, h1, h0, h2, fun i hi => (h3 i hi).belowB hb (Nat.lt_of_lt_of_le (h3 i hi).1 hB), h4⟩
theorem RecRow.drewN {q : Nat} (h : RecRow k w v n g) : RecRow k (w.drewN q) v n g := h.below (below_drewN (Below.refl _ _) q) (Nat.le_refl _)
theorem RecRow.touch {lo hi lo' hi' : Nat} (h : RecRow k w v n g) (t : Touch lo hi w w') (hv : 0 < n → InW lo' hi' v) (ho : hi' ≤ lo ∨ hi ≤ lo') : RecRow k w' v n g := by
  rcases h with h | ⟨b, off, cap, rfl, h0, h2, h3, h4⟩
  · exact .inl h
  · have := hv h0 b rfl
    exact .inr ⟨b, off, cap, rfl, h0, h2, fun i hi => ⟨Nat.lt_of_lt_of_le (h3 i hi).1 t.size, fun j u hu => (World.cell?_of_block (w := w) (a := ⟨b, off + i * k + j, none⟩) (t.block b (h3 i hi).1 (by omega))).trans ((h3 i hi).2 j u hu)⟩, h4⟩
theorem RecRow.inw {hi : Nat} (h : RecRow k w v n g) (h0 : 0 < n) (hs : w.heap.size ≤ hi) : InW 0 hi v := by
  rcases h with ⟨_, _, _, rfl⟩ | ⟨b, off, cap, rfl, _, _, hc, _⟩
  · omega
  · intro x hx
    simp only [Value.ownBlock, Option.some.injEq] at hx
    subst hx
    exact ⟨Nat.zero_le _, Nat.lt_of_lt_of_le (hc 0 h0).1 hs⟩
theorem RecRow.congr {g' : Nat → List Value} (h : RecRow k w v n g) (hg : ∀ i, i < n → g i = g' i) : RecRow k w v n g' := by
  rcases h with h | ⟨b, off, cap, h1, h0, h2, h3, h4⟩
  · exact .inl h
  · exact .inr ⟨b, off, cap, h1, h0, h2, fun i hi => by rw [← hg i hi]; exact h3 i hi, h4⟩
def RecCells (k n : Nat) (xs : List Value) (g : Nat → List Value) : Prop := ∀ i, i < n → ∀ j u, (g i)[j]? = some u → xs[i * k + j]? = some u
theorem RecRow.of_owns {base : Nat} {e : TypeId} {xs : List Value} (h : w.ownsRow base e k v n xs) (hn : n ≤ 9223372036854775807) (hg : RecCells k n xs g) (hk : ∀ i, i < n → (g i).length ≤ k) : RecRow k w v n g := by
  by_cases h0 : n = 0
  · subst h0
    rcases h.2 with ⟨rfl, _⟩ | ⟨b, cap, cur, rfl, _⟩
    · exact .inl ⟨_, _, rfl, rfl⟩
    · exact .inl ⟨_, _, rfl, rfl⟩
  · have hlt := h.lt
    rcases h.2 with ⟨_, hz⟩ | ⟨b, cap, cur, rfl, _, _, hcap, _⟩
    · exact absurd hz h0
    · refine .inr ⟨b, 0, cap, rfl, by omega, hn, fun i hi => ⟨(hlt b rfl).2, fun j u hu => ?_⟩, hcap⟩
      have hj : j < (g i).length := (List.getElem?_eq_some_iff.1 hu).1
      have hk' := hk i hi
      have hx := hg i hi j u hu
      have hlen : i * k + j < xs.length := (List.getElem?_eq_some_iff.1 hx).1
      have h1 := h.1
      rw [Nat.zero_add, h.cellAt _ (by omega)]
      exact hx
theorem RecCells.push {xs cs : List Value} (h : RecCells k n xs g) (hl : xs.length = n * k) (hc : g n = cs) (hcl : cs.length = k) : RecCells k (n + 1) (xs ++ cs) g := by
  intro i hi j u hu
  by_cases e : i = n
  · subst e
    rw [hc] at hu
    rw [List.getElem?_append_right (by omega), show i * k + j - xs.length = j by omega]
    exact hu
  · have hx := h i (by omega) j u hu
    rw [List.getElem?_append_left ((List.getElem?_eq_some_iff.1 hx).1)]
    exact hx
theorem RecCells.nil {xs : List Value} : RecCells k 0 xs g := fun i hi => absurd hi (by omega)
theorem RecCells.congr {xs : List Value} {g' : Nat → List Value} (h : RecCells k n xs g) (hg : ∀ i, i < n → g i = g' i) : RecCells k n xs g' := fun i hi j u hu => h i hi j u (by rw [hg i hi]; exact hu)
def RecMade (k : Nat) (T : TypeId) (w : World) (n : Nat) (g : Nat → List Value) (e : Ending) (w' : World) : Prop :=
  ∃ v, e = .returned v ∧ RecRow k w' v n g ∧ (∃ xs, w'.ownsRow w.heap.size T k v n xs) ∧ Below w.heap.size w w'
end
def setsFrom (xs : List Value) (s : Nat) : List Value → List Value
  | [] => xs
  | u :: us => setsFrom (xs.set s u) (s + 1) us
theorem setsFrom_len (cs : List Value) : ∀ (xs : List Value) (s : Nat), (setsFrom xs s cs).length = xs.length := by
  induction cs with
  | nil => intro xs s; rfl
  | cons u us ih => intro xs s; unfold setsFrom; rw [ih]; simp
theorem setsFrom_out (cs : List Value) : ∀ (xs : List Value) (s t : Nat), t < s ∨ s + cs.length ≤ t → (setsFrom xs s cs)[t]? = xs[t]? := by
  induction cs with
  | nil => intro xs s t _; rfl
  | cons u us ih =>
    intro xs s t h
    unfold setsFrom
    simp only [List.length_cons] at h
    rw [ih _ _ _ (by omega), List.getElem?_set_ne (by omega)]
theorem setsFrom_in (cs : List Value) : ∀ (xs : List Value) (s j : Nat) (u : Value), s + cs.length ≤ xs.length → cs[j]? = some u → (setsFrom xs s cs)[s + j]? = some u := by
  induction cs with
  | nil => intro xs s j u _ h; simp at h
  | cons x us ih =>
    intro xs s j u hl h
    unfold setsFrom
    simp only [List.length_cons] at hl
    cases j with
    | zero =>
      simp only [List.getElem?_cons_zero, Option.some.injEq] at h
      subst h
      rw [setsFrom_out _ _ _ _ (by omega), Nat.add_zero, List.getElem?_set_self (by omega)]
    | succ j =>
      simp only [List.getElem?_cons_succ] at h
      rw [show s + (j + 1) = (s + 1) + j by omega]
      exact ih _ _ j u (by simp; omega) h
theorem RecCells.sets {k n t : Nat} {xs cs : List Value} {g : Nat → List Value} (h : RecCells k t xs g) (hl : xs.length = n * k) (ht : t < n) (hc : g t = cs) (hcl : cs.length = k) (hgl : ∀ i, i < t → (g i).length ≤ k) :
    RecCells k (t + 1) (setsFrom xs (t * k) cs) g := by
  have hmul : t * k + k ≤ n * k := by have := Nat.mul_le_mul_right k (show t + 1 ≤ n by omega); rw [Nat.succ_mul] at this; exact this
  intro i hi j u hu
  by_cases e : i = t
  · subst e
    rw [hc] at hu
    exact setsFrom_in cs xs _ j u (by omega) hu
  · have hx := h i (by omega) j u hu
    have hj : j < (g i).length := (List.getElem?_eq_some_iff.1 hu).1
    have := hgl i (by omega)
    have hmul2 : i * k + k ≤ t * k := by have := Nat.mul_le_mul_right k (show i + 1 ≤ t by omega); rw [Nat.succ_mul] at this; exact this
    rw [setsFrom_out _ _ _ _ (by omega)]
    exact hx
theorem owns_sets {base : Nat} {e : TypeId} {size g n cap : Nat} (cs : List Value) : ∀ {w : World} {xs : List Value} (_ : w.ownsRow base e size (.slice (some ⟨g, 0, none⟩) n cap) n xs) (s : Nat),
    ∃ w', w' = (List.range cs.length).foldl (fun w j => w.setCell ⟨g, s + j, none⟩ (cs.getD j undef)) w ∧ w'.ownsRow base e size (.slice (some ⟨g, 0, none⟩) n cap) n (setsFrom xs s cs) := by
  intro w xs h s
  induction cs generalizing w xs s with
  | nil => exact ⟨w, rfl, h⟩
  | cons u us ih =>
    obtain ⟨w', h1, h2⟩ := ih (h.stored s u).1 (s + 1)
    refine ⟨w', ?_, h2⟩
    rw [h1, List.length_cons, List.range_succ_eq_map, List.foldl_cons, List.foldl_map]
    simp only [Nat.add_zero, List.getD_cons_zero]
    congr 1
    funext w j
    simp only [List.getD_cons_succ]
    congr 2
    omega
theorem owns_cellR {w : World} {base : Nat} {e : TypeId} {size g n cap : Nat} {xs : List Value} (h : w.ownsRow base e size (.slice (some ⟨g, 0, none⟩) n cap) n xs) (s : Nat) (hs : s < n * size) : ∃ u, w.cell? ⟨g, s, none⟩ = some u := by
  have hl := h.1
  exact ⟨xs[s]'(by omega), by rw [h.cellAt _ (by omega)]; exact List.getElem?_eq_getElem _⟩
theorem cells_update {k n t : Nat} {xs cs : List Value} {g : Nat → List Value} (h : RecCells k n xs g) (hl : xs.length = n * k) (ht : t < n) (hcl : cs.length = k) (hgl : ∀ i, i < n → (g i).length ≤ k) :
    RecCells k n (setsFrom xs (t * k) cs) fun i => if i = t then cs else g i := by
  have hmul : t * k + k ≤ n * k := by have := Nat.mul_le_mul_right k (show t + 1 ≤ n by omega); rw [Nat.succ_mul] at this; exact this
  intro i hi j u hu
  by_cases e : i = t
  · subst e
    replace hu : cs[j]? = some u := by simpa using hu
    exact setsFrom_in cs xs _ j u (by omega) hu
  · replace hu : (g i)[j]? = some u := by simpa [e] using hu
    have hx := h i hi j u hu
    have hj : j < (g i).length := (List.getElem?_eq_some_iff.1 hu).1
    have := hgl i hi
    rw [setsFrom_out _ _ _ _ ?_]
    · exact hx
    · rcases Nat.lt_or_ge i t with h1 | h1
      · have hmul2 : i * k + k ≤ t * k := by have := Nat.mul_le_mul_right k (show i + 1 ≤ t by omega); rw [Nat.succ_mul] at this; exact this
        left; omega
      · have hmul2 : t * k + k ≤ i * k := by have := Nat.mul_le_mul_right k (show t + 1 ≤ i by omega); rw [Nat.succ_mul] at this; exact this
        right; omega
end Go.Proofs.Ytmhkkdnopcdibaa
set_option linter.unusedVariables false
namespace Go.Proofs.Ytmhkkdnopcdibaa
open Go.RowKit

def BoxF (w : World) (B : Nat) (cs : List Value) : Prop := B < w.heap.size ∧ ∀ j v, cs[j]? = some v → w.cell? ⟨B, j, none⟩ = some v ∧ w.frozen? ⟨B, j, none⟩ = false
theorem BoxF.made {u w2 : World} {cs : Array Value} {t : TypeId} {B : Nat} (h : Below (u.alloc (.cells cs t)).heap.size (u.alloc (.cells cs t)) w2) (hB : u.heap.size = B) : BoxF w2 B cs.toList :=
  ⟨(BoxN.made h hB).1, fun j v hv => ⟨(BoxN.made h hB).2 j v hv, BoxN.free h hB j⟩⟩
theorem BoxF.box {w : World} {B : Nat} {cs : List Value} (h : BoxF w B cs) : BoxN w B cs := ⟨h.1, fun j v hv => (h.2 j v hv).1⟩
theorem BoxF.below {w w' : World} {B : Nat} {cs : List Value} (h : BoxF w B cs) (hb : Below w.heap.size w w') : BoxF w' B cs :=
  ⟨Nat.lt_of_lt_of_le h.1 hb.size, fun j v hv => ⟨(hb.cell (p := ⟨B, j, none⟩) h.1).trans (h.2 j v hv).1, (hb.frozen (p := ⟨B, j, none⟩) h.1).trans (h.2 j v hv).2⟩⟩
theorem BoxF.set {w : World} {B : Nat} {cs : List Value} (h : BoxF w B cs) (j : Nat) (u : Value) (hj : j < cs.length) : BoxF (w.setCell ⟨B, j, none⟩ u) B (cs.set j u) := by
  refine ⟨by simpa [World.setCell] using h.1, fun i v hv => ?_⟩
  have hf : ∀ (i : Nat) (v0 : Value), cs[i]? = some v0 → (w.setCell ⟨B, j, none⟩ u).frozen? ⟨B, i, none⟩ = false := fun i v0 h0 => (World.frozen?_setCell _ _ _ _).trans (h.2 i v0 h0).2
  by_cases e : i = j
  · subst e
    obtain ⟨v0, h0⟩ : ∃ v0, cs[i]? = some v0 := ⟨_, List.getElem?_eq_getElem hj⟩
    rw [List.getElem?_set_self hj] at hv
    cases hv
    refine ⟨?_, hf i v0 h0⟩
    rw [World.cell?_setCell_same' _ _ _ (by rw [(h.2 i v0 h0).1]; rfl)]
  · rw [List.getElem?_set_ne (Ne.symm e)] at hv
    refine ⟨?_, hf i v hv⟩
    rw [World.cell?_setCell_other _ _ _ _ (by intro e2; simp only [Addr.mk.injEq] at e2; omega)]
    exact (h.2 i v hv).1
theorem BoxF.other {w : World} {B D : Nat} {cs : List Value} (h : BoxF w B cs) (j : Nat) (u : Value) (hD : B ≠ D) : BoxF (w.setCell ⟨D, j, none⟩ u) B cs := by
  refine ⟨by simpa [World.setCell] using h.1, fun i v hv => ⟨?_, (World.frozen?_setCell _ _ _ _).trans (h.2 i v hv).2⟩⟩
  rw [World.cell?_setCell_other _ _ _ _ (by intro e2; simp only [Addr.mk.injEq] at e2; omega)]
  exact (h.2 i v hv).1
theorem BoxN.elsewhere {w : World} {B D : Nat} {cs : List Value} (h : BoxN w B cs) (j : Nat) (u : Value) (hD : B ≠ D) : BoxN (w.setCell ⟨D, j, none⟩ u) B cs := by
  refine ⟨by simpa [World.setCell] using h.1, fun i v hv => ?_⟩
  rw [World.cell?_setCell_other _ _ _ _ (by intro e2; simp only [Addr.mk.injEq] at e2; omega)]
  exact h.2 i v hv
end Go.Proofs.Ytmhkkdnopcdibaa
set_option linter.unusedVariables false
namespace Go.Proofs.Ytmhkkdnopcdibaa
open Go.RowKit

structure Mat (w : World) (lo hi : Nat) (gb cap : Nat) (r : Nat → Nat) (rc : Nat → Nat) (n m : Nat) (f : Nat → Nat → Value) : Prop where
  cap : n ≤ cap
  low : lo ≤ gb ∧ gb < hi
  high : hi ≤ w.heap.size
  cell : ∀ g, g < n → w.cell? ⟨gb, g, none⟩ = some (.slice (some ⟨r g, 0, none⟩) m (rc g))
  rcap : ∀ g, g < n → m ≤ rc g
  row : ∀ g, g < n → lo ≤ r g ∧ r g < hi ∧ r g ≠ gb
  diff : ∀ g h, g < n → h < n → g ≠ h → r g ≠ r h
  val : ∀ g j, g < n → j < m → w.cell? ⟨r g, j, none⟩ = some (f g j) ∧ w.frozen? ⟨r g, j, none⟩ = false
theorem Mat.below {w w' : World} {lo hi gb cap : Nat} {r rc : Nat → Nat} {n m : Nat} {f : Nat → Nat → Value} (h : Mat w lo hi gb cap r rc n m f) (b : Below w.heap.size w w') : Mat w' lo hi gb cap r rc n m f :=
  ⟨h.cap, h.low, Nat.le_trans h.high b.size, fun g hg => (b.cell (p := ⟨gb, g, none⟩) (Nat.lt_of_lt_of_le h.low.2 h.high)).trans (h.cell g hg), h.rcap, h.row, h.diff,
    fun g j hg hj => ⟨(b.cell (p := ⟨r g, j, none⟩) (Nat.lt_of_lt_of_le (h.row g hg).2.1 h.high)).trans (h.val g j hg hj).1, (b.frozen (p := ⟨r g, j, none⟩) (Nat.lt_of_lt_of_le (h.row g hg).2.1 h.high)).trans (h.val g j hg hj).2⟩⟩
theorem Mat.wide {w : World} {lo hi lo' hi' gb cap : Nat} {r rc : Nat → Nat} {n m : Nat} {f : Nat → Nat → Value} (h : Mat w lo hi gb cap r rc n m f) (h1 : lo' ≤ lo) (h2 : hi ≤ hi') (h3 : hi' ≤ w.heap.size) : Mat w lo' hi' gb cap r rc n m f :=
  ⟨h.cap, ⟨by have := h.low; omega, by have := h.low; omega⟩, h3, h.cell, h.rcap, fun g hg => by have := h.row g hg; exact ⟨by omega, by omega, this.2.2⟩, h.diff, h.val⟩
theorem Mat.other {w : World} {lo hi gb cap : Nat} {r rc : Nat → Nat} {n m : Nat} {f : Nat → Nat → Value} (h : Mat w lo hi gb cap r rc n m f) (p : Addr) (u : Value) (h1 : p.block ≠ gb) (h2 : ∀ g, g < n → p.block ≠ r g) : Mat (w.setCell p u) lo hi gb cap r rc n m f :=
  ⟨h.cap, h.low, by simpa [World.setCell] using h.high, fun g hg => by rw [World.cell?_setCell_other _ _ _ _ (by intro e; subst e; exact h1 rfl)]; exact h.cell g hg, h.rcap, h.row, h.diff,
    fun g j hg hj => ⟨by rw [World.cell?_setCell_other _ _ _ _ (by intro e; subst e; exact h2 g hg rfl)]; exact (h.val g j hg hj).1, (World.frozen?_setCell _ _ _ _).trans (h.val g j hg hj).2⟩⟩
theorem Mat.put {w : World} {lo hi gb cap : Nat} {r rc : Nat → Nat} {n m : Nat} {f : Nat → Nat → Value} (h : Mat w lo hi gb cap r rc n m f) {g j : Nat} (hg : g < n) (hj : j < m) (u : Value) :
    Mat (w.setCell ⟨r g, j, none⟩ u) lo hi gb cap r rc n m (fun a b => if a = g ∧ b = j then u else f a b) := by
  refine ⟨h.cap, h.low, by simpa [World.setCell] using h.high, fun a ha => ?_, h.rcap, h.row, h.diff, fun a b ha hb => ⟨?_, (World.frozen?_setCell _ _ _ _).trans (h.val a b ha hb).2⟩⟩
  · rw [World.cell?_setCell_other _ _ _ _ (by intro e; simp only [Addr.mk.injEq] at e; exact (h.row g hg).2.2 e.1)]
    exact h.cell a ha
  · by_cases e : a = g ∧ b = j
    · obtain ⟨rfl, rfl⟩ := e
      rw [if_pos ⟨rfl, rfl⟩]
      exact World.cell?_setCell_same' _ _ _ (by rw [(h.val a b ha hb).1]; rfl)
    · rw [if_neg e, World.cell?_setCell_other _ _ _ _ ?_]
      · exact (h.val a b ha hb).1
      · intro e2
        simp only [Addr.mk.injEq, and_true] at e2
        by_cases hag : a = g
        · subst hag; exact e ⟨rfl, e2.2.symm⟩
        · exact h.diff g a hg ha (fun e => hag e.symm) e2.1
theorem Mat.congr {w : World} {lo hi gb cap : Nat} {r rc : Nat → Nat} {n m : Nat} {f f' : Nat → Nat → Value} (h : Mat w lo hi gb cap r rc n m f) (he : ∀ g j, g < n → j < m → f g j = f' g j) : Mat w lo hi gb cap r rc n m f' :=
  ⟨h.cap, h.low, h.high, h.cell, h.rcap, h.row, h.diff, fun g j hg hj => ⟨by rw [← he g j hg hj]; exact (h.val g j hg hj).1, (h.val g j hg hj).2⟩⟩
theorem Mat.nil {w : World} {lo hi gb cap m : Nat} (f : Nat → Nat → Value) (h1 : lo ≤ gb ∧ gb < hi) (h2 : hi ≤ w.heap.size) : Mat w lo hi gb cap id id 0 m f :=
  ⟨Nat.zero_le _, h1, h2, fun g hg => absurd hg (Nat.not_lt_zero _), fun g hg => absurd hg (Nat.not_lt_zero _), fun g hg => absurd hg (Nat.not_lt_zero _), fun g _ hg => absurd hg (Nat.not_lt_zero _), fun g _ hg => absurd hg (Nat.not_lt_zero _)⟩
end Go.Proofs.Ytmhkkdnopcdibaa
set_option linter.unusedVariables false
namespace Go.Proofs.Ytmhkkdnopcdibaa
open Go.RowKit

structure DrwD where
  (fb fo nf fc tb to tc pb po pc gb gcap cb ccap N G NP : Nat)
  (r rc q qc team pot cl : Nat → Nat)
  most : Int
structure DrwAt (w : World) (lo hi X : Nat) (d : DrwD) (P : Nat → Nat → Bool) (C : Nat → Nat → Int) : Prop where
  box : BoxN w X [.slice (some ⟨d.fb, d.fo, none⟩) d.nf d.fc, .int .i64 d.most, .slice (some ⟨d.tb, d.to, none⟩) d.N d.tc, .slice (some ⟨d.pb, d.po, none⟩) d.N d.pc, .slice (some ⟨d.gb, 0, none⟩) d.G d.gcap, .slice (some ⟨d.cb, 0, none⟩) d.G d.ccap]
  low : X < lo ∧ d.fb < lo ∧ d.tb < lo ∧ d.pb < lo
  caps : d.nf ≤ d.fc ∧ d.N ≤ d.tc ∧ d.N ≤ d.pc ∧ d.N ≤ 12 ∧ d.G ≤ 4 ∧ d.nf ≤ 8 ∧ d.NP ≤ 3
  team : ∀ i, i < d.N → w.cell? ⟨d.tb, d.to + i, none⟩ = some (.int .i64 (d.team i)) ∧ d.team i < d.nf
  pot : ∀ i, i < d.N → w.cell? ⟨d.pb, d.po + i, none⟩ = some (.int .i64 (d.pot i)) ∧ d.pot i < d.NP
  club : ∀ i, i < d.N → w.cell? ⟨d.fb, d.fo + d.team i * 3 + 1, none⟩ = some (.int .i64 (d.cl i)) ∧ d.cl i < 6
  mp : Mat w lo hi d.gb d.gcap d.r d.rc d.G d.NP (fun g j => .bool (P g j))
  mc : Mat w lo hi d.cb d.ccap d.q d.qc d.G 6 (fun g j => .int .i64 (C g j))
  apart : d.gb ≠ d.cb ∧ (∀ g, g < d.G → d.r g ≠ d.cb ∧ d.q g ≠ d.gb) ∧ ∀ g h, g < d.G → h < d.G → d.r g ≠ d.q h
theorem DrwAt.below {w w' : World} {lo hi X : Nat} {d : DrwD} {P : Nat → Nat → Bool} {C : Nat → Nat → Int} (h : DrwAt w lo hi X d P C) (b : Below w.heap.size w w') : DrwAt w' lo hi X d P C :=
  ⟨h.box.below b, h.low, h.caps, fun i hi => ⟨(b.cell (p := ⟨d.tb, d.to + i, none⟩) (World.block_lt_of_cell? w _ (h.team i hi).1)).trans (h.team i hi).1, (h.team i hi).2⟩,
    fun i hi => ⟨(b.cell (p := ⟨d.pb, d.po + i, none⟩) (World.block_lt_of_cell? w _ (h.pot i hi).1)).trans (h.pot i hi).1, (h.pot i hi).2⟩,
    fun i hi => ⟨(b.cell (p := ⟨d.fb, d.fo + d.team i * 3 + 1, none⟩) (World.block_lt_of_cell? w _ (h.club i hi).1)).trans (h.club i hi).1, (h.club i hi).2⟩, h.mp.below b, h.mc.below b, h.apart⟩
theorem DrwAt.stays {w : World} {lo hi X : Nat} {d : DrwD} {P P' : Nat → Nat → Bool} {C C' : Nat → Nat → Int} (h : DrwAt w lo hi X d P C) {p : Addr} {u : Value} (hp : lo ≤ p.block)
    (h1 : Mat (w.setCell p u) lo hi d.gb d.gcap d.r d.rc d.G d.NP (fun g j => .bool (P' g j))) (h2 : Mat (w.setCell p u) lo hi d.cb d.ccap d.q d.qc d.G 6 (fun g j => .int .i64 (C' g j))) : DrwAt (w.setCell p u) lo hi X d P' C' := by
  have key : ∀ (b o : Nat) (v : Value), b < lo → w.cell? ⟨b, o, none⟩ = some v → (w.setCell p u).cell? ⟨b, o, none⟩ = some v := fun b o v hb hc => by
    rw [World.cell?_setCell_other _ _ _ _ (by intro e; subst e; exact absurd hp (by simp; omega))]
    exact hc
  have hl := h.low
  exact ⟨⟨by simpa [World.setCell] using h.box.1, fun j v hv => key _ _ _ hl.1 (h.box.2 j v hv)⟩, h.low, h.caps, fun i hi => ⟨key _ _ _ hl.2.2.1 (h.team i hi).1, (h.team i hi).2⟩, fun i hi => ⟨key _ _ _ hl.2.2.2 (h.pot i hi).1, (h.pot i hi).2⟩,
    fun i hi => ⟨key _ _ _ hl.2.1 (h.club i hi).1, (h.club i hi).2⟩, h1, h2, h.apart⟩
def putP (d : DrwD) (P : Nat → Nat → Bool) (i g : Nat) (on : Bool) : Nat → Nat → Bool := fun a b => if a = g ∧ b = d.pot i then on else P a b
def putC (d : DrwD) (C : Nat → Nat → Int) (i g : Nat) (on : Bool) : Nat → Nat → Int := fun a b => if a = g ∧ b = d.cl i then (if on = true then C g (d.cl i) + 1 else C g (d.cl i) - 1) else C a b
def fitB (d : DrwD) (P : Nat → Nat → Bool) (C : Nat → Nat → Int) (i g : Nat) : Bool := !P g (d.pot i) && decide (C g (d.cl i) < d.most)
set_option maxRecDepth 100000 in
set_option maxHeartbeats 8000000 in
theorem l12Fits_spec (w : World) (lo hi X : Nat) (d : DrwD) (P : Nat → Nat → Bool) (C : Nat → Nat → Int) (i g : Nat) (h : DrwAt w lo hi X d P C) (hi9 : i < d.N) (hg9 : g < d.G) :
    Calls Try.prog 71 #[.pointer (some ⟨X, 0, none⟩), .int .i64 i, .int .i64 g] w fun e w' => e = .returned (.bool (fitB d P C i g)) ∧ Below w.heap.size w w' := by
  unfold fitB
  have c0 := h.box.2 0 _ rfl
  have c1 := h.box.2 1 _ rfl
  have c2 := h.box.2 2 _ rfl
  have c3 := h.box.2 3 _ rfl
  have c4 := h.box.2 4 _ rfl
  have c5 := h.box.2 5 _ rfl
  obtain ⟨k1, k2, k3, k4, k5, k6, k7⟩ := h.caps
  obtain ⟨t1, t2⟩ := h.team i hi9
  obtain ⟨p1, p2⟩ := h.pot i hi9
  obtain ⟨u1, u2⟩ := h.club i hi9
  have g1 := h.mp.cell g hg9
  have g2 := (h.mp.val g _ hg9 p2).1
  have g3 := h.mc.cell g hg9
  have g4 := (h.mc.val g _ hg9 u2).1
  have g5 := h.mp.rcap g hg9
  have g6 := h.mc.rcap g hg9
  have g7 := h.mp.cap
  have g8 := h.mc.cap
  clear h
  generalize d.team i = tm at *
  generalize d.pot i = pt at *
  generalize d.cl i = cl at *
  generalize d.r g = rg at *
  generalize d.q g = qg at *
  generalize d.rc g = rcg at *
  generalize d.qc g = qcg at *
  generalize P g pt = pv at *
  generalize C g cl = cv at *
  obtain ⟨fb, fo, nf, fc, tb, to, tc, pb, po, pc, gb, gcap, cb, ccap, N, G, NP, _, _, _, _, _, _, _, most⟩ := d
  simp only at *
  have i1 : (i : Int) < (N : Int) := by omega
  have i2 : (g : Int) < (G : Int) := by omega
  have i3 : (pt : Int) < (NP : Int) := by omega
  have i4 : (tm : Int) < (nf : Int) := by omega
  have i5 : (cl : Int) < 6 := by omega
  cases pv with
  | true =>
    go_enter Try.func71, Try.ntmps71
    go_wp2_with (go_quiet (fail))
    go_ret
    exact ⟨rfl, below_drewN (Below.refl _ _) _⟩
  | false =>
    cases hx : decide (cv < most) with
    | true =>
      go_enter Try.func71, Try.ntmps71
      go_wp2_with (go_quiet (fail))
      go_ret
      exact ⟨rfl, below_drewN (Below.refl _ _) _⟩
    | false =>
      go_enter Try.func71, Try.ntmps71
      go_wp2_with (go_quiet (fail))
      go_ret
      exact ⟨rfl, below_drewN (Below.refl _ _) _⟩
theorem DrwAt.putPot {w : World} {lo hi X : Nat} {d : DrwD} {P : Nat → Nat → Bool} {C : Nat → Nat → Int} (h : DrwAt w lo hi X d P C) {i g : Nat} (hi9 : i < d.N) (hg9 : g < d.G) (on : Bool) : DrwAt (w.setCell ⟨d.r g, d.pot i, none⟩ (.bool on)) lo hi X d (putP d P i g on) C := by
  refine h.stays (h.mp.row g hg9).1 ((h.mp.put hg9 (h.pot i hi9).2 (.bool on)).congr fun a b _ _ => ?_) (h.mc.other _ _ (h.apart.2.1 g hg9).1 fun k hk => h.apart.2.2 g k hg9 hk)
  unfold putP
  by_cases e : a = g ∧ b = d.pot i
  · rw [if_pos e, if_pos e]
  · rw [if_neg e, if_neg e]
theorem DrwAt.putClub {w : World} {lo hi X : Nat} {d : DrwD} {P : Nat → Nat → Bool} {C : Nat → Nat → Int} (h : DrwAt w lo hi X d P C) {i g : Nat} (hi9 : i < d.N) (hg9 : g < d.G) (on : Bool) {z : Int} (hz : z = if on = true then C g (d.cl i) + 1 else C g (d.cl i) - 1) : DrwAt (w.setCell ⟨d.q g, d.cl i, none⟩ (.int .i64 z)) lo hi X d P (putC d C i g on) := by
  refine h.stays (h.mc.row g hg9).1 (h.mp.other _ _ (h.apart.2.1 g hg9).2 fun k hk e => h.apart.2.2 k g hk hg9 e.symm) ((h.mc.put hg9 (h.club i hi9).2 (.int .i64 z)).congr fun a b _ _ => ?_)
  unfold putC
  by_cases e : a = g ∧ b = d.cl i
  · rw [if_pos e, if_pos e, hz]
  · rw [if_neg e, if_neg e]
theorem DrwAt.putClubD {w1 : World} {n : Nat} {lo hi X : Nat} {d : DrwD} {P : Nat → Nat → Bool} {C : Nat → Nat → Int} (h : DrwAt w1 lo hi X d P C) {i g qg cl : Nat} {cv : Int} (hi9 : i < d.N) (hg9 : g < d.G) (hq : d.q g = qg) (hc : d.cl i = cl) (hv : C g cl = cv) (on : Bool) {z : Int} (hz : z = if on = true then cv + 1 else cv - 1) :
    DrwAt ((w1.drewN n).setCell ⟨qg, cl, none⟩ (.int .i64 z)) lo hi X d P (putC d C i g on) := by
  subst hq hc hv
  exact (h.below (below_drewN (Below.refl _ _) n)).putClub hi9 hg9 on hz
theorem touch_club {w w1 : World} {lo hi n : Nat} (h : Touch lo hi w w1) {b o : Nat} {u : Value} (h1 : lo ≤ b) (h2 : b < hi) : Touch lo hi w ((w1.drewN n).setCell ⟨b, o, none⟩ u) :=
  (h.trans (Touch.of_below (below_drewN (Below.refl _ _) n))).setCell ⟨b, o, none⟩ u h1 h2
set_option maxRecDepth 100000 in
set_option maxHeartbeats 8000000 in
theorem l12Put_spec (w : World) (lo hi X : Nat) (d : DrwD) (P : Nat → Nat → Bool) (C : Nat → Nat → Int) (i g : Nat) (on : Bool) (h : DrwAt w lo hi X d P C) (hi9 : i < d.N) (hg9 : g < d.G) (hC : -100 ≤ C g (d.cl i) ∧ C g (d.cl i) ≤ 100) :
    Calls Try.prog 72 #[.pointer (some ⟨X, 0, none⟩), .int .i64 i, .int .i64 g, .bool on] w fun e w' => e = .returned (.tuple #[]) ∧ DrwAt w' lo hi X d (putP d P i g on) (putC d C i g on) ∧ Touch lo hi w w' := by
  have HH := Lib.hid h
  have H1 : Hid (DrwAt (w.setCell ⟨d.r g, d.pot i, none⟩ (.bool on)).drew lo hi X d (putP d P i g on) C) := (h.putPot hi9 hg9 on).below (Below.refl _ _).drew
  have T1 : Hid (Touch lo hi w (w.setCell ⟨d.r g, d.pot i, none⟩ (.bool on)).drew) := ((Touch.refl lo hi w).setCell ⟨d.r g, d.pot i, none⟩ _ (h.mp.row g hg9).1 (h.mp.row g hg9).2.1).trans (Touch.of_below (Below.refl _ _).drew)
  have HQR := Lib.hid (h.mc.row g hg9)
  have c0 := h.box.2 0 _ rfl
  have c2 := h.box.2 2 _ rfl
  have c3 := h.box.2 3 _ rfl
  have c4 := h.box.2 4 _ rfl
  have c5 := h.box.2 5 _ rfl
  obtain ⟨k1, k2, k3, k4, k5, k6, k7⟩ := h.caps
  obtain ⟨t1, t2⟩ := h.team i hi9
  obtain ⟨p1, p2⟩ := h.pot i hi9
  obtain ⟨u1, u2⟩ := h.club i hi9
  have g1 := h.mp.cell g hg9
  have g2 := (h.mp.val g _ hg9 p2).1
  have f2 := (h.mp.val g _ hg9 p2).2
  have g3 := h.mc.cell g hg9
  have g4 := (h.mc.val g _ hg9 u2).1
  have f4 := (h.mc.val g _ hg9 u2).2
  have g5 := h.mp.rcap g hg9
  have g6 := h.mc.rcap g hg9
  have g7 := h.mp.cap
  have g8 := h.mc.cap
  have hc1 := hC.1
  have hc2 := hC.2
  clear h hC
  obtain ⟨tm, htm⟩ : ∃ x, d.team i = x := ⟨_, rfl⟩
  obtain ⟨pt, hpt⟩ : ∃ x, d.pot i = x := ⟨_, rfl⟩
  obtain ⟨cl, hcl⟩ : ∃ x, d.cl i = x := ⟨_, rfl⟩
  obtain ⟨rg, hrg⟩ : ∃ x, d.r g = x := ⟨_, rfl⟩
  obtain ⟨qg, hqg⟩ : ∃ x, d.q g = x := ⟨_, rfl⟩
  rw [htm] at t1 t2 u1
  rw [hpt] at p1 p2 g2 f2
  rw [hcl] at u1 u2 g4 f4 hc1 hc2
  rw [hrg] at g1 g2 f2 H1 T1
  rw [hpt] at H1 T1
  rw [hqg] at g3 g4 f4
  generalize d.rc g = rcg at *
  generalize d.qc g = qcg at *
  generalize P g pt = pv at *
  obtain ⟨cv, hcv⟩ : ∃ x, C g cl = x := ⟨_, rfl⟩
  rw [hcv] at g4 hc1 hc2
  have i1 : (i : Int) < (d.N : Int) := by omega
  have i2 : (g : Int) < (d.G : Int) := by omega
  have i3 : (pt : Int) < (d.NP : Int) := by omega
  have i4 : (tm : Int) < (d.nf : Int) := by omega
  have i5 : (cl : Int) < 6 := by omega
  have HTM := Lib.hid htm
  have HPT := Lib.hid hpt
  have HCL := Lib.hid hcl
  have HRG := Lib.hid hrg
  have HQG := Lib.hid hqg
  have HCV := Lib.hid hcv
  clear htm hpt hcl hrg hqg hcv
  go_enter Try.func72, Try.ntmps72
  go_wp2_with fail
  go_region
  clear c0 c2 c3 c4 c5 t1 p1 u1 g1 g2 f2 g3 g4 f4
  generalize (w.setCell ⟨rg, pt, none⟩ (.bool on)).drew = w1 at *
  have c0 := H1.out.box.2 0 _ rfl
  have c2 := H1.out.box.2 2 _ rfl
  have c5 := H1.out.box.2 5 _ rfl
  have t1 := (H1.out.team i hi9).1
  have u1 := (H1.out.club i hi9).1
  have g3 := H1.out.mc.cell g hg9
  have g4 := (H1.out.mc.val g cl hg9 u2).1
  have f4 := (H1.out.mc.val g cl hg9 u2).2
  rw [HTM.out] at t1 u1
  rw [HCL.out] at u1
  rw [HQG.out] at g3 g4 f4
  rw [HCV.out] at g4
  obtain ⟨rc9, hrc9⟩ : ∃ x, d.qc g = x := ⟨_, rfl⟩
  have g6' : 6 ≤ rc9 := by rw [← hrc9]; exact H1.out.mc.rcap g hg9
  rw [hrc9] at g3
  clear hrc9
  have r1 : lo ≤ qg ∧ qg < hi := by have h9 := HQR.out; rw [HQG.out] at h9; exact ⟨h9.1, h9.2.1⟩
  cases on with
  | true =>
    go_wp2_with (go_quiet (fail))
    refine bodyPost_end (results_none rfl _ _ _) rfl ?_
    exact ⟨rfl, H1.out.putClubD hi9 hg9 HQG.out HCL.out HCV.out true (by rw [if_pos rfl]), touch_club T1.out r1.1 r1.2⟩
  | false =>
    go_wp2_with (go_quiet (fail))
    refine bodyPost_end (results_none rfl _ _ _) rfl ?_
    exact ⟨rfl, H1.out.putClubD hi9 hg9 HQG.out HCL.out HCV.out false (by rw [if_neg (by simp)]), touch_club T1.out r1.1 r1.2⟩
end Go.Proofs.Ytmhkkdnopcdibaa
set_option linter.unusedVariables false
namespace Go.Proofs.Ytmhkkdnopcdibaa
open Go.RowKit

def mkd : Nat → Nat → List UInt8 → List UInt8
  | 0, _, out => out
  | f + 1, k, out => if 0 < k then mkd f (k / 10) ((48 + UInt8.ofNat (k % 10)) :: out) else out
def mkT (k : Nat) : ByteArray := ⟨(109 :: mkd k k []).toArray⟩
theorem mkd_step (f k : Nat) (out : List UInt8) (h : 0 < k) : mkd (f + 1) k out = mkd f (k / 10) ((48 + UInt8.ofNat (k % 10)) :: out) := by
  simp [mkd, h]
theorem mkd_end (f : Nat) (out : List UInt8) : mkd f 0 out = out := by cases f <;> simp [mkd]

theorem one_byte_string {P : Program} (w : World) (src dst e : TypeId) (hs : P.underlying src = some (.slice e)) (he : P.underlying e = some (.int .u8)) (hd : P.underlying dst = some .string) (v : Int) :
    (convert src dst (.slice (some ⟨w.heap.size, 0, none⟩) 1 1)).run P (w.alloc (.cells #[.int .u8 v] e)) = .ok (.string ⟨[UInt8.ofNat v.toNat].toArray⟩) (w.alloc (.cells #[.int .u8 v] e)) := by
  have h := run_convert_bytes_arg (P := P) (w.alloc (.cells #[.int .u8 v] e)) src e hs he w.heap.size 0 1 1 [v] rfl (fun i hi => by
    obtain rfl : i = 0 := by omega
    simp) dst hd
  rw [h]
  rfl
theorem cat_lists (x y : List UInt8) : (ByteArray.mk x.toArray ++ ByteArray.mk y.toArray) = ByteArray.mk (x ++ y).toArray := ByteArray.mk_append_mk x y

theorem markText_any (k : Nat) (w : World) (h0 : 0 < k) (hk : k ≤ 1000000000000) :
    Calls Try.prog 69 #[.int .i64 (k : Int)] w fun e w' => e = .returned (.string (mkT k)) ∧ Below w.heap.size w w' := by
  have g0 : decide ((k : Int) ≤ 0) = false := decide_eq_false (by omega)
  go_enter Try.func69, Try.ntmps69
  go_wp2
  go_loopw [0, 3] (fun kv out wr => ∃ (j f : Nat) (l : List UInt8), kv = .int .i64 (j : Int) ∧ out = .string ⟨l.toArray⟩ ∧ j ≤ f ∧ l.length + j ≤ k ∧ Hid (mkd f j l = mkd k k []) ∧ Below w.heap.size w wr) (fun kv _ _ => (RowKit.intOf kv).toNat)
  case atStart => exact ⟨k, k, [], rfl, rfl, Nat.le_refl _, by simp, rfl, Below.refl _ _⟩
  case round =>
    obtain ⟨j, f, l, rfl, rfl, hj, hl, hm, hb⟩ := hrel
    by_cases hp : 0 < j
    · have hcv := one_byte_string (P := Try.prog) wr 22 9 5 Try.underlying22 Try.underlying5 Try.underlying9 (48 + (j : Int) % 10)
      have hz : l.toArray.size ≤ 1000000000000 := by simp; omega
      go_wp2
      go_roundw
      case rel =>
        obtain ⟨f', rfl⟩ : ∃ f', f = f' + 1 := ⟨f - 1, by omega⟩
        exact ⟨j / 10, f', (48 + UInt8.ofNat (j % 10)) :: l, by go_num, congrArg Value.string (cat_lists [48 + UInt8.ofNat (j % 10)] l), by omega, by simp; omega,
          (by rw [← mkd_step f' j l hp]; exact hm), hb.alloc hb.size _⟩
      case measure => simp [RowKit.intOf]; omega
    · obtain rfl : j = 0 := by omega
      have hz : l.toArray.size ≤ 1000000000000 := by simp; omega
      have he : mkT k = ⟨(109 :: l).toArray⟩ := by
        unfold mkT
        rw [← hm.out, mkd_end]
      have He := Lib.hid he
      clear he hm
      go_wp2
      go_ret
      exact ⟨by rw [He.out]; exact congrArg (fun x => Ending.returned (Value.string x)) (cat_lists [109] l), hb⟩

def StrRow (w : World) (v : Value) (n : Nat) (g : Nat → ByteArray) : Prop :=
  (∃ a cap, v = .slice a 0 cap ∧ n = 0) ∨ ∃ b off cap, v = .slice (some ⟨b, off, none⟩) n cap ∧ 0 < n ∧ n ≤ 9223372036854775807 ∧ (∀ i, i < n → w.cell? ⟨b, off + i, none⟩ = some (.string (g i))) ∧ n ≤ cap
theorem StrRow.drewN {w : World} {v : Value} {n q : Nat} {g : Nat → ByteArray} (h : StrRow w v n g) : StrRow (w.drewN q) v n g := by
  rcases h with h | ⟨b, off, cap, h1, h0, h2, h3, h4⟩
  · exact .inl h
  · exact .inr ⟨b, off, cap, h1, h0, h2, fun i hi => by rw [World.cell?_drewN]; exact h3 i hi, h4⟩

theorem StrRow.of_owns {w : World} {base : Nat} {e : TypeId} {v : Value} {n : Nat} {xs : List Value} {g : Nat → ByteArray} (h : w.ownsRow base e 1 v n xs) (hn : n ≤ 9223372036854775807)
    (hg : ∀ i, i < n → xs[i]? = some (.string (g i))) : StrRow w v n g := by
  by_cases h0 : n = 0
  · subst h0
    rcases h.2 with ⟨rfl, _⟩ | ⟨b, cap, cur, rfl, _⟩
    · exact .inl ⟨_, _, rfl, rfl⟩
    · exact .inl ⟨_, _, rfl, rfl⟩
  · rcases h.2 with ⟨_, hz⟩ | ⟨b, cap, cur, rfl, _, _, hcap, _⟩
    · exact absurd hz h0
    · refine .inr ⟨b, 0, cap, rfl, by omega, hn, fun i hi => ?_, hcap⟩
      rw [Nat.zero_add, h.cellAt i (by omega)]
      exact hg i hi

def StrMarked (base : Nat) (w : World) (v : Value) (n k : Nat) (e : Ending) (w' : World) : Prop :=
  e = .returned (.int .i64 ((k : Int) + n)) ∧ (∃ ys, w'.ownsRow base 9 1 v n ys ∧ ∀ i, i < n → ys[i]? = some (.string (mkT (k + i)))) ∧ Below base w w'

theorem StrRow.below {w w' : World} {B : Nat} {v : Value} {n : Nat} {g : Nat → ByteArray} (h : StrRow w v n g) (hb : Below B w w') (hB : w.heap.size ≤ B) : StrRow w' v n g := by
  rcases h with h | ⟨b, off, cap, h1, h0, h2, h3, h4⟩
  · exact .inl h
  · exact .inr ⟨b, off, cap, h1, h0, h2, fun i hi => (hb.cell (p := ⟨b, off + i, none⟩) (Nat.lt_of_lt_of_le (World.block_lt_of_cell? w _ (h3 i hi)) hB)).trans (h3 i hi), h4⟩
def getS (L : List ByteArray) (i : Nat) : ByteArray := L.getD i ByteArray.empty
theorem StrRow.of_list {w : World} {base : Nat} {e : TypeId} {v : Value} {L : List ByteArray} (h : w.ownsRow base e 1 v L.length (L.map Value.string)) (hn : L.length ≤ 9223372036854775807) :
    StrRow w v L.length (getS L) := StrRow.of_owns h hn fun i hi => by simp [getS, hi]
end Go.Proofs.Ytmhkkdnopcdibaa
