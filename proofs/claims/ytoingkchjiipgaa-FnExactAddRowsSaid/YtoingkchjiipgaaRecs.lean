/-
  Slices of records of one-cell fields, whatever they are: what reads how, and what is kept.
-/
import Derived.Test.YtoingkchjiipgaaLawKit
import Derived.Test.YtoingkchjiipgaaOpenAgg
set_option linter.unusedVariables false
namespace Go.Proofs.Ytoingkchjiipgaa
open Go.RowKit

/-- block b of w holds the cells cs from o on -/
def CellsAt (w : World) (b o : Nat) (cs : List Value) : Prop := b < w.heap.size ∧ ∀ j u, cs[j]? = some u → w.cell? ⟨b, o + j, none⟩ = some u
theorem CellsAt.below {w w' : World} {b o : Nat} {cs : List Value} (h : CellsAt w b o cs) (hb : Below w.heap.size w w') : CellsAt w' b o cs :=
  ⟨Nat.lt_of_lt_of_le h.1 hb.size, fun j u hu => (hb.cell (p := ⟨b, o + j, none⟩) h.1).trans (h.2 j u hu)⟩
theorem CellsAt.belowB {w w' : World} {b o base : Nat} {cs : List Value} (h : CellsAt w b o cs) (hb : Below base w w') (hB : b < base) : CellsAt w' b o cs :=
  ⟨Nat.lt_of_lt_of_le h.1 hb.size, fun j u hu => (hb.cell (p := ⟨b, o + j, none⟩) hB).trans (h.2 j u hu)⟩
/-- v is a slice of n records of k cells each, the i-th of which reads g i -/
def RecRow (k : Nat) (w : World) (v : Value) (n : Nat) (g : Nat → List Value) : Prop :=
  (∃ a cap, v = .slice a 0 cap ∧ n = 0) ∨ ∃ b off cap, v = .slice (some ⟨b, off, none⟩) n cap ∧ 0 < n ∧ n ≤ 9223372036854775807 ∧ (∀ i, i < n → CellsAt w b (off + i * k) (g i)) ∧ n ≤ cap
section
variable {k : Nat} {w w' : World} {v : Value} {n : Nat} {g : Nat → List Value}
theorem RecRow.form (h : RecRow k w v n g) : ∃ a cap, v = .slice a n cap ∧ n ≤ 9223372036854775807 ∧ (0 < n → ∃ b off, a = some ⟨b, off, none⟩ ∧ n ≤ cap ∧ ∀ i, i < n → CellsAt w b (off + i * k) (g i)) := by
  rcases h with ⟨a, cap, rfl, rfl⟩ | ⟨b, off, cap, rfl, _, hn, hc, hcap⟩
  · exact ⟨_, _, rfl, by omega, fun h => absurd h (by omega)⟩
  · exact ⟨_, _, rfl, hn, fun _ => ⟨b, off, rfl, hcap, hc⟩⟩
theorem RecRow.below {B : Nat} (h : RecRow k w v n g) (hb : Below B w w') (hB : w.heap.size ≤ B) : RecRow k w' v n g := by
  rcases h with h | ⟨b, off, cap, h1, h0, h2, h3, h4⟩
  · exact .inl h
  · exact .inr ⟨b, off, cap, h1, h0, h2, fun i hi => (h3 i hi).belowB hb (Nat.lt_of_lt_of_le (h3 i hi).1 hB), h4⟩
theorem RecRow.drewN {q : Nat} (h : RecRow k w v n g) : RecRow k (w.drewN q) v n g := h.below (below_drewN (Below.refl _ _) q) (Nat.le_refl _)
theorem RecRow.touch {lo hi lo' hi' : Nat} (h : RecRow k w v n g) (t : Touch lo hi w w') (hv : 0 < n → InW lo' hi' v) (ho : hi' ≤ lo ∨ hi ≤ lo') : RecRow k w' v n g := by
  rcases h with h | ⟨b, off, cap, rfl, h0, h2, h3, h4⟩
  · exact .inl h
  · have := hv h0 b rfl
    exact .inr ⟨b, off, cap, rfl, h0, h2, fun i hi => ⟨Nat.lt_of_lt_of_le (h3 i hi).1 t.size, fun j u hu => (World.cell?_of_block (w := w) (a := ⟨b, off + i * k + j, none⟩) (t.block b (h3 i hi).1 (by omega))).trans ((h3 i hi).2 j u hu)⟩, h4⟩
theorem RecRow.inw {hi : Nat} (h : RecRow k w v n g) (h0 : 0 < n) (hs : w.heap.size ≤ hi) : InW 0 hi v := by
  rcases h with ⟨_, _, _, rfl⟩ | ⟨b, off, cap, rfl, _, _, hc, _⟩
  · omega
  · intro x hx
    simp only [Value.ownBlock, Option.some.injEq] at hx
    subst hx
    exact ⟨Nat.zero_le _, Nat.lt_of_lt_of_le (hc 0 h0).1 hs⟩
theorem RecRow.congr {g' : Nat → List Value} (h : RecRow k w v n g) (hg : ∀ i, i < n → g i = g' i) : RecRow k w v n g' := by
  rcases h with h | ⟨b, off, cap, h1, h0, h2, h3, h4⟩
  · exact .inl h
  · exact .inr ⟨b, off, cap, h1, h0, h2, fun i hi => by rw [← hg i hi]; exact h3 i hi, h4⟩
/-- the cells xs of n records hold g -/
def RecCells (k n : Nat) (xs : List Value) (g : Nat → List Value) : Prop := ∀ i, i < n → ∀ j u, (g i)[j]? = some u → xs[i * k + j]? = some u
theorem RecRow.of_owns {base : Nat} {e : TypeId} {xs : List Value} (h : w.ownsRow base e k v n xs) (hn : n ≤ 9223372036854775807) (hg : RecCells k n xs g) (hk : ∀ i, i < n → (g i).length ≤ k) : RecRow k w v n g := by
  by_cases h0 : n = 0
  · subst h0
    rcases h.2 with ⟨rfl, _⟩ | ⟨b, cap, cur, rfl, _⟩
    · exact .inl ⟨_, _, rfl, rfl⟩
    · exact .inl ⟨_, _, rfl, rfl⟩
  · have hlt := h.lt
    rcases h.2 with ⟨_, hz⟩ | ⟨b, cap, cur, rfl, _, _, hcap, _⟩
    · exact absurd hz h0
    · refine .inr ⟨b, 0, cap, rfl, by omega, hn, fun i hi => ⟨(hlt b rfl).2, fun j u hu => ?_⟩, hcap⟩
      have hj : j < (g i).length := (List.getElem?_eq_some_iff.1 hu).1
      have hk' := hk i hi
      have hx := hg i hi j u hu
      have hlen : i * k + j < xs.length := (List.getElem?_eq_some_iff.1 hx).1
      have h1 := h.1
      rw [Nat.zero_add, h.cellAt _ (by omega)]
      exact hx
theorem RecCells.push {xs cs : List Value} (h : RecCells k n xs g) (hl : xs.length = n * k) (hc : g n = cs) (hcl : cs.length = k) : RecCells k (n + 1) (xs ++ cs) g := by
  intro i hi j u hu
  by_cases e : i = n
  · subst e
    rw [hc] at hu
    rw [List.getElem?_append_right (by omega), show i * k + j - xs.length = j by omega]
    exact hu
  · have hx := h i (by omega) j u hu
    rw [List.getElem?_append_left ((List.getElem?_eq_some_iff.1 hx).1)]
    exact hx
theorem RecCells.nil {xs : List Value} : RecCells k 0 xs g := fun i hi => absurd hi (by omega)
theorem RecCells.congr {xs : List Value} {g' : Nat → List Value} (h : RecCells k n xs g) (hg : ∀ i, i < n → g i = g' i) : RecCells k n xs g' := fun i hi j u hu => h i hi j u (by rw [hg i hi]; exact hu)
/-- what the call makes: n records that read g, in memory of its own -/
def RecMade (k : Nat) (T : TypeId) (w : World) (n : Nat) (g : Nat → List Value) (e : Ending) (w' : World) : Prop :=
  ∃ v, e = .returned v ∧ RecRow k w' v n g ∧ (∃ xs, w'.ownsRow w.heap.size T k v n xs) ∧ Below w.heap.size w w'
end
/-- j cells from s on are set -/
def setsFrom (xs : List Value) (s : Nat) : List Value → List Value
  | [] => xs
  | u :: us => setsFrom (xs.set s u) (s + 1) us
theorem setsFrom_len (cs : List Value) : ∀ (xs : List Value) (s : Nat), (setsFrom xs s cs).length = xs.length := by
  induction cs with
  | nil => intro xs s; rfl
  | cons u us ih => intro xs s; unfold setsFrom; rw [ih]; simp
theorem setsFrom_out (cs : List Value) : ∀ (xs : List Value) (s t : Nat), t < s ∨ s + cs.length ≤ t → (setsFrom xs s cs)[t]? = xs[t]? := by
  induction cs with
  | nil => intro xs s t _; rfl
  | cons u us ih =>
    intro xs s t h
    unfold setsFrom
    simp only [List.length_cons] at h
    rw [ih _ _ _ (by omega), List.getElem?_set_ne (by omega)]
theorem setsFrom_in (cs : List Value) : ∀ (xs : List Value) (s j : Nat) (u : Value), s + cs.length ≤ xs.length → cs[j]? = some u → (setsFrom xs s cs)[s + j]? = some u := by
  induction cs with
  | nil => intro xs s j u _ h; simp at h
  | cons x us ih =>
    intro xs s j u hl h
    unfold setsFrom
    simp only [List.length_cons] at hl
    cases j with
    | zero =>
      simp only [List.getElem?_cons_zero, Option.some.injEq] at h
      subst h
      rw [setsFrom_out _ _ _ _ (by omega), Nat.add_zero, List.getElem?_set_self (by omega)]
    | succ j =>
      simp only [List.getElem?_cons_succ] at h
      rw [show s + (j + 1) = (s + 1) + j by omega]
      exact ih _ _ j u (by simp; omega) h
/-- the record number t of a row is set -/
theorem RecCells.sets {k n t : Nat} {xs cs : List Value} {g : Nat → List Value} (h : RecCells k t xs g) (hl : xs.length = n * k) (ht : t < n) (hc : g t = cs) (hcl : cs.length = k) (hgl : ∀ i, i < t → (g i).length ≤ k) :
    RecCells k (t + 1) (setsFrom xs (t * k) cs) g := by
  have hmul : t * k + k ≤ n * k := by have := Nat.mul_le_mul_right k (show t + 1 ≤ n by omega); rw [Nat.succ_mul] at this; exact this
  intro i hi j u hu
  by_cases e : i = t
  · subst e
    rw [hc] at hu
    exact setsFrom_in cs xs _ j u (by omega) hu
  · have hx := h i (by omega) j u hu
    have hj : j < (g i).length := (List.getElem?_eq_some_iff.1 hu).1
    have := hgl i (by omega)
    have hmul2 : i * k + k ≤ t * k := by have := Nat.mul_le_mul_right k (show i + 1 ≤ t by omega); rw [Nat.succ_mul] at this; exact this
    rw [setsFrom_out _ _ _ _ (by omega)]
    exact hx
theorem owns_sets {base : Nat} {e : TypeId} {size g n cap : Nat} (cs : List Value) : ∀ {w : World} {xs : List Value} (_ : w.ownsRow base e size (.slice (some ⟨g, 0, none⟩) n cap) n xs) (s : Nat),
    ∃ w', w' = (List.range cs.length).foldl (fun w j => w.setCell ⟨g, s + j, none⟩ (cs.getD j undef)) w ∧ w'.ownsRow base e size (.slice (some ⟨g, 0, none⟩) n cap) n (setsFrom xs s cs) := by
  intro w xs h s
  induction cs generalizing w xs s with
  | nil => exact ⟨w, rfl, h⟩
  | cons u us ih =>
    obtain ⟨w', h1, h2⟩ := ih (h.stored s u).1 (s + 1)
    refine ⟨w', ?_, h2⟩
    rw [h1, List.length_cons, List.range_succ_eq_map, List.foldl_cons, List.foldl_map]
    simp only [Nat.add_zero, List.getD_cons_zero]
    congr 1
    funext w j
    simp only [List.getD_cons_succ]
    congr 2
    omega
/-- a cell of an owned row -/
theorem owns_cellR {w : World} {base : Nat} {e : TypeId} {size g n cap : Nat} {xs : List Value} (h : w.ownsRow base e size (.slice (some ⟨g, 0, none⟩) n cap) n xs) (s : Nat) (hs : s < n * size) : ∃ u, w.cell? ⟨g, s, none⟩ = some u := by
  have hl := h.1
  exact ⟨xs[s]'(by omega), by rw [h.cellAt _ (by omega)]; exact List.getElem?_eq_getElem _⟩
theorem cells_update {k n t : Nat} {xs cs : List Value} {g : Nat → List Value} (h : RecCells k n xs g) (hl : xs.length = n * k) (ht : t < n) (hcl : cs.length = k) (hgl : ∀ i, i < n → (g i).length ≤ k) :
    RecCells k n (setsFrom xs (t * k) cs) fun i => if i = t then cs else g i := by
  have hmul : t * k + k ≤ n * k := by have := Nat.mul_le_mul_right k (show t + 1 ≤ n by omega); rw [Nat.succ_mul] at this; exact this
  intro i hi j u hu
  by_cases e : i = t
  · subst e
    replace hu : cs[j]? = some u := by simpa using hu
    exact setsFrom_in cs xs _ j u (by omega) hu
  · replace hu : (g i)[j]? = some u := by simpa [e] using hu
    have hx := h i hi j u hu
    have hj : j < (g i).length := (List.getElem?_eq_some_iff.1 hu).1
    have := hgl i hi
    rw [setsFrom_out _ _ _ _ ?_]
    · exact hx
    · rcases Nat.lt_or_ge i t with h1 | h1
      · have hmul2 : i * k + k ≤ t * k := by have := Nat.mul_le_mul_right k (show i + 1 ≤ t by omega); rw [Nat.succ_mul] at this; exact this
        left; omega
      · have hmul2 : t * k + k ≤ i * k := by have := Nat.mul_le_mul_right k (show t + 1 ≤ i by omega); rw [Nat.succ_mul] at this; exact this
        right; omega
end Go.Proofs.Ytoingkchjiipgaa
