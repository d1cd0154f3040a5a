/-
  Plain facts of drawn seasons, of games that are played, and of lists of indices; the laws' 'has'.
-/
import Derived.Test.YtoingkchjiipgaaSeason
import Derived.Test.YtoingkchjiipgaaBookMake2
import Derived.Test.YtoingkchjiipgaaHasMem
set_option linter.unusedVariables false
namespace Go.Proofs.Ytoingkchjiipgaa
open Go.RowKit

theorem idxL_mem (p : Nat → Bool) (k : Nat) : ∀ n, (k : Int) ∈ idxL p n ↔ k < n ∧ p k = true := by
  intro n
  induction n with
  | zero => simp [idxL]
  | succ n ih =>
    unfold idxL
    by_cases h : p n = true
    · rw [if_pos h, List.mem_append, ih, List.mem_singleton]
      constructor
      · rintro (⟨h1, h2⟩ | h1)
        · exact ⟨by omega, h2⟩
        · obtain rfl : k = n := by omega
          exact ⟨by omega, h⟩
      · rintro ⟨h1, h2⟩
        by_cases e : k = n
        · exact .inr (by rw [e])
        · exact .inl ⟨by omega, h2⟩
    · rw [if_neg h, ih]
      constructor
      · rintro ⟨h1, h2⟩; exact ⟨by omega, h2⟩
      · rintro ⟨h1, h2⟩
        have : k ≠ n := fun e => h (e ▸ h2)
        exact ⟨by omega, h2⟩
/-- the games of a list -/
def getG (L : List GameD) (i : Nat) : GameD := L.getD i default
theorem getG_mem {L : List GameD} {i : Nat} (h : i < L.length) : getG L i ∈ L := by
  simp only [getG, List.getD_eq_getElem?_getD, List.getElem?_eq_getElem h, Option.getD_some]; exact List.getElem_mem h
theorem gcells_at (L : List GameD) : RecCells 5 L.length (gcells L) fun i => (getG L i).cells := by
  have hrec : ∀ (M : List GameD) (i : Nat), i < M.length → ∀ j u, (getG M i).cells[j]? = some u → (gcells M)[i * 5 + j]? = some u := by
    intro M
    induction M with
    | nil => intro i hi; simp at hi
    | cons x l ih =>
      intro i hi j u hu
      have hj : j < 5 := (List.getElem?_eq_some_iff.1 hu).1
      cases i with
      | zero =>
        have : gcells (x :: l) = x.cells ++ gcells l := by simp [gcells]
        rw [this, List.getElem?_append_left (by show 0 * 5 + j < 5; omega), Nat.zero_mul, Nat.zero_add]
        exact hu
      | succ i =>
        have : gcells (x :: l) = x.cells ++ gcells l := by simp [gcells]
        rw [this, List.getElem?_append_right (by show 5 ≤ (i + 1) * 5 + j; omega), show (i + 1) * 5 + j - x.cells.length = i * 5 + j by show (i + 1) * 5 + j - 5 = _; omega]
        exact ih i (by simpa using hi) j u hu
  exact hrec L
theorem GameRow.of_list {w : World} {base : Nat} {e : TypeId} {v : Value} {L : List GameD} (h : w.ownsRow base e 5 v L.length (gcells L)) (hn : L.length ≤ 9223372036854775807) : GameRow w v L.length (getG L) :=
  GameRow.of_owns h hn (gcells_at L)
theorem sea_game {n : Nat} {L : List GameD} {m : Nat} (h : SeaL 0 n L m) (hn : 2 ≤ n) (hn8 : n ≤ 8) (i : Nat) (hi : i < L.length) : gameP n (getG L i) := by
  obtain ⟨h1, h2, h3⟩ := h.1 _ (getG_mem hi)
  exact ⟨by omega, by omega, by omega, by omega, h2, by omega⟩
theorem sea_first {n : Nat} {L : List GameD} {m : Nat} (h : SeaL 0 n L m) (i : Nat) (hi : i < L.length) : firstI (atG (getG L) (getG L i).home (getG L i).away) L.length 0 = (i : Int) := by
  refine (firstI_eq L.length 0 i).2 ⟨by omega, by simp [atG], fun j _ hj => ?_⟩
  have hp := List.pairwise_iff_getElem.1 h.2.1 j i (by omega) hi hj
  have ej : getG L j = L[j]'(by omega) := by simp only [getG, List.getD_eq_getElem?_getD, List.getElem?_eq_getElem (show j < L.length by omega), Option.getD_some]
  have ei : getG L i = L[i] := by simp only [getG, List.getD_eq_getElem?_getD, List.getElem?_eq_getElem hi, Option.getD_some]
  unfold atG
  rw [ej, ei]
  rw [Bool.and_eq_false_iff, beq_eq_false_iff_ne, beq_eq_false_iff_ne]
  by_cases e : (L[j]'(by omega)).home = L[i].home
  · exact .inr fun e2 => hp.1 ⟨e, e2⟩
  · exact .inl e
theorem sea_season {n : Nat} {L : List GameD} {m : Nat} (h : SeaL 0 n L m) (hn : 2 ≤ n) (hn8 : n ≤ 8) (hl : L.length ≤ 60) : seasonP n L.length (getG L) :=
  ⟨hl, fun i hi => ⟨sea_game h hn hn8 i hi, sea_first h i hi⟩⟩
theorem play_outcome (t : GameD) (o : Int) (h : 1 ≤ o ∧ o ≤ 3) : outcomeD (playD t o) = o := by
  have : o = 1 ∨ o = 2 ∨ o = 3 := by omega
  unfold outcomeD playD
  rcases this with rfl | rfl | rfl <;> simp [goalsD]
theorem play_game {n : Int} {t : GameD} (o : Int) (h : 1 ≤ o ∧ o ≤ 3) (hg : gameP n t) : gameP n (playD t o) := by
  obtain ⟨h1, h2, h3, h4, h5, h6⟩ := hg
  have : o = 1 ∨ o = 2 ∨ o = 3 := by omega
  unfold playD
  rw [if_pos h]
  exact ⟨h1, h2, h3, h4, by simp, .inl ⟨rfl, by simp only; split <;> omega, by simp only; split <;> omega⟩⟩
theorem play_teams (t : GameD) (o : Int) : (playD t o).home = t.home ∧ (playD t o).away = t.away := by
  unfold playD
  split <;> exact ⟨rfl, rfl⟩
theorem play_closed (t : GameD) (o : Int) (h : 1 ≤ o ∧ o ≤ 3) : ((playD t o).st == 0) = false := by
  unfold playD; rw [if_pos h]; rfl
theorem play_none (t : GameD) : playD t 0 = t := by unfold playD; rw [if_neg (by omega)]
end Go.Proofs.Ytoingkchjiipgaa
