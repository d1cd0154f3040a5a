/-
  Lists of notes: where a note is put in, and how the list is shifted for it. Plain facts.
-/
import Derived.Test.YtlahjaakegdigaaRecords5
set_option linter.unusedVariables false
namespace Go.Proofs.Ytlahjaakegdigaa
open Go.RowKit

/-- how many notes at the front have a serial number below s -/
def leadN (s : Int) : List NoteD → Nat
  | [] => 0
  | y :: L => if y.serial < s then leadN s L + 1 else 0
/-- x put into a list in the order of serial numbers, unless its number is there -/
def insN (L : List NoteD) (x : NoteD) : List NoteD :=
  if leadN x.serial L < L.length ∧ (getN' L (leadN x.serial L)).serial = x.serial then L else L.take (leadN x.serial L) ++ x :: L.drop (leadN x.serial L)
/-- the first k notes in canonical form -/
def canonL (g : Nat → NoteD) : Nat → List NoteD
  | 0 => []
  | k + 1 => insN (canonL g k) (g k)
theorem lead_le (s : Int) (L : List NoteD) : leadN s L ≤ L.length := by
  induction L with
  | nil => exact Nat.le_refl _
  | cons y L ih => unfold leadN; split <;> simp <;> omega
theorem lead_lt (s : Int) (L : List NoteD) : ∀ i, i < leadN s L → (getN' L i).serial < s := by
  induction L with
  | nil => intro i hi; exact absurd hi (by simp [leadN])
  | cons y L ih =>
    intro i hi
    unfold leadN at hi
    split at hi
    · next h =>
      cases i with
      | zero => exact h
      | succ i => exact ih i (by omega)
    · omega
theorem lead_ge (s : Int) (L : List NoteD) : leadN s L < L.length → ¬ (getN' L (leadN s L)).serial < s := by
  induction L with
  | nil => intro h; exact absurd h (by simp)
  | cons y L ih =>
    intro h
    unfold leadN at h ⊢
    split at h
    · next hy => rw [if_pos hy]; exact ih (by simpa using h)
    · next hy => rw [if_neg hy]; exact hy
theorem ins_len (L : List NoteD) (x : NoteD) : (insN L x).length ≤ L.length + 1 := by
  unfold insN
  split
  · omega
  · have := lead_le x.serial L; simp; omega
/-- the list L with a gap at j -/
def gapL (L : List NoteD) (j : Nat) (u : NoteD) : List NoteD := L.take j ++ u :: L.drop j
theorem gap_len (L : List NoteD) (j : Nat) (u : NoteD) (h : j ≤ L.length) : (gapL L j u).length = L.length + 1 := by
  unfold gapL; simp; omega
theorem gap_get (L : List NoteD) (j : Nat) (u : NoteD) (i : Nat) (h : i < j) (hj : j ≤ L.length) : getN' (gapL L j u) i = getN' L i := by
  unfold gapL getN'
  simp only [List.getD_eq_getElem?_getD]
  rw [List.getElem?_append_left (by simp; omega), List.getElem?_take_of_lt h]
theorem gap_set (L : List NoteD) (j : Nat) (u x : NoteD) (hj : j ≤ L.length) : (gapL L j u).set j x = gapL L j x := by
  unfold gapL
  rw [List.set_append_right _ _ (by simp; omega)]
  simp [Nat.min_eq_left hj]
theorem gap_step (L : List NoteD) (j : Nat) (hj : j < L.length) : gapL L (j + 1) (getN' L j) = gapL L j (getN' L j) := by
  unfold gapL
  have h1 : getN' L j = L[j] := by simp [getN', List.getD_eq_getElem?_getD, List.getElem?_eq_getElem hj]
  have h2 : L.take (j + 1) = L.take j ++ [L[j]] := (List.take_append_getElem hj).symm
  rw [h1, h2, List.drop_eq_getElem_cons hj]
  simp only [List.append_assoc, List.cons_append, List.nil_append]
theorem gap_end (L : List NoteD) (u : NoteD) : gapL L L.length u = L ++ [u] := by
  unfold gapL; simp
theorem flat_set (x : NoteD) : ∀ (M : List NoteD) (j : Nat), j < M.length → setsFrom (M.flatMap NoteD.cells) (j * 7) x.cells = (M.set j x).flatMap NoteD.cells := by
  intro M j hj
  apply List.ext_getElem?
  intro t
  have hlen := flat_len M
  have hlen2 := flat_len (M.set j x)
  rw [List.length_set] at hlen2
  by_cases ht : t < M.length * 7
  · have h1 := notes_cells M (t / 7) (by omega) (t % 7)
    have h2 := notes_cells (M.set j x) (t / 7) (by rw [List.length_set]; omega) (t % 7)
    have ht7 : t / 7 * 7 + t % 7 = t := by omega
    rw [ht7] at h1 h2
    by_cases hjt : t / 7 = j
    · have hx : (getN' (M.set j x) (t / 7)) = x := by simp [getN', List.getD_eq_getElem?_getD, hjt, hj]
      have hm : t % 7 < x.cells.length := by rw [NoteD.len]; omega
      obtain ⟨u, hu⟩ : ∃ u, x.cells[t % 7]? = some u := ⟨_, List.getElem?_eq_getElem hm⟩
      rw [h2 u (by simp only [hx]; exact hu), show t = j * 7 + t % 7 by omega]
      exact setsFrom_in x.cells _ _ _ u (by rw [NoteD.len]; omega) hu
    · have hx : (getN' (M.set j x) (t / 7)) = getN' M (t / 7) := by
        simp only [getN', List.getD_eq_getElem?_getD]
        rw [List.getElem?_set_ne (by omega)]
      have hm : t % 7 < (getN' M (t / 7)).cells.length := by rw [NoteD.len]; omega
      obtain ⟨u, hu⟩ : ∃ u, (getN' M (t / 7)).cells[t % 7]? = some u := ⟨_, List.getElem?_eq_getElem hm⟩
      rw [h2 u (by simp only [hx]; exact hu), setsFrom_out _ _ _ _ (by rw [NoteD.len]; omega)]
      exact h1 u hu
  · rw [List.getElem?_eq_none (by rw [setsFrom_len]; omega), List.getElem?_eq_none (by omega)]
theorem canon_len (g : Nat → NoteD) : ∀ n, (canonL g n).length ≤ n := by
  intro n
  induction n with
  | zero => simp [canonL]
  | succ n ih => have := ins_len (canonL g n) (g n); show (insN _ _).length ≤ _; omega
theorem up_len (g : Nat → NoteD) (s : Int) : ∀ n, (upL g s n).length ≤ n := by
  intro n
  induction n with
  | zero => simp [upL]
  | succ n ih =>
    unfold upL
    split
    · simp only [List.length_append, List.length_cons, List.length_nil]; omega
    · omega
end Go.Proofs.Ytlahjaakegdigaa
