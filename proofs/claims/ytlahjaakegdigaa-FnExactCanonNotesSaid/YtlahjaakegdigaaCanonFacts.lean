/-
  Records: the canonical list is the list of the first notes in the order of their serial numbers. Plain facts.
-/
import Derived.Test.YtlahjaakegdigaaNotesImpl
set_option linter.unusedVariables false
namespace Go.Proofs.Ytlahjaakegdigaa
open Go.RowKit

theorem sorted_ext {α : Type} {f : α → Int} : ∀ (l1 l2 : List α), l1.Pairwise (fun x y => f x < f y) → l2.Pairwise (fun x y => f x < f y) → (∀ x, x ∈ l1 ↔ x ∈ l2) → l1 = l2
  | [], [], _, _, _ => rfl
  | [], b :: t, _, _, h => absurd ((h b).2 (by simp)) (by simp)
  | a :: t, [], _, _, h => absurd ((h a).1 (by simp)) (by simp)
  | a :: t, b :: s, h1, h2, h => by
    rw [List.pairwise_cons] at h1 h2
    have hab : a = b := by
      rcases List.mem_cons.1 ((h a).1 (by simp)) with e | e
      · exact e
      · rcases List.mem_cons.1 ((h b).2 (by simp)) with e2 | e2
        · exact e2.symm
        · have := h2.1 a e; have := h1.1 b e2; omega
    subst hab
    rw [sorted_ext t s h1.2 h2.2 fun x => ?_]
    constructor
    · intro hx
      rcases List.mem_cons.1 ((h x).1 (List.mem_cons_of_mem _ hx)) with e | e
      · subst e; have := h1.1 x hx; omega
      · exact e
    · intro hx
      rcases List.mem_cons.1 ((h x).2 (List.mem_cons_of_mem _ hx)) with e | e
      · subst e; have := h2.1 x hx; omega
      · exact e
/-- the list is in the order of serial numbers, no number twice -/
def RisingN (L : List NoteD) : Prop := L.Pairwise fun x y => x.serial < y.serial
theorem rising_get {L : List NoteD} (h : RisingN L) {i j : Nat} (hij : i < j) (hj : j < L.length) : (getN' L i).serial < (getN' L j).serial := by
  have h1 := (List.pairwise_iff_getElem.1 h) i j (by omega) hj hij
  simpa [getN', List.getD_eq_getElem?_getD, List.getElem?_eq_getElem hj, List.getElem?_eq_getElem (show i < L.length by omega)] using h1
theorem take_low {L : List NoteD} {s : Int} {y : NoteD} (h : y ∈ L.take (leadN s L)) : y.serial < s := by
  obtain ⟨i, hi, rfl⟩ := List.mem_iff_getElem.1 h
  have hi2 : i < leadN s L ∧ i < L.length := by rw [List.length_take] at hi; omega
  have := lead_lt s L i hi2.1
  simpa [getN', List.getD_eq_getElem?_getD, List.getElem?_eq_getElem hi2.2] using this
theorem drop_high {L : List NoteD} {s : Int} {y : NoteD} (hr : RisingN L) (hn : ¬ (leadN s L < L.length ∧ (getN' L (leadN s L)).serial = s)) (h : y ∈ L.drop (leadN s L)) : s < y.serial := by
  obtain ⟨i, hi, rfl⟩ := List.mem_iff_getElem.1 h
  have hi2 : leadN s L + i < L.length := by simp at hi; omega
  have h0 := lead_ge s L (by omega)
  have h1 : (getN' L (leadN s L)).serial ≠ s := fun e => hn ⟨by omega, e⟩
  have h2 : (getN' L (leadN s L)).serial ≤ (getN' L (leadN s L + i)).serial := by
    by_cases e : i = 0
    · subst e; exact Int.le_refl _
    · exact Int.le_of_lt (rising_get hr (by omega) hi2)
  have h3 : (getN' L (leadN s L + i)).serial = ((L.drop (leadN s L))[i]).serial := by
    simp [getN', List.getD_eq_getElem?_getD, List.getElem?_eq_getElem hi2]
  omega
theorem ins_rising {L : List NoteD} (hr : RisingN L) (x : NoteD) : RisingN (insN L x) := by
  unfold insN
  split
  · exact hr
  · rename_i hn
    unfold RisingN
    rw [List.pairwise_append, List.pairwise_cons]
    refine ⟨hr.sublist (List.take_sublist _ _), ⟨fun y hy => drop_high hr hn hy, hr.sublist (List.drop_sublist _ _)⟩, fun a ha b hb => ?_⟩
    rcases List.mem_cons.1 hb with rfl | hb
    · exact take_low ha
    · have := take_low ha; have := drop_high hr hn hb; omega
theorem canon_rising (g : Nat → NoteD) : ∀ n, RisingN (canonL g n)
  | 0 => List.Pairwise.nil
  | n + 1 => ins_rising (canon_rising g n) (g n)
theorem ins_has {L : List NoteD} (hr : RisingN L) (x y : NoteD) : y ∈ insN L x ↔ y ∈ L ∨ (y = x ∧ ∀ z ∈ L, z.serial ≠ x.serial) := by
  unfold insN
  split
  · rename_i hy
    refine ⟨.inl, ?_⟩
    rintro (h | ⟨rfl, h⟩)
    · exact h
    · refine absurd hy.2 (h _ ?_)
      unfold getN'
      rw [List.getD_eq_getElem?_getD, List.getElem?_eq_getElem hy.1]
      exact List.getElem_mem hy.1
  · rename_i hn
    have hne : ∀ z ∈ L, z.serial ≠ x.serial := fun z hz => by
      rw [← List.take_append_drop (leadN x.serial L) L] at hz
      rcases List.mem_append.1 hz with h | h
      · have := take_low h; omega
      · have := drop_high hr hn h; omega
    rw [List.mem_append, List.mem_cons]
    constructor
    · rintro (h | rfl | h)
      · exact .inl (List.mem_of_mem_take h)
      · exact .inr ⟨rfl, hne⟩
      · exact .inl (List.mem_of_mem_drop h)
    · rintro (h | ⟨rfl, _⟩)
      · rw [← List.take_append_drop (leadN x.serial L) L] at h
        rcases List.mem_append.1 h with h | h
        · exact .inl h
        · exact .inr (.inr h)
      · exact .inr (.inl rfl)
/-- the notes of the canonical list: those with a serial number that none before has -/
theorem canon_has (g : Nat → NoteD) (y : NoteD) : ∀ n, y ∈ canonL g n ↔ ∃ s, 0 ≤ firstS g n s ∧ y = g (firstS g n s).toNat := by
  intro n
  induction n generalizing y with
  | zero => exact ⟨fun h => by simp [canonL] at h, fun ⟨s, h, _⟩ => absurd (show (0 : Int) ≤ -1 from h) (by omega)⟩
  | succ n ih =>
    show y ∈ insN (canonL g n) (g n) ↔ _
    rw [ins_has (canon_rising g n), ih]
    have hser : (∀ z ∈ canonL g n, z.serial ≠ (g n).serial) ↔ firstS g n (g n).serial < 0 := by
      rcases firstS_spec g (g n).serial n with ⟨h1, h2⟩ | ⟨j, h1, h2, h3, h4⟩
      · refine ⟨fun _ => by omega, fun _ z hz => ?_⟩
        obtain ⟨i, hi, rfl⟩ := canon_mem g z n hz
        exact h2 i hi
      · refine ⟨fun h => ?_, fun h => absurd h (by omega)⟩
        refine absurd ?_ (h (g j) ((ih (g j)).2 ⟨(g n).serial, by omega, by rw [h1]; simp⟩))
        exact h3
    rw [hser]
    by_cases h0 : firstS g n (g n).serial < 0
    · constructor
      · rintro (⟨s, h1, rfl⟩ | ⟨rfl, _⟩)
        · refine ⟨s, ?_, ?_⟩
          · rw [firstS_other g s (fun e => by subst e; omega)]; exact h1
          · rw [firstS_other g s (fun e => by subst e; omega)]
        · exact ⟨(g n).serial, by rw [firstS_new g h0]; omega, by rw [firstS_new g h0]; simp⟩
      · rintro ⟨s, h1, rfl⟩
        by_cases e : s = (g n).serial
        · subst e
          rw [firstS_new g h0]
          exact .inr ⟨by simp, h0⟩
        · rw [firstS_other g s e] at h1 ⊢
          exact .inl ⟨s, h1, rfl⟩
    · constructor
      · rintro (⟨s, h1, rfl⟩ | ⟨_, h⟩)
        · exact ⟨s, by rw [firstS_keep g (by omega)]; exact h1, by rw [firstS_keep g (by omega)]⟩
        · exact absurd h h0
      · rintro ⟨s, h1, rfl⟩
        rw [firstS_keep g (by omega)] at h1 ⊢
        exact .inl ⟨s, h1, rfl⟩
theorem canon_eq (g : Nat → NoteD) (n : Nat) (L : List Int) (h1 : L.Pairwise (· < ·)) (h2 : ∀ s, s ∈ L ↔ 0 ≤ firstS g n s) : canonL g n = L.map fun s => g (firstS g n s).toNat := by
  have hs : ∀ s ∈ L, (g (firstS g n s).toNat).serial = s := fun s hs => by
    rcases firstS_spec g s n with ⟨e1, e2⟩ | ⟨j, e1, e2, e3, e4⟩
    · have := (h2 s).1 hs; omega
    · rw [e1]; simpa using e3
  refine sorted_ext (f := NoteD.serial) _ _ (canon_rising g n) ?_ fun y => ?_
  · rw [List.pairwise_map]
    exact h1.imp_of_mem fun ha hb hab => by rw [hs _ ha, hs _ hb]; exact hab
  · rw [canon_has, List.mem_map]
    constructor
    · rintro ⟨s, e1, rfl⟩; exact ⟨s, (h2 s).2 e1, rfl⟩
    · rintro ⟨s, e1, rfl⟩; exact ⟨s, (h2 s).1 e1, rfl⟩
end Go.Proofs.Ytlahjaakegdigaa
