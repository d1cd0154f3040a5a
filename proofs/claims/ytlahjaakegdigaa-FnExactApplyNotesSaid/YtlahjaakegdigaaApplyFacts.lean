/-
  Records: the games that the notes give are those of the notes that stand. Plain facts.
-/
import Derived.Test.YtlahjaakegdigaaCanonFacts
set_option linter.unusedVariables false
namespace Go.Proofs.Ytlahjaakegdigaa
open Go.RowKit

theorem serialN_ge (g : Nat → NoteD) (gm : Int) : ∀ k i, i < k → (g i).game = gm → (g i).serial ≤ serialN g gm k := by
  intro k
  induction k with
  | zero => intro i hi; exact absurd hi (by omega)
  | succ k ih =>
    intro i hi he
    show _ ≤ if (g k).game = gm ∧ serialN g gm k < (g k).serial then (g k).serial else serialN g gm k
    by_cases hik : i = k
    · subst hik
      split
      · exact Int.le_refl _
      · rename_i h; exact Int.not_lt.1 fun hlt => h ⟨he, hlt⟩
    · have := ih i (by omega) he
      split
      · rename_i h; omega
      · exact this
theorem serialN_at (g : Nat → NoteD) (gm : Int) : ∀ k, serialN g gm k = 0 ∨ ∃ i, i < k ∧ (g i).game = gm ∧ (g i).serial = serialN g gm k := by
  intro k
  induction k with
  | zero => exact .inl rfl
  | succ k ih =>
    have e : serialN g gm (k + 1) = if (g k).game = gm ∧ serialN g gm k < (g k).serial then (g k).serial else serialN g gm k := rfl
    by_cases h : (g k).game = gm ∧ serialN g gm k < (g k).serial
    · rw [if_pos h] at e
      exact .inr ⟨k, by omega, h.1, e.symm⟩
    · rw [if_neg h] at e
      rw [e]
      rcases ih with ih | ⟨i, hi, h1, h2⟩
      · exact .inl ih
      · exact .inr ⟨i, by omega, h1, h2⟩
/-- the note with the serial number s, if no later one replaces it; else -1 -/
def standS (g : Nat → NoteD) (n : Nat) (s : Int) : Int := if 0 ≤ firstS g n s ∧ ¬ s < serialN g (g (firstS g n s).toNat).game n then firstS g n s else -1
theorem standS_spec {g : Nat → NoteD} {n : Nat} {s : Int} (h : 0 ≤ standS g n s) : ∃ j : Nat, standS g n s = (j : Int) ∧ firstS g n s = (j : Int) ∧ j < n ∧ (g j).serial = s ∧ s = serialN g (g j).game n := by
  unfold standS at h ⊢
  by_cases hc : 0 ≤ firstS g n s ∧ ¬ s < serialN g (g (firstS g n s).toNat).game n
  · rw [if_pos hc]
    rcases firstS_spec g s n with ⟨h1, _⟩ | ⟨j, h1, h2, h3, _⟩
    · omega
    · rw [h1] at hc ⊢
      simp only [Int.toNat_natCast] at hc
      have := serialN_ge g (g j).game n j h2 rfl
      exact ⟨j, rfl, rfl, h2, h3, by omega⟩
  · rw [if_neg hc] at h; omega
theorem applyN_spec (g : Nat → GameD) (C : List NoteD) (i : Nat) : ∀ j, (applyN g C j i = g i ∧ ∀ t, t < j → (getN' C t).game.toNat ≠ i) ∨
    ∃ t, t < j ∧ (getN' C t).game.toNat = i ∧ applyN g C j i = (getN' C t).res ∧ ∀ t', t < t' → t' < j → (getN' C t').game.toNat ≠ i := by
  intro j
  induction j with
  | zero => exact .inl ⟨rfl, fun t ht => absurd ht (by omega)⟩
  | succ j ih =>
    have e : applyN g C (j + 1) i = if i = (getN' C j).game.toNat then (getN' C j).res else applyN g C j i := rfl
    by_cases h : i = (getN' C j).game.toNat
    · rw [if_pos h] at e
      exact .inr ⟨j, by omega, h.symm, e, fun t' h1 h2 => absurd h1 (by omega)⟩
    · rw [if_neg h] at e
      rw [e]
      rcases ih with ⟨h1, h2⟩ | ⟨t, h1, h2, h3, h4⟩
      · refine .inl ⟨h1, fun t ht => ?_⟩
        by_cases e2 : t = j
        · subst e2; exact Ne.symm h
        · exact h2 t (by omega)
      · refine .inr ⟨t, by omega, h2, h3, fun t' e1 e2 => ?_⟩
        by_cases e3 : t' = j
        · subst e3; exact Ne.symm h
        · exact h4 t' e1 (by omega)
/-- gI: the games where the notes whose keys are no longer to come have been laid in -/
def laidIn (g : Nat → GameD) (ns : Nat → NoteD) (k : Nat) (left : Int → Bool) (gI : Nat → GameD) : Prop :=
  (∀ s, 0 ≤ standS ns k s → left s = false → gI (ns (standS ns k s).toNat).game.toNat = (ns (standS ns k s).toNat).res) ∧
  ∀ i, (∀ s, 0 ≤ standS ns k s → left s = false → (ns (standS ns k s).toNat).game.toNat ≠ i) → gI i = g i
theorem stand_same {n : Int} {m k : Nat} {g : Nat → GameD} {ns : Nat → NoteD} (hp : ∀ i, i < k → noteP n m g (ns i)) {s s' : Int} (h : 0 ≤ standS ns k s) (h' : 0 ≤ standS ns k s')
    (he : (ns (standS ns k s).toNat).game.toNat = (ns (standS ns k s').toNat).game.toNat) : s = s' := by
  obtain ⟨j, e1, e2, e3, e4, e5⟩ := standS_spec h
  obtain ⟨j', f1, f2, f3, f4, f5⟩ := standS_spec h'
  rw [e1, f1] at he
  simp only [Int.toNat_natCast] at he
  have p1 := (hp j e3).2.1.1
  have p2 := (hp j' f3).2.1.1
  have : (ns j).game = (ns j').game := by omega
  rw [e5, f5, this]
theorem laidIn.step {n : Int} {m k : Nat} {g : Nat → GameD} {ns : Nat → NoteD} (hp : ∀ i, i < k → noteP n m g (ns i)) {left left' : Int → Bool} {gI gI' : Nat → GameD} {s : Int} (h : laidIn g ns k left gI) (hs : 0 ≤ standS ns k s) (hl : left s = true)
    (h1 : left' s = false) (h2 : ∀ t, t ≠ s → left' t = left t) (hg : ∀ i, gI' i = if i = (ns (standS ns k s).toNat).game.toNat then (ns (standS ns k s).toNat).res else gI i) : laidIn g ns k left' gI' := by
  refine ⟨fun t ht hlt => ?_, fun i hi => ?_⟩
  · rw [hg]
    by_cases e : t = s
    · subst e; rw [if_pos rfl]
    · have hlt2 : left t = false := by rw [← h2 t e]; exact hlt
      rw [if_neg (fun e2 => e (stand_same hp ht hs e2))]
      exact h.1 t ht hlt2
  · rw [hg, if_neg (fun e => hi s hs h1 e.symm)]
    refine h.2 i fun t ht hlt => ?_
    by_cases e : t = s
    · subst e; rw [hl] at hlt; cases hlt
    · exact hi t ht (by rw [h2 t e]; exact hlt)
theorem laidIn.done {n : Int} {m k : Nat} {g : Nat → GameD} {ns : Nat → NoteD} (hp : notesP n m g k ns) {left : Int → Bool} {gI : Nat → GameD} (h : laidIn g ns k left gI) (hl : ∀ s, left s = false) (i : Nat) :
    gI i = applyN g (canonL ns k) (canonL ns k).length i := by
  have hmem : ∀ t, t < (canonL ns k).length → ∃ q, q < k ∧ ns q = getN' (canonL ns k) t := fun t ht => canon_mem ns _ k (getN_mem _ t ht)
  rcases applyN_spec g (canonL ns k) i (canonL ns k).length with ⟨h1, h2⟩ | ⟨t, h1, h2, h3, h4⟩
  · rw [h1]
    refine h.2 i fun s hs _ e => ?_
    obtain ⟨j, e1, e2, e3, e4, e5⟩ := standS_spec hs
    rw [e1] at e
    simp only [Int.toNat_natCast] at e
    have hin : ns j ∈ canonL ns k := (canon_has ns _ k).2 ⟨s, by omega, by rw [e2]; simp⟩
    obtain ⟨t, ht, he⟩ := List.mem_iff_getElem.1 hin
    have hg : getN' (canonL ns k) t = ns j := by
      unfold getN'; rw [List.getD_eq_getElem?_getD, List.getElem?_eq_getElem ht]; exact he
    exact h2 t ht (by rw [hg]; exact e)
  · rw [h3]
    obtain ⟨q, hq, hqe⟩ := hmem t h1
    have hqp := hp.2.2 q hq
    have hge := serialN_ge ns (ns q).game k q hq rfl
    have hpos : 1 ≤ (ns q).serial := hqp.1.1.1
    rcases serialN_at ns (ns q).game k with h0 | ⟨q2, hq2, hg2, hs2⟩
    · omega
    · -- the note with the greatest number on this game stands
      obtain ⟨j, j1, j2, j3⟩ := firstS_at ns hq2
      have hsame : ns j = ns q2 := by
        by_cases e : j = q2
        · rw [e]
        · exact (hp.2.2 q2 hq2).2 j (by omega) j3
      have hst : standS ns k (ns q2).serial = (j : Int) := by
        have hc : 0 ≤ firstS ns k (ns q2).serial ∧ ¬ (ns q2).serial < serialN ns (ns (firstS ns k (ns q2).serial).toNat).game k := ⟨by rw [j1]; omega, by rw [j1]; simp only [Int.toNat_natCast]; rw [hsame, hg2]; omega⟩
        unfold standS
        rw [if_pos hc]
        exact j1
      have h6 := h.1 (ns q2).serial (by omega) (hl _)
      rw [hst] at h6
      simp only [Int.toNat_natCast] at h6
      rw [hsame, hg2] at h6
      rw [← hqe] at h2
      rw [h2] at h6
      rw [h6]
      -- its place in the list is t
      have hin : ns q2 ∈ canonL ns k := (canon_has ns _ k).2 ⟨(ns q2).serial, by omega, by rw [j1]; simp [hsame]⟩
      obtain ⟨u, hu, he⟩ := List.mem_iff_getElem.1 hin
      have hgu : getN' (canonL ns k) u = ns q2 := by
        unfold getN'; rw [List.getD_eq_getElem?_getD, List.getElem?_eq_getElem hu]; exact he
      have hut : ¬ t < u := fun hlt => h4 u hlt hu (by rw [hgu, hg2]; exact h2)
      have hut2 : ¬ u < t := fun hlt => by
        have := rising_get (canon_rising ns k) hlt h1
        rw [hgu, ← hqe] at this
        omega
      obtain rfl : u = t := by omega
      rw [hgu]
end Go.Proofs.Ytlahjaakegdigaa
