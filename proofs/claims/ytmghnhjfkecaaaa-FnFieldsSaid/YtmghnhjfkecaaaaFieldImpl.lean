/-
  Fields: the program's TeamOk (TRIAL: of an implementation of our own, before the developers' landed).
-/
import Derived.Test.YtmghnhjfkecaaaaField
set_option linter.unusedVariables false
namespace Go.Proofs.Ytmghnhjfkecaaaa
open Go.RowKit

theorem teamOkI_yes (t : TeamD) (w : World) (hs : t.nm.size ≤ maxLen) (hp : teamP t) :
    Calls Try.prog 23 #[.agg #[.string t.nm, .int .i64 t.club, .int .i64 t.seed]] w fun e w' => e = .returned (.bool true) ∧ Below w.heap.size w w' := by
  obtain ⟨nm, club, seed⟩ := t
  obtain ⟨h1, h2, h3⟩ := hp
  simp only at h1 h2 h3 hs ⊢
  have H1 := Lib.hid h1
  have g1 : decide ((0 : Int) ≤ club) = true := decide_eq_true (by omega)
  have g2 : decide (club < 6) = true := decide_eq_true (by omega)
  have g3 : decide ((1 : Int) ≤ seed) = true := decide_eq_true (by omega)
  have g4 : decide (seed ≤ 8) = true := decide_eq_true (by omega)
  clear h1 h2 h3
  go_enter Try.func23, Try.ntmps23
  go_wp2_with (go_at_call 48; refine (isName_impl _ _ hs).mono ?_; rintro e w' ⟨rfl, bi⟩; obtain ⟨k0, k1, k2⟩ := var3 bi; rw [H1.out])
  go_ret
  exact ⟨rfl, ((Below.refl _ _).alloc (Nat.le_refl _) _).trans (bi.mono (by simp))⟩
theorem teamOkI_no (t : TeamD) (w : World) (hs : t.nm.size ≤ maxLen) (hp : ¬ teamP t) :
    Calls Try.prog 23 #[.agg #[.string t.nm, .int .i64 t.club, .int .i64 t.seed]] w fun e w' => e = .returned (.bool false) ∧ Below w.heap.size w w' := by
  obtain ⟨nm, club, seed⟩ := t
  unfold teamP at hp
  simp only at hp hs ⊢
  by_cases h1 : nameB nm = true
  · have H1 := Lib.hid h1
    have hp : ¬ ((0 ≤ club ∧ club ≤ 5) ∧ 1 ≤ seed ∧ seed ≤ 8) := fun h => hp ⟨h1, h⟩
    clear h1
    by_cases h2 : 0 ≤ club
    · have g1 : decide ((0 : Int) ≤ club) = true := decide_eq_true h2
      by_cases h3 : club < 6
      · have g2 : decide (club < 6) = true := decide_eq_true h3
        by_cases h4 : 1 ≤ seed
        · have g3 : decide ((1 : Int) ≤ seed) = true := decide_eq_true h4
          have g4 : decide (seed ≤ 8) = false := decide_eq_false (by omega)
          clear h2 h3 h4 hp
          go_enter Try.func23, Try.ntmps23
          go_wp2_with (go_at_call 48; refine (isName_impl _ _ hs).mono ?_; rintro e w' ⟨rfl, bi⟩; obtain ⟨k0, k1, k2⟩ := var3 bi; rw [H1.out])
          go_ret
          exact ⟨rfl, ((Below.refl _ _).alloc (Nat.le_refl _) _).trans (bi.mono (by simp))⟩
        · have g3 : decide ((1 : Int) ≤ seed) = false := decide_eq_false h4
          clear h2 h3 h4 hp
          go_enter Try.func23, Try.ntmps23
          go_wp2_with (go_at_call 48; refine (isName_impl _ _ hs).mono ?_; rintro e w' ⟨rfl, bi⟩; obtain ⟨k0, k1, k2⟩ := var3 bi; rw [H1.out])
          go_ret
          exact ⟨rfl, ((Below.refl _ _).alloc (Nat.le_refl _) _).trans (bi.mono (by simp))⟩
      · have g2 : decide (club < 6) = false := decide_eq_false h3
        clear h2 h3 hp
        go_enter Try.func23, Try.ntmps23
        go_wp2_with (go_at_call 48; refine (isName_impl _ _ hs).mono ?_; rintro e w' ⟨rfl, bi⟩; obtain ⟨k0, k1, k2⟩ := var3 bi; rw [H1.out])
        go_ret
        exact ⟨rfl, ((Below.refl _ _).alloc (Nat.le_refl _) _).trans (bi.mono (by simp))⟩
    · have g1 : decide ((0 : Int) ≤ club) = false := decide_eq_false h2
      clear h2 hp
      go_enter Try.func23, Try.ntmps23
      go_wp2_with (go_at_call 48; refine (isName_impl _ _ hs).mono ?_; rintro e w' ⟨rfl, bi⟩; obtain ⟨k0, k1, k2⟩ := var3 bi; rw [H1.out])
      go_ret
      exact ⟨rfl, ((Below.refl _ _).alloc (Nat.le_refl _) _).trans (bi.mono (by simp))⟩
  · have h1' : nameB nm = false := by simpa using h1
    have H1 := Lib.hid h1'
    clear h1 h1' hp
    go_enter Try.func23, Try.ntmps23
    go_wp2_with (go_at_call 48; refine (isName_impl _ _ hs).mono ?_; rintro e w' ⟨rfl, bi⟩; obtain ⟨k0, k1, k2⟩ := var3 bi; rw [H1.out])
    go_ret
    exact ⟨rfl, ((Below.refl _ _).alloc (Nat.le_refl _) _).trans (bi.mono (by simp))⟩
end Go.Proofs.Ytmghnhjfkecaaaa
