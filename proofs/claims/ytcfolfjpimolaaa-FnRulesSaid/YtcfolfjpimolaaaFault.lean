/-
  Rule books: FaultOf of the model and of the program.
-/
import Derived.Test.YtcfolfjpimolaaaDecisive
set_option linter.unusedVariables false
namespace Go.Proofs.Ytcfolfjpimolaaa
open Go.RowKit

/-- the points come, and no mutual key before them -/
def lateP (n : Nat) (g : Nat → Int) : Prop := ∃ p, p < n ∧ g p = 1 ∧ ∀ i, i < p → g i ≠ 1 ∧ mutualB (g i) = false
theorem early_spec (win draw loss : Int) (ag R : Bool) (v : Value) (n : Nat) (g : Nat → Int) (w : World) (hR : R = false ↔ lateP n g) (h : IntRow w v n g) :
    Calls Try.prog 47 #[.agg #[.int .i64 win, .int .i64 draw, .int .i64 loss, v, .bool ag]] w fun e w' => e = .returned (.bool R) ∧ Below w.heap.size w w' := by
  obtain ⟨a, cap, rfl, hn, hv⟩ := h.form
  have HV := Lib.hid hv
  have HR := Lib.hid hR
  clear hv h hR
  go_enter Try.func47, Try.ntmps47
  go_wp2
  go_loop [8] (fun i => ∃ k : Nat, k ≤ n ∧ i = .int .i64 k ∧ Hid (∀ i, i < k → g i ≠ 1 ∧ mutualB (g i) = false)) (fun i => n - (intOf i).toNat)
  case atStart => exact ⟨0, Nat.zero_le _, rfl, fun i hi => absurd hi (by omega)⟩
  case round =>
    obtain ⟨k, hk, rfl, hok⟩ := hrel
    by_cases hlt : k < n
    · obtain ⟨b, off, rfl, hc⟩ := HV.out (by omega)
      have c1 := hc k hlt
      have hblt : b < w.heap.size := World.block_lt_of_cell? w _ c1
      have H1 : Hid (g k = 1 → R = false) := fun h => HR.out.2 ⟨k, hlt, h, hok.out⟩
      have H2 : Hid (mutualB (g k) = true → R = true) := fun h => by
        cases R with
        | true => rfl
        | false =>
          obtain ⟨p, hp, hp1, hpa⟩ := HR.out.1 rfl
          rcases Nat.lt_trichotomy p k with h5 | h5 | h5
          · exact absurd hp1 (hok.out p h5).1
          · subst h5; rw [hp1] at h; simp [mutualB] at h
          · exact absurd h (by rw [(hpa k h5).2]; simp)
      have H3 : Hid (g k ≠ 1 → mutualB (g k) = false → ∀ i, i < k + 1 → g i ≠ 1 ∧ mutualB (g i) = false) := fun h h' i hi => by
        by_cases hik : i = k
        · subst hik; exact ⟨h, h'⟩
        · exact hok.out i (by omega)
      clear hc HV HR hok
      generalize g k = x at *
      by_cases hx : x = 1
      · obtain rfl := H1.out hx
        subst hx
        clear H1 H2 H3
        go_wp2
        go_ret
        exact ⟨rfl, (Below.refl _ _).alloc (Nat.le_refl _) _⟩
      · have g1 : (x == 1) = false := beq_eq_false_iff_ne.2 hx
        have C := Lib.hid (fun w => isMutual_spec x w)
        have HX := Lib.hid hx
        clear hx
        generalize hm : mutualB x = m at *
        clear hm
        cases m with
        | true =>
          obtain rfl := H2.out rfl
          clear H1 H2 H3
          go_wp2_with (go_at_call 22; refine (C.out _).mono ?_; rintro e w' ⟨rfl, rfl⟩)
          go_ret
          exact ⟨rfl, (Below.refl _ _).alloc (Nat.le_refl _) _⟩
        | false =>
          have HN := Lib.hid (H3.out HX.out rfl)
          clear H1 H2 H3
          go_wp2_with (go_at_call 22; refine (C.out _).mono ?_; rintro e w' ⟨rfl, rfl⟩)
          go_round
          case rel => exact ⟨k + 1, by omega, by go_num, HN.out⟩
          case measure => simp [intOf]; omega
    · obtain rfl : k = n := by omega
      have hf : R = true := by
        cases R with
        | true => rfl
        | false =>
          obtain ⟨p, hp, hp1, _⟩ := HR.out.1 rfl
          exact absurd hp1 (hok.out p hp).1
      subst hf
      clear HR hok HV
      go_wp2
      go_ret
      exact ⟨rfl, (Below.refl _ _).alloc (Nat.le_refl _) _⟩
/-- the first index from k on, of r more, where p holds; else -1 -/
def firstI (p : Nat → Bool) : Nat → Nat → Int
  | 0, _ => -1
  | r + 1, k => if p k = true then (k : Int) else firstI p r (k + 1)
theorem firstI_pos (p : Nat → Bool) (r : Nat) : ∀ k, 0 ≤ firstI p r k ↔ ∃ j, k ≤ j ∧ j < k + r ∧ p j = true := by
  induction r with
  | zero => intro k; unfold firstI; constructor
            · intro h; omega
            · rintro ⟨j, h1, h2, _⟩; omega
  | succ r ih =>
    intro k
    unfold firstI
    by_cases h : p k = true
    · rw [if_pos h]
      exact ⟨fun _ => ⟨k, Nat.le_refl _, by omega, h⟩, fun _ => by omega⟩
    · rw [if_neg h, ih (k + 1)]
      constructor
      · rintro ⟨j, h1, h2, h3⟩; exact ⟨j, by omega, by omega, h3⟩
      · rintro ⟨j, h1, h2, h3⟩
        refine ⟨j, ?_, by omega, h3⟩
        rcases Nat.lt_or_ge k j with h4 | h4
        · omega
        · obtain rfl : j = k := by omega
          exact absurd h3 h
theorem indexFunc_mutual (v : Value) (n : Nat) (g : Nat → Int) (w : World) (h : IntRow w v n g) :
    Calls Try.prog 55 #[v, .func (.func 23) #[] #[]] w fun e w' => e = .returned (.int .i64 (firstI (fun i => mutualB (g i)) n 0)) ∧ w = w' := by
  obtain ⟨a, cap, rfl, hn, hv⟩ := h.form
  have HV := Lib.hid hv
  clear hv h
  generalize hr : firstI (fun i => mutualB (g i)) n 0 = R
  have HR := Lib.hid hr
  clear hr
  go_enter Try.func55, Try.ntmps55
  go_wp2
  go_loop [8] (fun i => ∃ k : Nat, k ≤ n ∧ i = .int .i64 k ∧ Hid (firstI (fun i => mutualB (g i)) (n - k) k = R)) (fun i => n - (intOf i).toNat)
  case atStart => exact ⟨0, Nat.zero_le _, rfl, HR.out⟩
  case round =>
    obtain ⟨k, hk, rfl, hp⟩ := hrel
    by_cases hlt : k < n
    · obtain ⟨b, off, rfl, hc⟩ := HV.out (by omega)
      have c1 := hc k hlt
      have hstep : (if mutualB (g k) = true then (k : Int) else firstI (fun i => mutualB (g i)) (n - (k + 1)) (k + 1)) = R := by
        have := hp.out
        rw [show n - k = n - (k + 1) + 1 by omega] at this
        exact this
      clear hc HV hp HR
      have C := Lib.hid (fun w => isMutual_impl (g k) w)
      generalize hm : mutualB (g k) = m at *
      clear hm
      cases m with
      | true =>
        rw [if_pos rfl] at hstep
        subst hstep
        generalize g k = x at *
        go_wp2_with (go_at_call 23; refine (C.out _).mono ?_; rintro e w' ⟨rfl, rfl⟩)
        go_ret
        exact ⟨rfl, rfl⟩
      | false =>
        rw [if_neg (by simp)] at hstep
        have HS := Lib.hid hstep
        clear hstep
        generalize hy : g k = x at c1 C
        clear hy
        go_wp2_with (go_at_call 23; refine (C.out _).mono ?_; rintro e w' ⟨rfl, rfl⟩)
        go_round
        case rel => exact ⟨k + 1, by omega, by go_num, HS.out⟩
        case measure => simp [intOf]; omega
    · obtain rfl : k = n := by omega
      have hR : R = -1 := by rw [← hp.out, Nat.sub_self]; rfl
      subst hR
      clear hp HR
      go_wp2
      go_ret
      exact ⟨rfl, rfl⟩
theorem containsFunc_mutual (v : Value) (n : Nat) (g : Nat → Int) (R : Bool) (w : World) (hR : R = true ↔ ∃ j, j < n ∧ mutualB (g j) = true) (h : IntRow w v n g) :
    Calls Try.prog 53 #[v, .func (.func 23) #[] #[]] w fun e w' => e = .returned (.bool R) ∧ w = w' := by
  have H := Lib.hid (indexFunc_mutual v n g w h)
  have hp : R = decide (0 ≤ firstI (fun i => mutualB (g i)) n 0) := by
    rw [Bool.eq_iff_iff, hR, decide_eq_true_eq, firstI_pos]
    exact ⟨fun ⟨j, h1, h2⟩ => ⟨j, by omega, by omega, h2⟩, fun ⟨j, _, h1, h2⟩ => ⟨j, by omega, h2⟩⟩
  generalize firstI (fun i => mutualB (g i)) n 0 = q at *
  subst hp
  clear h hR
  go_enter Try.func53, Try.ntmps53
  go_wp2_with (go_at_call 55; refine H.out.mono ?_; rintro e w' ⟨rfl, rfl⟩)
  go_ret
  exact ⟨rfl, rfl⟩
/-- where the first x is -/
theorem placeI_at (g : Nat → Int) (x : Int) (r : Nat) : ∀ k, placeI g x r k = -1 ∨ ∃ j : Nat, placeI g x r k = j ∧ k ≤ j ∧ j < k + r ∧ g j = x ∧ ∀ i, k ≤ i → i < j → g i ≠ x := by
  induction r with
  | zero => intro k; exact .inl rfl
  | succ r ih =>
    intro k
    unfold placeI
    by_cases h : g k = x
    · rw [if_pos h]
      exact .inr ⟨k, rfl, Nat.le_refl _, by omega, h, fun i h1 h2 => by omega⟩
    · rw [if_neg h]
      rcases ih (k + 1) with h1 | ⟨j, h1, h2, h3, h4, h5⟩
      · exact .inl h1
      · refine .inr ⟨j, h1, by omega, by omega, h4, fun i h6 h7 => ?_⟩
        by_cases e : i = k
        · subst e; exact h
        · exact h5 i (by omega) h7
theorem early_impl (R : Bool) (v : Value) (n : Nat) (g : Nat → Int) (w : World) (hR : R = false ↔ lateP n g) (h : IntRow w v n g) :
    Calls Try.prog 38 #[v] w fun e w' => e = .returned (.bool R) ∧ w = w' := by
  have H := Lib.hid (slicesIndex_int v n g 1 w h)
  rcases placeI_at g 1 n 0 with h1 | ⟨p, h1, _, hpn, hp1, hpa⟩
  · have hf : R = true := by
      cases R with
      | true => rfl
      | false =>
        obtain ⟨p, hp, hp1, _⟩ := hR.1 rfl
        have := (placeI_has g 1 n).2 ⟨p, hp, hp1⟩
        omega
    subst hf
    rw [h1] at H
    clear h1 hR h
    go_enter Try.func38, Try.ntmps38
    go_wp2_with (go_at_call 52; refine H.out.mono ?_; rintro e w' ⟨rfl, rfl⟩)
    go_ret
    exact ⟨rfl, rfl⟩
  · rw [h1] at H
    obtain ⟨b, off, cap, rfl, h0, hn, hc, hcap⟩ : ∃ b off cap, v = .slice (some ⟨b, off, none⟩) n cap ∧ 0 < n ∧ n ≤ 9223372036854775807 ∧ (∀ i, i < n → w.cell? ⟨b, off + i, none⟩ = some (.int .i64 (g i))) ∧ n ≤ cap := by
      rcases h with ⟨a, cap, rfl, rfl⟩ | h
      · omega
      · exact h
    have hR' : R = true ↔ ∃ j, j < p ∧ mutualB (g j) = true := by
      cases R with
      | true =>
        refine ⟨fun _ => ?_, fun _ => rfl⟩
        have hl : ¬ lateP n g := fun hl => by simpa using hR.2 hl
        exact Classical.byContradiction fun hno => hl ⟨p, by omega, hp1, fun i hi => ⟨hpa i (by omega) hi, by
          cases hm : mutualB (g i) with
          | false => rfl
          | true => exact absurd ⟨i, hi, hm⟩ hno⟩⟩
      | false =>
        refine ⟨(fun h => by cases h), fun ⟨j, hj, hm⟩ => ?_⟩
        obtain ⟨q, hq, hq1, hqa⟩ := hR.1 rfl
        rcases Nat.lt_trichotomy q p with h5 | h5 | h5
        · exact absurd hq1 (hpa q (by omega) h5)
        · subst h5; rw [(hqa j hj).2] at hm; cases hm
        · exact absurd hp1 (hqa p h5).1
    have C := Lib.hid (containsFunc_mutual _ p g R w hR' (IntRow.take p (by omega) hn hcap hc))
    clear h1 hR hR' h hc hpa
    have hk9 : (p : Int) ≤ cap := by omega
    have hk8 : (0 : Int) ≤ p := by omega
    have HP := Lib.hid hp1
    clear hp1
    go_enter Try.func38, Try.ntmps38
    go_wp2_with (go_at_call 52; refine H.out.mono ?_; rintro e w' ⟨rfl, rfl⟩)
    refine C.out.mono ?_
    rintro e w' ⟨rfl, rfl⟩
    go_wp2
    go_ret
    exact ⟨rfl, rfl⟩
end Go.Proofs.Ytcfolfjpimolaaa
