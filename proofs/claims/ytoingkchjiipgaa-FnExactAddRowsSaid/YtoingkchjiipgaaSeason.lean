/-
  Games: the model's SeasonOk.
-/
import Derived.Test.YtoingkchjiipgaaGames2
set_option linter.unusedVariables false
namespace Go.Proofs.Ytoingkchjiipgaa
open Go.RowKit

/-- the games are a season of n teams -/
def seasonP (n : Int) (m : Nat) (g : Nat → GameD) : Prop := m ≤ 60 ∧ ∀ i, i < m → gameP n (g i) ∧ firstI (atG g (g i).home (g i).away) m 0 = (i : Int)
theorem seasonOk_spec (n : Int) (v : Value) (m : Nat) (g : Nat → GameD) (R : Bool) (w : World) (hR : R = true ↔ seasonP n m g) (hv : GameRow w v m g) :
    Calls Try.prog 60 #[.int .i64 n, v] w fun e w' => e = .returned (.bool R) ∧ Below w.heap.size w w' := by
  obtain ⟨aa, cap, rfl, hn, hc⟩ := hv.form
  have HV := Lib.hid hc
  have HG := Lib.hid hv
  have HR := Lib.hid hR
  clear hc hv hR
  by_cases h60 : 60 < m
  · have g0 : decide (60 < (m : Int)) = true := decide_eq_true (by omega)
    have g0' : decide (60 < m) = true := decide_eq_true h60
    have hf : R = false := by
      cases R with
      | false => rfl
      | true => have := (HR.out.1 rfl).1; omega
    subst hf
    clear HR
    go_enter Try.func60, Try.ntmps60
    go_wp2
    go_ret
    exact ⟨rfl, Below.refl _ _⟩
  have g0 : decide (60 < (m : Int)) = false := decide_eq_false (by omega)
  have g0' : decide (60 < m) = false := decide_eq_false h60
  have HNO : Hid (∀ k, k < m → ¬ (gameP n (g k) ∧ firstI (atG g (g k).home (g k).away) m 0 = (k : Int)) → R = false) := fun k hk h => by
    cases R with
    | false => rfl
    | true => exact absurd ((HR.out.1 rfl).2 k hk) h
  have HYES : Hid ((∀ i, i < m → gameP n (g i) ∧ firstI (atG g (g i).home (g i).away) m 0 = (i : Int)) → R = true) := fun h => HR.out.2 ⟨by omega, h⟩
  clear HR
  go_enter Try.func60, Try.ntmps60
  go_wp2
  go_loopw [12] (fun i wr => ∃ k : Nat, k ≤ m ∧ i = .int .i64 k ∧ Hid (∀ i, i < k → gameP n (g i) ∧ firstI (atG g (g i).home (g i).away) m 0 = (i : Int)) ∧ Below w.heap.size w wr) (fun i _ => m - (intOf i).toNat)
  case atStart => exact ⟨0, Nat.zero_le _, rfl, fun i hi => absurd hi (by omega), Below.refl _ _⟩
  case round =>
    obtain ⟨k, hk, rfl, hok, hb⟩ := hrel
    by_cases hlt : k < m
    · obtain ⟨b, off, rfl, hcap, hc⟩ := HV.out (by omega)
      have hq := (hc k hlt).belowB hb (hc k hlt).1
      have HS : Hid ((gameP n (g k) ∧ firstI (atG g (g k).home (g k).away) m 0 = (k : Int)) → ∀ i, i < k + 1 → gameP n (g i) ∧ firstI (atG g (g i).home (g i).away) m 0 = (i : Int)) := fun h i hi => by
        by_cases hik : i = k
        · subst hik; exact h
        · exact hok.out i (by omega)
      have HN := Lib.hid (HNO.out k hlt)
      have CG := Lib.hid (fun w1 h1 => gameOf_spec (.slice (some ⟨b, off, none⟩) m cap) m g (g k).home (g k).away w1 h1)
      generalize firstI (atG g (g k).home (g k).away) m 0 = fi at *
      generalize g k = x at *
      obtain ⟨c0, c1, c2, c3, c4⟩ := game_cells hq
      have hsz := hb.size
      clear hc HV hq hok HNO HYES
      obtain ⟨r, hr⟩ : ∃ r : Bool, r = true ↔ gameP n x := by
        by_cases h : gameP n x
        · exact ⟨true, fun _ => h, fun _ => rfl⟩
        · exact ⟨false, (fun e => by cases e), fun e => absurd e h⟩
      have C := Lib.hid (fun w1 => gameOk_spec n x.home x.away x.hg x.ag x.st r w1 hr)
      have HR2 := Lib.hid hr
      clear hr
      cases r with
      | false =>
        have hf : R = false := HN.out fun h => by have := HR2.out.2 h.1; cases this
        subst hf
        clear HN HS HR2
        go_wp2_with fail
        refine (C.out _).mono ?_
        rintro e w2 ⟨rfl, b2⟩
        have hb2 := hb.trans ((below_prev b2).mono hsz)
        go_wp2
        go_ret
        exact ⟨rfl, hb2⟩
      | true =>
        go_wp2_with fail
        refine (C.out _).mono ?_
        rintro e w2 ⟨rfl, b2⟩
        have bx := BoxN.made b2 (B := wr.heap.size) rfl
        have d0 := bx.2 0 _ rfl
        have d1 := bx.2 1 _ rfl
        have hb2 := hb.trans ((below_prev b2).mono hsz)
        have hG2 := Lib.hid (HG.out.below hb2 (Nat.le_refl _))
        clear b2 bx c0 c1 c2 c3 c4 C
        go_wp2_with fail
        refine (CG.out _ hG2.out).mono ?_
        rintro e w3 ⟨rfl, b3⟩
        have hb3 := hb2.trans (b3.mono hb2.size)
        clear b3 CG hG2 d0 d1
        by_cases hfi : fi = (k : Int)
        · have HX := Lib.hid (HS.out ⟨HR2.out.1 (by simp), hfi⟩)
          subst hfi
          clear HN HS HR2
          go_wp2
          go_roundw
          case rel => exact ⟨k + 1, by omega, by go_num, HX.out, hb3⟩
          case measure => simp [intOf]; omega
        · have hf : R = false := HN.out fun h => hfi h.2
          subst hf
          have g1 : (fi != (k : Int)) = true := bne_iff_ne.2 hfi
          have HF := Lib.hid hfi
          clear HN HS HR2 hfi
          go_wp2
          go_ret
          exact ⟨rfl, hb3⟩
    · obtain rfl : k = m := by omega
      obtain rfl := HYES.out hok.out
      clear HNO HYES hok
      go_wp2
      go_ret
      exact ⟨rfl, hb⟩
end Go.Proofs.Ytoingkchjiipgaa
