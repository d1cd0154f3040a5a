/-
  Records: the model's NotesOk.
-/
import Derived.Test.YtlahjaakegdigaaRecords3
set_option linter.unusedVariables false
namespace Go.Proofs.Ytlahjaakegdigaa
open Go.RowKit

/-- the notes fit the games of n teams, and no two have one serial number -/
def notesP (n : Int) (m : Nat) (g : Nat → GameD) (k : Nat) (ns : Nat → NoteD) : Prop :=
  seasonP n m g ∧ k ≤ 80 ∧ ∀ i, i < k → noteP n m g (ns i) ∧ ∀ j, j < i → (ns j).serial = (ns i).serial → ns j = ns i
set_option maxHeartbeats 1000000 in
theorem notesOk_spec (n : Int) (v : Value) (m : Nat) (g : Nat → GameD) (v' : Value) (k : Nat) (ns : Nat → NoteD) (R : Bool) (w : World) (hR : R = true ↔ notesP n m g k ns) (hv : GameRow w v m g) (hv' : NoteRow w v' k ns) :
    Calls Try.prog 18 #[.int .i64 n, v, v'] w fun e w' => e = .returned (.bool R) ∧ Below w.heap.size w w' := by
  obtain ⟨aa', cap', rfl, hn', hc'⟩ := hv'.form
  have HV' := Lib.hid hc'
  have HG := Lib.hid hv
  have HR := Lib.hid hR
  obtain ⟨r, hr⟩ : ∃ r : Bool, r = true ↔ seasonP n m g := by
    by_cases h : seasonP n m g
    · exact ⟨true, fun _ => h, fun _ => rfl⟩
    · exact ⟨false, (fun e => by cases e), fun e => absurd e h⟩
  have C := Lib.hid (fun w1 h1 => seasonOk_spec n v m g r w1 hr h1)
  have HRR := Lib.hid hr
  clear hr hR hv hc' hv'
  cases r with
  | false =>
    have hf : R = false := by
      cases R with
      | false => rfl
      | true => have := HRR.out.2 (HR.out.1 rfl).1; cases this
    subst hf
    clear HR HRR HV'
    go_enter Try.func18, Try.ntmps18
    go_wp2_with fail
    refine (C.out _ HG.out).mono ?_
    rintro e w2 ⟨rfl, b2⟩
    go_wp2
    go_ret
    exact ⟨rfl, b2⟩
  | true =>
  by_cases h80 : 80 < k
  · have g0 : decide (80 < (k : Int)) = true := decide_eq_true (by omega)
    have g0' : decide (80 < k) = true := decide_eq_true h80
    have hf : R = false := by
      cases R with
      | false => rfl
      | true => have := (HR.out.1 rfl).2.1; omega
    subst hf
    clear HR HRR HV'
    go_enter Try.func18, Try.ntmps18
    go_wp2_with fail
    refine (C.out _ HG.out).mono ?_
    rintro e w2 ⟨rfl, b2⟩
    go_wp2
    go_ret
    exact ⟨rfl, b2⟩
  have g0 : decide (80 < (k : Int)) = false := decide_eq_false (by omega)
  have g0' : decide (80 < k) = false := decide_eq_false h80
  have HNO : Hid (∀ i, i < k → ¬ (noteP n m g (ns i) ∧ ∀ j, j < i → (ns j).serial = (ns i).serial → ns j = ns i) → R = false) := fun i hi h => by
    cases R with
    | false => rfl
    | true => exact absurd ((HR.out.1 rfl).2.2 i hi) h
  have HYES : Hid ((∀ i, i < k → noteP n m g (ns i) ∧ ∀ j, j < i → (ns j).serial = (ns i).serial → ns j = ns i) → R = true) := fun h => HR.out.2 ⟨HRR.out.1 rfl, by omega, h⟩
  clear HR HRR
  go_enter Try.func18, Try.ntmps18
  go_wp2_with fail
  refine (C.out _ HG.out).mono ?_
  rintro e w2 ⟨rfl, b2⟩
  clear C
  go_wp2
  go_loopw [22] (fun i wr => ∃ q : Nat, q ≤ k ∧ i = .int .i64 q ∧ Hid (∀ i, i < q → noteP n m g (ns i) ∧ ∀ j, j < i → (ns j).serial = (ns i).serial → ns j = ns i) ∧ Below w.heap.size w wr) (fun i _ => k - (intOf i).toNat)
  case atStart => exact ⟨0, Nat.zero_le _, rfl, fun i hi => absurd hi (by omega), b2⟩
  case round =>
    clear b2
    obtain ⟨q, hq, rfl, hok, hb⟩ := hrel
    by_cases hlt : q < k
    · obtain ⟨b, off, rfl, hcap, hc⟩ := HV'.out (by omega)
      have hcq := (hc q hlt).belowB hb (hc q hlt).1
      have HC := Lib.hid hc
      have HS : Hid ((noteP n m g (ns q) ∧ ∀ j, j < q → (ns j).serial = (ns q).serial → ns j = ns q) → ∀ i, i < q + 1 → noteP n m g (ns i) ∧ ∀ j, j < i → (ns j).serial = (ns i).serial → ns j = ns i) := fun h i hi => by
        by_cases hik : i = q
        · subst hik; exact h
        · exact hok.out i (by omega)
      have HN := Lib.hid (HNO.out q hlt)
      generalize ns q = x at *
      obtain ⟨c0, c1, c2, c3, c4, c5, c6⟩ := note_cells hcq
      have hsz := hb.size
      obtain ⟨r, hr⟩ : ∃ r : Bool, r = true ↔ noteP n m g x := by
        by_cases h : noteP n m g x
        · exact ⟨true, fun _ => h, fun _ => rfl⟩
        · exact ⟨false, (fun e => by cases e), fun e => absurd e h⟩
      have CN := Lib.hid (fun w1 h1 => l05Note_spec n v m g x.serial x.game x.res.home x.res.away x.res.hg x.res.ag x.res.st r w1 hr h1)
      have HR2 := Lib.hid hr
      have hg0 : Below wr.heap.size wr (wr.alloc (.cells #[.int .i64 x.serial, .int .i64 x.game, .int .i64 x.res.home, .int .i64 x.res.away, .int .i64 x.res.hg, .int .i64 x.res.ag, .int .i64 x.res.st] 33)) := (Below.refl _ _).alloc (Nat.le_refl _) _
      have HG2 := Lib.hid (HG.out.below (hb.trans (hg0.mono hsz)) (Nat.le_refl _))
      have HB := Lib.hid hb
      clear hc HV' hcq hok HNO HYES hr hg0 hb
      go_wp2_with fail
      refine (CN.out _ HG2.out).mono ?_
      rintro e w3 ⟨rfl, b3⟩
      have bx := Lib.hid (BoxN.made b3 (B := wr.heap.size) rfl)
      have b4 := Lib.hid (HB.out.trans ((below_prev b3).mono hsz))
      clear b3 HG2 CN c0 c1 c2 c3 c4 c5 c6 HB
      cases r with
      | false =>
        obtain rfl := HN.out fun h => by have := HR2.out.2 h.1; cases this
        clear HN HS HR2 bx
        go_wp2
        go_ret
        exact ⟨rfl, b4.out⟩
      | true =>
        have HP := Lib.hid (HR2.out.1 rfl)
        clear HR2
        generalize hD : wr.heap.size = D at *
        clear hD
        have hqcap : q ≤ cap' := by omega
        go_wp2
        go_loopw [36] (fun i wr => ∃ j : Nat, j ≤ q ∧ i = .int .i64 j ∧ Hid (∀ i, i < j → (ns i).serial = x.serial → ns i = x) ∧ Hid (BoxN wr D [.int .i64 x.serial, .int .i64 x.game, .int .i64 x.res.home, .int .i64 x.res.away, .int .i64 x.res.hg, .int .i64 x.res.ag, .int .i64 x.res.st]) ∧ Hid (Below w.heap.size w wr)) (fun i _ => q - (intOf i).toNat)
        case atStart => exact ⟨0, Nat.zero_le _, rfl, fun i hi => absurd hi (by omega), bx, b4⟩
        case round =>
          clear bx b4
          obtain ⟨j, hj, rfl, hok, bx, hb⟩ := hrel
          by_cases hjq : j < q
          · have hcj := (HC.out j (by omega)).belowB hb.out (HC.out j (by omega)).1
            have HS2 : Hid (((ns j).serial = x.serial → ns j = x) → ∀ i, i < j + 1 → (ns i).serial = x.serial → ns i = x) := fun h i hi => by
              by_cases hik : i = j
              · subst hik; exact h
              · exact hok.out i (by omega)
            have HN2 : Hid ((ns j).serial = x.serial → ns j ≠ x → R = false) := fun h1 h2 => HN.out fun h => h2 (h.2 j hjq h1)
            generalize ns j = y at *
            obtain ⟨c0, c1, c2, c3, c4, c5, c6⟩ := note_cells hcj
            have hg0 : Below wr.heap.size wr (wr.alloc (.cells #[.int .i64 y.serial, .int .i64 y.game, .int .i64 y.res.home, .int .i64 y.res.away, .int .i64 y.res.hg, .int .i64 y.res.ag, .int .i64 y.res.st] 33)) := (Below.refl _ _).alloc (Nat.le_refl _) _
            have hb2 := Lib.hid (hb.out.trans (hg0.mono hb.out.size))
            have bx2 := Lib.hid (bx.out.below hg0)
            have hDlt := bx.out.1
            have d0 := bx.out.2 0 _ rfl
            have d1 := bx.out.2 1 _ rfl
            have d2 := bx.out.2 2 _ rfl
            have d3 := bx.out.2 3 _ rfl
            have d4 := bx.out.2 4 _ rfl
            have d5 := bx.out.2 5 _ rfl
            have d6 := bx.out.2 6 _ rfl
            clear hcj hg0 hok hb bx HN HS HP HC
            by_cases hser : y.serial = x.serial
            · by_cases hyx : y = x
              · have HX := Lib.hid (HS2.out fun _ => hyx)
                subst hyx
                clear HS2 HN2 hser
                go_wp2
                go_roundw
                case rel => exact ⟨j + 1, by omega, by go_num, HX.out, bx2, hb2⟩
                case measure => simp [intOf]; omega
              · obtain rfl := HN2.out hser hyx
                have gs : (y.serial == x.serial) = true := by simpa using hser
                have hne := note_ne hyx
                have HSER := Lib.hid hser
                clear HS2 HN2 hyx hser
                rcases hne with f | f | f | f | f | f | f
                · rw [gs] at f; cases f
                all_goals
                  go_wp2
                  go_ret
                  exact ⟨rfl, hb2.out⟩
            · have HX := Lib.hid (HS2.out fun h => absurd h hser)
              have gs : (y.serial == x.serial) = false := beq_eq_false_iff_ne.2 hser
              clear HS2 HN2 hser
              go_wp2
              go_roundw
              case rel => exact ⟨j + 1, by omega, by go_num, HX.out, bx2, hb2⟩
              case measure => simp [intOf]; omega
          · obtain rfl : j = q := by omega
            have HX := Lib.hid (HS.out ⟨HP.out, hok.out⟩)
            have hb3 := hb.out
            clear HS HP HN hok bx hb
            go_wp2
            go_roundw
            case rel => exact ⟨j + 1, by omega, by go_num, HX.out, hb3⟩
            case measure => simp [intOf]; omega
    · obtain rfl : q = k := by omega
      obtain rfl := HYES.out hok.out
      clear HNO HYES hok
      go_wp2
      go_ret
      exact ⟨rfl, hb⟩
end Go.Proofs.Ytlahjaakegdigaa
