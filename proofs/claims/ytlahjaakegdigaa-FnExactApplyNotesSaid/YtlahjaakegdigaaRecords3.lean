/-
  Records: the model's SameNotes, NotesOk.
-/
import Derived.Test.YtlahjaakegdigaaRecords2
set_option linter.unusedVariables false
namespace Go.Proofs.Ytlahjaakegdigaa
open Go.RowKit

theorem note_ne {x y : NoteD} (h : x ≠ y) : (x.serial == y.serial) = false ∨ (x.game == y.game) = false ∨ (x.res.home == y.res.home) = false ∨ (x.res.away == y.res.away) = false ∨ (x.res.hg == y.res.hg) = false ∨ (x.res.ag == y.res.ag) = false ∨ (x.res.st == y.res.st) = false := by
  obtain ⟨a1, a2, ⟨a3, a4, a5, a6, a7⟩⟩ := x
  obtain ⟨b1, b2, ⟨b3, b4, b5, b6, b7⟩⟩ := y
  simp only [beq_eq_false_iff_ne, ne_eq, NoteD.mk.injEq, GameD.mk.injEq] at h ⊢
  omega
theorem sameNotes_spec (v v' : Value) (n n' : Nat) (g g' : Nat → NoteD) (R : Bool) (w : World) (hR : R = true ↔ n = n' ∧ ∀ i, i < n → g i = g' i) (hv : NoteRow w v n g) (hv' : NoteRow w v' n' g') :
    Calls Try.prog 36 #[v, v'] w fun e w' => e = .returned (.bool R) ∧ Below w.heap.size w w' := by
  obtain ⟨aa, cap, rfl, hn, hc⟩ := hv.form
  obtain ⟨aa', cap', rfl, hn', hc'⟩ := hv'.form
  have HV := Lib.hid hc
  have HV' := Lib.hid hc'
  have HR := Lib.hid hR
  clear hc hv hc' hv' hR
  by_cases hnn : n = n'
  rotate_left
  · have g0 : ((n : Int) == (n' : Int)) = false := beq_eq_false_iff_ne.2 (by omega)
    have g1 : ((n : Int) != (n' : Int)) = true := bne_iff_ne.2 (by omega)
    have hf : R = false := by
      cases R with
      | false => rfl
      | true => exact absurd (HR.out.1 rfl).1 hnn
    subst hf
    clear HR
    go_enter Try.func36, Try.ntmps36
    go_wp2
    go_ret
    exact ⟨rfl, Below.refl _ _⟩
  subst hnn
  have HNO : Hid (∀ k, k < n → g k ≠ g' k → R = false) := fun k hk h => by
    cases R with
    | false => rfl
    | true => exact absurd ((HR.out.1 rfl).2 k hk) h
  have HYES : Hid ((∀ i, i < n → g i = g' i) → R = true) := fun h => HR.out.2 ⟨rfl, h⟩
  clear HR
  go_enter Try.func36, Try.ntmps36
  go_wp2
  go_loopw [14] (fun i wr => ∃ k : Nat, k ≤ n ∧ i = .int .i64 k ∧ Hid (∀ i, i < k → g i = g' i) ∧ Below w.heap.size w wr) (fun i _ => n - (intOf i).toNat)
  case atStart => exact ⟨0, Nat.zero_le _, rfl, fun i hi => absurd hi (by omega), Below.refl _ _⟩
  case round =>
    obtain ⟨k, hk, rfl, hok, hb⟩ := hrel
    by_cases hlt : k < n
    · obtain ⟨b, off, rfl, hcap, hc⟩ := HV.out (by omega)
      obtain ⟨b', off', rfl, hcap', hc'⟩ := HV'.out (by omega)
      have hq := (hc k hlt).belowB hb (hc k hlt).1
      have hq' := (hc' k hlt).belowB hb (hc' k hlt).1
      have HS : Hid (g k = g' k → ∀ i, i < k + 1 → g i = g' i) := fun h i hi => by
        by_cases hik : i = k
        · subst hik; exact h
        · exact hok.out i (by omega)
      have HN := Lib.hid (HNO.out k hlt)
      generalize g k = x at *
      generalize g' k = y at *
      obtain ⟨c0, c1, c2, c3, c4, c5, c6⟩ := note_cells hq
      have hsz := hb.size
      have hg0 : Below wr.heap.size wr (wr.alloc (.cells #[.int .i64 x.serial, .int .i64 x.game, .int .i64 x.res.home, .int .i64 x.res.away, .int .i64 x.res.hg, .int .i64 x.res.ag, .int .i64 x.res.st] 33)) := (Below.refl _ _).alloc (Nat.le_refl _) _
      have hb2 := Lib.hid (hb.trans (hg0.mono hsz))
      have hq2 := Lib.hid (hq'.belowB hg0 hq'.1)
      have bx := Lib.hid (BoxN.made (u := wr) (cs := #[.int .i64 x.serial, .int .i64 x.game, .int .i64 x.res.home, .int .i64 x.res.away, .int .i64 x.res.hg, .int .i64 x.res.ag, .int .i64 x.res.st]) (t := 33) (Below.refl _ _) rfl)
      clear hg0 hsz
      clear hc HV hc' HV' hq hq' hok HNO HYES
      by_cases hxy : x = y
      · have HX := Lib.hid (HS.out hxy)
        subst hxy
        clear HS HN
        go_wp2
        generalize hD : wr.heap.size = D at *
        clear hD c0 c1 c2 c3 c4 c5 c6
        generalize wr.alloc (.cells #[.int .i64 x.serial, .int .i64 x.game, .int .i64 x.res.home, .int .i64 x.res.away, .int .i64 x.res.hg, .int .i64 x.res.ag, .int .i64 x.res.st] 33) = wr2 at *
        obtain ⟨d0, d1, d2, d3, d4, d5, d6⟩ := note_cells hq2.out
        have e0 := bx.out.2 0 _ rfl
        have e1 := bx.out.2 1 _ rfl
        have e2 := bx.out.2 2 _ rfl
        have e3 := bx.out.2 3 _ rfl
        have e4 := bx.out.2 4 _ rfl
        have e5 := bx.out.2 5 _ rfl
        have e6 := bx.out.2 6 _ rfl
        clear bx hq2
        go_quiet (fail)
        go_wp2
        go_roundw
        case rel => exact ⟨k + 1, by omega, by go_num, HX.out, below_drewN hb2.out _⟩
        case measure => simp [intOf]; omega
      · obtain rfl := HN.out hxy
        have hne := note_ne hxy
        clear HS HN hxy
        rcases hne with f | f | f | f | f | f | f
        all_goals
          go_wp2
          generalize hD : wr.heap.size = D at *
          clear hD c0 c1 c2 c3 c4 c5 c6
          generalize wr.alloc (.cells #[.int .i64 x.serial, .int .i64 x.game, .int .i64 x.res.home, .int .i64 x.res.away, .int .i64 x.res.hg, .int .i64 x.res.ag, .int .i64 x.res.st] 33) = wr2 at *
          obtain ⟨d0, d1, d2, d3, d4, d5, d6⟩ := note_cells hq2.out
          have e0 := bx.out.2 0 _ rfl
          have e1 := bx.out.2 1 _ rfl
          have e2 := bx.out.2 2 _ rfl
          have e3 := bx.out.2 3 _ rfl
          have e4 := bx.out.2 4 _ rfl
          have e5 := bx.out.2 5 _ rfl
          have e6 := bx.out.2 6 _ rfl
          clear bx hq2
          go_quiet (fail)
          go_wp2
          go_ret
          exact ⟨rfl, below_drewN hb2.out _⟩
    · obtain rfl : k = n := by omega
      obtain rfl := HYES.out hok.out
      clear HNO HYES hok
      go_wp2
      go_ret
      exact ⟨rfl, hb⟩
end Go.Proofs.Ytlahjaakegdigaa
