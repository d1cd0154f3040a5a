/-
  Games: the model's GameOf, OpenGames, GamesBetween, SeasonOk.
-/
import Derived.Test.YtoingkchjiipgaaGames
import Derived.Test.YtoingkchjiipgaaPush
set_option linter.unusedVariables false
namespace Go.Proofs.Ytoingkchjiipgaa
open Go.RowKit

/-- game number i has these teams -/
def atG (g : Nat → GameD) (h a : Int) (i : Nat) : Bool := (g i).home == h && (g i).away == a
/-- the five cells of a game -/
theorem game_cells {w : World} {b o : Nat} {x : GameD} (h : CellsAt w b o x.cells) : w.cell? ⟨b, o, none⟩ = some (.int .i64 x.home) ∧ w.cell? ⟨b, o + 1, none⟩ = some (.int .i64 x.away) ∧ w.cell? ⟨b, o + 2, none⟩ = some (.int .i64 x.hg) ∧
    w.cell? ⟨b, o + 3, none⟩ = some (.int .i64 x.ag) ∧ w.cell? ⟨b, o + 4, none⟩ = some (.int .i64 x.st) := ⟨h.2 0 _ rfl, h.2 1 _ rfl, h.2 2 _ rfl, h.2 3 _ rfl, h.2 4 _ rfl⟩
theorem gameOf_spec (v : Value) (n : Nat) (g : Nat → GameD) (h a : Int) (w : World) (hv : GameRow w v n g) :
    Calls Try.prog 79 #[v, .int .i64 h, .int .i64 a] w fun e w' => e = .returned (.int .i64 (firstI (atG g h a) n 0)) ∧ Below w.heap.size w w' := by
  obtain ⟨aa, cap, rfl, hn, hc⟩ := hv.form
  have HV := Lib.hid hc
  clear hc hv
  generalize hr : firstI (atG g h a) n 0 = R
  have HR := Lib.hid hr
  clear hr
  go_enter Try.func79, Try.ntmps79
  go_wp2
  go_loopw [11] (fun i wr => ∃ k : Nat, k ≤ n ∧ i = .int .i64 k ∧ Hid (firstI (atG g h a) (n - k) k = R) ∧ Below w.heap.size w wr) (fun i _ => n - (intOf i).toNat)
  case atStart => exact ⟨0, Nat.zero_le _, rfl, HR.out, Below.refl _ _⟩
  case round =>
    obtain ⟨k, hk, rfl, hp, hb⟩ := hrel
    by_cases hlt : k < n
    · obtain ⟨b, off, rfl, hcap, hc⟩ := HV.out (by omega)
      have hstep := firstI_step (p := atG g h a) hlt
      rw [hp.out] at hstep
      have HY := Lib.hid (fun (e : atG g h a k = true) => hstep.trans (if_pos e))
      have HN := Lib.hid (fun (e : atG g h a k = false) => hstep.trans (if_neg (by rw [e]; simp)))
      have hq := (hc k hlt).belowB hb (hc k hlt).1
      clear hstep
      generalize hx : g k = x at *
      have Hx := Lib.hid hx
      obtain ⟨c0, c1, c2, c3, c4⟩ := game_cells hq
      have hsz := hb.size
      have hb2 := hb.alloc hsz (.cells #[.int .i64 x.home, .int .i64 x.away, .int .i64 x.hg, .int .i64 x.ag, .int .i64 x.st] 36)
      clear hc HV hp HR hq hx
      by_cases h1 : x.home = h
      · have g1 : (x.home == h) = true := by simpa using h1
        by_cases h2 : x.away = a
        · have g2 : (x.away == a) = true := by simpa using h2
          obtain rfl := HY.out (by unfold atG; rw [Hx.out, g1, g2]; rfl)
          clear HY HN
          have H1 := Lib.hid h1
          have H2 := Lib.hid h2
          clear h1 h2
          go_wp2
          go_ret
          exact ⟨rfl, hb2⟩
        · have g2 : (x.away == a) = false := beq_eq_false_iff_ne.2 h2
          have HS := Lib.hid (HN.out (by unfold atG; rw [Hx.out, g1, g2]; rfl)).symm
          have H1 := Lib.hid h1
          clear HY HN h1 h2
          go_wp2
          go_roundw
          case rel => exact ⟨k + 1, by omega, by go_num, HS.out, hb2⟩
          case measure => simp [intOf]; omega
      · have g1 : (x.home == h) = false := beq_eq_false_iff_ne.2 h1
        have HS := Lib.hid (HN.out (by unfold atG; rw [Hx.out, g1]; rfl)).symm
        clear HY HN h1
        go_wp2
        go_roundw
        case rel => exact ⟨k + 1, by omega, by go_num, HS.out, hb2⟩
        case measure => simp [intOf]; omega
    · obtain rfl : k = n := by omega
      have hR : R = -1 := by rw [← hp.out, Nat.sub_self]; rfl
      subst hR
      clear hp HR
      go_wp2
      go_ret
      exact ⟨rfl, hb⟩
def betweenG (a b : Int) (t : GameD) : Bool := (t.home == a && t.away == b) || (t.home == b && t.away == a)
end Go.Proofs.Ytoingkchjiipgaa
