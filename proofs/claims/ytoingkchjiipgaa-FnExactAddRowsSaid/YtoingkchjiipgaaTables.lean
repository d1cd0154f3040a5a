/-
  Tables: the model's functions on rows.
-/
import Derived.Test.YtoingkchjiipgaaTypeRow
import Derived.Test.YtoingkchjiipgaaSeason
set_option linter.unusedVariables false
namespace Go.Proofs.Ytoingkchjiipgaa
open Go.RowKit

/-- the sums of all fields, as int has them -/
def addW (a b : RowD) : RowD := ⟨wrap64 (a.played + b.played), wrap64 (a.wins + b.wins), wrap64 (a.draws + b.draws), wrap64 (a.losses + b.losses), wrap64 (a.scored + b.scored), wrap64 (a.against + b.against), wrap64 (a.points + b.points)⟩
def zeroR : RowD := ⟨0, 0, 0, 0, 0, 0, 0⟩
theorem row_cells {w : World} {b o : Nat} {x : RowD} (h : CellsAt w b o x.cells) : w.cell? ⟨b, o, none⟩ = some (.int .i64 x.played) ∧ w.cell? ⟨b, o + 1, none⟩ = some (.int .i64 x.wins) ∧ w.cell? ⟨b, o + 2, none⟩ = some (.int .i64 x.draws) ∧ w.cell? ⟨b, o + 3, none⟩ = some (.int .i64 x.losses) ∧ w.cell? ⟨b, o + 4, none⟩ = some (.int .i64 x.scored) ∧ w.cell? ⟨b, o + 5, none⟩ = some (.int .i64 x.against) ∧ w.cell? ⟨b, o + 6, none⟩ = some (.int .i64 x.points) := ⟨h.2 0 _ rfl, h.2 1 _ rfl, h.2 2 _ rfl, h.2 3 _ rfl, h.2 4 _ rfl, h.2 5 _ rfl, h.2 6 _ rfl⟩

theorem cell_at_alloc {w : World} {b i : Nat} {v : Value} (h : w.cell? ⟨b, i, none⟩ = some v) (o : Obj) : (w.alloc o).cell? ⟨b, i, none⟩ = some v := by
  have hb := World.block_lt_of_cell? w _ h
  exact (((Below.refl w.heap.size w).alloc (Nat.le_refl _) o).cell (p := ⟨b, i, none⟩) hb).trans h

theorem addRows_spec (a b : RowD) (w : World) :
    Calls Try.prog 38 #[.agg #[.int .i64 a.played, .int .i64 a.wins, .int .i64 a.draws, .int .i64 a.losses, .int .i64 a.scored, .int .i64 a.against, .int .i64 a.points], .agg #[.int .i64 b.played, .int .i64 b.wins, .int .i64 b.draws, .int .i64 b.losses, .int .i64 b.scored, .int .i64 b.against, .int .i64 b.points]] w fun e w' => e = .returned (addW a b).val ∧ Below w.heap.size w w' := by
  unfold addW RowD.val
  go_enter Try.func38, Try.ntmps38
  go_wp2
  refine bodyPost_ret (by simp [results, Try.results38, go_sem]) rfl ⟨rfl, ?_⟩
  repeat (first | exact Below.refl _ _ | refine Below.setCell ?_ (by simp <;> omega) _ | refine Below.alloc ?_ (by simp <;> omega) _)
theorem differenceOf_spec (a : RowD) (w : World) :
    Calls Try.prog 36 #[.agg #[.int .i64 a.played, .int .i64 a.wins, .int .i64 a.draws, .int .i64 a.losses, .int .i64 a.scored, .int .i64 a.against, .int .i64 a.points]] w fun e w' => e = .returned (.int .i64 (wrap64 (a.scored - a.against))) ∧ Below w.heap.size w w' := by
  go_enter Try.func36, Try.ntmps36
  go_wp2
  go_ret
  exact ⟨rfl, (Below.refl _ _).alloc (Nat.le_refl _) _⟩
/-- the sum of the first k rows' games, as int has it -/
def playedN (g : Nat → RowD) : Nat → Int
  | 0 => 0
  | k + 1 => wrap64 (playedN g k + (g k).played)
theorem totalPlayed_spec (v : Value) (n : Nat) (g : Nat → RowD) (w : World) (hv : RowRow w v n g) :
    Calls Try.prog 41 #[v] w fun e w' => e = .returned (.int .i64 (wrap64 ((playedN g n).tdiv 2))) ∧ Below w.heap.size w w' := by
  obtain ⟨aa, cap, rfl, hn, hc⟩ := hv.form
  have HV := Lib.hid hc
  clear hc hv
  go_enter Try.func41, Try.ntmps41
  go_wp2
  go_loopw [3, 8] (fun s i wr => ∃ k : Nat, k ≤ n ∧ i = .int .i64 k ∧ s = .int .i64 (playedN g k) ∧ Below w.heap.size w wr) (fun _ i _ => n - (intOf i).toNat)
  case atStart => exact ⟨0, Nat.zero_le _, rfl, rfl, Below.refl _ _⟩
  case round =>
    obtain ⟨k, hk, rfl, rfl, hb⟩ := hrel
    by_cases hlt : k < n
    · obtain ⟨b, off, rfl, hcap, hc⟩ := HV.out (by omega)
      have hq := (hc k hlt).belowB hb (hc k hlt).1
      have HS : Hid (playedN g (k + 1) = wrap64 (playedN g k + (g k).played)) := rfl
      generalize g k = x at *
      generalize playedN g k = s at *
      obtain ⟨c0, c1, c2, c3, c4, c5, c6⟩ := row_cells hq
      have hsz := hb.size
      have hb1 := hb.alloc hsz (.cells #[.int .i64 x.played, .int .i64 x.wins, .int .i64 x.draws, .int .i64 x.losses, .int .i64 x.scored, .int .i64 x.against, .int .i64 x.points] 39)
      clear hc HV hq
      go_wp2
      go_roundw
      case rel => exact ⟨k + 1, by omega, by go_num, by rw [HS.out], hb1⟩
      case measure => simp [intOf]; omega
    · obtain rfl : k = n := by omega
      go_wp2
      go_ret
      exact ⟨rfl, hb⟩
/-- the index of the first row with the most points among the first k -/
def leadP (g : Nat → RowD) : Nat → Int
  | 0 => -1
  | k + 1 => if leadP g k < 0 then (k : Int) else if (g (leadP g k).toNat).points < (g k).points then (k : Int) else leadP g k
theorem leadP_lt (g : Nat → RowD) : ∀ k, leadP g k = -1 ∨ (0 ≤ leadP g k ∧ leadP g k < k)
  | 0 => .inl rfl
  | k + 1 => by
    unfold leadP
    have := leadP_lt g k
    split
    · right; omega
    · split <;> (right; omega)
theorem leaderOf_spec (v : Value) (n : Nat) (g : Nat → RowD) (w : World) (hv : RowRow w v n g) :
    Calls Try.prog 43 #[v] w fun e w' => e = .returned (.int .i64 (leadP g n)) ∧ Below w.heap.size w w' := by
  obtain ⟨aa, cap, rfl, hn, hc⟩ := hv.form
  have HV := Lib.hid hc
  clear hc hv
  go_enter Try.func43, Try.ntmps43
  go_wp2
  go_loopw [3, 8] (fun s i wr => ∃ k : Nat, k ≤ n ∧ i = .int .i64 k ∧ s = .int .i64 (leadP g k) ∧ Below w.heap.size w wr) (fun _ i _ => n - (intOf i).toNat)
  case atStart => exact ⟨0, Nat.zero_le _, rfl, rfl, Below.refl _ _⟩
  case round =>
    obtain ⟨k, hk, rfl, rfl, hb⟩ := hrel
    by_cases hlt : k < n
    · obtain ⟨b, off, rfl, hcap, hc⟩ := HV.out (by omega)
      have hq := (hc k hlt).belowB hb (hc k hlt).1
      have HS : Hid (leadP g (k + 1) = if leadP g k < 0 then (k : Int) else if (g (leadP g k).toNat).points < (g k).points then (k : Int) else leadP g k) := rfl
      have hl := leadP_lt g k
      have hsz := hb.size
      by_cases hneg : leadP g k < 0
      · have HE : Hid (leadP g (k + 1) = (k : Int)) := HS.out.trans (if_pos hneg)
        have g1 : decide (leadP g k < 0) = true := decide_eq_true hneg
        clear HS hl
        generalize leadP g k = t at *
        generalize g k = x at *
        obtain ⟨c0, c1, c2, c3, c4, c5, c6⟩ := row_cells hq
        have hb1 := hb.alloc hsz (.cells #[.int .i64 x.played, .int .i64 x.wins, .int .i64 x.draws, .int .i64 x.losses, .int .i64 x.scored, .int .i64 x.against, .int .i64 x.points] 39)
        clear hc HV hq hneg
        go_wp2
        go_quiet (fail)
        go_wp2
        go_roundw
        case rel => exact ⟨k + 1, by omega, by go_num, by rw [HE.out], below_drewN hb1 _⟩
        case measure => simp [intOf]; omega
      · have g1 : decide (leadP g k < 0) = false := decide_eq_false hneg
        have hE := HS.out.trans (if_neg hneg)
        obtain ⟨j, hj⟩ : ∃ j : Nat, leadP g k = j := ⟨(leadP g k).toNat, by omega⟩
        have hjk : j < k := by omega
        have hqj := (hc j (by omega)).belowB hb (hc j (by omega)).1
        rw [hj] at hE g1
        simp only [Int.toNat_natCast] at hE
        have HY : Hid ((g j).points < (g k).points → leadP g (k + 1) = (k : Int)) := fun h => hE.trans (if_pos h)
        have HN : Hid (¬ (g j).points < (g k).points → leadP g (k + 1) = (j : Int)) := fun h => hE.trans (if_neg h)
        clear HS hl hneg hE
        rw [hj]
        have hjn : j < n := by omega
        have hjn' : (j : Int) < n := by omega
        obtain ⟨_, _, _, _, _, _, d6⟩ := row_cells hqj
        obtain ⟨py, hpy⟩ : ∃ py, py = (g j).points := ⟨_, rfl⟩
        rw [← hpy] at d6 HY HN
        clear hj hqj hpy
        generalize g k = x at *
        obtain ⟨c0, c1, c2, c3, c4, c5, c6⟩ := row_cells hq
        have hb1 := hb.alloc hsz (.cells #[.int .i64 x.played, .int .i64 x.wins, .int .i64 x.draws, .int .i64 x.losses, .int .i64 x.scored, .int .i64 x.against, .int .i64 x.points] 39)
        have e6 := (cell_at_alloc d6 (.cells #[.int .i64 x.played, .int .i64 x.wins, .int .i64 x.draws, .int .i64 x.losses, .int .i64 x.scored, .int .i64 x.against, .int .i64 x.points] 39))
        clear hc HV hq
        by_cases hlt2 : py < x.points
        · have g2 : decide (py < x.points) = true := decide_eq_true hlt2
          have HE2 := Lib.hid (HY.out hlt2)
          clear HY HN hlt2
          go_wp2
          go_quiet (fail)
          go_wp2
          go_roundw
          case rel => exact ⟨k + 1, by omega, by go_num, by rw [HE2.out], below_drewN hb1 _⟩
          case measure => simp [intOf]; omega
        · have g2 : decide (py < x.points) = false := decide_eq_false hlt2
          have HE2 := Lib.hid (HN.out hlt2)
          clear HY HN hlt2
          go_wp2
          go_quiet (fail)
          go_wp2
          go_roundw
          case rel => exact ⟨k + 1, by omega, by go_num, by rw [HE2.out], below_drewN hb1 _⟩
          case measure => simp [intOf]; omega
    · obtain rfl : k = n := by omega
      go_wp2
      go_ret
      exact ⟨rfl, hb⟩
end Go.Proofs.Ytoingkchjiipgaa
