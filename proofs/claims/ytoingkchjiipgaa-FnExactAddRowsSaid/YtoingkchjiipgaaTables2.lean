/-
  Tables: the model's IsBalanced.
-/
import Derived.Test.YtoingkchjiipgaaTables
import Derived.Test.YtoingkchjiipgaaBoxF
set_option linter.unusedVariables false
namespace Go.Proofs.Ytoingkchjiipgaa
open Go.RowKit
theorem boolT {R : Bool} {p : Prop} (h : R = true ↔ p) (hp : p) : R = true := h.2 hp
theorem boolF {R : Bool} {p : Prop} (h : R = true ↔ p) (hp : ¬ p) : R = false := by
  cases R with
  | false => rfl
  | true => exact absurd (h.1 rfl) hp

/-- the sum of the first k rows, as int has it -/
def sumR (g : Nat → RowD) : Nat → RowD
  | 0 => zeroR
  | k + 1 => addW (sumR g k) (g k)
def balR (x : RowD) : Prop := wrap64 (wrap64 (x.wins + x.draws) + x.losses) = x.played
/-- the rows are balanced -/
def balP (n : Nat) (g : Nat → RowD) : Prop := (∀ i, i < n → balR (g i)) ∧ (sumR g n).wins = (sumR g n).losses ∧ (sumR g n).draws.tmod 2 = 0 ∧ (sumR g n).scored = (sumR g n).against
/-- seven stores -/
theorem BoxF.row7 {w : World} {B : Nat} {x y : RowD} (h : BoxF w B x.cells) :
    BoxF (((((((w.setCell ⟨B, 0, none⟩ (Value.int .i64 y.played)).setCell ⟨B, 1, none⟩ (Value.int .i64 y.wins)).setCell ⟨B, 2, none⟩ (Value.int .i64 y.draws)).setCell ⟨B, 3, none⟩ (Value.int .i64 y.losses)).setCell ⟨B, 4, none⟩ (Value.int .i64 y.scored)).setCell ⟨B, 5, none⟩ (Value.int .i64 y.against)).setCell ⟨B, 6, none⟩ (Value.int .i64 y.points)) B y.cells := by
  have h0 := h.set 0 (Value.int .i64 y.played) (by simp [RowD.cells])
  have h1 := h0.set 1 (Value.int .i64 y.wins) (by simp [RowD.cells])
  have h2 := h1.set 2 (Value.int .i64 y.draws) (by simp [RowD.cells])
  have h3 := h2.set 3 (Value.int .i64 y.losses) (by simp [RowD.cells])
  have h4 := h3.set 4 (Value.int .i64 y.scored) (by simp [RowD.cells])
  have h5 := h4.set 5 (Value.int .i64 y.against) (by simp [RowD.cells])
  have h6 := h5.set 6 (Value.int .i64 y.points) (by simp [RowD.cells])
  exact h6
theorem boxF_row {w : World} {B : Nat} {x : RowD} (h : BoxF w B x.cells) : (w.cell? ⟨B, 0, none⟩ = some (.int .i64 x.played) ∧ w.frozen? ⟨B, 0, none⟩ = false) ∧ (w.cell? ⟨B, 1, none⟩ = some (.int .i64 x.wins) ∧ w.frozen? ⟨B, 1, none⟩ = false) ∧ (w.cell? ⟨B, 2, none⟩ = some (.int .i64 x.draws) ∧ w.frozen? ⟨B, 2, none⟩ = false) ∧ (w.cell? ⟨B, 3, none⟩ = some (.int .i64 x.losses) ∧ w.frozen? ⟨B, 3, none⟩ = false) ∧ (w.cell? ⟨B, 4, none⟩ = some (.int .i64 x.scored) ∧ w.frozen? ⟨B, 4, none⟩ = false) ∧ (w.cell? ⟨B, 5, none⟩ = some (.int .i64 x.against) ∧ w.frozen? ⟨B, 5, none⟩ = false) ∧ (w.cell? ⟨B, 6, none⟩ = some (.int .i64 x.points) ∧ w.frozen? ⟨B, 6, none⟩ = false) := ⟨h.2 0 _ rfl, h.2 1 _ rfl, h.2 2 _ rfl, h.2 3 _ rfl, h.2 4 _ rfl, h.2 5 _ rfl, h.2 6 _ rfl⟩

theorem below_row7 {a w : World} {B0 B : Nat} {y : RowD} (h : Below B0 a w) (hB : B0 ≤ B) :
    Below B0 a (((((((w.setCell ⟨B, 0, none⟩ (Value.int .i64 y.played)).setCell ⟨B, 1, none⟩ (Value.int .i64 y.wins)).setCell ⟨B, 2, none⟩ (Value.int .i64 y.draws)).setCell ⟨B, 3, none⟩ (Value.int .i64 y.losses)).setCell ⟨B, 4, none⟩ (Value.int .i64 y.scored)).setCell ⟨B, 5, none⟩ (Value.int .i64 y.against)).setCell ⟨B, 6, none⟩ (Value.int .i64 y.points)) := by
  exact (Below.setCell (Below.setCell (Below.setCell (Below.setCell (Below.setCell (Below.setCell (Below.setCell h (p := ⟨B, 0, none⟩) hB (Value.int .i64 y.played)) (p := ⟨B, 1, none⟩) hB (Value.int .i64 y.wins)) (p := ⟨B, 2, none⟩) hB (Value.int .i64 y.draws)) (p := ⟨B, 3, none⟩) hB (Value.int .i64 y.losses)) (p := ⟨B, 4, none⟩) hB (Value.int .i64 y.scored)) (p := ⟨B, 5, none⟩) hB (Value.int .i64 y.against)) (p := ⟨B, 6, none⟩) hB (Value.int .i64 y.points))
set_option maxHeartbeats 1000000 in
theorem isBalanced_spec (v : Value) (n : Nat) (g : Nat → RowD) (R : Bool) (w : World) (hR : R = true ↔ balP n g) (hv : RowRow w v n g) :
    Calls Try.prog 44 #[v] w fun e w' => e = .returned (.bool R) ∧ Below w.heap.size w w' := by
  obtain ⟨aa, cap, rfl, hn, hc⟩ := hv.form
  have HV := Lib.hid hc
  clear hc hv
  have HNO := Lib.hid (boolF hR)
  have HYES := Lib.hid (boolT hR)
  clear hR
  have s1 : Hid (BoxF (w.alloc (.cells #[.int .i64 0, .int .i64 0, .int .i64 0, .int .i64 0, .int .i64 0, .int .i64 0, .int .i64 0] 39)) w.heap.size (sumR g 0).cells) := BoxF.made (Below.refl _ _) rfl
  go_enter Try.func44, Try.ntmps44
  go_wp2
  go_loopw [9] (fun i wr => ∃ k : Nat, k ≤ n ∧ i = .int .i64 k ∧ Hid (∀ i, i < k → balR (g i)) ∧ Hid (BoxF wr w.heap.size (sumR g k).cells) ∧ Below w.heap.size w wr) (fun i _ => n - (intOf i).toNat)
  case atStart => exact ⟨0, Nat.zero_le _, rfl, fun i hi => absurd hi (by omega), s1, (Below.refl _ _).alloc (Nat.le_refl _) _⟩
  case round =>
    clear s1
    obtain ⟨k, hk, rfl, hok, hbx, hb⟩ := hrel
    by_cases hlt : k < n
    · obtain ⟨b, off, rfl, hcap, hc⟩ := HV.out (by omega)
      have hq := (hc k hlt).belowB hb (hc k hlt).1
      have HS : Hid (sumR g (k + 1) = addW (sumR g k) (g k)) := rfl
      have HN := Lib.hid (fun (h : ¬ balR (g k)) => HNO.out fun hp => h (hp.1 k hlt))
      have HY : Hid (balR (g k) → ∀ i, i < k + 1 → balR (g i)) := fun h i hi => by
        by_cases hik : i = k
        · subst hik; exact h
        · exact hok.out i (by omega)
      generalize g k = x at *
      generalize sumR g k = s at *
      obtain ⟨c0, c1, c2, c3, c4, c5, c6⟩ := row_cells hq
      have hsz := hb.size
      have hb1 := hb.alloc hsz (.cells #[.int .i64 x.played, .int .i64 x.wins, .int .i64 x.draws, .int .i64 x.losses, .int .i64 x.scored, .int .i64 x.against, .int .i64 x.points] 39)
      have hbx1 := Lib.hid (hbx.out.below ((Below.refl _ _).alloc (Nat.le_refl _) (.cells #[.int .i64 x.played, .int .i64 x.wins, .int .i64 x.draws, .int .i64 x.losses, .int .i64 x.scored, .int .i64 x.against, .int .i64 x.points] 39)))
      clear hc HV hq hok HNO HYES hbx
      by_cases hbal : balR x
      case neg =>
        obtain rfl := HN.out hbal
        have g1 : (wrap64 (wrap64 (x.wins + x.draws) + x.losses) == x.played) = false := beq_eq_false_iff_ne.2 hbal
        have g2 : (wrap64 (wrap64 (x.wins + x.draws) + x.losses) != x.played) = true := by unfold bne; rw [g1]; rfl
        clear HN HY HS hbal hbx1
        go_wp2
        go_ret
        exact ⟨rfl, hb1⟩
      have HX := Lib.hid (HY.out hbal)
      have g1 : (wrap64 (wrap64 (x.wins + x.draws) + x.losses) == x.played) = true := beq_iff_eq.2 hbal
      have g2 : (wrap64 (wrap64 (x.wins + x.draws) + x.losses) != x.played) = false := by unfold bne; rw [g1]; rfl
      have C := Lib.hid (fun w1 => addRows_spec s x w1)
      have hB := hbx1.out.1
      obtain ⟨⟨d0, _⟩, ⟨d1, _⟩, ⟨d2, _⟩, ⟨d3, _⟩, ⟨d4, _⟩, ⟨d5, _⟩, ⟨d6, _⟩⟩ := boxF_row hbx1.out
      clear HN HY hbal hb1
      go_wp2_with fail
      refine (C.out _).mono ?_
      rintro e w2 ⟨rfl, b2⟩
      have hbx2 := Lib.hid (hbx1.out.below b2)
      have hb2 := Lib.hid (hb.trans ((below_prev b2).mono hsz))
      rw [← HS.out]
      obtain ⟨s2, hs2⟩ : ∃ s2, sumR g (k + 1) = s2 := ⟨_, rfl⟩
      rw [hs2]
      have HS2 := Lib.hid hs2
      clear hs2
      clear d0 d1 d2 d3 d4 d5 d6 hbx1 hB b2 C HS g1 g2
      obtain ⟨⟨d0, e0⟩, ⟨d1, e1⟩, ⟨d2, e2⟩, ⟨d3, e3⟩, ⟨d4, e4⟩, ⟨d5, e5⟩, ⟨d6, e6⟩⟩ := boxF_row hbx2.out
      unfold RowD.val
      go_wp2
      go_roundw
      case rel => exact ⟨k + 1, by omega, by go_num, HX.out, by rw [HS2.out]; exact BoxF.row7 hbx2.out, below_row7 hb2.out (Nat.le_refl _)⟩
      case measure => simp [intOf]; omega
    · obtain rfl : k = n := by omega
      have HS := Lib.hid hok.out
      have HN2 := Lib.hid (fun (h : ¬ ((sumR g k).wins = (sumR g k).losses ∧ (sumR g k).draws.tmod 2 = 0 ∧ (sumR g k).scored = (sumR g k).against)) => HNO.out fun hp => h hp.2)
      have HY2 := Lib.hid (fun (h : (sumR g k).wins = (sumR g k).losses ∧ (sumR g k).draws.tmod 2 = 0 ∧ (sumR g k).scored = (sumR g k).against) => HYES.out ⟨hok.out, h⟩)
      generalize sumR g k = s at *
      obtain ⟨⟨d0, _⟩, ⟨d1, _⟩, ⟨d2, _⟩, ⟨d3, _⟩, ⟨d4, _⟩, ⟨d5, _⟩, ⟨d6, _⟩⟩ := boxF_row hbx.out
      clear HNO HYES hok HS HV hbx
      by_cases h1 : s.wins = s.losses
      case neg =>
        obtain rfl := HN2.out fun h => h1 h.1
        have g1 : (s.wins == s.losses) = false := beq_eq_false_iff_ne.2 h1
        clear HN2 HY2 h1
        go_wp2
        go_ret
        exact ⟨rfl, hb⟩
      have g1 : (s.wins == s.losses) = true := beq_iff_eq.2 h1
      by_cases h2 : s.draws.tmod 2 = 0
      case neg =>
        obtain rfl := HN2.out fun h => h2 h.2.1
        have g2 : (s.draws.tmod 2 == 0) = false := beq_eq_false_iff_ne.2 h2
        clear HN2 HY2 h2 h1
        go_wp2
        go_ret
        exact ⟨rfl, hb⟩
      have g2 : (s.draws.tmod 2 == 0) = true := beq_iff_eq.2 h2
      by_cases h3 : s.scored = s.against
      case neg =>
        obtain rfl := HN2.out fun h => h3 h.2.2
        have g3 : (s.scored == s.against) = false := beq_eq_false_iff_ne.2 h3
        clear HN2 HY2 h2 h1 h3
        go_wp2
        go_ret
        exact ⟨rfl, hb⟩
      have g3 : (s.scored == s.against) = true := beq_iff_eq.2 h3
      obtain rfl := HY2.out ⟨h1, h2, h3⟩
      clear HN2 HY2 h2 h1 h3
      go_wp2
      go_ret
      exact ⟨rfl, hb⟩
end Go.Proofs.Ytoingkchjiipgaa
