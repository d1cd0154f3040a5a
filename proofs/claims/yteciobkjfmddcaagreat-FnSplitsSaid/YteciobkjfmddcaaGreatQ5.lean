/-
  Packed: Tables3.
-/
import Derived.Test.YteciobkjfmddcaaGreatQ3
import Derived.Test.YteciobkjfmddcaaGreatQ4
set_option linter.unusedVariables false
namespace Go.Proofs.YteciobkjfmddcaaGreat
open Go.RowKit

def homeR (win draw loss : Int) (x : GameD) : RowD :=
  if outcomeD x = 1 then ⟨1, 1, 0, 0, (goalsD x).1, (goalsD x).2.1, win⟩ else if outcomeD x = 2 then ⟨1, 0, 1, 0, (goalsD x).1, (goalsD x).2.1, draw⟩ else ⟨1, 0, 0, 1, (goalsD x).1, (goalsD x).2.1, loss⟩
def awayR (win draw loss : Int) (x : GameD) : RowD :=
  if outcomeD x = 1 then ⟨1, 0, 0, 1, (goalsD x).2.1, (goalsD x).1, loss⟩ else if outcomeD x = 2 then ⟨1, 0, 1, 0, (goalsD x).2.1, (goalsD x).1, draw⟩ else ⟨1, 1, 0, 0, (goalsD x).2.1, (goalsD x).1, win⟩
def putR (r : Nat → RowD) (t : Nat) (y : RowD) : Nat → RowD := fun i => if i = t then y else r i
def addG (win draw loss : Int) (r : Nat → RowD) (x : GameD) : Nat → RowD :=
  if (goalsD x).2.2 = true then
    putR (putR r x.home.toNat (addW (r x.home.toNat) (homeR win draw loss x))) x.away.toNat (addW (putR r x.home.toNat (addW (r x.home.toNat) (homeR win draw loss x)) x.away.toNat) (awayR win draw loss x))
  else r
theorem outcome_cases (x : GameD) (h : (goalsD x).2.2 = true) : outcomeD x = 1 ∨ outcomeD x = 2 ∨ outcomeD x = 3 := by
  unfold outcomeD
  rw [if_pos h]
  split
  · exact .inl rfl
  · split
    · exact .inr (.inl rfl)
    · exact .inr (.inr rfl)
theorem homeR_is (win draw loss : Int) (x : GameD) : (outcomeD x = 1 → homeR win draw loss x = ⟨1, 1, 0, 0, (goalsD x).1, (goalsD x).2.1, win⟩) ∧ (outcomeD x = 2 → homeR win draw loss x = ⟨1, 0, 1, 0, (goalsD x).1, (goalsD x).2.1, draw⟩) ∧ (outcomeD x = 3 → homeR win draw loss x = ⟨1, 0, 0, 1, (goalsD x).1, (goalsD x).2.1, loss⟩) := by
  unfold homeR
  exact ⟨fun h => by rw [if_pos h], fun h => by rw [if_neg (by omega), if_pos h], fun h => by rw [if_neg (by omega), if_neg (by omega)]⟩
theorem awayR_is (win draw loss : Int) (x : GameD) : (outcomeD x = 1 → awayR win draw loss x = ⟨1, 0, 0, 1, (goalsD x).2.1, (goalsD x).1, loss⟩) ∧ (outcomeD x = 2 → awayR win draw loss x = ⟨1, 0, 1, 0, (goalsD x).2.1, (goalsD x).1, draw⟩) ∧ (outcomeD x = 3 → awayR win draw loss x = ⟨1, 1, 0, 0, (goalsD x).2.1, (goalsD x).1, win⟩) := by
  unfold awayR
  exact ⟨fun h => by rw [if_pos h], fun h => by rw [if_neg (by omega), if_pos h], fun h => by rw [if_neg (by omega), if_neg (by omega)]⟩
theorem cells_put {n t : Nat} {xs : List Value} {r : Nat → RowD} {y : RowD} (h : RecCells 7 n xs fun i => (r i).cells) (hl : xs.length = n * 7) (ht : t < n) :
    RecCells 7 n (setsFrom xs (t * 7) y.cells) fun i => (putR r t y i).cells :=
  RecCells.congr (cells_update h hl ht rfl fun _ _ => Nat.le_refl _) fun i _ => by unfold putR; by_cases e : i = t <;> simp [e]
theorem row_at {w : World} {base gg n cap t : Nat} {xs : List Value} {r : Nat → RowD} (ho : w.ownsRow base 148 7 (.slice (some ⟨gg, 0, none⟩) n cap) n xs) (hc : RecCells 7 n xs fun i => (r i).cells) (ht : t < n) : CellsAt w gg (t * 7) (r t).cells := by
  have hlen := ho.1
  refine ⟨(ho.lt gg rfl).2, fun j u hu => ?_⟩
  have hj : j < 7 := by have := (List.getElem?_eq_some_iff.1 hu).1; simpa [RowD.cells] using this
  rw [ho.cellAt (t * 7 + j) (by omega)]
  exact hc t ht j u hu
theorem owns_put {w : World} {base gg n cap t : Nat} {xs : List Value} {y : RowD} (ho : w.ownsRow base 148 7 (.slice (some ⟨gg, 0, none⟩) n cap) n xs) :
    World.ownsRow (((((((w.setCell ⟨gg, t * 7, none⟩ (Value.int .i64 y.played)).setCell ⟨gg, t * 7 + 1, none⟩ (Value.int .i64 y.wins)).setCell ⟨gg, t * 7 + 2, none⟩ (Value.int .i64 y.draws)).setCell ⟨gg, t * 7 + 3, none⟩ (Value.int .i64 y.losses)).setCell ⟨gg, t * 7 + 4, none⟩ (Value.int .i64 y.scored)).setCell ⟨gg, t * 7 + 5, none⟩ (Value.int .i64 y.against)).setCell ⟨gg, t * 7 + 6, none⟩ (Value.int .i64 y.points)) base 148 7 (.slice (some ⟨gg, 0, none⟩) n cap) n (setsFrom xs (t * 7) y.cells) :=
  (((((((ho.stored (t * 7) (Value.int .i64 y.played)).1.stored (t * 7 + 1) (Value.int .i64 y.wins)).1.stored (t * 7 + 2) (Value.int .i64 y.draws)).1.stored (t * 7 + 3) (Value.int .i64 y.losses)).1.stored (t * 7 + 4) (Value.int .i64 y.scored)).1.stored (t * 7 + 5) (Value.int .i64 y.against)).1.stored (t * 7 + 6) (Value.int .i64 y.points)).1
theorem touch_put {a w : World} {lo hi gg t : Nat} {y : RowD} (h : Touch lo hi a w) (h1 : lo ≤ gg) (h2 : gg < hi) : Touch lo hi a (((((((w.setCell ⟨gg, t * 7, none⟩ (Value.int .i64 y.played)).setCell ⟨gg, t * 7 + 1, none⟩ (Value.int .i64 y.wins)).setCell ⟨gg, t * 7 + 2, none⟩ (Value.int .i64 y.draws)).setCell ⟨gg, t * 7 + 3, none⟩ (Value.int .i64 y.losses)).setCell ⟨gg, t * 7 + 4, none⟩ (Value.int .i64 y.scored)).setCell ⟨gg, t * 7 + 5, none⟩ (Value.int .i64 y.against)).setCell ⟨gg, t * 7 + 6, none⟩ (Value.int .i64 y.points)) :=
  Touch.setCell (Touch.setCell (Touch.setCell (Touch.setCell (Touch.setCell (Touch.setCell (Touch.setCell (h) ⟨gg, t * 7, none⟩ (Value.int .i64 y.played) h1 h2) ⟨gg, t * 7 + 1, none⟩ (Value.int .i64 y.wins) h1 h2) ⟨gg, t * 7 + 2, none⟩ (Value.int .i64 y.draws) h1 h2) ⟨gg, t * 7 + 3, none⟩ (Value.int .i64 y.losses) h1 h2) ⟨gg, t * 7 + 4, none⟩ (Value.int .i64 y.scored) h1 h2) ⟨gg, t * 7 + 5, none⟩ (Value.int .i64 y.against) h1 h2) ⟨gg, t * 7 + 6, none⟩ (Value.int .i64 y.points) h1 h2

theorem box_put {w : World} {B gg t : Nat} {cs : List Value} {y : RowD} (h : BoxN w B cs) (hB : B ≠ gg) : BoxN (((((((w.setCell ⟨gg, t * 7, none⟩ (Value.int .i64 y.played)).setCell ⟨gg, t * 7 + 1, none⟩ (Value.int .i64 y.wins)).setCell ⟨gg, t * 7 + 2, none⟩ (Value.int .i64 y.draws)).setCell ⟨gg, t * 7 + 3, none⟩ (Value.int .i64 y.losses)).setCell ⟨gg, t * 7 + 4, none⟩ (Value.int .i64 y.scored)).setCell ⟨gg, t * 7 + 5, none⟩ (Value.int .i64 y.against)).setCell ⟨gg, t * 7 + 6, none⟩ (Value.int .i64 y.points)) B cs := (BoxN.elsewhere (BoxN.elsewhere (BoxN.elsewhere (BoxN.elsewhere (BoxN.elsewhere (BoxN.elsewhere (BoxN.elsewhere h (D := gg) (t * 7) (Value.int .i64 y.played) hB) (D := gg) (t * 7 + 1) (Value.int .i64 y.wins) hB) (D := gg) (t * 7 + 2) (Value.int .i64 y.draws) hB) (D := gg) (t * 7 + 3) (Value.int .i64 y.losses) hB) (D := gg) (t * 7 + 4) (Value.int .i64 y.scored) hB) (D := gg) (t * 7 + 5) (Value.int .i64 y.against) hB) (D := gg) (t * 7 + 6) (Value.int .i64 y.points) hB)

theorem row_free {w : World} {base gg n cap t : Nat} {xs : List Value} {r : Nat → RowD} (ho : w.ownsRow base 148 7 (.slice (some ⟨gg, 0, none⟩) n cap) n xs) (hc : RecCells 7 n xs fun i => (r i).cells) (ht : t < n) :
    (w.cell? ⟨gg, t * 7, none⟩ = some (.int .i64 (r t).played) ∧ w.frozen? ⟨gg, t * 7, none⟩ = false) ∧ (w.cell? ⟨gg, t * 7 + 1, none⟩ = some (.int .i64 (r t).wins) ∧ w.frozen? ⟨gg, t * 7 + 1, none⟩ = false) ∧ (w.cell? ⟨gg, t * 7 + 2, none⟩ = some (.int .i64 (r t).draws) ∧ w.frozen? ⟨gg, t * 7 + 2, none⟩ = false) ∧ (w.cell? ⟨gg, t * 7 + 3, none⟩ = some (.int .i64 (r t).losses) ∧ w.frozen? ⟨gg, t * 7 + 3, none⟩ = false) ∧ (w.cell? ⟨gg, t * 7 + 4, none⟩ = some (.int .i64 (r t).scored) ∧ w.frozen? ⟨gg, t * 7 + 4, none⟩ = false) ∧ (w.cell? ⟨gg, t * 7 + 5, none⟩ = some (.int .i64 (r t).against) ∧ w.frozen? ⟨gg, t * 7 + 5, none⟩ = false) ∧ (w.cell? ⟨gg, t * 7 + 6, none⟩ = some (.int .i64 (r t).points) ∧ w.frozen? ⟨gg, t * 7 + 6, none⟩ = false) := by
  have h := row_at ho hc ht
  exact ⟨⟨h.2 0 _ rfl, ho.frozenAt _⟩, ⟨h.2 1 _ rfl, ho.frozenAt _⟩, ⟨h.2 2 _ rfl, ho.frozenAt _⟩, ⟨h.2 3 _ rfl, ho.frozenAt _⟩, ⟨h.2 4 _ rfl, ho.frozenAt _⟩, ⟨h.2 5 _ rfl, ho.frozenAt _⟩, ⟨h.2 6 _ rfl, ho.frozenAt _⟩⟩

set_option maxRecDepth 100000 in
set_option maxHeartbeats 4000000 in
theorem l06Add_spec (win draw loss : Int) (lad : Value) (agn : Bool) (p q : Nat) (hg ag st : Int) (base gg n cap : Nat) (xs : List Value) (r : Nat → RowD) (w : World) (hlad : ∃ a l c, lad = .slice a l c) (hpn : p < n) (hqn : q < n)
    (ho : w.ownsRow base 148 7 (.slice (some ⟨gg, 0, none⟩) n cap) n xs) (hc : RecCells 7 n xs fun i => (r i).cells) :
    Calls Tryz.prog 137 #[.agg #[.int .i64 win, .int .i64 draw, .int .i64 loss, lad, .bool agn], .slice (some ⟨gg, 0, none⟩) n cap, .agg #[.int .i64 (p : Int), .int .i64 (q : Int), .int .i64 hg, .int .i64 ag, .int .i64 st]] w fun e w' => e = .returned (.tuple #[]) ∧
      ∃ xs', w'.ownsRow base 148 7 (.slice (some ⟨gg, 0, none⟩) n cap) n xs' ∧ RecCells 7 n xs' (fun i => (addG win draw loss r ⟨p, q, hg, ag, st⟩ i).cells) ∧ Touch gg (gg + 1) w w' := by
  obtain ⟨la, ll, lc, rfl⟩ := hlad
  have C := Lib.hid (fun w1 => goalsOf_spec p q hg ag st w1)
  have D := Lib.hid (fun w1 => outcomeOf_spec p q hg ag st w1)
  have HA : Hid (addG win draw loss r ⟨p, q, hg, ag, st⟩ = if (goalsD ⟨p, q, hg, ag, st⟩).2.2 = true then putR (putR r p (addW (r p) (homeR win draw loss ⟨p, q, hg, ag, st⟩))) q (addW (putR r p (addW (r p) (homeR win draw loss ⟨p, q, hg, ag, st⟩)) q) (awayR win draw loss ⟨p, q, hg, ag, st⟩)) else r) := by
    show addG win draw loss r ⟨p, q, hg, ag, st⟩ = _
    unfold addG
    simp
  have HOC := Lib.hid (outcome_cases ⟨p, q, hg, ag, st⟩)
  have HH := Lib.hid (homeR_is win draw loss ⟨p, q, hg, ag, st⟩)
  have HW := Lib.hid (awayR_is win draw loss ⟨p, q, hg, ag, st⟩)
  generalize homeR win draw loss ⟨p, q, hg, ag, st⟩ = X at *
  generalize awayR win draw loss ⟨p, q, hg, ag, st⟩ = Y at *
  generalize outcomeD ⟨p, q, hg, ag, st⟩ = oc at *
  generalize goalsD ⟨p, q, hg, ag, st⟩ = gd at *
  obtain ⟨gh, ga, ok⟩ := gd
  simp only at C HA HOC HH HW
  have hgs := (ho.lt gg rfl).2
  have hgb := (ho.lt gg rfl).1
  have b0 : Below w.heap.size w ((w.alloc (.cells #[.int .i64 win, .int .i64 draw, .int .i64 loss, .slice la ll lc, .bool agn] 26)).alloc (.cells #[.int .i64 (p : Int), .int .i64 (q : Int), .int .i64 hg, .int .i64 ag, .int .i64 st] 127)) := ((Below.refl _ _).alloc (Nat.le_refl _) _).alloc (by simp) _
  have hpn' : (p : Int) < n := by omega
  have hqn' : (q : Int) < n := by omega
  cases ok with
  | false =>
    have HO := Lib.hid ho
    have HC := Lib.hid hc
    clear ho hc
    go_enter Tryz.func137, Tryz.ntmps137
    go_wp2_with fail
    refine (C.out _).mono ?_
    rintro e w1 ⟨rfl, b1⟩
    have HB1 := Lib.hid (b0.trans (b1.mono b0.size))
    have HO1 := Lib.hid (owns_below HO.out HB1.out (Nat.le_refl _))
    clear b0 b1
    go_wp2
    refine bodyPost_ret (results_none rfl _ _ _) rfl ?_
    exact ⟨rfl, xs, HO1.out, by rw [HA.out]; exact HC.out, Touch.of_below HB1.out⟩
  | true =>
    have HO := Lib.hid ho
    have HC := Lib.hid hc
    have hX := HOC.out rfl
    rw [if_pos rfl] at HA
    clear ho hc HOC
    rcases hX with rfl | rfl | rfl
    · have hXv := HH.out.1 rfl
      have hYv := HW.out.1 rfl
      have HXv := Lib.hid hXv
      have HYv := Lib.hid hYv
      clear HH HW hXv hYv
      go_enter Tryz.func137, Tryz.ntmps137
      go_wp2_with fail
      refine (C.out _).mono ?_
      rintro e w1 ⟨rfl, b1⟩
      have BG1 := Lib.hid (BoxN.made b1 (B := w.heap.size + 1) (by simp))
      have BU1 := Lib.hid (BoxN.made (below_prev b1) (B := w.heap.size) rfl)
      have hb1 := b0.trans (b1.mono b0.size)
      have z1 : w.heap.size + 2 ≤ w1.heap.size := by have := b1.size; simp at this; omega
      have zB : w.heap.size + 1 < w1.heap.size := by omega
      have zC : w.heap.size < w1.heap.size := by omega
      have HB1 := Lib.hid hb1
      have g0 := BG1.out.2 0 _ rfl
      have g1 := BG1.out.2 1 _ rfl
      have g2 := BG1.out.2 2 _ rfl
      have g3 := BG1.out.2 3 _ rfl
      have g4 := BG1.out.2 4 _ rfl
      clear b0 b1 hb1 C
      go_wp2_with fail
      refine (D.out _).mono ?_
      rintro e w2 ⟨rfl, b2⟩
      clear g0 g1 g2 g3 g4
      have BY2 := Lib.hid (BoxF.made b2 (B := w1.heap.size + 1) (by simp))
      have BX2 := Lib.hid (BoxF.made (below_prev b2) (B := w1.heap.size) rfl)
      have bb := below_prev (below_prev b2)
      have BG2 := Lib.hid (BoxN.below BG1.out bb)
      have BU2 := Lib.hid (BoxN.below BU1.out bb)
      have HB2 := Lib.hid (HB1.out.trans (bb.mono HB1.out.size))
      have z2 : w1.heap.size + 2 ≤ w2.heap.size := by have := b2.size; simp at this; omega
      have u0 := BU2.out.2 0 _ rfl
      have u1 := BU2.out.2 1 _ rfl
      have u2 := BU2.out.2 2 _ rfl
      have u3 := BU2.out.2 3 _ rfl
      have u4 := BU2.out.2 4 _ rfl
      obtain ⟨x0, fx0⟩ := BX2.out.2 0 _ rfl
      obtain ⟨x1, fx1⟩ := BX2.out.2 1 _ rfl
      obtain ⟨x2, fx2⟩ := BX2.out.2 2 _ rfl
      obtain ⟨x3, fx3⟩ := BX2.out.2 3 _ rfl
      obtain ⟨x4, fx4⟩ := BX2.out.2 4 _ rfl
      obtain ⟨x5, fx5⟩ := BX2.out.2 5 _ rfl
      obtain ⟨x6, fx6⟩ := BX2.out.2 6 _ rfl
      obtain ⟨y0, fy0⟩ := BY2.out.2 0 _ rfl
      obtain ⟨y1, fy1⟩ := BY2.out.2 1 _ rfl
      obtain ⟨y2, fy2⟩ := BY2.out.2 2 _ rfl
      obtain ⟨y3, fy3⟩ := BY2.out.2 3 _ rfl
      obtain ⟨y4, fy4⟩ := BY2.out.2 4 _ rfl
      obtain ⟨y5, fy5⟩ := BY2.out.2 5 _ rfl
      obtain ⟨y6, fy6⟩ := BY2.out.2 6 _ rfl
      clear b2 bb BG1 BU1 HB1 D
      have BXS : Hid (BoxF ((((w2.setCell ⟨w1.heap.size, 1, none⟩ (.int .i64 1)).setCell ⟨w1.heap.size + 1, 3, none⟩ (.int .i64 1)).setCell ⟨w1.heap.size, 6, none⟩ (.int .i64 win)).setCell ⟨w1.heap.size + 1, 6, none⟩ (.int .i64 loss)) w1.heap.size X.cells) := by rw [HXv.out]; exact (BoxF.other (BoxF.set (BoxF.other (BoxF.set BX2.out 1 (.int .i64 1) (by simp)) (D := w1.heap.size + 1) 3 (.int .i64 1) (by omega)) 6 (.int .i64 win) (by simp)) (D := w1.heap.size + 1) 6 (.int .i64 loss) (by omega))
      have BYS : Hid (BoxF ((((w2.setCell ⟨w1.heap.size, 1, none⟩ (.int .i64 1)).setCell ⟨w1.heap.size + 1, 3, none⟩ (.int .i64 1)).setCell ⟨w1.heap.size, 6, none⟩ (.int .i64 win)).setCell ⟨w1.heap.size + 1, 6, none⟩ (.int .i64 loss)) (w1.heap.size + 1) Y.cells) := by rw [HYv.out]; exact (BoxF.set (BoxF.other (BoxF.set (BoxF.other BY2.out (D := w1.heap.size) 1 (.int .i64 1) (by omega)) 3 (.int .i64 1) (by simp)) (D := w1.heap.size) 6 (.int .i64 win) (by omega)) 6 (.int .i64 loss) (by simp))
      have BG : Hid (BoxN ((((w2.setCell ⟨w1.heap.size, 1, none⟩ (.int .i64 1)).setCell ⟨w1.heap.size + 1, 3, none⟩ (.int .i64 1)).setCell ⟨w1.heap.size, 6, none⟩ (.int .i64 win)).setCell ⟨w1.heap.size + 1, 6, none⟩ (.int .i64 loss)) (w.heap.size + 1) [.int .i64 (p : Int), .int .i64 (q : Int), .int .i64 hg, .int .i64 ag, .int .i64 st]) := (BoxN.elsewhere (BoxN.elsewhere (BoxN.elsewhere (BoxN.elsewhere BG2.out (D := w1.heap.size) 1 (.int .i64 1) (by omega)) (D := (w1.heap.size + 1)) 3 (.int .i64 1) (by omega)) (D := w1.heap.size) 6 (.int .i64 win) (by omega)) (D := (w1.heap.size + 1)) 6 (.int .i64 loss) (by omega))
      have hbS : Hid (Below w.heap.size w ((((w2.setCell ⟨w1.heap.size, 1, none⟩ (.int .i64 1)).setCell ⟨w1.heap.size + 1, 3, none⟩ (.int .i64 1)).setCell ⟨w1.heap.size, 6, none⟩ (.int .i64 win)).setCell ⟨w1.heap.size + 1, 6, none⟩ (.int .i64 loss))) := (Below.setCell (Below.setCell (Below.setCell (Below.setCell HB2.out (p := ⟨w1.heap.size, 1, none⟩) (by show w.heap.size ≤ w1.heap.size; omega) (.int .i64 1)) (p := ⟨(w1.heap.size + 1), 3, none⟩) (by show w.heap.size ≤ (w1.heap.size + 1); omega) (.int .i64 1)) (p := ⟨w1.heap.size, 6, none⟩) (by show w.heap.size ≤ w1.heap.size; omega) (.int .i64 win)) (p := ⟨(w1.heap.size + 1), 6, none⟩) (by show w.heap.size ≤ (w1.heap.size + 1); omega) (.int .i64 loss))
      have hown := Lib.hid (owns_below HO.out hbS.out (Nat.le_refl _))
      have hT := Lib.hid (Touch.of_below (lo := gg) (hi := gg + 1) hbS.out)
      clear BX2 BY2 BG2 BU2 HB2
      go_wp2_with fail
      generalize hwS : ((((w2.setCell ⟨w1.heap.size, 1, none⟩ (.int .i64 1)).setCell ⟨w1.heap.size + 1, 3, none⟩ (.int .i64 1)).setCell ⟨w1.heap.size, 6, none⟩ (.int .i64 win)).setCell ⟨w1.heap.size + 1, 6, none⟩ (.int .i64 loss)) = wS at *
      clear hwS zB zC x0 x1 x2 x3 x4 x5 x6 y0 y1 y2 y3 y4 y5 y6 fx0 fx1 fx2 fx3 fx4 fx5 fx6 fy0 fy1 fy2 fy3 fy4 fy5 fy6 u0 u1 u2 u3 u4
      obtain ⟨yp, hyp⟩ : ∃ y, y = r p := ⟨_, rfl⟩
      have CR : CellsAt wS gg (p * 7) (RowD.cells yp) := by rw [hyp]; exact row_at hown.out HC.out hpn
      have HYp := Lib.hid hyp
      clear hyp
      obtain ⟨F, HF⟩ : ∃ F : World → Prop, F = fun w' => BoxN w' (w.heap.size + 1) [.int .i64 (p : Int), .int .i64 (q : Int), .int .i64 hg, .int .i64 ag, .int .i64 st] ∧ BoxN w' w1.heap.size (RowD.cells X) ∧ CellsAt w' gg (p * 7) (RowD.cells yp) := ⟨_, rfl⟩
      have FE : Hid (∀ wa, F wa → BoxN wa (w.heap.size + 1) [.int .i64 (p : Int), .int .i64 (q : Int), .int .i64 hg, .int .i64 ag, .int .i64 st] ∧ BoxN wa w1.heap.size (RowD.cells X) ∧ CellsAt wa gg (p * 7) (RowD.cells yp)) := by subst HF; exact fun _ h => h
      have FI : Hid (∀ wa, BoxN wa (w.heap.size + 1) [.int .i64 (p : Int), .int .i64 (q : Int), .int .i64 hg, .int .i64 ag, .int .i64 st] → BoxN wa w1.heap.size (RowD.cells X) → CellsAt wa gg (p * 7) (RowD.cells yp) → F wa) := by subst HF; exact fun _ h1 h2 h3 => ⟨h1, h2, h3⟩
      have F0 : Hid (F wS.drew) := FI.out _ (BoxN.below BG.out (Below.refl _ _).drew) (BoxN.below (BoxF.box BXS.out) (Below.refl _ _).drew) (CR.below (Below.refl _ _).drew)
      clear HF CR
      refine Await.begin (S := Until 11 F) (by kernel_rfl) ?_ (fun hS => ?_)
      · exact Until.of F0.out
      clear F0
      have hd := (Below.refl wS.heap.size wS).drew
      have BG1 := Lib.hid (BoxN.below BG.out hd)
      have BX1 := Lib.hid (BoxN.below (BoxF.box BXS.out) hd)
      have hown1 := Lib.hid (owns_below hown.out hd (Nat.le_refl _))
      have hT1 := Lib.hid (hT.out.trans (Touch.of_below hd))
      have BO1 := Lib.hid (BoxN.below (BoxF.box BYS.out) hd)
      have hzd : wS.heap.size ≤ wS.drew.heap.size := hd.size
      clear BG hown hT hd
      generalize wS.drew = wd at *
      refine Await.pure (i := 0) (v := ?_) rfl (by kernel_rfl) (by kernel_rfl) (by kernel_rfl) (by kernel_rfl) (fun _ _ _ h => h) (Or.inl ⟨by rfl, ?_⟩) (by assumption) ?_
      rotate_left
      · (intro wa _; go_simp; try with_reducible rfl)
      simp only [Act.put, List.getElem_toArray, List.getElem_cons_zero, List.setIfInBounds_toArray, List.set_cons_zero, List.set_cons_succ]
      refine Await.pure (i := 1) (v := ?_) rfl (by kernel_rfl) (by kernel_rfl) (by kernel_rfl) (by kernel_rfl) (fun _ _ _ h => h) (Or.inl ⟨by rfl, ?_⟩) (by assumption) ?_
      rotate_left
      · (intro wa _; go_simp; try with_reducible rfl)
      simp only [Act.put, List.getElem_toArray, List.getElem_cons_zero, List.getElem_cons_succ, List.setIfInBounds_toArray, List.set_cons_zero, List.set_cons_succ]
      refine Await.takes (i := 2) [10] (v := ?_) rfl (by kernel_rfl) (by kernel_rfl) (by kernel_rfl) (by kernel_rfl) (fun _ _ _ h => h) (Or.inl ⟨by rfl, ?_⟩) (by assumption) ?_
      rotate_left
      · (intro wa hSw; obtain ⟨fg, fx, fr⟩ := FE.out wa hSw; have a0 := fg.2 0 _ rfl; have a1 := fg.2 1 _ rfl; have a2 := fg.2 2 _ rfl; have a3 := fg.2 3 _ rfl; have a4 := fg.2 4 _ rfl; have b0 := fx.2 0 _ rfl; have b1 := fx.2 1 _ rfl; have b2 := fx.2 2 _ rfl; have b3 := fx.2 3 _ rfl; have b4 := fx.2 4 _ rfl; have b5 := fx.2 5 _ rfl; have b6 := fx.2 6 _ rfl; obtain ⟨e0, e1, e2, e3, e4, e5, e6⟩ := row_cells fr; go_simp; try with_reducible rfl)
      simp only [Act.put, List.getElem_toArray, List.getElem_cons_zero, List.getElem_cons_succ, List.setIfInBounds_toArray, List.set_cons_zero, List.set_cons_succ]
      refine Await.pure (i := 3) (v := ?_) rfl (by kernel_rfl) (by kernel_rfl) (by kernel_rfl) (by kernel_rfl) (fun _ _ _ h => h) (Or.inl ⟨by rfl, ?_⟩) (by assumption) ?_
      rotate_left
      · (intro wa _; go_simp; try with_reducible rfl)
      simp only [Act.put, List.getElem_toArray, List.getElem_cons_zero, List.getElem_cons_succ, List.setIfInBounds_toArray, List.set_cons_zero, List.set_cons_succ]
      refine Await.pure (i := 4) (v := ?_) rfl (by kernel_rfl) (by kernel_rfl) (by kernel_rfl) (by kernel_rfl) (fun _ _ _ h => h) (Or.inl ⟨by rfl, ?_⟩) (by assumption) ?_
      rotate_left
      · (intro wa _; go_simp; try with_reducible rfl)
      simp only [Act.put, List.getElem_toArray, List.getElem_cons_zero, List.getElem_cons_succ, List.setIfInBounds_toArray, List.set_cons_zero, List.set_cons_succ]
      refine Await.takes (i := 5) [6, 7, 9] (v := ?_) rfl (by kernel_rfl) (by kernel_rfl) (by kernel_rfl) (by kernel_rfl) (fun _ _ _ h => h) (Or.inl ⟨by rfl, ?_⟩) (by assumption) ?_
      rotate_left
      · (intro wa hSw; obtain ⟨fg, fx, fr⟩ := FE.out wa hSw; have a0 := fg.2 0 _ rfl; have a1 := fg.2 1 _ rfl; have a2 := fg.2 2 _ rfl; have a3 := fg.2 3 _ rfl; have a4 := fg.2 4 _ rfl; have b0 := fx.2 0 _ rfl; have b1 := fx.2 1 _ rfl; have b2 := fx.2 2 _ rfl; have b3 := fx.2 3 _ rfl; have b4 := fx.2 4 _ rfl; have b5 := fx.2 5 _ rfl; have b6 := fx.2 6 _ rfl; obtain ⟨e0, e1, e2, e3, e4, e5, e6⟩ := row_cells fr; go_simp; try with_reducible rfl)
      simp only [Act.put, List.getElem_toArray, List.getElem_cons_zero, List.getElem_cons_succ, List.setIfInBounds_toArray, List.set_cons_zero, List.set_cons_succ]
      refine Await.pure (i := 6) (v := ?_) rfl (by kernel_rfl) (by kernel_rfl) (by kernel_rfl) (by kernel_rfl) (fun _ _ _ h => h) (Or.inl ⟨by rfl, ?_⟩) (by assumption) ?_
      rotate_left
      · (intro wa _; go_simp; try with_reducible rfl)
      simp only [Act.put, List.getElem_toArray, List.getElem_cons_zero, List.getElem_cons_succ, List.setIfInBounds_toArray, List.set_cons_zero, List.set_cons_succ]
      refine Await.takes (i := 7) [9] (v := ?_) rfl (by kernel_rfl) (by kernel_rfl) (by kernel_rfl) (by kernel_rfl) (fun _ _ _ h => h) (Or.inl ⟨by rfl, ?_⟩) (by assumption) ?_
      rotate_left
      · (intro wa hSw; obtain ⟨fg, fx, fr⟩ := FE.out wa hSw; have a0 := fg.2 0 _ rfl; have a1 := fg.2 1 _ rfl; have a2 := fg.2 2 _ rfl; have a3 := fg.2 3 _ rfl; have a4 := fg.2 4 _ rfl; have b0 := fx.2 0 _ rfl; have b1 := fx.2 1 _ rfl; have b2 := fx.2 2 _ rfl; have b3 := fx.2 3 _ rfl; have b4 := fx.2 4 _ rfl; have b5 := fx.2 5 _ rfl; have b6 := fx.2 6 _ rfl; obtain ⟨e0, e1, e2, e3, e4, e5, e6⟩ := row_cells fr; go_simp; try with_reducible rfl)
      simp only [Act.put, List.getElem_toArray, List.getElem_cons_zero, List.getElem_cons_succ, List.setIfInBounds_toArray, List.set_cons_zero, List.set_cons_succ]
      refine Await.takes (i := 8) [9] (v := ?_) rfl (by kernel_rfl) (by kernel_rfl) (by kernel_rfl) (by kernel_rfl) (fun _ _ _ h => h) (Or.inl ⟨by rfl, ?_⟩) (by assumption) ?_
      rotate_left
      · (intro wa hSw; obtain ⟨fg, fx, fr⟩ := FE.out wa hSw; have a0 := fg.2 0 _ rfl; have a1 := fg.2 1 _ rfl; have a2 := fg.2 2 _ rfl; have a3 := fg.2 3 _ rfl; have a4 := fg.2 4 _ rfl; have b0 := fx.2 0 _ rfl; have b1 := fx.2 1 _ rfl; have b2 := fx.2 2 _ rfl; have b3 := fx.2 3 _ rfl; have b4 := fx.2 4 _ rfl; have b5 := fx.2 5 _ rfl; have b6 := fx.2 6 _ rfl; obtain ⟨e0, e1, e2, e3, e4, e5, e6⟩ := row_cells fr; go_simp; try with_reducible rfl)
      simp only [Act.put, List.getElem_toArray, List.getElem_cons_zero, List.getElem_cons_succ, List.setIfInBounds_toArray, List.set_cons_zero, List.set_cons_succ]
      refine Await.step (i := 9) (o := _) (by kernel_rfl) rfl (fun K1 hK1' => ?_)
      go_simp
      refine (addRows_spec yp X _).mono ?_
      rintro e w9 ⟨rfl, b9⟩
      generalize hzp : addW yp X = zp
      have HZp := Lib.hid hzp
      clear hzp
      unfold RowD.val
      (try go_wp2_with fail)
      refine hK1'.out _ _ ?_ (fun hS => ?_)
      · exact Until.of (FI.out _ (BoxN.below (FE.out _ (hS (by kernel_rfl))).1 b9) (BoxN.below (FE.out _ (hS (by kernel_rfl))).2.1 b9) ((FE.out _ (hS (by kernel_rfl))).2.2.below b9))
      clear hK1' K1
      refine Await.pure (i := 10) (v := ?_) rfl (by kernel_rfl) (by kernel_rfl) (by kernel_rfl) (by kernel_rfl) (fun _ _ _ h => h) (Or.inl ⟨by rfl, ?_⟩) (by assumption) ?_
      rotate_left
      · (intro wa _; go_simp; try with_reducible rfl)
      simp only [Act.put, List.getElem_toArray, List.getElem_cons_zero, List.getElem_cons_succ, List.setIfInBounds_toArray, List.set_cons_zero, List.set_cons_succ]
      have BG2 := Lib.hid (BoxN.below BG1.out b9)
      have hown2 := Lib.hid (owns_below hown1.out b9 (Nat.le_refl _))
      have hT2 := Lib.hid (hT1.out.trans (Touch.of_below b9))
      have BX2 := Lib.hid (BoxN.below BX1.out b9)
      have BO2 := Lib.hid (BoxN.below BO1.out b9)
      clear BG1 BX1 hown1 hT1 b9 BO1
      have HC2 := Lib.hid (cells_put (y := zp) HC.out hown2.out.1 hpn)
      obtain ⟨⟨d0, e0⟩, ⟨d1, e1⟩, ⟨d2, e2⟩, ⟨d3, e3⟩, ⟨d4, e4⟩, ⟨d5, e5⟩, ⟨d6, e6⟩⟩ := row_free hown2.out HC.out hpn
      refine Await.step (i := 11) (o := _) (by kernel_rfl) rfl (fun K1 hK1' => ?_)
      go_simp
      refine hK1'.out _ _ ?_ (fun hS => ?_)
      · exact Until.over (by kernel_rfl)
      clear hK1' K1
      refine Await.done (by kernel_rfl) ?_ _
      have hown3 := Lib.hid (owns_put (y := zp) (t := p) hown2.out)
      have hT3 := Lib.hid (touch_put (y := zp) (t := p) hT2.out (Nat.le_refl gg) (Nat.lt_succ_self gg))
      have BG3 := Lib.hid (box_put (y := zp) (t := p) (gg := gg) BG2.out (by omega))
      have BO3 := Lib.hid (box_put (y := zp) (t := p) (gg := gg) BO2.out (by omega))
      clear hS FE FI d0 d1 d2 d3 d4 d5 d6 e0 e1 e2 e3 e4 e5 e6 BG2 hown2 hT2 BX2 HC BO2
      generalize ((((((w9.setCell ⟨gg, p * 7, none⟩ (Value.int .i64 zp.played)).setCell ⟨gg, p * 7 + 1, none⟩ (Value.int .i64 zp.wins)).setCell ⟨gg, p * 7 + 2, none⟩ (Value.int .i64 zp.draws)).setCell ⟨gg, p * 7 + 3, none⟩ (Value.int .i64 zp.losses)).setCell ⟨gg, p * 7 + 4, none⟩ (Value.int .i64 zp.scored)).setCell ⟨gg, p * 7 + 5, none⟩ (Value.int .i64 zp.against)).setCell ⟨gg, p * 7 + 6, none⟩ (Value.int .i64 zp.points) = w4 at *
      clear hzd
      have hown := hown3
      have hT := hT3
      have BG := BG3
      have HC := HC2
      clear hown3 hT3 BG3 HC2
      have BO := BO3
      clear BO3
      clear BXS BYS hbS
      go_wp2_with fail
      obtain ⟨yq, hyq⟩ : ∃ y, y = (putR r p zp) q := ⟨_, rfl⟩
      have CR : CellsAt w4 gg (q * 7) (RowD.cells yq) := by rw [hyq]; exact row_at hown.out HC.out hqn
      have HYq := Lib.hid hyq
      clear hyq
      obtain ⟨F, HF⟩ : ∃ F : World → Prop, F = fun w' => BoxN w' (w.heap.size + 1) [.int .i64 (p : Int), .int .i64 (q : Int), .int .i64 hg, .int .i64 ag, .int .i64 st] ∧ BoxN w' (w1.heap.size + 1) (RowD.cells Y) ∧ CellsAt w' gg (q * 7) (RowD.cells yq) := ⟨_, rfl⟩
      have FE : Hid (∀ wa, F wa → BoxN wa (w.heap.size + 1) [.int .i64 (p : Int), .int .i64 (q : Int), .int .i64 hg, .int .i64 ag, .int .i64 st] ∧ BoxN wa (w1.heap.size + 1) (RowD.cells Y) ∧ CellsAt wa gg (q * 7) (RowD.cells yq)) := by subst HF; exact fun _ h => h
      have FI : Hid (∀ wa, BoxN wa (w.heap.size + 1) [.int .i64 (p : Int), .int .i64 (q : Int), .int .i64 hg, .int .i64 ag, .int .i64 st] → BoxN wa (w1.heap.size + 1) (RowD.cells Y) → CellsAt wa gg (q * 7) (RowD.cells yq) → F wa) := by subst HF; exact fun _ h1 h2 h3 => ⟨h1, h2, h3⟩
      have F0 : Hid (F w4.drew) := FI.out _ (BoxN.below BG.out (Below.refl _ _).drew) (BoxN.below BO.out (Below.refl _ _).drew) (CR.below (Below.refl _ _).drew)
      clear HF CR
      refine Await.begin (S := Until 11 F) (by kernel_rfl) ?_ (fun hS => ?_)
      · exact Until.of F0.out
      clear F0
      have hd := (Below.refl w4.heap.size w4).drew
      have BG1 := Lib.hid (BoxN.below BG.out hd)
      have BX1 := Lib.hid (BoxN.below BO.out hd)
      have hown1 := Lib.hid (owns_below hown.out hd (Nat.le_refl _))
      have hT1 := Lib.hid (hT.out.trans (Touch.of_below hd))
      have hzd : w4.heap.size ≤ w4.drew.heap.size := hd.size
      clear BG hown hT hd
      generalize w4.drew = wd at *
      refine Await.pure (i := 0) (v := ?_) rfl (by kernel_rfl) (by kernel_rfl) (by kernel_rfl) (by kernel_rfl) (fun _ _ _ h => h) (Or.inl ⟨by rfl, ?_⟩) (by assumption) ?_
      rotate_left
      · (intro wa _; go_simp; try with_reducible rfl)
      simp only [Act.put, List.getElem_toArray, List.getElem_cons_zero, List.setIfInBounds_toArray, List.set_cons_zero, List.set_cons_succ]
      refine Await.pure (i := 1) (v := ?_) rfl (by kernel_rfl) (by kernel_rfl) (by kernel_rfl) (by kernel_rfl) (fun _ _ _ h => h) (Or.inl ⟨by rfl, ?_⟩) (by assumption) ?_
      rotate_left
      · (intro wa _; go_simp; try with_reducible rfl)
      simp only [Act.put, List.getElem_toArray, List.getElem_cons_zero, List.getElem_cons_succ, List.setIfInBounds_toArray, List.set_cons_zero, List.set_cons_succ]
      refine Await.takes (i := 2) [10] (v := ?_) rfl (by kernel_rfl) (by kernel_rfl) (by kernel_rfl) (by kernel_rfl) (fun _ _ _ h => h) (Or.inl ⟨by rfl, ?_⟩) (by assumption) ?_
      rotate_left
      · (intro wa hSw; obtain ⟨fg, fx, fr⟩ := FE.out wa hSw; have a0 := fg.2 0 _ rfl; have a1 := fg.2 1 _ rfl; have a2 := fg.2 2 _ rfl; have a3 := fg.2 3 _ rfl; have a4 := fg.2 4 _ rfl; have b0 := fx.2 0 _ rfl; have b1 := fx.2 1 _ rfl; have b2 := fx.2 2 _ rfl; have b3 := fx.2 3 _ rfl; have b4 := fx.2 4 _ rfl; have b5 := fx.2 5 _ rfl; have b6 := fx.2 6 _ rfl; obtain ⟨e0, e1, e2, e3, e4, e5, e6⟩ := row_cells fr; go_simp; try with_reducible rfl)
      simp only [Act.put, List.getElem_toArray, List.getElem_cons_zero, List.getElem_cons_succ, List.setIfInBounds_toArray, List.set_cons_zero, List.set_cons_succ]
      refine Await.pure (i := 3) (v := ?_) rfl (by kernel_rfl) (by kernel_rfl) (by kernel_rfl) (by kernel_rfl) (fun _ _ _ h => h) (Or.inl ⟨by rfl, ?_⟩) (by assumption) ?_
      rotate_left
      · (intro wa _; go_simp; try with_reducible rfl)
      simp only [Act.put, List.getElem_toArray, List.getElem_cons_zero, List.getElem_cons_succ, List.setIfInBounds_toArray, List.set_cons_zero, List.set_cons_succ]
      refine Await.pure (i := 4) (v := ?_) rfl (by kernel_rfl) (by kernel_rfl) (by kernel_rfl) (by kernel_rfl) (fun _ _ _ h => h) (Or.inl ⟨by rfl, ?_⟩) (by assumption) ?_
      rotate_left
      · (intro wa _; go_simp; try with_reducible rfl)
      simp only [Act.put, List.getElem_toArray, List.getElem_cons_zero, List.getElem_cons_succ, List.setIfInBounds_toArray, List.set_cons_zero, List.set_cons_succ]
      refine Await.takes (i := 5) [6, 7, 9] (v := ?_) rfl (by kernel_rfl) (by kernel_rfl) (by kernel_rfl) (by kernel_rfl) (fun _ _ _ h => h) (Or.inl ⟨by rfl, ?_⟩) (by assumption) ?_
      rotate_left
      · (intro wa hSw; obtain ⟨fg, fx, fr⟩ := FE.out wa hSw; have a0 := fg.2 0 _ rfl; have a1 := fg.2 1 _ rfl; have a2 := fg.2 2 _ rfl; have a3 := fg.2 3 _ rfl; have a4 := fg.2 4 _ rfl; have b0 := fx.2 0 _ rfl; have b1 := fx.2 1 _ rfl; have b2 := fx.2 2 _ rfl; have b3 := fx.2 3 _ rfl; have b4 := fx.2 4 _ rfl; have b5 := fx.2 5 _ rfl; have b6 := fx.2 6 _ rfl; obtain ⟨e0, e1, e2, e3, e4, e5, e6⟩ := row_cells fr; go_simp; try with_reducible rfl)
      simp only [Act.put, List.getElem_toArray, List.getElem_cons_zero, List.getElem_cons_succ, List.setIfInBounds_toArray, List.set_cons_zero, List.set_cons_succ]
      refine Await.pure (i := 6) (v := ?_) rfl (by kernel_rfl) (by kernel_rfl) (by kernel_rfl) (by kernel_rfl) (fun _ _ _ h => h) (Or.inl ⟨by rfl, ?_⟩) (by assumption) ?_
      rotate_left
      · (intro wa _; go_simp; try with_reducible rfl)
      simp only [Act.put, List.getElem_toArray, List.getElem_cons_zero, List.getElem_cons_succ, List.setIfInBounds_toArray, List.set_cons_zero, List.set_cons_succ]
      refine Await.takes (i := 7) [9] (v := ?_) rfl (by kernel_rfl) (by kernel_rfl) (by kernel_rfl) (by kernel_rfl) (fun _ _ _ h => h) (Or.inl ⟨by rfl, ?_⟩) (by assumption) ?_
      rotate_left
      · (intro wa hSw; obtain ⟨fg, fx, fr⟩ := FE.out wa hSw; have a0 := fg.2 0 _ rfl; have a1 := fg.2 1 _ rfl; have a2 := fg.2 2 _ rfl; have a3 := fg.2 3 _ rfl; have a4 := fg.2 4 _ rfl; have b0 := fx.2 0 _ rfl; have b1 := fx.2 1 _ rfl; have b2 := fx.2 2 _ rfl; have b3 := fx.2 3 _ rfl; have b4 := fx.2 4 _ rfl; have b5 := fx.2 5 _ rfl; have b6 := fx.2 6 _ rfl; obtain ⟨e0, e1, e2, e3, e4, e5, e6⟩ := row_cells fr; go_simp; try with_reducible rfl)
      simp only [Act.put, List.getElem_toArray, List.getElem_cons_zero, List.getElem_cons_succ, List.setIfInBounds_toArray, List.set_cons_zero, List.set_cons_succ]
      refine Await.takes (i := 8) [9] (v := ?_) rfl (by kernel_rfl) (by kernel_rfl) (by kernel_rfl) (by kernel_rfl) (fun _ _ _ h => h) (Or.inl ⟨by rfl, ?_⟩) (by assumption) ?_
      rotate_left
      · (intro wa hSw; obtain ⟨fg, fx, fr⟩ := FE.out wa hSw; have a0 := fg.2 0 _ rfl; have a1 := fg.2 1 _ rfl; have a2 := fg.2 2 _ rfl; have a3 := fg.2 3 _ rfl; have a4 := fg.2 4 _ rfl; have b0 := fx.2 0 _ rfl; have b1 := fx.2 1 _ rfl; have b2 := fx.2 2 _ rfl; have b3 := fx.2 3 _ rfl; have b4 := fx.2 4 _ rfl; have b5 := fx.2 5 _ rfl; have b6 := fx.2 6 _ rfl; obtain ⟨e0, e1, e2, e3, e4, e5, e6⟩ := row_cells fr; go_simp; try with_reducible rfl)
      simp only [Act.put, List.getElem_toArray, List.getElem_cons_zero, List.getElem_cons_succ, List.setIfInBounds_toArray, List.set_cons_zero, List.set_cons_succ]
      refine Await.step (i := 9) (o := _) (by kernel_rfl) rfl (fun K1 hK1' => ?_)
      go_simp
      refine (addRows_spec yq Y _).mono ?_
      rintro e w9 ⟨rfl, b9⟩
      generalize hzq : addW yq Y = zq
      have HZq := Lib.hid hzq
      clear hzq
      unfold RowD.val
      (try go_wp2_with fail)
      refine hK1'.out _ _ ?_ (fun hS => ?_)
      · exact Until.of (FI.out _ (BoxN.below (FE.out _ (hS (by kernel_rfl))).1 b9) (BoxN.below (FE.out _ (hS (by kernel_rfl))).2.1 b9) ((FE.out _ (hS (by kernel_rfl))).2.2.below b9))
      clear hK1' K1
      refine Await.pure (i := 10) (v := ?_) rfl (by kernel_rfl) (by kernel_rfl) (by kernel_rfl) (by kernel_rfl) (fun _ _ _ h => h) (Or.inl ⟨by rfl, ?_⟩) (by assumption) ?_
      rotate_left
      · (intro wa _; go_simp; try with_reducible rfl)
      simp only [Act.put, List.getElem_toArray, List.getElem_cons_zero, List.getElem_cons_succ, List.setIfInBounds_toArray, List.set_cons_zero, List.set_cons_succ]
      have BG2 := Lib.hid (BoxN.below BG1.out b9)
      have hown2 := Lib.hid (owns_below hown1.out b9 (Nat.le_refl _))
      have hT2 := Lib.hid (hT1.out.trans (Touch.of_below b9))
      have BX2 := Lib.hid (BoxN.below BX1.out b9)
      clear BG1 BX1 hown1 hT1 b9
      have HC2 := Lib.hid (cells_put (y := zq) HC.out hown2.out.1 hqn)
      obtain ⟨⟨d0, e0⟩, ⟨d1, e1⟩, ⟨d2, e2⟩, ⟨d3, e3⟩, ⟨d4, e4⟩, ⟨d5, e5⟩, ⟨d6, e6⟩⟩ := row_free hown2.out HC.out hqn
      refine Await.step (i := 11) (o := _) (by kernel_rfl) rfl (fun K1 hK1' => ?_)
      go_simp
      refine hK1'.out _ _ ?_ (fun hS => ?_)
      · exact Until.over (by kernel_rfl)
      clear hK1' K1
      refine Await.done (by kernel_rfl) ?_ _
      have hown3 := Lib.hid (owns_put (y := zq) (t := q) hown2.out)
      have hT3 := Lib.hid (touch_put (y := zq) (t := q) hT2.out (Nat.le_refl gg) (Nat.lt_succ_self gg))
      have BG3 := Lib.hid (box_put (y := zq) (t := q) (gg := gg) BG2.out (by omega))
      clear hS FE FI d0 d1 d2 d3 d4 d5 d6 e0 e1 e2 e3 e4 e5 e6 BG2 hown2 hT2 BX2 HC
      generalize ((((((w9.setCell ⟨gg, q * 7, none⟩ (Value.int .i64 zq.played)).setCell ⟨gg, q * 7 + 1, none⟩ (Value.int .i64 zq.wins)).setCell ⟨gg, q * 7 + 2, none⟩ (Value.int .i64 zq.draws)).setCell ⟨gg, q * 7 + 3, none⟩ (Value.int .i64 zq.losses)).setCell ⟨gg, q * 7 + 4, none⟩ (Value.int .i64 zq.scored)).setCell ⟨gg, q * 7 + 5, none⟩ (Value.int .i64 zq.against)).setCell ⟨gg, q * 7 + 6, none⟩ (Value.int .i64 zq.points) = w5 at *
      clear hzd
      have hown := hown3
      have hT := hT3
      have BG := BG3
      have HC := HC2
      clear hown3 hT3 BG3 HC2
      go_wp2
      go_end0
      exact ⟨rfl, _, hown.out, by rw [HA.out, ← HYp.out, HZp.out, ← HYq.out, HZq.out]; exact HC.out, hT.out⟩
    · have hXv := HH.out.2.1 rfl
      have hYv := HW.out.2.1 rfl
      have HXv := Lib.hid hXv
      have HYv := Lib.hid hYv
      clear HH HW hXv hYv
      go_enter Tryz.func137, Tryz.ntmps137
      go_wp2_with fail
      refine (C.out _).mono ?_
      rintro e w1 ⟨rfl, b1⟩
      have BG1 := Lib.hid (BoxN.made b1 (B := w.heap.size + 1) (by simp))
      have BU1 := Lib.hid (BoxN.made (below_prev b1) (B := w.heap.size) rfl)
      have hb1 := b0.trans (b1.mono b0.size)
      have z1 : w.heap.size + 2 ≤ w1.heap.size := by have := b1.size; simp at this; omega
      have zB : w.heap.size + 1 < w1.heap.size := by omega
      have zC : w.heap.size < w1.heap.size := by omega
      have HB1 := Lib.hid hb1
      have g0 := BG1.out.2 0 _ rfl
      have g1 := BG1.out.2 1 _ rfl
      have g2 := BG1.out.2 2 _ rfl
      have g3 := BG1.out.2 3 _ rfl
      have g4 := BG1.out.2 4 _ rfl
      clear b0 b1 hb1 C
      go_wp2_with fail
      refine (D.out _).mono ?_
      rintro e w2 ⟨rfl, b2⟩
      clear g0 g1 g2 g3 g4
      have BY2 := Lib.hid (BoxF.made b2 (B := w1.heap.size + 1) (by simp))
      have BX2 := Lib.hid (BoxF.made (below_prev b2) (B := w1.heap.size) rfl)
      have bb := below_prev (below_prev b2)
      have BG2 := Lib.hid (BoxN.below BG1.out bb)
      have BU2 := Lib.hid (BoxN.below BU1.out bb)
      have HB2 := Lib.hid (HB1.out.trans (bb.mono HB1.out.size))
      have z2 : w1.heap.size + 2 ≤ w2.heap.size := by have := b2.size; simp at this; omega
      have u0 := BU2.out.2 0 _ rfl
      have u1 := BU2.out.2 1 _ rfl
      have u2 := BU2.out.2 2 _ rfl
      have u3 := BU2.out.2 3 _ rfl
      have u4 := BU2.out.2 4 _ rfl
      obtain ⟨x0, fx0⟩ := BX2.out.2 0 _ rfl
      obtain ⟨x1, fx1⟩ := BX2.out.2 1 _ rfl
      obtain ⟨x2, fx2⟩ := BX2.out.2 2 _ rfl
      obtain ⟨x3, fx3⟩ := BX2.out.2 3 _ rfl
      obtain ⟨x4, fx4⟩ := BX2.out.2 4 _ rfl
      obtain ⟨x5, fx5⟩ := BX2.out.2 5 _ rfl
      obtain ⟨x6, fx6⟩ := BX2.out.2 6 _ rfl
      obtain ⟨y0, fy0⟩ := BY2.out.2 0 _ rfl
      obtain ⟨y1, fy1⟩ := BY2.out.2 1 _ rfl
      obtain ⟨y2, fy2⟩ := BY2.out.2 2 _ rfl
      obtain ⟨y3, fy3⟩ := BY2.out.2 3 _ rfl
      obtain ⟨y4, fy4⟩ := BY2.out.2 4 _ rfl
      obtain ⟨y5, fy5⟩ := BY2.out.2 5 _ rfl
      obtain ⟨y6, fy6⟩ := BY2.out.2 6 _ rfl
      clear b2 bb BG1 BU1 HB1 D
      have BXS : Hid (BoxF ((((w2.setCell ⟨w1.heap.size, 2, none⟩ (.int .i64 1)).setCell ⟨w1.heap.size + 1, 2, none⟩ (.int .i64 1)).setCell ⟨w1.heap.size, 6, none⟩ (.int .i64 draw)).setCell ⟨w1.heap.size + 1, 6, none⟩ (.int .i64 draw)) w1.heap.size X.cells) := by rw [HXv.out]; exact (BoxF.other (BoxF.set (BoxF.other (BoxF.set BX2.out 2 (.int .i64 1) (by simp)) (D := w1.heap.size + 1) 2 (.int .i64 1) (by omega)) 6 (.int .i64 draw) (by simp)) (D := w1.heap.size + 1) 6 (.int .i64 draw) (by omega))
      have BYS : Hid (BoxF ((((w2.setCell ⟨w1.heap.size, 2, none⟩ (.int .i64 1)).setCell ⟨w1.heap.size + 1, 2, none⟩ (.int .i64 1)).setCell ⟨w1.heap.size, 6, none⟩ (.int .i64 draw)).setCell ⟨w1.heap.size + 1, 6, none⟩ (.int .i64 draw)) (w1.heap.size + 1) Y.cells) := by rw [HYv.out]; exact (BoxF.set (BoxF.other (BoxF.set (BoxF.other BY2.out (D := w1.heap.size) 2 (.int .i64 1) (by omega)) 2 (.int .i64 1) (by simp)) (D := w1.heap.size) 6 (.int .i64 draw) (by omega)) 6 (.int .i64 draw) (by simp))
      have BG : Hid (BoxN ((((w2.setCell ⟨w1.heap.size, 2, none⟩ (.int .i64 1)).setCell ⟨w1.heap.size + 1, 2, none⟩ (.int .i64 1)).setCell ⟨w1.heap.size, 6, none⟩ (.int .i64 draw)).setCell ⟨w1.heap.size + 1, 6, none⟩ (.int .i64 draw)) (w.heap.size + 1) [.int .i64 (p : Int), .int .i64 (q : Int), .int .i64 hg, .int .i64 ag, .int .i64 st]) := (BoxN.elsewhere (BoxN.elsewhere (BoxN.elsewhere (BoxN.elsewhere BG2.out (D := w1.heap.size) 2 (.int .i64 1) (by omega)) (D := (w1.heap.size + 1)) 2 (.int .i64 1) (by omega)) (D := w1.heap.size) 6 (.int .i64 draw) (by omega)) (D := (w1.heap.size + 1)) 6 (.int .i64 draw) (by omega))
      have hbS : Hid (Below w.heap.size w ((((w2.setCell ⟨w1.heap.size, 2, none⟩ (.int .i64 1)).setCell ⟨w1.heap.size + 1, 2, none⟩ (.int .i64 1)).setCell ⟨w1.heap.size, 6, none⟩ (.int .i64 draw)).setCell ⟨w1.heap.size + 1, 6, none⟩ (.int .i64 draw))) := (Below.setCell (Below.setCell (Below.setCell (Below.setCell HB2.out (p := ⟨w1.heap.size, 2, none⟩) (by show w.heap.size ≤ w1.heap.size; omega) (.int .i64 1)) (p := ⟨(w1.heap.size + 1), 2, none⟩) (by show w.heap.size ≤ (w1.heap.size + 1); omega) (.int .i64 1)) (p := ⟨w1.heap.size, 6, none⟩) (by show w.heap.size ≤ w1.heap.size; omega) (.int .i64 draw)) (p := ⟨(w1.heap.size + 1), 6, none⟩) (by show w.heap.size ≤ (w1.heap.size + 1); omega) (.int .i64 draw))
      have hown := Lib.hid (owns_below HO.out hbS.out (Nat.le_refl _))
      have hT := Lib.hid (Touch.of_below (lo := gg) (hi := gg + 1) hbS.out)
      clear BX2 BY2 BG2 BU2 HB2
      go_wp2_with fail
      generalize hwS : ((((w2.setCell ⟨w1.heap.size, 2, none⟩ (.int .i64 1)).setCell ⟨w1.heap.size + 1, 2, none⟩ (.int .i64 1)).setCell ⟨w1.heap.size, 6, none⟩ (.int .i64 draw)).setCell ⟨w1.heap.size + 1, 6, none⟩ (.int .i64 draw)) = wS at *
      clear hwS zB zC x0 x1 x2 x3 x4 x5 x6 y0 y1 y2 y3 y4 y5 y6 fx0 fx1 fx2 fx3 fx4 fx5 fx6 fy0 fy1 fy2 fy3 fy4 fy5 fy6 u0 u1 u2 u3 u4
      obtain ⟨yp, hyp⟩ : ∃ y, y = r p := ⟨_, rfl⟩
      have CR : CellsAt wS gg (p * 7) (RowD.cells yp) := by rw [hyp]; exact row_at hown.out HC.out hpn
      have HYp := Lib.hid hyp
      clear hyp
      obtain ⟨F, HF⟩ : ∃ F : World → Prop, F = fun w' => BoxN w' (w.heap.size + 1) [.int .i64 (p : Int), .int .i64 (q : Int), .int .i64 hg, .int .i64 ag, .int .i64 st] ∧ BoxN w' w1.heap.size (RowD.cells X) ∧ CellsAt w' gg (p * 7) (RowD.cells yp) := ⟨_, rfl⟩
      have FE : Hid (∀ wa, F wa → BoxN wa (w.heap.size + 1) [.int .i64 (p : Int), .int .i64 (q : Int), .int .i64 hg, .int .i64 ag, .int .i64 st] ∧ BoxN wa w1.heap.size (RowD.cells X) ∧ CellsAt wa gg (p * 7) (RowD.cells yp)) := by subst HF; exact fun _ h => h
      have FI : Hid (∀ wa, BoxN wa (w.heap.size + 1) [.int .i64 (p : Int), .int .i64 (q : Int), .int .i64 hg, .int .i64 ag, .int .i64 st] → BoxN wa w1.heap.size (RowD.cells X) → CellsAt wa gg (p * 7) (RowD.cells yp) → F wa) := by subst HF; exact fun _ h1 h2 h3 => ⟨h1, h2, h3⟩
      have F0 : Hid (F wS.drew) := FI.out _ (BoxN.below BG.out (Below.refl _ _).drew) (BoxN.below (BoxF.box BXS.out) (Below.refl _ _).drew) (CR.below (Below.refl _ _).drew)
      clear HF CR
      refine Await.begin (S := Until 11 F) (by kernel_rfl) ?_ (fun hS => ?_)
      · exact Until.of F0.out
      clear F0
      have hd := (Below.refl wS.heap.size wS).drew
      have BG1 := Lib.hid (BoxN.below BG.out hd)
      have BX1 := Lib.hid (BoxN.below (BoxF.box BXS.out) hd)
      have hown1 := Lib.hid (owns_below hown.out hd (Nat.le_refl _))
      have hT1 := Lib.hid (hT.out.trans (Touch.of_below hd))
      have BO1 := Lib.hid (BoxN.below (BoxF.box BYS.out) hd)
      have hzd : wS.heap.size ≤ wS.drew.heap.size := hd.size
      clear BG hown hT hd
      generalize wS.drew = wd at *
      refine Await.pure (i := 0) (v := ?_) rfl (by kernel_rfl) (by kernel_rfl) (by kernel_rfl) (by kernel_rfl) (fun _ _ _ h => h) (Or.inl ⟨by rfl, ?_⟩) (by assumption) ?_
      rotate_left
      · (intro wa _; go_simp; try with_reducible rfl)
      simp only [Act.put, List.getElem_toArray, List.getElem_cons_zero, List.setIfInBounds_toArray, List.set_cons_zero, List.set_cons_succ]
      refine Await.pure (i := 1) (v := ?_) rfl (by kernel_rfl) (by kernel_rfl) (by kernel_rfl) (by kernel_rfl) (fun _ _ _ h => h) (Or.inl ⟨by rfl, ?_⟩) (by assumption) ?_
      rotate_left
      · (intro wa _; go_simp; try with_reducible rfl)
      simp only [Act.put, List.getElem_toArray, List.getElem_cons_zero, List.getElem_cons_succ, List.setIfInBounds_toArray, List.set_cons_zero, List.set_cons_succ]
      refine Await.takes (i := 2) [10] (v := ?_) rfl (by kernel_rfl) (by kernel_rfl) (by kernel_rfl) (by kernel_rfl) (fun _ _ _ h => h) (Or.inl ⟨by rfl, ?_⟩) (by assumption) ?_
      rotate_left
      · (intro wa hSw; obtain ⟨fg, fx, fr⟩ := FE.out wa hSw; have a0 := fg.2 0 _ rfl; have a1 := fg.2 1 _ rfl; have a2 := fg.2 2 _ rfl; have a3 := fg.2 3 _ rfl; have a4 := fg.2 4 _ rfl; have b0 := fx.2 0 _ rfl; have b1 := fx.2 1 _ rfl; have b2 := fx.2 2 _ rfl; have b3 := fx.2 3 _ rfl; have b4 := fx.2 4 _ rfl; have b5 := fx.2 5 _ rfl; have b6 := fx.2 6 _ rfl; obtain ⟨e0, e1, e2, e3, e4, e5, e6⟩ := row_cells fr; go_simp; try with_reducible rfl)
      simp only [Act.put, List.getElem_toArray, List.getElem_cons_zero, List.getElem_cons_succ, List.setIfInBounds_toArray, List.set_cons_zero, List.set_cons_succ]
      refine Await.pure (i := 3) (v := ?_) rfl (by kernel_rfl) (by kernel_rfl) (by kernel_rfl) (by kernel_rfl) (fun _ _ _ h => h) (Or.inl ⟨by rfl, ?_⟩) (by assumption) ?_
      rotate_left
      · (intro wa _; go_simp; try with_reducible rfl)
      simp only [Act.put, List.getElem_toArray, List.getElem_cons_zero, List.getElem_cons_succ, List.setIfInBounds_toArray, List.set_cons_zero, List.set_cons_succ]
      refine Await.pure (i := 4) (v := ?_) rfl (by kernel_rfl) (by kernel_rfl) (by kernel_rfl) (by kernel_rfl) (fun _ _ _ h => h) (Or.inl ⟨by rfl, ?_⟩) (by assumption) ?_
      rotate_left
      · (intro wa _; go_simp; try with_reducible rfl)
      simp only [Act.put, List.getElem_toArray, List.getElem_cons_zero, List.getElem_cons_succ, List.setIfInBounds_toArray, List.set_cons_zero, List.set_cons_succ]
      refine Await.takes (i := 5) [6, 7, 9] (v := ?_) rfl (by kernel_rfl) (by kernel_rfl) (by kernel_rfl) (by kernel_rfl) (fun _ _ _ h => h) (Or.inl ⟨by rfl, ?_⟩) (by assumption) ?_
      rotate_left
      · (intro wa hSw; obtain ⟨fg, fx, fr⟩ := FE.out wa hSw; have a0 := fg.2 0 _ rfl; have a1 := fg.2 1 _ rfl; have a2 := fg.2 2 _ rfl; have a3 := fg.2 3 _ rfl; have a4 := fg.2 4 _ rfl; have b0 := fx.2 0 _ rfl; have b1 := fx.2 1 _ rfl; have b2 := fx.2 2 _ rfl; have b3 := fx.2 3 _ rfl; have b4 := fx.2 4 _ rfl; have b5 := fx.2 5 _ rfl; have b6 := fx.2 6 _ rfl; obtain ⟨e0, e1, e2, e3, e4, e5, e6⟩ := row_cells fr; go_simp; try with_reducible rfl)
      simp only [Act.put, List.getElem_toArray, List.getElem_cons_zero, List.getElem_cons_succ, List.setIfInBounds_toArray, List.set_cons_zero, List.set_cons_succ]
      refine Await.pure (i := 6) (v := ?_) rfl (by kernel_rfl) (by kernel_rfl) (by kernel_rfl) (by kernel_rfl) (fun _ _ _ h => h) (Or.inl ⟨by rfl, ?_⟩) (by assumption) ?_
      rotate_left
      · (intro wa _; go_simp; try with_reducible rfl)
      simp only [Act.put, List.getElem_toArray, List.getElem_cons_zero, List.getElem_cons_succ, List.setIfInBounds_toArray, List.set_cons_zero, List.set_cons_succ]
      refine Await.takes (i := 7) [9] (v := ?_) rfl (by kernel_rfl) (by kernel_rfl) (by kernel_rfl) (by kernel_rfl) (fun _ _ _ h => h) (Or.inl ⟨by rfl, ?_⟩) (by assumption) ?_
      rotate_left
      · (intro wa hSw; obtain ⟨fg, fx, fr⟩ := FE.out wa hSw; have a0 := fg.2 0 _ rfl; have a1 := fg.2 1 _ rfl; have a2 := fg.2 2 _ rfl; have a3 := fg.2 3 _ rfl; have a4 := fg.2 4 _ rfl; have b0 := fx.2 0 _ rfl; have b1 := fx.2 1 _ rfl; have b2 := fx.2 2 _ rfl; have b3 := fx.2 3 _ rfl; have b4 := fx.2 4 _ rfl; have b5 := fx.2 5 _ rfl; have b6 := fx.2 6 _ rfl; obtain ⟨e0, e1, e2, e3, e4, e5, e6⟩ := row_cells fr; go_simp; try with_reducible rfl)
      simp only [Act.put, List.getElem_toArray, List.getElem_cons_zero, List.getElem_cons_succ, List.setIfInBounds_toArray, List.set_cons_zero, List.set_cons_succ]
      refine Await.takes (i := 8) [9] (v := ?_) rfl (by kernel_rfl) (by kernel_rfl) (by kernel_rfl) (by kernel_rfl) (fun _ _ _ h => h) (Or.inl ⟨by rfl, ?_⟩) (by assumption) ?_
      rotate_left
      · (intro wa hSw; obtain ⟨fg, fx, fr⟩ := FE.out wa hSw; have a0 := fg.2 0 _ rfl; have a1 := fg.2 1 _ rfl; have a2 := fg.2 2 _ rfl; have a3 := fg.2 3 _ rfl; have a4 := fg.2 4 _ rfl; have b0 := fx.2 0 _ rfl; have b1 := fx.2 1 _ rfl; have b2 := fx.2 2 _ rfl; have b3 := fx.2 3 _ rfl; have b4 := fx.2 4 _ rfl; have b5 := fx.2 5 _ rfl; have b6 := fx.2 6 _ rfl; obtain ⟨e0, e1, e2, e3, e4, e5, e6⟩ := row_cells fr; go_simp; try with_reducible rfl)
      simp only [Act.put, List.getElem_toArray, List.getElem_cons_zero, List.getElem_cons_succ, List.setIfInBounds_toArray, List.set_cons_zero, List.set_cons_succ]
      refine Await.step (i := 9) (o := _) (by kernel_rfl) rfl (fun K1 hK1' => ?_)
      go_simp
      refine (addRows_spec yp X _).mono ?_
      rintro e w9 ⟨rfl, b9⟩
      generalize hzp : addW yp X = zp
      have HZp := Lib.hid hzp
      clear hzp
      unfold RowD.val
      (try go_wp2_with fail)
      refine hK1'.out _ _ ?_ (fun hS => ?_)
      · exact Until.of (FI.out _ (BoxN.below (FE.out _ (hS (by kernel_rfl))).1 b9) (BoxN.below (FE.out _ (hS (by kernel_rfl))).2.1 b9) ((FE.out _ (hS (by kernel_rfl))).2.2.below b9))
      clear hK1' K1
      refine Await.pure (i := 10) (v := ?_) rfl (by kernel_rfl) (by kernel_rfl) (by kernel_rfl) (by kernel_rfl) (fun _ _ _ h => h) (Or.inl ⟨by rfl, ?_⟩) (by assumption) ?_
      rotate_left
      · (intro wa _; go_simp; try with_reducible rfl)
      simp only [Act.put, List.getElem_toArray, List.getElem_cons_zero, List.getElem_cons_succ, List.setIfInBounds_toArray, List.set_cons_zero, List.set_cons_succ]
      have BG2 := Lib.hid (BoxN.below BG1.out b9)
      have hown2 := Lib.hid (owns_below hown1.out b9 (Nat.le_refl _))
      have hT2 := Lib.hid (hT1.out.trans (Touch.of_below b9))
      have BX2 := Lib.hid (BoxN.below BX1.out b9)
      have BO2 := Lib.hid (BoxN.below BO1.out b9)
      clear BG1 BX1 hown1 hT1 b9 BO1
      have HC2 := Lib.hid (cells_put (y := zp) HC.out hown2.out.1 hpn)
      obtain ⟨⟨d0, e0⟩, ⟨d1, e1⟩, ⟨d2, e2⟩, ⟨d3, e3⟩, ⟨d4, e4⟩, ⟨d5, e5⟩, ⟨d6, e6⟩⟩ := row_free hown2.out HC.out hpn
      refine Await.step (i := 11) (o := _) (by kernel_rfl) rfl (fun K1 hK1' => ?_)
      go_simp
      refine hK1'.out _ _ ?_ (fun hS => ?_)
      · exact Until.over (by kernel_rfl)
      clear hK1' K1
      refine Await.done (by kernel_rfl) ?_ _
      have hown3 := Lib.hid (owns_put (y := zp) (t := p) hown2.out)
      have hT3 := Lib.hid (touch_put (y := zp) (t := p) hT2.out (Nat.le_refl gg) (Nat.lt_succ_self gg))
      have BG3 := Lib.hid (box_put (y := zp) (t := p) (gg := gg) BG2.out (by omega))
      have BO3 := Lib.hid (box_put (y := zp) (t := p) (gg := gg) BO2.out (by omega))
      clear hS FE FI d0 d1 d2 d3 d4 d5 d6 e0 e1 e2 e3 e4 e5 e6 BG2 hown2 hT2 BX2 HC BO2
      generalize ((((((w9.setCell ⟨gg, p * 7, none⟩ (Value.int .i64 zp.played)).setCell ⟨gg, p * 7 + 1, none⟩ (Value.int .i64 zp.wins)).setCell ⟨gg, p * 7 + 2, none⟩ (Value.int .i64 zp.draws)).setCell ⟨gg, p * 7 + 3, none⟩ (Value.int .i64 zp.losses)).setCell ⟨gg, p * 7 + 4, none⟩ (Value.int .i64 zp.scored)).setCell ⟨gg, p * 7 + 5, none⟩ (Value.int .i64 zp.against)).setCell ⟨gg, p * 7 + 6, none⟩ (Value.int .i64 zp.points) = w4 at *
      clear hzd
      have hown := hown3
      have hT := hT3
      have BG := BG3
      have HC := HC2
      clear hown3 hT3 BG3 HC2
      have BO := BO3
      clear BO3
      clear BXS BYS hbS
      go_wp2_with fail
      obtain ⟨yq, hyq⟩ : ∃ y, y = (putR r p zp) q := ⟨_, rfl⟩
      have CR : CellsAt w4 gg (q * 7) (RowD.cells yq) := by rw [hyq]; exact row_at hown.out HC.out hqn
      have HYq := Lib.hid hyq
      clear hyq
      obtain ⟨F, HF⟩ : ∃ F : World → Prop, F = fun w' => BoxN w' (w.heap.size + 1) [.int .i64 (p : Int), .int .i64 (q : Int), .int .i64 hg, .int .i64 ag, .int .i64 st] ∧ BoxN w' (w1.heap.size + 1) (RowD.cells Y) ∧ CellsAt w' gg (q * 7) (RowD.cells yq) := ⟨_, rfl⟩
      have FE : Hid (∀ wa, F wa → BoxN wa (w.heap.size + 1) [.int .i64 (p : Int), .int .i64 (q : Int), .int .i64 hg, .int .i64 ag, .int .i64 st] ∧ BoxN wa (w1.heap.size + 1) (RowD.cells Y) ∧ CellsAt wa gg (q * 7) (RowD.cells yq)) := by subst HF; exact fun _ h => h
      have FI : Hid (∀ wa, BoxN wa (w.heap.size + 1) [.int .i64 (p : Int), .int .i64 (q : Int), .int .i64 hg, .int .i64 ag, .int .i64 st] → BoxN wa (w1.heap.size + 1) (RowD.cells Y) → CellsAt wa gg (q * 7) (RowD.cells yq) → F wa) := by subst HF; exact fun _ h1 h2 h3 => ⟨h1, h2, h3⟩
      have F0 : Hid (F w4.drew) := FI.out _ (BoxN.below BG.out (Below.refl _ _).drew) (BoxN.below BO.out (Below.refl _ _).drew) (CR.below (Below.refl _ _).drew)
      clear HF CR
      refine Await.begin (S := Until 11 F) (by kernel_rfl) ?_ (fun hS => ?_)
      · exact Until.of F0.out
      clear F0
      have hd := (Below.refl w4.heap.size w4).drew
      have BG1 := Lib.hid (BoxN.below BG.out hd)
      have BX1 := Lib.hid (BoxN.below BO.out hd)
      have hown1 := Lib.hid (owns_below hown.out hd (Nat.le_refl _))
      have hT1 := Lib.hid (hT.out.trans (Touch.of_below hd))
      have hzd : w4.heap.size ≤ w4.drew.heap.size := hd.size
      clear BG hown hT hd
      generalize w4.drew = wd at *
      refine Await.pure (i := 0) (v := ?_) rfl (by kernel_rfl) (by kernel_rfl) (by kernel_rfl) (by kernel_rfl) (fun _ _ _ h => h) (Or.inl ⟨by rfl, ?_⟩) (by assumption) ?_
      rotate_left
      · (intro wa _; go_simp; try with_reducible rfl)
      simp only [Act.put, List.getElem_toArray, List.getElem_cons_zero, List.setIfInBounds_toArray, List.set_cons_zero, List.set_cons_succ]
      refine Await.pure (i := 1) (v := ?_) rfl (by kernel_rfl) (by kernel_rfl) (by kernel_rfl) (by kernel_rfl) (fun _ _ _ h => h) (Or.inl ⟨by rfl, ?_⟩) (by assumption) ?_
      rotate_left
      · (intro wa _; go_simp; try with_reducible rfl)
      simp only [Act.put, List.getElem_toArray, List.getElem_cons_zero, List.getElem_cons_succ, List.setIfInBounds_toArray, List.set_cons_zero, List.set_cons_succ]
      refine Await.takes (i := 2) [10] (v := ?_) rfl (by kernel_rfl) (by kernel_rfl) (by kernel_rfl) (by kernel_rfl) (fun _ _ _ h => h) (Or.inl ⟨by rfl, ?_⟩) (by assumption) ?_
      rotate_left
      · (intro wa hSw; obtain ⟨fg, fx, fr⟩ := FE.out wa hSw; have a0 := fg.2 0 _ rfl; have a1 := fg.2 1 _ rfl; have a2 := fg.2 2 _ rfl; have a3 := fg.2 3 _ rfl; have a4 := fg.2 4 _ rfl; have b0 := fx.2 0 _ rfl; have b1 := fx.2 1 _ rfl; have b2 := fx.2 2 _ rfl; have b3 := fx.2 3 _ rfl; have b4 := fx.2 4 _ rfl; have b5 := fx.2 5 _ rfl; have b6 := fx.2 6 _ rfl; obtain ⟨e0, e1, e2, e3, e4, e5, e6⟩ := row_cells fr; go_simp; try with_reducible rfl)
      simp only [Act.put, List.getElem_toArray, List.getElem_cons_zero, List.getElem_cons_succ, List.setIfInBounds_toArray, List.set_cons_zero, List.set_cons_succ]
      refine Await.pure (i := 3) (v := ?_) rfl (by kernel_rfl) (by kernel_rfl) (by kernel_rfl) (by kernel_rfl) (fun _ _ _ h => h) (Or.inl ⟨by rfl, ?_⟩) (by assumption) ?_
      rotate_left
      · (intro wa _; go_simp; try with_reducible rfl)
      simp only [Act.put, List.getElem_toArray, List.getElem_cons_zero, List.getElem_cons_succ, List.setIfInBounds_toArray, List.set_cons_zero, List.set_cons_succ]
      refine Await.pure (i := 4) (v := ?_) rfl (by kernel_rfl) (by kernel_rfl) (by kernel_rfl) (by kernel_rfl) (fun _ _ _ h => h) (Or.inl ⟨by rfl, ?_⟩) (by assumption) ?_
      rotate_left
      · (intro wa _; go_simp; try with_reducible rfl)
      simp only [Act.put, List.getElem_toArray, List.getElem_cons_zero, List.getElem_cons_succ, List.setIfInBounds_toArray, List.set_cons_zero, List.set_cons_succ]
      refine Await.takes (i := 5) [6, 7, 9] (v := ?_) rfl (by kernel_rfl) (by kernel_rfl) (by kernel_rfl) (by kernel_rfl) (fun _ _ _ h => h) (Or.inl ⟨by rfl, ?_⟩) (by assumption) ?_
      rotate_left
      · (intro wa hSw; obtain ⟨fg, fx, fr⟩ := FE.out wa hSw; have a0 := fg.2 0 _ rfl; have a1 := fg.2 1 _ rfl; have a2 := fg.2 2 _ rfl; have a3 := fg.2 3 _ rfl; have a4 := fg.2 4 _ rfl; have b0 := fx.2 0 _ rfl; have b1 := fx.2 1 _ rfl; have b2 := fx.2 2 _ rfl; have b3 := fx.2 3 _ rfl; have b4 := fx.2 4 _ rfl; have b5 := fx.2 5 _ rfl; have b6 := fx.2 6 _ rfl; obtain ⟨e0, e1, e2, e3, e4, e5, e6⟩ := row_cells fr; go_simp; try with_reducible rfl)
      simp only [Act.put, List.getElem_toArray, List.getElem_cons_zero, List.getElem_cons_succ, List.setIfInBounds_toArray, List.set_cons_zero, List.set_cons_succ]
      refine Await.pure (i := 6) (v := ?_) rfl (by kernel_rfl) (by kernel_rfl) (by kernel_rfl) (by kernel_rfl) (fun _ _ _ h => h) (Or.inl ⟨by rfl, ?_⟩) (by assumption) ?_
      rotate_left
      · (intro wa _; go_simp; try with_reducible rfl)
      simp only [Act.put, List.getElem_toArray, List.getElem_cons_zero, List.getElem_cons_succ, List.setIfInBounds_toArray, List.set_cons_zero, List.set_cons_succ]
      refine Await.takes (i := 7) [9] (v := ?_) rfl (by kernel_rfl) (by kernel_rfl) (by kernel_rfl) (by kernel_rfl) (fun _ _ _ h => h) (Or.inl ⟨by rfl, ?_⟩) (by assumption) ?_
      rotate_left
      · (intro wa hSw; obtain ⟨fg, fx, fr⟩ := FE.out wa hSw; have a0 := fg.2 0 _ rfl; have a1 := fg.2 1 _ rfl; have a2 := fg.2 2 _ rfl; have a3 := fg.2 3 _ rfl; have a4 := fg.2 4 _ rfl; have b0 := fx.2 0 _ rfl; have b1 := fx.2 1 _ rfl; have b2 := fx.2 2 _ rfl; have b3 := fx.2 3 _ rfl; have b4 := fx.2 4 _ rfl; have b5 := fx.2 5 _ rfl; have b6 := fx.2 6 _ rfl; obtain ⟨e0, e1, e2, e3, e4, e5, e6⟩ := row_cells fr; go_simp; try with_reducible rfl)
      simp only [Act.put, List.getElem_toArray, List.getElem_cons_zero, List.getElem_cons_succ, List.setIfInBounds_toArray, List.set_cons_zero, List.set_cons_succ]
      refine Await.takes (i := 8) [9] (v := ?_) rfl (by kernel_rfl) (by kernel_rfl) (by kernel_rfl) (by kernel_rfl) (fun _ _ _ h => h) (Or.inl ⟨by rfl, ?_⟩) (by assumption) ?_
      rotate_left
      · (intro wa hSw; obtain ⟨fg, fx, fr⟩ := FE.out wa hSw; have a0 := fg.2 0 _ rfl; have a1 := fg.2 1 _ rfl; have a2 := fg.2 2 _ rfl; have a3 := fg.2 3 _ rfl; have a4 := fg.2 4 _ rfl; have b0 := fx.2 0 _ rfl; have b1 := fx.2 1 _ rfl; have b2 := fx.2 2 _ rfl; have b3 := fx.2 3 _ rfl; have b4 := fx.2 4 _ rfl; have b5 := fx.2 5 _ rfl; have b6 := fx.2 6 _ rfl; obtain ⟨e0, e1, e2, e3, e4, e5, e6⟩ := row_cells fr; go_simp; try with_reducible rfl)
      simp only [Act.put, List.getElem_toArray, List.getElem_cons_zero, List.getElem_cons_succ, List.setIfInBounds_toArray, List.set_cons_zero, List.set_cons_succ]
      refine Await.step (i := 9) (o := _) (by kernel_rfl) rfl (fun K1 hK1' => ?_)
      go_simp
      refine (addRows_spec yq Y _).mono ?_
      rintro e w9 ⟨rfl, b9⟩
      generalize hzq : addW yq Y = zq
      have HZq := Lib.hid hzq
      clear hzq
      unfold RowD.val
      (try go_wp2_with fail)
      refine hK1'.out _ _ ?_ (fun hS => ?_)
      · exact Until.of (FI.out _ (BoxN.below (FE.out _ (hS (by kernel_rfl))).1 b9) (BoxN.below (FE.out _ (hS (by kernel_rfl))).2.1 b9) ((FE.out _ (hS (by kernel_rfl))).2.2.below b9))
      clear hK1' K1
      refine Await.pure (i := 10) (v := ?_) rfl (by kernel_rfl) (by kernel_rfl) (by kernel_rfl) (by kernel_rfl) (fun _ _ _ h => h) (Or.inl ⟨by rfl, ?_⟩) (by assumption) ?_
      rotate_left
      · (intro wa _; go_simp; try with_reducible rfl)
      simp only [Act.put, List.getElem_toArray, List.getElem_cons_zero, List.getElem_cons_succ, List.setIfInBounds_toArray, List.set_cons_zero, List.set_cons_succ]
      have BG2 := Lib.hid (BoxN.below BG1.out b9)
      have hown2 := Lib.hid (owns_below hown1.out b9 (Nat.le_refl _))
      have hT2 := Lib.hid (hT1.out.trans (Touch.of_below b9))
      have BX2 := Lib.hid (BoxN.below BX1.out b9)
      clear BG1 BX1 hown1 hT1 b9
      have HC2 := Lib.hid (cells_put (y := zq) HC.out hown2.out.1 hqn)
      obtain ⟨⟨d0, e0⟩, ⟨d1, e1⟩, ⟨d2, e2⟩, ⟨d3, e3⟩, ⟨d4, e4⟩, ⟨d5, e5⟩, ⟨d6, e6⟩⟩ := row_free hown2.out HC.out hqn
      refine Await.step (i := 11) (o := _) (by kernel_rfl) rfl (fun K1 hK1' => ?_)
      go_simp
      refine hK1'.out _ _ ?_ (fun hS => ?_)
      · exact Until.over (by kernel_rfl)
      clear hK1' K1
      refine Await.done (by kernel_rfl) ?_ _
      have hown3 := Lib.hid (owns_put (y := zq) (t := q) hown2.out)
      have hT3 := Lib.hid (touch_put (y := zq) (t := q) hT2.out (Nat.le_refl gg) (Nat.lt_succ_self gg))
      have BG3 := Lib.hid (box_put (y := zq) (t := q) (gg := gg) BG2.out (by omega))
      clear hS FE FI d0 d1 d2 d3 d4 d5 d6 e0 e1 e2 e3 e4 e5 e6 BG2 hown2 hT2 BX2 HC
      generalize ((((((w9.setCell ⟨gg, q * 7, none⟩ (Value.int .i64 zq.played)).setCell ⟨gg, q * 7 + 1, none⟩ (Value.int .i64 zq.wins)).setCell ⟨gg, q * 7 + 2, none⟩ (Value.int .i64 zq.draws)).setCell ⟨gg, q * 7 + 3, none⟩ (Value.int .i64 zq.losses)).setCell ⟨gg, q * 7 + 4, none⟩ (Value.int .i64 zq.scored)).setCell ⟨gg, q * 7 + 5, none⟩ (Value.int .i64 zq.against)).setCell ⟨gg, q * 7 + 6, none⟩ (Value.int .i64 zq.points) = w5 at *
      clear hzd
      have hown := hown3
      have hT := hT3
      have BG := BG3
      have HC := HC2
      clear hown3 hT3 BG3 HC2
      go_wp2
      go_end0
      exact ⟨rfl, _, hown.out, by rw [HA.out, ← HYp.out, HZp.out, ← HYq.out, HZq.out]; exact HC.out, hT.out⟩
    · have hXv := HH.out.2.2 rfl
      have hYv := HW.out.2.2 rfl
      have HXv := Lib.hid hXv
      have HYv := Lib.hid hYv
      clear HH HW hXv hYv
      go_enter Tryz.func137, Tryz.ntmps137
      go_wp2_with fail
      refine (C.out _).mono ?_
      rintro e w1 ⟨rfl, b1⟩
      have BG1 := Lib.hid (BoxN.made b1 (B := w.heap.size + 1) (by simp))
      have BU1 := Lib.hid (BoxN.made (below_prev b1) (B := w.heap.size) rfl)
      have hb1 := b0.trans (b1.mono b0.size)
      have z1 : w.heap.size + 2 ≤ w1.heap.size := by have := b1.size; simp at this; omega
      have zB : w.heap.size + 1 < w1.heap.size := by omega
      have zC : w.heap.size < w1.heap.size := by omega
      have HB1 := Lib.hid hb1
      have g0 := BG1.out.2 0 _ rfl
      have g1 := BG1.out.2 1 _ rfl
      have g2 := BG1.out.2 2 _ rfl
      have g3 := BG1.out.2 3 _ rfl
      have g4 := BG1.out.2 4 _ rfl
      clear b0 b1 hb1 C
      go_wp2_with fail
      refine (D.out _).mono ?_
      rintro e w2 ⟨rfl, b2⟩
      clear g0 g1 g2 g3 g4
      have BY2 := Lib.hid (BoxF.made b2 (B := w1.heap.size + 1) (by simp))
      have BX2 := Lib.hid (BoxF.made (below_prev b2) (B := w1.heap.size) rfl)
      have bb := below_prev (below_prev b2)
      have BG2 := Lib.hid (BoxN.below BG1.out bb)
      have BU2 := Lib.hid (BoxN.below BU1.out bb)
      have HB2 := Lib.hid (HB1.out.trans (bb.mono HB1.out.size))
      have z2 : w1.heap.size + 2 ≤ w2.heap.size := by have := b2.size; simp at this; omega
      have u0 := BU2.out.2 0 _ rfl
      have u1 := BU2.out.2 1 _ rfl
      have u2 := BU2.out.2 2 _ rfl
      have u3 := BU2.out.2 3 _ rfl
      have u4 := BU2.out.2 4 _ rfl
      obtain ⟨x0, fx0⟩ := BX2.out.2 0 _ rfl
      obtain ⟨x1, fx1⟩ := BX2.out.2 1 _ rfl
      obtain ⟨x2, fx2⟩ := BX2.out.2 2 _ rfl
      obtain ⟨x3, fx3⟩ := BX2.out.2 3 _ rfl
      obtain ⟨x4, fx4⟩ := BX2.out.2 4 _ rfl
      obtain ⟨x5, fx5⟩ := BX2.out.2 5 _ rfl
      obtain ⟨x6, fx6⟩ := BX2.out.2 6 _ rfl
      obtain ⟨y0, fy0⟩ := BY2.out.2 0 _ rfl
      obtain ⟨y1, fy1⟩ := BY2.out.2 1 _ rfl
      obtain ⟨y2, fy2⟩ := BY2.out.2 2 _ rfl
      obtain ⟨y3, fy3⟩ := BY2.out.2 3 _ rfl
      obtain ⟨y4, fy4⟩ := BY2.out.2 4 _ rfl
      obtain ⟨y5, fy5⟩ := BY2.out.2 5 _ rfl
      obtain ⟨y6, fy6⟩ := BY2.out.2 6 _ rfl
      clear b2 bb BG1 BU1 HB1 D
      have BXS : Hid (BoxF ((((w2.setCell ⟨w1.heap.size, 3, none⟩ (.int .i64 1)).setCell ⟨w1.heap.size + 1, 1, none⟩ (.int .i64 1)).setCell ⟨w1.heap.size, 6, none⟩ (.int .i64 loss)).setCell ⟨w1.heap.size + 1, 6, none⟩ (.int .i64 win)) w1.heap.size X.cells) := by rw [HXv.out]; exact (BoxF.other (BoxF.set (BoxF.other (BoxF.set BX2.out 3 (.int .i64 1) (by simp)) (D := w1.heap.size + 1) 1 (.int .i64 1) (by omega)) 6 (.int .i64 loss) (by simp)) (D := w1.heap.size + 1) 6 (.int .i64 win) (by omega))
      have BYS : Hid (BoxF ((((w2.setCell ⟨w1.heap.size, 3, none⟩ (.int .i64 1)).setCell ⟨w1.heap.size + 1, 1, none⟩ (.int .i64 1)).setCell ⟨w1.heap.size, 6, none⟩ (.int .i64 loss)).setCell ⟨w1.heap.size + 1, 6, none⟩ (.int .i64 win)) (w1.heap.size + 1) Y.cells) := by rw [HYv.out]; exact (BoxF.set (BoxF.other (BoxF.set (BoxF.other BY2.out (D := w1.heap.size) 3 (.int .i64 1) (by omega)) 1 (.int .i64 1) (by simp)) (D := w1.heap.size) 6 (.int .i64 loss) (by omega)) 6 (.int .i64 win) (by simp))
      have BG : Hid (BoxN ((((w2.setCell ⟨w1.heap.size, 3, none⟩ (.int .i64 1)).setCell ⟨w1.heap.size + 1, 1, none⟩ (.int .i64 1)).setCell ⟨w1.heap.size, 6, none⟩ (.int .i64 loss)).setCell ⟨w1.heap.size + 1, 6, none⟩ (.int .i64 win)) (w.heap.size + 1) [.int .i64 (p : Int), .int .i64 (q : Int), .int .i64 hg, .int .i64 ag, .int .i64 st]) := (BoxN.elsewhere (BoxN.elsewhere (BoxN.elsewhere (BoxN.elsewhere BG2.out (D := w1.heap.size) 3 (.int .i64 1) (by omega)) (D := (w1.heap.size + 1)) 1 (.int .i64 1) (by omega)) (D := w1.heap.size) 6 (.int .i64 loss) (by omega)) (D := (w1.heap.size + 1)) 6 (.int .i64 win) (by omega))
      have hbS : Hid (Below w.heap.size w ((((w2.setCell ⟨w1.heap.size, 3, none⟩ (.int .i64 1)).setCell ⟨w1.heap.size + 1, 1, none⟩ (.int .i64 1)).setCell ⟨w1.heap.size, 6, none⟩ (.int .i64 loss)).setCell ⟨w1.heap.size + 1, 6, none⟩ (.int .i64 win))) := (Below.setCell (Below.setCell (Below.setCell (Below.setCell HB2.out (p := ⟨w1.heap.size, 3, none⟩) (by show w.heap.size ≤ w1.heap.size; omega) (.int .i64 1)) (p := ⟨(w1.heap.size + 1), 1, none⟩) (by show w.heap.size ≤ (w1.heap.size + 1); omega) (.int .i64 1)) (p := ⟨w1.heap.size, 6, none⟩) (by show w.heap.size ≤ w1.heap.size; omega) (.int .i64 loss)) (p := ⟨(w1.heap.size + 1), 6, none⟩) (by show w.heap.size ≤ (w1.heap.size + 1); omega) (.int .i64 win))
      have hown := Lib.hid (owns_below HO.out hbS.out (Nat.le_refl _))
      have hT := Lib.hid (Touch.of_below (lo := gg) (hi := gg + 1) hbS.out)
      clear BX2 BY2 BG2 BU2 HB2
      go_wp2_with fail
      generalize hwS : ((((w2.setCell ⟨w1.heap.size, 3, none⟩ (.int .i64 1)).setCell ⟨w1.heap.size + 1, 1, none⟩ (.int .i64 1)).setCell ⟨w1.heap.size, 6, none⟩ (.int .i64 loss)).setCell ⟨w1.heap.size + 1, 6, none⟩ (.int .i64 win)) = wS at *
      clear hwS zB zC x0 x1 x2 x3 x4 x5 x6 y0 y1 y2 y3 y4 y5 y6 fx0 fx1 fx2 fx3 fx4 fx5 fx6 fy0 fy1 fy2 fy3 fy4 fy5 fy6 u0 u1 u2 u3 u4
      obtain ⟨yp, hyp⟩ : ∃ y, y = r p := ⟨_, rfl⟩
      have CR : CellsAt wS gg (p * 7) (RowD.cells yp) := by rw [hyp]; exact row_at hown.out HC.out hpn
      have HYp := Lib.hid hyp
      clear hyp
      obtain ⟨F, HF⟩ : ∃ F : World → Prop, F = fun w' => BoxN w' (w.heap.size + 1) [.int .i64 (p : Int), .int .i64 (q : Int), .int .i64 hg, .int .i64 ag, .int .i64 st] ∧ BoxN w' w1.heap.size (RowD.cells X) ∧ CellsAt w' gg (p * 7) (RowD.cells yp) := ⟨_, rfl⟩
      have FE : Hid (∀ wa, F wa → BoxN wa (w.heap.size + 1) [.int .i64 (p : Int), .int .i64 (q : Int), .int .i64 hg, .int .i64 ag, .int .i64 st] ∧ BoxN wa w1.heap.size (RowD.cells X) ∧ CellsAt wa gg (p * 7) (RowD.cells yp)) := by subst HF; exact fun _ h => h
      have FI : Hid (∀ wa, BoxN wa (w.heap.size + 1) [.int .i64 (p : Int), .int .i64 (q : Int), .int .i64 hg, .int .i64 ag, .int .i64 st] → BoxN wa w1.heap.size (RowD.cells X) → CellsAt wa gg (p * 7) (RowD.cells yp) → F wa) := by subst HF; exact fun _ h1 h2 h3 => ⟨h1, h2, h3⟩
      have F0 : Hid (F wS.drew) := FI.out _ (BoxN.below BG.out (Below.refl _ _).drew) (BoxN.below (BoxF.box BXS.out) (Below.refl _ _).drew) (CR.below (Below.refl _ _).drew)
      clear HF CR
      refine Await.begin (S := Until 11 F) (by kernel_rfl) ?_ (fun hS => ?_)
      · exact Until.of F0.out
      clear F0
      have hd := (Below.refl wS.heap.size wS).drew
      have BG1 := Lib.hid (BoxN.below BG.out hd)
      have BX1 := Lib.hid (BoxN.below (BoxF.box BXS.out) hd)
      have hown1 := Lib.hid (owns_below hown.out hd (Nat.le_refl _))
      have hT1 := Lib.hid (hT.out.trans (Touch.of_below hd))
      have BO1 := Lib.hid (BoxN.below (BoxF.box BYS.out) hd)
      have hzd : wS.heap.size ≤ wS.drew.heap.size := hd.size
      clear BG hown hT hd
      generalize wS.drew = wd at *
      refine Await.pure (i := 0) (v := ?_) rfl (by kernel_rfl) (by kernel_rfl) (by kernel_rfl) (by kernel_rfl) (fun _ _ _ h => h) (Or.inl ⟨by rfl, ?_⟩) (by assumption) ?_
      rotate_left
      · (intro wa _; go_simp; try with_reducible rfl)
      simp only [Act.put, List.getElem_toArray, List.getElem_cons_zero, List.setIfInBounds_toArray, List.set_cons_zero, List.set_cons_succ]
      refine Await.pure (i := 1) (v := ?_) rfl (by kernel_rfl) (by kernel_rfl) (by kernel_rfl) (by kernel_rfl) (fun _ _ _ h => h) (Or.inl ⟨by rfl, ?_⟩) (by assumption) ?_
      rotate_left
      · (intro wa _; go_simp; try with_reducible rfl)
      simp only [Act.put, List.getElem_toArray, List.getElem_cons_zero, List.getElem_cons_succ, List.setIfInBounds_toArray, List.set_cons_zero, List.set_cons_succ]
      refine Await.takes (i := 2) [10] (v := ?_) rfl (by kernel_rfl) (by kernel_rfl) (by kernel_rfl) (by kernel_rfl) (fun _ _ _ h => h) (Or.inl ⟨by rfl, ?_⟩) (by assumption) ?_
      rotate_left
      · (intro wa hSw; obtain ⟨fg, fx, fr⟩ := FE.out wa hSw; have a0 := fg.2 0 _ rfl; have a1 := fg.2 1 _ rfl; have a2 := fg.2 2 _ rfl; have a3 := fg.2 3 _ rfl; have a4 := fg.2 4 _ rfl; have b0 := fx.2 0 _ rfl; have b1 := fx.2 1 _ rfl; have b2 := fx.2 2 _ rfl; have b3 := fx.2 3 _ rfl; have b4 := fx.2 4 _ rfl; have b5 := fx.2 5 _ rfl; have b6 := fx.2 6 _ rfl; obtain ⟨e0, e1, e2, e3, e4, e5, e6⟩ := row_cells fr; go_simp; try with_reducible rfl)
      simp only [Act.put, List.getElem_toArray, List.getElem_cons_zero, List.getElem_cons_succ, List.setIfInBounds_toArray, List.set_cons_zero, List.set_cons_succ]
      refine Await.pure (i := 3) (v := ?_) rfl (by kernel_rfl) (by kernel_rfl) (by kernel_rfl) (by kernel_rfl) (fun _ _ _ h => h) (Or.inl ⟨by rfl, ?_⟩) (by assumption) ?_
      rotate_left
      · (intro wa _; go_simp; try with_reducible rfl)
      simp only [Act.put, List.getElem_toArray, List.getElem_cons_zero, List.getElem_cons_succ, List.setIfInBounds_toArray, List.set_cons_zero, List.set_cons_succ]
      refine Await.pure (i := 4) (v := ?_) rfl (by kernel_rfl) (by kernel_rfl) (by kernel_rfl) (by kernel_rfl) (fun _ _ _ h => h) (Or.inl ⟨by rfl, ?_⟩) (by assumption) ?_
      rotate_left
      · (intro wa _; go_simp; try with_reducible rfl)
      simp only [Act.put, List.getElem_toArray, List.getElem_cons_zero, List.getElem_cons_succ, List.setIfInBounds_toArray, List.set_cons_zero, List.set_cons_succ]
      refine Await.takes (i := 5) [6, 7, 9] (v := ?_) rfl (by kernel_rfl) (by kernel_rfl) (by kernel_rfl) (by kernel_rfl) (fun _ _ _ h => h) (Or.inl ⟨by rfl, ?_⟩) (by assumption) ?_
      rotate_left
      · (intro wa hSw; obtain ⟨fg, fx, fr⟩ := FE.out wa hSw; have a0 := fg.2 0 _ rfl; have a1 := fg.2 1 _ rfl; have a2 := fg.2 2 _ rfl; have a3 := fg.2 3 _ rfl; have a4 := fg.2 4 _ rfl; have b0 := fx.2 0 _ rfl; have b1 := fx.2 1 _ rfl; have b2 := fx.2 2 _ rfl; have b3 := fx.2 3 _ rfl; have b4 := fx.2 4 _ rfl; have b5 := fx.2 5 _ rfl; have b6 := fx.2 6 _ rfl; obtain ⟨e0, e1, e2, e3, e4, e5, e6⟩ := row_cells fr; go_simp; try with_reducible rfl)
      simp only [Act.put, List.getElem_toArray, List.getElem_cons_zero, List.getElem_cons_succ, List.setIfInBounds_toArray, List.set_cons_zero, List.set_cons_succ]
      refine Await.pure (i := 6) (v := ?_) rfl (by kernel_rfl) (by kernel_rfl) (by kernel_rfl) (by kernel_rfl) (fun _ _ _ h => h) (Or.inl ⟨by rfl, ?_⟩) (by assumption) ?_
      rotate_left
      · (intro wa _; go_simp; try with_reducible rfl)
      simp only [Act.put, List.getElem_toArray, List.getElem_cons_zero, List.getElem_cons_succ, List.setIfInBounds_toArray, List.set_cons_zero, List.set_cons_succ]
      refine Await.takes (i := 7) [9] (v := ?_) rfl (by kernel_rfl) (by kernel_rfl) (by kernel_rfl) (by kernel_rfl) (fun _ _ _ h => h) (Or.inl ⟨by rfl, ?_⟩) (by assumption) ?_
      rotate_left
      · (intro wa hSw; obtain ⟨fg, fx, fr⟩ := FE.out wa hSw; have a0 := fg.2 0 _ rfl; have a1 := fg.2 1 _ rfl; have a2 := fg.2 2 _ rfl; have a3 := fg.2 3 _ rfl; have a4 := fg.2 4 _ rfl; have b0 := fx.2 0 _ rfl; have b1 := fx.2 1 _ rfl; have b2 := fx.2 2 _ rfl; have b3 := fx.2 3 _ rfl; have b4 := fx.2 4 _ rfl; have b5 := fx.2 5 _ rfl; have b6 := fx.2 6 _ rfl; obtain ⟨e0, e1, e2, e3, e4, e5, e6⟩ := row_cells fr; go_simp; try with_reducible rfl)
      simp only [Act.put, List.getElem_toArray, List.getElem_cons_zero, List.getElem_cons_succ, List.setIfInBounds_toArray, List.set_cons_zero, List.set_cons_succ]
      refine Await.takes (i := 8) [9] (v := ?_) rfl (by kernel_rfl) (by kernel_rfl) (by kernel_rfl) (by kernel_rfl) (fun _ _ _ h => h) (Or.inl ⟨by rfl, ?_⟩) (by assumption) ?_
      rotate_left
      · (intro wa hSw; obtain ⟨fg, fx, fr⟩ := FE.out wa hSw; have a0 := fg.2 0 _ rfl; have a1 := fg.2 1 _ rfl; have a2 := fg.2 2 _ rfl; have a3 := fg.2 3 _ rfl; have a4 := fg.2 4 _ rfl; have b0 := fx.2 0 _ rfl; have b1 := fx.2 1 _ rfl; have b2 := fx.2 2 _ rfl; have b3 := fx.2 3 _ rfl; have b4 := fx.2 4 _ rfl; have b5 := fx.2 5 _ rfl; have b6 := fx.2 6 _ rfl; obtain ⟨e0, e1, e2, e3, e4, e5, e6⟩ := row_cells fr; go_simp; try with_reducible rfl)
      simp only [Act.put, List.getElem_toArray, List.getElem_cons_zero, List.getElem_cons_succ, List.setIfInBounds_toArray, List.set_cons_zero, List.set_cons_succ]
      refine Await.step (i := 9) (o := _) (by kernel_rfl) rfl (fun K1 hK1' => ?_)
      go_simp
      refine (addRows_spec yp X _).mono ?_
      rintro e w9 ⟨rfl, b9⟩
      generalize hzp : addW yp X = zp
      have HZp := Lib.hid hzp
      clear hzp
      unfold RowD.val
      (try go_wp2_with fail)
      refine hK1'.out _ _ ?_ (fun hS => ?_)
      · exact Until.of (FI.out _ (BoxN.below (FE.out _ (hS (by kernel_rfl))).1 b9) (BoxN.below (FE.out _ (hS (by kernel_rfl))).2.1 b9) ((FE.out _ (hS (by kernel_rfl))).2.2.below b9))
      clear hK1' K1
      refine Await.pure (i := 10) (v := ?_) rfl (by kernel_rfl) (by kernel_rfl) (by kernel_rfl) (by kernel_rfl) (fun _ _ _ h => h) (Or.inl ⟨by rfl, ?_⟩) (by assumption) ?_
      rotate_left
      · (intro wa _; go_simp; try with_reducible rfl)
      simp only [Act.put, List.getElem_toArray, List.getElem_cons_zero, List.getElem_cons_succ, List.setIfInBounds_toArray, List.set_cons_zero, List.set_cons_succ]
      have BG2 := Lib.hid (BoxN.below BG1.out b9)
      have hown2 := Lib.hid (owns_below hown1.out b9 (Nat.le_refl _))
      have hT2 := Lib.hid (hT1.out.trans (Touch.of_below b9))
      have BX2 := Lib.hid (BoxN.below BX1.out b9)
      have BO2 := Lib.hid (BoxN.below BO1.out b9)
      clear BG1 BX1 hown1 hT1 b9 BO1
      have HC2 := Lib.hid (cells_put (y := zp) HC.out hown2.out.1 hpn)
      obtain ⟨⟨d0, e0⟩, ⟨d1, e1⟩, ⟨d2, e2⟩, ⟨d3, e3⟩, ⟨d4, e4⟩, ⟨d5, e5⟩, ⟨d6, e6⟩⟩ := row_free hown2.out HC.out hpn
      refine Await.step (i := 11) (o := _) (by kernel_rfl) rfl (fun K1 hK1' => ?_)
      go_simp
      refine hK1'.out _ _ ?_ (fun hS => ?_)
      · exact Until.over (by kernel_rfl)
      clear hK1' K1
      refine Await.done (by kernel_rfl) ?_ _
      have hown3 := Lib.hid (owns_put (y := zp) (t := p) hown2.out)
      have hT3 := Lib.hid (touch_put (y := zp) (t := p) hT2.out (Nat.le_refl gg) (Nat.lt_succ_self gg))
      have BG3 := Lib.hid (box_put (y := zp) (t := p) (gg := gg) BG2.out (by omega))
      have BO3 := Lib.hid (box_put (y := zp) (t := p) (gg := gg) BO2.out (by omega))
      clear hS FE FI d0 d1 d2 d3 d4 d5 d6 e0 e1 e2 e3 e4 e5 e6 BG2 hown2 hT2 BX2 HC BO2
      generalize ((((((w9.setCell ⟨gg, p * 7, none⟩ (Value.int .i64 zp.played)).setCell ⟨gg, p * 7 + 1, none⟩ (Value.int .i64 zp.wins)).setCell ⟨gg, p * 7 + 2, none⟩ (Value.int .i64 zp.draws)).setCell ⟨gg, p * 7 + 3, none⟩ (Value.int .i64 zp.losses)).setCell ⟨gg, p * 7 + 4, none⟩ (Value.int .i64 zp.scored)).setCell ⟨gg, p * 7 + 5, none⟩ (Value.int .i64 zp.against)).setCell ⟨gg, p * 7 + 6, none⟩ (Value.int .i64 zp.points) = w4 at *
      clear hzd
      have hown := hown3
      have hT := hT3
      have BG := BG3
      have HC := HC2
      clear hown3 hT3 BG3 HC2
      have BO := BO3
      clear BO3
      clear BXS BYS hbS
      go_wp2_with fail
      obtain ⟨yq, hyq⟩ : ∃ y, y = (putR r p zp) q := ⟨_, rfl⟩
      have CR : CellsAt w4 gg (q * 7) (RowD.cells yq) := by rw [hyq]; exact row_at hown.out HC.out hqn
      have HYq := Lib.hid hyq
      clear hyq
      obtain ⟨F, HF⟩ : ∃ F : World → Prop, F = fun w' => BoxN w' (w.heap.size + 1) [.int .i64 (p : Int), .int .i64 (q : Int), .int .i64 hg, .int .i64 ag, .int .i64 st] ∧ BoxN w' (w1.heap.size + 1) (RowD.cells Y) ∧ CellsAt w' gg (q * 7) (RowD.cells yq) := ⟨_, rfl⟩
      have FE : Hid (∀ wa, F wa → BoxN wa (w.heap.size + 1) [.int .i64 (p : Int), .int .i64 (q : Int), .int .i64 hg, .int .i64 ag, .int .i64 st] ∧ BoxN wa (w1.heap.size + 1) (RowD.cells Y) ∧ CellsAt wa gg (q * 7) (RowD.cells yq)) := by subst HF; exact fun _ h => h
      have FI : Hid (∀ wa, BoxN wa (w.heap.size + 1) [.int .i64 (p : Int), .int .i64 (q : Int), .int .i64 hg, .int .i64 ag, .int .i64 st] → BoxN wa (w1.heap.size + 1) (RowD.cells Y) → CellsAt wa gg (q * 7) (RowD.cells yq) → F wa) := by subst HF; exact fun _ h1 h2 h3 => ⟨h1, h2, h3⟩
      have F0 : Hid (F w4.drew) := FI.out _ (BoxN.below BG.out (Below.refl _ _).drew) (BoxN.below BO.out (Below.refl _ _).drew) (CR.below (Below.refl _ _).drew)
      clear HF CR
      refine Await.begin (S := Until 11 F) (by kernel_rfl) ?_ (fun hS => ?_)
      · exact Until.of F0.out
      clear F0
      have hd := (Below.refl w4.heap.size w4).drew
      have BG1 := Lib.hid (BoxN.below BG.out hd)
      have BX1 := Lib.hid (BoxN.below BO.out hd)
      have hown1 := Lib.hid (owns_below hown.out hd (Nat.le_refl _))
      have hT1 := Lib.hid (hT.out.trans (Touch.of_below hd))
      have hzd : w4.heap.size ≤ w4.drew.heap.size := hd.size
      clear BG hown hT hd
      generalize w4.drew = wd at *
      refine Await.pure (i := 0) (v := ?_) rfl (by kernel_rfl) (by kernel_rfl) (by kernel_rfl) (by kernel_rfl) (fun _ _ _ h => h) (Or.inl ⟨by rfl, ?_⟩) (by assumption) ?_
      rotate_left
      · (intro wa _; go_simp; try with_reducible rfl)
      simp only [Act.put, List.getElem_toArray, List.getElem_cons_zero, List.setIfInBounds_toArray, List.set_cons_zero, List.set_cons_succ]
      refine Await.pure (i := 1) (v := ?_) rfl (by kernel_rfl) (by kernel_rfl) (by kernel_rfl) (by kernel_rfl) (fun _ _ _ h => h) (Or.inl ⟨by rfl, ?_⟩) (by assumption) ?_
      rotate_left
      · (intro wa _; go_simp; try with_reducible rfl)
      simp only [Act.put, List.getElem_toArray, List.getElem_cons_zero, List.getElem_cons_succ, List.setIfInBounds_toArray, List.set_cons_zero, List.set_cons_succ]
      refine Await.takes (i := 2) [10] (v := ?_) rfl (by kernel_rfl) (by kernel_rfl) (by kernel_rfl) (by kernel_rfl) (fun _ _ _ h => h) (Or.inl ⟨by rfl, ?_⟩) (by assumption) ?_
      rotate_left
      · (intro wa hSw; obtain ⟨fg, fx, fr⟩ := FE.out wa hSw; have a0 := fg.2 0 _ rfl; have a1 := fg.2 1 _ rfl; have a2 := fg.2 2 _ rfl; have a3 := fg.2 3 _ rfl; have a4 := fg.2 4 _ rfl; have b0 := fx.2 0 _ rfl; have b1 := fx.2 1 _ rfl; have b2 := fx.2 2 _ rfl; have b3 := fx.2 3 _ rfl; have b4 := fx.2 4 _ rfl; have b5 := fx.2 5 _ rfl; have b6 := fx.2 6 _ rfl; obtain ⟨e0, e1, e2, e3, e4, e5, e6⟩ := row_cells fr; go_simp; try with_reducible rfl)
      simp only [Act.put, List.getElem_toArray, List.getElem_cons_zero, List.getElem_cons_succ, List.setIfInBounds_toArray, List.set_cons_zero, List.set_cons_succ]
      refine Await.pure (i := 3) (v := ?_) rfl (by kernel_rfl) (by kernel_rfl) (by kernel_rfl) (by kernel_rfl) (fun _ _ _ h => h) (Or.inl ⟨by rfl, ?_⟩) (by assumption) ?_
      rotate_left
      · (intro wa _; go_simp; try with_reducible rfl)
      simp only [Act.put, List.getElem_toArray, List.getElem_cons_zero, List.getElem_cons_succ, List.setIfInBounds_toArray, List.set_cons_zero, List.set_cons_succ]
      refine Await.pure (i := 4) (v := ?_) rfl (by kernel_rfl) (by kernel_rfl) (by kernel_rfl) (by kernel_rfl) (fun _ _ _ h => h) (Or.inl ⟨by rfl, ?_⟩) (by assumption) ?_
      rotate_left
      · (intro wa _; go_simp; try with_reducible rfl)
      simp only [Act.put, List.getElem_toArray, List.getElem_cons_zero, List.getElem_cons_succ, List.setIfInBounds_toArray, List.set_cons_zero, List.set_cons_succ]
      refine Await.takes (i := 5) [6, 7, 9] (v := ?_) rfl (by kernel_rfl) (by kernel_rfl) (by kernel_rfl) (by kernel_rfl) (fun _ _ _ h => h) (Or.inl ⟨by rfl, ?_⟩) (by assumption) ?_
      rotate_left
      · (intro wa hSw; obtain ⟨fg, fx, fr⟩ := FE.out wa hSw; have a0 := fg.2 0 _ rfl; have a1 := fg.2 1 _ rfl; have a2 := fg.2 2 _ rfl; have a3 := fg.2 3 _ rfl; have a4 := fg.2 4 _ rfl; have b0 := fx.2 0 _ rfl; have b1 := fx.2 1 _ rfl; have b2 := fx.2 2 _ rfl; have b3 := fx.2 3 _ rfl; have b4 := fx.2 4 _ rfl; have b5 := fx.2 5 _ rfl; have b6 := fx.2 6 _ rfl; obtain ⟨e0, e1, e2, e3, e4, e5, e6⟩ := row_cells fr; go_simp; try with_reducible rfl)
      simp only [Act.put, List.getElem_toArray, List.getElem_cons_zero, List.getElem_cons_succ, List.setIfInBounds_toArray, List.set_cons_zero, List.set_cons_succ]
      refine Await.pure (i := 6) (v := ?_) rfl (by kernel_rfl) (by kernel_rfl) (by kernel_rfl) (by kernel_rfl) (fun _ _ _ h => h) (Or.inl ⟨by rfl, ?_⟩) (by assumption) ?_
      rotate_left
      · (intro wa _; go_simp; try with_reducible rfl)
      simp only [Act.put, List.getElem_toArray, List.getElem_cons_zero, List.getElem_cons_succ, List.setIfInBounds_toArray, List.set_cons_zero, List.set_cons_succ]
      refine Await.takes (i := 7) [9] (v := ?_) rfl (by kernel_rfl) (by kernel_rfl) (by kernel_rfl) (by kernel_rfl) (fun _ _ _ h => h) (Or.inl ⟨by rfl, ?_⟩) (by assumption) ?_
      rotate_left
      · (intro wa hSw; obtain ⟨fg, fx, fr⟩ := FE.out wa hSw; have a0 := fg.2 0 _ rfl; have a1 := fg.2 1 _ rfl; have a2 := fg.2 2 _ rfl; have a3 := fg.2 3 _ rfl; have a4 := fg.2 4 _ rfl; have b0 := fx.2 0 _ rfl; have b1 := fx.2 1 _ rfl; have b2 := fx.2 2 _ rfl; have b3 := fx.2 3 _ rfl; have b4 := fx.2 4 _ rfl; have b5 := fx.2 5 _ rfl; have b6 := fx.2 6 _ rfl; obtain ⟨e0, e1, e2, e3, e4, e5, e6⟩ := row_cells fr; go_simp; try with_reducible rfl)
      simp only [Act.put, List.getElem_toArray, List.getElem_cons_zero, List.getElem_cons_succ, List.setIfInBounds_toArray, List.set_cons_zero, List.set_cons_succ]
      refine Await.takes (i := 8) [9] (v := ?_) rfl (by kernel_rfl) (by kernel_rfl) (by kernel_rfl) (by kernel_rfl) (fun _ _ _ h => h) (Or.inl ⟨by rfl, ?_⟩) (by assumption) ?_
      rotate_left
      · (intro wa hSw; obtain ⟨fg, fx, fr⟩ := FE.out wa hSw; have a0 := fg.2 0 _ rfl; have a1 := fg.2 1 _ rfl; have a2 := fg.2 2 _ rfl; have a3 := fg.2 3 _ rfl; have a4 := fg.2 4 _ rfl; have b0 := fx.2 0 _ rfl; have b1 := fx.2 1 _ rfl; have b2 := fx.2 2 _ rfl; have b3 := fx.2 3 _ rfl; have b4 := fx.2 4 _ rfl; have b5 := fx.2 5 _ rfl; have b6 := fx.2 6 _ rfl; obtain ⟨e0, e1, e2, e3, e4, e5, e6⟩ := row_cells fr; go_simp; try with_reducible rfl)
      simp only [Act.put, List.getElem_toArray, List.getElem_cons_zero, List.getElem_cons_succ, List.setIfInBounds_toArray, List.set_cons_zero, List.set_cons_succ]
      refine Await.step (i := 9) (o := _) (by kernel_rfl) rfl (fun K1 hK1' => ?_)
      go_simp
      refine (addRows_spec yq Y _).mono ?_
      rintro e w9 ⟨rfl, b9⟩
      generalize hzq : addW yq Y = zq
      have HZq := Lib.hid hzq
      clear hzq
      unfold RowD.val
      (try go_wp2_with fail)
      refine hK1'.out _ _ ?_ (fun hS => ?_)
      · exact Until.of (FI.out _ (BoxN.below (FE.out _ (hS (by kernel_rfl))).1 b9) (BoxN.below (FE.out _ (hS (by kernel_rfl))).2.1 b9) ((FE.out _ (hS (by kernel_rfl))).2.2.below b9))
      clear hK1' K1
      refine Await.pure (i := 10) (v := ?_) rfl (by kernel_rfl) (by kernel_rfl) (by kernel_rfl) (by kernel_rfl) (fun _ _ _ h => h) (Or.inl ⟨by rfl, ?_⟩) (by assumption) ?_
      rotate_left
      · (intro wa _; go_simp; try with_reducible rfl)
      simp only [Act.put, List.getElem_toArray, List.getElem_cons_zero, List.getElem_cons_succ, List.setIfInBounds_toArray, List.set_cons_zero, List.set_cons_succ]
      have BG2 := Lib.hid (BoxN.below BG1.out b9)
      have hown2 := Lib.hid (owns_below hown1.out b9 (Nat.le_refl _))
      have hT2 := Lib.hid (hT1.out.trans (Touch.of_below b9))
      have BX2 := Lib.hid (BoxN.below BX1.out b9)
      clear BG1 BX1 hown1 hT1 b9
      have HC2 := Lib.hid (cells_put (y := zq) HC.out hown2.out.1 hqn)
      obtain ⟨⟨d0, e0⟩, ⟨d1, e1⟩, ⟨d2, e2⟩, ⟨d3, e3⟩, ⟨d4, e4⟩, ⟨d5, e5⟩, ⟨d6, e6⟩⟩ := row_free hown2.out HC.out hqn
      refine Await.step (i := 11) (o := _) (by kernel_rfl) rfl (fun K1 hK1' => ?_)
      go_simp
      refine hK1'.out _ _ ?_ (fun hS => ?_)
      · exact Until.over (by kernel_rfl)
      clear hK1' K1
      refine Await.done (by kernel_rfl) ?_ _
      have hown3 := Lib.hid (owns_put (y := zq) (t := q) hown2.out)
      have hT3 := Lib.hid (touch_put (y := zq) (t := q) hT2.out (Nat.le_refl gg) (Nat.lt_succ_self gg))
      have BG3 := Lib.hid (box_put (y := zq) (t := q) (gg := gg) BG2.out (by omega))
      clear hS FE FI d0 d1 d2 d3 d4 d5 d6 e0 e1 e2 e3 e4 e5 e6 BG2 hown2 hT2 BX2 HC
      generalize ((((((w9.setCell ⟨gg, q * 7, none⟩ (Value.int .i64 zq.played)).setCell ⟨gg, q * 7 + 1, none⟩ (Value.int .i64 zq.wins)).setCell ⟨gg, q * 7 + 2, none⟩ (Value.int .i64 zq.draws)).setCell ⟨gg, q * 7 + 3, none⟩ (Value.int .i64 zq.losses)).setCell ⟨gg, q * 7 + 4, none⟩ (Value.int .i64 zq.scored)).setCell ⟨gg, q * 7 + 5, none⟩ (Value.int .i64 zq.against)).setCell ⟨gg, q * 7 + 6, none⟩ (Value.int .i64 zq.points) = w5 at *
      clear hzd
      have hown := hown3
      have hT := hT3
      have BG := BG3
      have HC := HC2
      clear hown3 hT3 BG3 HC2
      go_wp2
      go_end0
      exact ⟨rfl, _, hown.out, by rw [HA.out, ← HYp.out, HZp.out, ← HYq.out, HZq.out]; exact HC.out, hT.out⟩
end Go.Proofs.YteciobkjfmddcaaGreat
