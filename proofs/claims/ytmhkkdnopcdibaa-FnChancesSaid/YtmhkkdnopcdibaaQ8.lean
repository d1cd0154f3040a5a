/-
  Packed: TypeRow, TypeGame, Games, Games2, Season, Tables, Tables2.
-/
import Derived.Deep.RegionHeld3
import Derived.Test.YtmhkkdnopcdibaaQ2
import Derived.Test.YtmhkkdnopcdibaaQ4
import Derived.Test.YtmhkkdnopcdibaaQ5
set_option linter.unusedVariables false
namespace Go.Proofs.Ytmhkkdnopcdibaa
open Go.RowKit

structure RowD where
  played : Int
  wins : Int
  draws : Int
  losses : Int
  scored : Int
  against : Int
  points : Int
instance : Inhabited RowD := ⟨⟨0, 0, 0, 0, 0, 0, 0⟩⟩
def RowD.cells (t : RowD) : List Value := [.int .i64 t.played, .int .i64 t.wins, .int .i64 t.draws, .int .i64 t.losses, .int .i64 t.scored, .int .i64 t.against, .int .i64 t.points]
def RowD.val (t : RowD) : Value := .agg #[.int .i64 t.played, .int .i64 t.wins, .int .i64 t.draws, .int .i64 t.losses, .int .i64 t.scored, .int .i64 t.against, .int .i64 t.points]
def RowD.fit (t : RowD) : Prop := IntFit t.played ∧ IntFit t.wins ∧ IntFit t.draws ∧ IntFit t.losses ∧ IntFit t.scored ∧ IntFit t.against ∧ IntFit t.points
theorem RowD.len (t : RowD) : t.cells.length = 7 := rfl
def RowRow (w : World) (v : Value) (n : Nat) (g : Nat → RowD) : Prop := RecRow 7 w v n fun i => (g i).cells
theorem RowRow.below {w w' : World} {B : Nat} {v : Value} {n : Nat} {g : Nat → RowD} (h : RowRow w v n g) (hb : Below B w w') (hB : w.heap.size ≤ B) : RowRow w' v n g := RecRow.below h hb hB
theorem RowRow.touch {lo hi lo' hi' : Nat} {w w' : World} {v : Value} {n : Nat} {g : Nat → RowD} (h : RowRow w v n g) (t : Touch lo hi w w') (hv : 0 < n → InW lo' hi' v) (ho : hi' ≤ lo ∨ hi ≤ lo') : RowRow w' v n g := RecRow.touch h t hv ho
theorem RowRow.form {w : World} {v : Value} {n : Nat} {g : Nat → RowD} (h : RowRow w v n g) : ∃ a cap, v = .slice a n cap ∧ n ≤ 9223372036854775807 ∧ (0 < n → ∃ b off, a = some ⟨b, off, none⟩ ∧ n ≤ cap ∧ ∀ i, i < n → CellsAt w b (off + i * 7) (g i).cells) := RecRow.form h
theorem InW.rowRow {hi : Nat} {v : Value} {w : World} {n : Nat} {g : Nat → RowD} (h : RowRow w v n g) (h0 : 0 < n) (hs : w.heap.size ≤ hi) : InW 0 hi v := RecRow.inw h h0 hs
theorem RowRow.of_owns {w : World} {base : Nat} {e : TypeId} {v : Value} {n : Nat} {xs : List Value} {g : Nat → RowD} (h : w.ownsRow base e 7 v n xs) (hn : n ≤ 9223372036854775807) (hg : RecCells 7 n xs fun i => (g i).cells) : RowRow w v n g := RecRow.of_owns h hn hg fun _ _ => Nat.le_refl _
def rowMk (k : Int) (i : Nat) : RowD := ⟨k + 7 * (i : Int), k + 7 * (i : Int) + 1, k + 7 * (i : Int) + 1 + 1, k + 7 * (i : Int) + 1 + 1 + 1, k + 7 * (i : Int) + 1 + 1 + 1 + 1, k + 7 * (i : Int) + 1 + 1 + 1 + 1 + 1, k + 7 * (i : Int) + 1 + 1 + 1 + 1 + 1 + 1⟩
theorem tgrownRow {a b c : World} {row : Option Nat} (h : a.grownBy b row) (k : b.grownBy c row) : a.grownBy c row :=
  ⟨k.os.trans h.os, k.tape.trans h.tape, k.output.trans h.output, Nat.le_trans h.size k.size, fun i hi hne => (k.block i (Nat.lt_of_lt_of_le hi h.size) hne).trans (h.block i hi hne)⟩
section
open Go.ChangeShapes Go.WideShapes
variable {H : Type} {enc : TypeId × Value → H} {P : Program} {w : World} {base : Nat} {spare : Nat → Bool} {held : Bool}
theorem open_rows {t e : TypeId} {f0 f1 f2 f3 f4 f5 f6 : Field} {v : Value} (ht : P.underlying t = some (.slice e)) (he : P.underlying e = some (.struct #[f0, f1, f2, f3, f4, f5, f6]))
    (ce : P.cellsOf e = 7) (o0 : f0.offset = 0) (c0 : P.cellsOf f0.type = 1) (u0 : P.underlying f0.type = some (.int .i64)) (o1 : f1.offset = 1) (c1 : P.cellsOf f1.type = 1) (u1 : P.underlying f1.type = some (.int .i64)) (o2 : f2.offset = 2) (c2 : P.cellsOf f2.type = 1) (u2 : P.underlying f2.type = some (.int .i64)) (o3 : f3.offset = 3) (c3 : P.cellsOf f3.type = 1) (u3 : P.underlying f3.type = some (.int .i64)) (o4 : f4.offset = 4) (c4 : P.cellsOf f4.type = 1) (u4 : P.underlying f4.type = some (.int .i64)) (o5 : f5.offset = 5) (c5 : P.cellsOf f5.type = 1) (u5 : P.underlying f5.type = some (.int .i64)) (o6 : f6.offset = 6) (c6 : P.cellsOf f6.type = 1) (u6 : P.underlying f6.type = some (.int .i64))
    (h : ∃ (fuel : Nat) (x : DataW H × List MemPlace), DataW.trod enc P w base spare held fuel t [v] = some x) : ∃ (n : Nat) (g : Nat → RowD), RowRow w v n g ∧ (∀ i, (g i).fit) ∧ n ≤ 9223372036854775807 := by
  obtain ⟨fuel, x, h⟩ := h
  have hz : (default : RowD).fit := by simp [RowD.fit, IntFit, default]
  rcases Go.Deep.open_slice ht h with ⟨h0, _⟩ | ⟨a, len, cap, m, q, D, Pl, h0, hb, hl, hm, hmm, rfl, hx⟩
  · simp only [List.cons.injEq, and_true] at h0
    subst h0
    exact ⟨0, fun _ => default, .inl ⟨_, _, rfl, rfl⟩, fun _ => hz, by omega⟩
  simp only [List.cons.injEq, and_true] at h0
  subst h0
  have hlm : len ≤ m := by rw [hmm]; split <;> omega
  have each : ∀ i, i < len → ∃ q : RowD, (∀ j u, q.cells[j]? = some u → w.cell? ((a.add (i * 7)).add j) = some u) ∧ q.fit := by
    intro i hi
    obtain ⟨cs', h1, h2⟩ := hx i (by omega)
    rw [ce] at h1
    obtain ⟨_, hlen, hcell⟩ := World.cells?_some h1
    obtain ⟨xs, kk, hk, hxy, _, hxl, hf⟩ := DataW.trod_struct he h2
    match xs, hxl, cs', hlen with
    | [y0, y1, y2, y3, y4, y5, y6], _, [v0, v1, v2, v3, v4, v5, v6], _ =>
      have g0 := hf 0 f0 rfl
      simp [o0, c0] at g0
      obtain ⟨z0, e0, _, k0⟩ := DataW.trod_int u0 g0
      simp only [List.cons.injEq, and_true] at e0
      subst e0
      have g1 := hf 1 f1 rfl
      simp [o1, c1] at g1
      obtain ⟨z1, e1, _, k1⟩ := DataW.trod_int u1 g1
      simp only [List.cons.injEq, and_true] at e1
      subst e1
      have g2 := hf 2 f2 rfl
      simp [o2, c2] at g2
      obtain ⟨z2, e2, _, k2⟩ := DataW.trod_int u2 g2
      simp only [List.cons.injEq, and_true] at e2
      subst e2
      have g3 := hf 3 f3 rfl
      simp [o3, c3] at g3
      obtain ⟨z3, e3, _, k3⟩ := DataW.trod_int u3 g3
      simp only [List.cons.injEq, and_true] at e3
      subst e3
      have g4 := hf 4 f4 rfl
      simp [o4, c4] at g4
      obtain ⟨z4, e4, _, k4⟩ := DataW.trod_int u4 g4
      simp only [List.cons.injEq, and_true] at e4
      subst e4
      have g5 := hf 5 f5 rfl
      simp [o5, c5] at g5
      obtain ⟨z5, e5, _, k5⟩ := DataW.trod_int u5 g5
      simp only [List.cons.injEq, and_true] at e5
      subst e5
      have g6 := hf 6 f6 rfl
      simp [o6, c6] at g6
      obtain ⟨z6, e6, _, k6⟩ := DataW.trod_int u6 g6
      simp only [List.cons.injEq, and_true] at e6
      subst e6
      refine ⟨⟨z0, z1, z2, z3, z4, z5, z6⟩, fun j u hu => ?_, ⟨intFit_of k0, intFit_of k1, intFit_of k2, intFit_of k3, intFit_of k4, intFit_of k5, intFit_of k6⟩⟩
      have hj : j < 7 := (List.getElem?_eq_some_iff.1 hu).1
      rw [hcell j hj]
      exact hu
  obtain ⟨g, hg⟩ := Go.Deep.choose_lt each
  have hfit : ∀ i, (if i < len then g i else default : RowD).fit := fun i => by
    by_cases hi : i < len
    · simpa [hi] using (hg i hi).2
    · simpa [hi] using hz
  unfold maxLen at hm
  refine ⟨len, fun i => if i < len then g i else default, ?_, hfit, by omega⟩
  by_cases h0 : len = 0
  · subst h0; exact .inl ⟨_, _, rfl, rfl⟩
  · have hc0 := (hg 0 (by omega)).1 0 _ rfl
    obtain ⟨b, off, spot⟩ := a
    have hspot : spot = none := by simpa [Addr.add] using World.cell?_spot hc0
    subst hspot
    have hadd : ∀ j, (⟨b, off, none⟩ : Addr).add j = ⟨b, off + j, none⟩ := fun j => by unfold Addr.add; split <;> simp_all
    have hadd2 : ∀ o j, (⟨b, o, none⟩ : Addr).add j = ⟨b, o + j, none⟩ := fun o j => by unfold Addr.add; split <;> simp_all
    simp only [hadd, hadd2] at hc0
    refine .inr ⟨b, off, cap, rfl, by omega, by omega, fun i hi => ⟨World.block_lt_of_cell? w _ hc0, fun j u hu => ?_⟩, hl⟩
    have := (hg i hi).1
    simp only [hadd, hadd2] at this
    simp only [hi, if_true] at hu
    exact this j u hu
end
section
open Go.ChangeShapes Go.WideShapes
variable {H : Type} {enc : TypeId × Value → H} {P : Program} {w : World} {base : Nat} {spare : Nat → Bool} {held : Bool}
theorem open_row {r : Reach} {b0 : Nat} {e : TypeId} {f0 f1 f2 f3 f4 f5 f6 : Field} {v : Value} {d : DataW H} {pl : List MemPlace} (he : P.underlying e = some (.struct #[f0, f1, f2, f3, f4, f5, f6]))
    (ce : P.cellsOf e = 7) (o0 : f0.offset = 0) (c0 : P.cellsOf f0.type = 1) (u0 : P.underlying f0.type = some (.int .i64)) (o1 : f1.offset = 1) (c1 : P.cellsOf f1.type = 1) (u1 : P.underlying f1.type = some (.int .i64)) (o2 : f2.offset = 2) (c2 : P.cellsOf f2.type = 1) (u2 : P.underlying f2.type = some (.int .i64)) (o3 : f3.offset = 3) (c3 : P.cellsOf f3.type = 1) (u3 : P.underlying f3.type = some (.int .i64)) (o4 : f4.offset = 4) (c4 : P.cellsOf f4.type = 1) (u4 : P.underlying f4.type = some (.int .i64)) (o5 : f5.offset = 5) (c5 : P.cellsOf f5.type = 1) (u5 : P.underlying f5.type = some (.int .i64)) (o6 : f6.offset = 6) (c6 : P.cellsOf f6.type = 1) (u6 : P.underlying f6.type = some (.int .i64))
    (hv : Value.okWide P w r b0 e v) (h : DataW.Trod enc P w base spare held e v d pl) : ∃ q : RowD, v = q.val ∧ q.fit := by
  obtain ⟨cs, rfl, hsz⟩ := okWide_struct he hv
  obtain ⟨l⟩ := cs
  obtain ⟨fuel, h⟩ := h
  obtain ⟨xs, kk, hk, hxy, _, hxl, hf⟩ := DataW.trod_struct he h
  match xs, hxl, l, hsz.trans ce with
  | [y0, y1, y2, y3, y4, y5, y6], _, [v0, v1, v2, v3, v4, v5, v6], _ =>
      have g0 := hf 0 f0 rfl
      simp [Value.cells, o0, c0] at g0
      obtain ⟨z0, e0, _, k0⟩ := DataW.trod_int u0 g0
      simp only [List.cons.injEq, and_true] at e0
      subst e0
      have g1 := hf 1 f1 rfl
      simp [Value.cells, o1, c1] at g1
      obtain ⟨z1, e1, _, k1⟩ := DataW.trod_int u1 g1
      simp only [List.cons.injEq, and_true] at e1
      subst e1
      have g2 := hf 2 f2 rfl
      simp [Value.cells, o2, c2] at g2
      obtain ⟨z2, e2, _, k2⟩ := DataW.trod_int u2 g2
      simp only [List.cons.injEq, and_true] at e2
      subst e2
      have g3 := hf 3 f3 rfl
      simp [Value.cells, o3, c3] at g3
      obtain ⟨z3, e3, _, k3⟩ := DataW.trod_int u3 g3
      simp only [List.cons.injEq, and_true] at e3
      subst e3
      have g4 := hf 4 f4 rfl
      simp [Value.cells, o4, c4] at g4
      obtain ⟨z4, e4, _, k4⟩ := DataW.trod_int u4 g4
      simp only [List.cons.injEq, and_true] at e4
      subst e4
      have g5 := hf 5 f5 rfl
      simp [Value.cells, o5, c5] at g5
      obtain ⟨z5, e5, _, k5⟩ := DataW.trod_int u5 g5
      simp only [List.cons.injEq, and_true] at e5
      subst e5
      have g6 := hf 6 f6 rfl
      simp [Value.cells, o6, c6] at g6
      obtain ⟨z6, e6, _, k6⟩ := DataW.trod_int u6 g6
      simp only [List.cons.injEq, and_true] at e6
      subst e6
      exact ⟨⟨z0, z1, z2, z3, z4, z5, z6⟩, rfl, ⟨intFit_of k0, intFit_of k1, intFit_of k2, intFit_of k3, intFit_of k4, intFit_of k5, intFit_of k6⟩⟩
end
end Go.Proofs.Ytmhkkdnopcdibaa
set_option linter.unusedVariables false
namespace Go.Proofs.Ytmhkkdnopcdibaa
open Go.RowKit

structure GameD where
  home : Int
  away : Int
  hg : Int
  ag : Int
  st : Int
instance : Inhabited GameD := ⟨⟨0, 0, 0, 0, 0⟩⟩
def GameD.cells (t : GameD) : List Value := [.int .i64 t.home, .int .i64 t.away, .int .i64 t.hg, .int .i64 t.ag, .int .i64 t.st]
def GameD.val (t : GameD) : Value := .agg #[.int .i64 t.home, .int .i64 t.away, .int .i64 t.hg, .int .i64 t.ag, .int .i64 t.st]
def GameD.fit (t : GameD) : Prop := IntFit t.home ∧ IntFit t.away ∧ IntFit t.hg ∧ IntFit t.ag ∧ IntFit t.st
theorem GameD.len (t : GameD) : t.cells.length = 5 := rfl
def GameRow (w : World) (v : Value) (n : Nat) (g : Nat → GameD) : Prop := RecRow 5 w v n fun i => (g i).cells
theorem GameRow.below {w w' : World} {B : Nat} {v : Value} {n : Nat} {g : Nat → GameD} (h : GameRow w v n g) (hb : Below B w w') (hB : w.heap.size ≤ B) : GameRow w' v n g := RecRow.below h hb hB
theorem GameRow.touch {lo hi lo' hi' : Nat} {w w' : World} {v : Value} {n : Nat} {g : Nat → GameD} (h : GameRow w v n g) (t : Touch lo hi w w') (hv : 0 < n → InW lo' hi' v) (ho : hi' ≤ lo ∨ hi ≤ lo') : GameRow w' v n g := RecRow.touch h t hv ho
theorem GameRow.form {w : World} {v : Value} {n : Nat} {g : Nat → GameD} (h : GameRow w v n g) : ∃ a cap, v = .slice a n cap ∧ n ≤ 9223372036854775807 ∧ (0 < n → ∃ b off, a = some ⟨b, off, none⟩ ∧ n ≤ cap ∧ ∀ i, i < n → CellsAt w b (off + i * 5) (g i).cells) := RecRow.form h
theorem InW.gameRow {hi : Nat} {v : Value} {w : World} {n : Nat} {g : Nat → GameD} (h : GameRow w v n g) (h0 : 0 < n) (hs : w.heap.size ≤ hi) : InW 0 hi v := RecRow.inw h h0 hs
theorem GameRow.of_owns {w : World} {base : Nat} {e : TypeId} {v : Value} {n : Nat} {xs : List Value} {g : Nat → GameD} (h : w.ownsRow base e 5 v n xs) (hn : n ≤ 9223372036854775807) (hg : RecCells 5 n xs fun i => (g i).cells) : GameRow w v n g := RecRow.of_owns h hn hg fun _ _ => Nat.le_refl _
theorem Try.infoGame : (Try.prog.info? 187).map (fun i => (i.zero, i.size, i.bytes)) = some (some (.agg #[.int .i64 0, .int .i64 0, .int .i64 0, .int .i64 0, .int .i64 0]), 5, 40) := by kernel_rfl
def gameMk (k : Int) (i : Nat) : GameD := ⟨k + 5 * (i : Int), k + 5 * (i : Int) + 1, k + 5 * (i : Int) + 1 + 1, k + 5 * (i : Int) + 1 + 1 + 1, k + 5 * (i : Int) + 1 + 1 + 1 + 1⟩
theorem tgrownGame {a b c : World} {row : Option Nat} (h : a.grownBy b row) (k : b.grownBy c row) : a.grownBy c row :=
  ⟨k.os.trans h.os, k.tape.trans h.tape, k.output.trans h.output, Nat.le_trans h.size k.size, fun i hi hne => (k.block i (Nat.lt_of_lt_of_le hi h.size) hne).trans (h.block i hi hne)⟩
section
open Go.ChangeShapes Go.WideShapes
variable {H : Type} {enc : TypeId × Value → H} {P : Program} {w : World} {base : Nat} {spare : Nat → Bool} {held : Bool}
theorem open_games {t e : TypeId} {f0 f1 f2 f3 f4 : Field} {v : Value} (ht : P.underlying t = some (.slice e)) (he : P.underlying e = some (.struct #[f0, f1, f2, f3, f4]))
    (ce : P.cellsOf e = 5) (o0 : f0.offset = 0) (c0 : P.cellsOf f0.type = 1) (u0 : P.underlying f0.type = some (.int .i64)) (o1 : f1.offset = 1) (c1 : P.cellsOf f1.type = 1) (u1 : P.underlying f1.type = some (.int .i64)) (o2 : f2.offset = 2) (c2 : P.cellsOf f2.type = 1) (u2 : P.underlying f2.type = some (.int .i64)) (o3 : f3.offset = 3) (c3 : P.cellsOf f3.type = 1) (u3 : P.underlying f3.type = some (.int .i64)) (o4 : f4.offset = 4) (c4 : P.cellsOf f4.type = 1) (u4 : P.underlying f4.type = some (.int .i64))
    (h : ∃ (fuel : Nat) (x : DataW H × List MemPlace), DataW.trod enc P w base spare held fuel t [v] = some x) : ∃ (n : Nat) (g : Nat → GameD), GameRow w v n g ∧ (∀ i, (g i).fit) ∧ n ≤ 9223372036854775807 := by
  obtain ⟨fuel, x, h⟩ := h
  have hz : (default : GameD).fit := by simp [GameD.fit, IntFit, default]
  rcases Go.Deep.open_slice ht h with ⟨h0, _⟩ | ⟨a, len, cap, m, q, D, Pl, h0, hb, hl, hm, hmm, rfl, hx⟩
  · simp only [List.cons.injEq, and_true] at h0
    subst h0
    exact ⟨0, fun _ => default, .inl ⟨_, _, rfl, rfl⟩, fun _ => hz, by omega⟩
  simp only [List.cons.injEq, and_true] at h0
  subst h0
  have hlm : len ≤ m := by rw [hmm]; split <;> omega
  have each : ∀ i, i < len → ∃ q : GameD, (∀ j u, q.cells[j]? = some u → w.cell? ((a.add (i * 5)).add j) = some u) ∧ q.fit := by
    intro i hi
    obtain ⟨cs', h1, h2⟩ := hx i (by omega)
    rw [ce] at h1
    obtain ⟨_, hlen, hcell⟩ := World.cells?_some h1
    obtain ⟨xs, kk, hk, hxy, _, hxl, hf⟩ := DataW.trod_struct he h2
    match xs, hxl, cs', hlen with
    | [y0, y1, y2, y3, y4], _, [v0, v1, v2, v3, v4], _ =>
      have g0 := hf 0 f0 rfl
      simp [o0, c0] at g0
      obtain ⟨z0, e0, _, k0⟩ := DataW.trod_int u0 g0
      simp only [List.cons.injEq, and_true] at e0
      subst e0
      have g1 := hf 1 f1 rfl
      simp [o1, c1] at g1
      obtain ⟨z1, e1, _, k1⟩ := DataW.trod_int u1 g1
      simp only [List.cons.injEq, and_true] at e1
      subst e1
      have g2 := hf 2 f2 rfl
      simp [o2, c2] at g2
      obtain ⟨z2, e2, _, k2⟩ := DataW.trod_int u2 g2
      simp only [List.cons.injEq, and_true] at e2
      subst e2
      have g3 := hf 3 f3 rfl
      simp [o3, c3] at g3
      obtain ⟨z3, e3, _, k3⟩ := DataW.trod_int u3 g3
      simp only [List.cons.injEq, and_true] at e3
      subst e3
      have g4 := hf 4 f4 rfl
      simp [o4, c4] at g4
      obtain ⟨z4, e4, _, k4⟩ := DataW.trod_int u4 g4
      simp only [List.cons.injEq, and_true] at e4
      subst e4
      refine ⟨⟨z0, z1, z2, z3, z4⟩, fun j u hu => ?_, ⟨intFit_of k0, intFit_of k1, intFit_of k2, intFit_of k3, intFit_of k4⟩⟩
      have hj : j < 5 := (List.getElem?_eq_some_iff.1 hu).1
      rw [hcell j hj]
      exact hu
  obtain ⟨g, hg⟩ := Go.Deep.choose_lt each
  have hfit : ∀ i, (if i < len then g i else default : GameD).fit := fun i => by
    by_cases hi : i < len
    · simpa [hi] using (hg i hi).2
    · simpa [hi] using hz
  unfold maxLen at hm
  refine ⟨len, fun i => if i < len then g i else default, ?_, hfit, by omega⟩
  by_cases h0 : len = 0
  · subst h0; exact .inl ⟨_, _, rfl, rfl⟩
  · have hc0 := (hg 0 (by omega)).1 0 _ rfl
    obtain ⟨b, off, spot⟩ := a
    have hspot : spot = none := by simpa [Addr.add] using World.cell?_spot hc0
    subst hspot
    have hadd : ∀ j, (⟨b, off, none⟩ : Addr).add j = ⟨b, off + j, none⟩ := fun j => by unfold Addr.add; split <;> simp_all
    have hadd2 : ∀ o j, (⟨b, o, none⟩ : Addr).add j = ⟨b, o + j, none⟩ := fun o j => by unfold Addr.add; split <;> simp_all
    simp only [hadd, hadd2] at hc0
    refine .inr ⟨b, off, cap, rfl, by omega, by omega, fun i hi => ⟨World.block_lt_of_cell? w _ hc0, fun j u hu => ?_⟩, hl⟩
    have := (hg i hi).1
    simp only [hadd, hadd2] at this
    simp only [hi, if_true] at hu
    exact this j u hu
end
section
open Go.ChangeShapes Go.WideShapes
variable {H : Type} {enc : TypeId × Value → H} {P : Program} {w : World} {base : Nat} {spare : Nat → Bool} {held : Bool}
theorem open_game {r : Reach} {b0 : Nat} {e : TypeId} {f0 f1 f2 f3 f4 : Field} {v : Value} {d : DataW H} {pl : List MemPlace} (he : P.underlying e = some (.struct #[f0, f1, f2, f3, f4]))
    (ce : P.cellsOf e = 5) (o0 : f0.offset = 0) (c0 : P.cellsOf f0.type = 1) (u0 : P.underlying f0.type = some (.int .i64)) (o1 : f1.offset = 1) (c1 : P.cellsOf f1.type = 1) (u1 : P.underlying f1.type = some (.int .i64)) (o2 : f2.offset = 2) (c2 : P.cellsOf f2.type = 1) (u2 : P.underlying f2.type = some (.int .i64)) (o3 : f3.offset = 3) (c3 : P.cellsOf f3.type = 1) (u3 : P.underlying f3.type = some (.int .i64)) (o4 : f4.offset = 4) (c4 : P.cellsOf f4.type = 1) (u4 : P.underlying f4.type = some (.int .i64))
    (hv : Value.okWide P w r b0 e v) (h : DataW.Trod enc P w base spare held e v d pl) : ∃ q : GameD, v = q.val ∧ q.fit := by
  obtain ⟨cs, rfl, hsz⟩ := okWide_struct he hv
  obtain ⟨l⟩ := cs
  obtain ⟨fuel, h⟩ := h
  obtain ⟨xs, kk, hk, hxy, _, hxl, hf⟩ := DataW.trod_struct he h
  match xs, hxl, l, hsz.trans ce with
  | [y0, y1, y2, y3, y4], _, [v0, v1, v2, v3, v4], _ =>
      have g0 := hf 0 f0 rfl
      simp [Value.cells, o0, c0] at g0
      obtain ⟨z0, e0, _, k0⟩ := DataW.trod_int u0 g0
      simp only [List.cons.injEq, and_true] at e0
      subst e0
      have g1 := hf 1 f1 rfl
      simp [Value.cells, o1, c1] at g1
      obtain ⟨z1, e1, _, k1⟩ := DataW.trod_int u1 g1
      simp only [List.cons.injEq, and_true] at e1
      subst e1
      have g2 := hf 2 f2 rfl
      simp [Value.cells, o2, c2] at g2
      obtain ⟨z2, e2, _, k2⟩ := DataW.trod_int u2 g2
      simp only [List.cons.injEq, and_true] at e2
      subst e2
      have g3 := hf 3 f3 rfl
      simp [Value.cells, o3, c3] at g3
      obtain ⟨z3, e3, _, k3⟩ := DataW.trod_int u3 g3
      simp only [List.cons.injEq, and_true] at e3
      subst e3
      have g4 := hf 4 f4 rfl
      simp [Value.cells, o4, c4] at g4
      obtain ⟨z4, e4, _, k4⟩ := DataW.trod_int u4 g4
      simp only [List.cons.injEq, and_true] at e4
      subst e4
      exact ⟨⟨z0, z1, z2, z3, z4⟩, rfl, ⟨intFit_of k0, intFit_of k1, intFit_of k2, intFit_of k3, intFit_of k4⟩⟩
end
end Go.Proofs.Ytmhkkdnopcdibaa
set_option linter.unusedVariables false
namespace Go.Proofs.Ytmhkkdnopcdibaa
open Go.RowKit


def gameP (n : Int) (t : GameD) : Prop :=
  (2 ≤ n ∧ n ≤ 8) ∧ (0 ≤ t.home ∧ t.home ≤ n - 1) ∧ (0 ≤ t.away ∧ t.away ≤ n - 1) ∧ t.home ≠ t.away ∧ (0 ≤ t.st ∧ t.st ≤ 4) ∧
    ((t.st = 1 ∧ (0 ≤ t.hg ∧ t.hg ≤ 99) ∧ (0 ≤ t.ag ∧ t.ag ≤ 99)) ∨ (t.st ≠ 1 ∧ t.hg = 0 ∧ t.ag = 0))
def goalsD (t : GameD) : Int × Int × Bool := if t.st = 1 then (t.hg, t.ag, true) else if t.st = 2 then (3, 0, true) else if t.st = 3 then (0, 3, true) else (0, 0, false)
def outcomeD (t : GameD) : Int := if (goalsD t).2.2 = true then (if (goalsD t).2.1 < (goalsD t).1 then 1 else if (goalsD t).1 = (goalsD t).2.1 then 2 else 3) else 0
def playD (t : GameD) (o : Int) : GameD := if 1 ≤ o ∧ o ≤ 3 then ⟨t.home, t.away, if o = 1 then 1 else 0, if o = 3 then 1 else 0, 1⟩ else t
end Go.Proofs.Ytmhkkdnopcdibaa
set_option linter.unusedVariables false
namespace Go.Proofs.Ytmhkkdnopcdibaa
open Go.RowKit

def atG (g : Nat → GameD) (h a : Int) (i : Nat) : Bool := (g i).home == h && (g i).away == a
theorem game_cells {w : World} {b o : Nat} {x : GameD} (h : CellsAt w b o x.cells) : w.cell? ⟨b, o, none⟩ = some (.int .i64 x.home) ∧ w.cell? ⟨b, o + 1, none⟩ = some (.int .i64 x.away) ∧ w.cell? ⟨b, o + 2, none⟩ = some (.int .i64 x.hg) ∧
    w.cell? ⟨b, o + 3, none⟩ = some (.int .i64 x.ag) ∧ w.cell? ⟨b, o + 4, none⟩ = some (.int .i64 x.st) := ⟨h.2 0 _ rfl, h.2 1 _ rfl, h.2 2 _ rfl, h.2 3 _ rfl, h.2 4 _ rfl⟩
def betweenG (a b : Int) (t : GameD) : Bool := (t.home == a && t.away == b) || (t.home == b && t.away == a)
end Go.Proofs.Ytmhkkdnopcdibaa
set_option linter.unusedVariables false
namespace Go.Proofs.Ytmhkkdnopcdibaa
open Go.RowKit

def seasonP (n : Int) (m : Nat) (g : Nat → GameD) : Prop := m ≤ 60 ∧ ∀ i, i < m → gameP n (g i) ∧ firstI (atG g (g i).home (g i).away) m 0 = (i : Int)
end Go.Proofs.Ytmhkkdnopcdibaa
set_option linter.unusedVariables false
namespace Go.Proofs.Ytmhkkdnopcdibaa
open Go.RowKit

def addW (a b : RowD) : RowD := ⟨wrap64 (a.played + b.played), wrap64 (a.wins + b.wins), wrap64 (a.draws + b.draws), wrap64 (a.losses + b.losses), wrap64 (a.scored + b.scored), wrap64 (a.against + b.against), wrap64 (a.points + b.points)⟩
def zeroR : RowD := ⟨0, 0, 0, 0, 0, 0, 0⟩
theorem row_cells {w : World} {b o : Nat} {x : RowD} (h : CellsAt w b o x.cells) : w.cell? ⟨b, o, none⟩ = some (.int .i64 x.played) ∧ w.cell? ⟨b, o + 1, none⟩ = some (.int .i64 x.wins) ∧ w.cell? ⟨b, o + 2, none⟩ = some (.int .i64 x.draws) ∧ w.cell? ⟨b, o + 3, none⟩ = some (.int .i64 x.losses) ∧ w.cell? ⟨b, o + 4, none⟩ = some (.int .i64 x.scored) ∧ w.cell? ⟨b, o + 5, none⟩ = some (.int .i64 x.against) ∧ w.cell? ⟨b, o + 6, none⟩ = some (.int .i64 x.points) := ⟨h.2 0 _ rfl, h.2 1 _ rfl, h.2 2 _ rfl, h.2 3 _ rfl, h.2 4 _ rfl, h.2 5 _ rfl, h.2 6 _ rfl⟩

theorem cell_at_alloc {w : World} {b i : Nat} {v : Value} (h : w.cell? ⟨b, i, none⟩ = some v) (o : Obj) : (w.alloc o).cell? ⟨b, i, none⟩ = some v := by
  have hb := World.block_lt_of_cell? w _ h
  exact (((Below.refl w.heap.size w).alloc (Nat.le_refl _) o).cell (p := ⟨b, i, none⟩) hb).trans h

def playedN (g : Nat → RowD) : Nat → Int
  | 0 => 0
  | k + 1 => wrap64 (playedN g k + (g k).played)
def leadP (g : Nat → RowD) : Nat → Int
  | 0 => -1
  | k + 1 => if leadP g k < 0 then (k : Int) else if (g (leadP g k).toNat).points < (g k).points then (k : Int) else leadP g k
theorem leadP_lt (g : Nat → RowD) : ∀ k, leadP g k = -1 ∨ (0 ≤ leadP g k ∧ leadP g k < k)
  | 0 => .inl rfl
  | k + 1 => by
    unfold leadP
    have := leadP_lt g k
    split
    · right; omega
    · split <;> (right; omega)
end Go.Proofs.Ytmhkkdnopcdibaa
set_option linter.unusedVariables false
namespace Go.Proofs.Ytmhkkdnopcdibaa
open Go.RowKit
theorem boolT {R : Bool} {p : Prop} (h : R = true ↔ p) (hp : p) : R = true := h.2 hp
theorem boolF {R : Bool} {p : Prop} (h : R = true ↔ p) (hp : ¬ p) : R = false := by
  cases R with
  | false => rfl
  | true => exact absurd (h.1 rfl) hp

def sumR (g : Nat → RowD) : Nat → RowD
  | 0 => zeroR
  | k + 1 => addW (sumR g k) (g k)
def balR (x : RowD) : Prop := wrap64 (wrap64 (x.wins + x.draws) + x.losses) = x.played
def balP (n : Nat) (g : Nat → RowD) : Prop := (∀ i, i < n → balR (g i)) ∧ (sumR g n).wins = (sumR g n).losses ∧ (sumR g n).draws.tmod 2 = 0 ∧ (sumR g n).scored = (sumR g n).against
theorem BoxF.row7 {w : World} {B : Nat} {x y : RowD} (h : BoxF w B x.cells) :
    BoxF (((((((w.setCell ⟨B, 0, none⟩ (Value.int .i64 y.played)).setCell ⟨B, 1, none⟩ (Value.int .i64 y.wins)).setCell ⟨B, 2, none⟩ (Value.int .i64 y.draws)).setCell ⟨B, 3, none⟩ (Value.int .i64 y.losses)).setCell ⟨B, 4, none⟩ (Value.int .i64 y.scored)).setCell ⟨B, 5, none⟩ (Value.int .i64 y.against)).setCell ⟨B, 6, none⟩ (Value.int .i64 y.points)) B y.cells := by
  have h0 := h.set 0 (Value.int .i64 y.played) (by simp [RowD.cells])
  have h1 := h0.set 1 (Value.int .i64 y.wins) (by simp [RowD.cells])
  have h2 := h1.set 2 (Value.int .i64 y.draws) (by simp [RowD.cells])
  have h3 := h2.set 3 (Value.int .i64 y.losses) (by simp [RowD.cells])
  have h4 := h3.set 4 (Value.int .i64 y.scored) (by simp [RowD.cells])
  have h5 := h4.set 5 (Value.int .i64 y.against) (by simp [RowD.cells])
  have h6 := h5.set 6 (Value.int .i64 y.points) (by simp [RowD.cells])
  exact h6
theorem boxF_row {w : World} {B : Nat} {x : RowD} (h : BoxF w B x.cells) : (w.cell? ⟨B, 0, none⟩ = some (.int .i64 x.played) ∧ w.frozen? ⟨B, 0, none⟩ = false) ∧ (w.cell? ⟨B, 1, none⟩ = some (.int .i64 x.wins) ∧ w.frozen? ⟨B, 1, none⟩ = false) ∧ (w.cell? ⟨B, 2, none⟩ = some (.int .i64 x.draws) ∧ w.frozen? ⟨B, 2, none⟩ = false) ∧ (w.cell? ⟨B, 3, none⟩ = some (.int .i64 x.losses) ∧ w.frozen? ⟨B, 3, none⟩ = false) ∧ (w.cell? ⟨B, 4, none⟩ = some (.int .i64 x.scored) ∧ w.frozen? ⟨B, 4, none⟩ = false) ∧ (w.cell? ⟨B, 5, none⟩ = some (.int .i64 x.against) ∧ w.frozen? ⟨B, 5, none⟩ = false) ∧ (w.cell? ⟨B, 6, none⟩ = some (.int .i64 x.points) ∧ w.frozen? ⟨B, 6, none⟩ = false) := ⟨h.2 0 _ rfl, h.2 1 _ rfl, h.2 2 _ rfl, h.2 3 _ rfl, h.2 4 _ rfl, h.2 5 _ rfl, h.2 6 _ rfl⟩

theorem below_row7 {a w : World} {B0 B : Nat} {y : RowD} (h : Below B0 a w) (hB : B0 ≤ B) :
    Below B0 a (((((((w.setCell ⟨B, 0, none⟩ (Value.int .i64 y.played)).setCell ⟨B, 1, none⟩ (Value.int .i64 y.wins)).setCell ⟨B, 2, none⟩ (Value.int .i64 y.draws)).setCell ⟨B, 3, none⟩ (Value.int .i64 y.losses)).setCell ⟨B, 4, none⟩ (Value.int .i64 y.scored)).setCell ⟨B, 5, none⟩ (Value.int .i64 y.against)).setCell ⟨B, 6, none⟩ (Value.int .i64 y.points)) := by
  exact (Below.setCell (Below.setCell (Below.setCell (Below.setCell (Below.setCell (Below.setCell (Below.setCell h (p := ⟨B, 0, none⟩) hB (Value.int .i64 y.played)) (p := ⟨B, 1, none⟩) hB (Value.int .i64 y.wins)) (p := ⟨B, 2, none⟩) hB (Value.int .i64 y.draws)) (p := ⟨B, 3, none⟩) hB (Value.int .i64 y.losses)) (p := ⟨B, 4, none⟩) hB (Value.int .i64 y.scored)) (p := ⟨B, 5, none⟩) hB (Value.int .i64 y.against)) (p := ⟨B, 6, none⟩) hB (Value.int .i64 y.points))
end Go.Proofs.Ytmhkkdnopcdibaa
