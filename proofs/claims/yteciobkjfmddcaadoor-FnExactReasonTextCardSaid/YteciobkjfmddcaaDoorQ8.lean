/-
  Packed: BookKit, HasMem, BookVals, KeyValue, TeamsAll, TablesImplA, Push2, CopyR, RepeatImpl, RulesImpl, GamesBase, GamesFuns.
-/
import Derived.Laws.AppendOwnNone
import Derived.Laws.IdiomCopy
import Derived.Test.YteciobkjfmddcaaDoorShelf
import Derived.Test.YteciobkjfmddcaaDoorQ1
import Derived.Test.YteciobkjfmddcaaDoorQ2
import Derived.Test.YteciobkjfmddcaaDoorQ6
import Derived.Test.YteciobkjfmddcaaDoorQ7
set_option linter.unusedVariables false
namespace Go.Proofs.YteciobkjfmddcaaDoor
open Go.RowKit

abbrev bkList (fa : Option Addr) (fc : Nat) (la : Option Addr) (lc : Nat) (ga : Option Addr) (gc : Nat) (qa : Option Addr) (qc : Nat) (ta : Option Addr) (tc : Nat) (b : BookD) : List Value :=
  [.slice fa b.nf fc, .int .i64 b.win, .int .i64 b.draw, .int .i64 b.loss, .slice la b.nl lc, .bool b.again, .slice ga b.m gc, .slice qa b.nfa qc, .slice ta b.nta tc]
structure BkAt (w0 w : World) (B : Nat) (fa : Option Addr) (fc : Nat) (la : Option Addr) (lc : Nat) (ga : Option Addr) (gc : Nat) (qa : Option Addr) (qc : Nat) (ta : Option Addr) (tc : Nat) (b : BookD) : Prop where
  box : BoxN w B (bkList fa fc la lc ga gc qa qc ta tc b)
  row0 : BookRow w0 (.slice fa b.nf fc) (.slice la b.nl lc) (.slice ga b.m gc) (.slice qa b.nfa qc) (.slice ta b.nta tc) b
  bel : Below w0.heap.size w0 w
section
variable {w0 w w' : World} {B : Nat} {fa : Option Addr} {fc : Nat} {la : Option Addr} {lc : Nat} {ga : Option Addr} {gc : Nat} {qa : Option Addr} {qc : Nat} {ta : Option Addr} {tc : Nat} {b : BookD}
theorem BkAt.row (h : BkAt w0 w B fa fc la lc ga gc qa qc ta tc b) : BookRow w (.slice fa b.nf fc) (.slice la b.nl lc) (.slice ga b.m gc) (.slice qa b.nfa qc) (.slice ta b.nta tc) b := h.row0.below h.bel (Nat.le_refl _)
theorem BkAt.next (h : BkAt w0 w B fa fc la lc ga gc qa qc ta tc b) (hb : Below w.heap.size w w') : BkAt w0 w' B fa fc la lc ga gc qa qc ta tc b :=
  ⟨BoxN.below h.box hb, h.row0, h.bel.trans (hb.mono h.bel.size)⟩
theorem box_store {w : World} {B : Nat} {cs : List Value} (h : BoxN w B cs) {p : Addr} (hp : B ≠ p.block) (u : Value) : BoxN (w.setCell p u) B cs :=
  ⟨by have := h.1; simp; omega, fun j v hj => (World.cell?_of_block (w := w) (w' := w.setCell p u) (a := ⟨B, j, none⟩) (Below.heap_setCell w p u B hp)).trans (h.2 j v hj)⟩
theorem BkAt.store (h : BkAt w0 w B fa fc la lc ga gc qa qc ta tc b) {p : Addr} (hp : B ≠ p.block) (h0 : w0.heap.size ≤ p.block) (u : Value) : BkAt w0 (w.setCell p u) B fa fc la lc ga gc qa qc ta tc b :=
  ⟨box_store h.box hp u, h.row0, h.bel.setCell h0 u⟩
theorem BkAt.alloc (h : BkAt w0 w B fa fc la lc ga gc qa qc ta tc b) (o : Obj) : BkAt w0 (w.alloc o) B fa fc la lc ga gc qa qc ta tc b :=
  h.next ((Below.refl _ _).alloc (Nat.le_refl _) _)
theorem BkAt.made (h : BookRow w (.slice fa b.nf fc) (.slice la b.nl lc) (.slice ga b.m gc) (.slice qa b.nfa qc) (.slice ta b.nta tc) b) (t : TypeId) :
    BkAt w (w.alloc (.cells (bkList fa fc la lc ga gc qa qc ta tc b).toArray t)) w.heap.size fa fc la lc ga gc qa qc ta tc b :=
  ⟨BoxN.made (Below.refl _ _) rfl, h, (Below.refl _ _).alloc (Nat.le_refl _) _⟩
theorem BkAt.made2 {u : World} (h : BookRow w0 (.slice fa b.nf fc) (.slice la b.nl lc) (.slice ga b.m gc) (.slice qa b.nfa qc) (.slice ta b.nta tc) b) (hu : Below w0.heap.size w0 u) (t : TypeId) (hB : u.heap.size = B) :
    BkAt w0 (u.alloc (.cells (bkList fa fc la lc ga gc qa qc ta tc b).toArray t)) B fa fc la lc ga gc qa qc ta tc b :=
  ⟨BoxN.made (Below.refl _ _) hB, h, hu.trans (((Below.refl _ _).alloc (Nat.le_refl _) _).mono hu.size)⟩
theorem BkAt.grown {q : Nat} (h : BkAt w0 w B fa fc la lc ga gc qa qc ta tc b) (hg : w.grownBy w' (some q)) (hq : B < q) (h0 : w0.heap.size ≤ B) : BkAt w0 w' B fa fc la lc ga gc qa qc ta tc b :=
  ⟨⟨Nat.lt_of_lt_of_le h.box.1 hg.size, fun j v hj => hg.cell (h.box.2 j v hj) (by simp; omega)⟩, h.row0, h.bel.grown hg h.bel.size (fun k e => by cases e; omega)⟩
theorem code_named {P : Program} {c : Code} {Q : Exit → Act → World → Prop} {a : Act} {w : World} (h : ∀ w', Hid (w' = w) → Code.wp P c Q a w') : Code.wp P c Q a w := h w rfl
theorem BkAt.cells (h : BkAt w0 w B fa fc la lc ga gc qa qc ta tc b) :
    w.cell? ⟨B, 0, none⟩ = some (.slice fa b.nf fc) ∧ w.cell? ⟨B, 1, none⟩ = some (.int .i64 b.win) ∧ w.cell? ⟨B, 2, none⟩ = some (.int .i64 b.draw) ∧ w.cell? ⟨B, 3, none⟩ = some (.int .i64 b.loss) ∧ w.cell? ⟨B, 4, none⟩ = some (.slice la b.nl lc) ∧ w.cell? ⟨B, 5, none⟩ = some (.bool b.again) ∧ w.cell? ⟨B, 6, none⟩ = some (.slice ga b.m gc) ∧ w.cell? ⟨B, 7, none⟩ = some (.slice qa b.nfa qc) ∧ w.cell? ⟨B, 8, none⟩ = some (.slice ta b.nta tc) :=
  ⟨h.box.2 0 _ rfl, h.box.2 1 _ rfl, h.box.2 2 _ rfl, h.box.2 3 _ rfl, h.box.2 4 _ rfl, h.box.2 5 _ rfl, h.box.2 6 _ rfl, h.box.2 7 _ rfl, h.box.2 8 _ rfl⟩
theorem BkAt.lt (h : BkAt w0 w B fa fc la lc ga gc qa qc ta tc b) : B < w.heap.size := h.box.1
theorem BkAt.size (h : BkAt w0 w B fa fc la lc ga gc qa qc ta tc b) : w0.heap.size ≤ w.heap.size := h.bel.size
end
theorem BookRow.sixty {w : World} {vf vl vg vfa vta : Value} {b : BookD} (h : BookRow w vf vl vg vfa vta b) : (b.nf : Int) ≤ 9223372036854775807 ∧ (b.nl : Int) ≤ 9223372036854775807 ∧ (b.m : Int) ≤ 9223372036854775807 ∧ (b.nfa : Int) ≤ 9223372036854775807 ∧ (b.nta : Int) ≤ 9223372036854775807 := by
  obtain ⟨_, _, _, h1, _⟩ := h.1.form
  obtain ⟨_, _, _, h2, _⟩ := h.2.1.form
  obtain ⟨_, _, _, h3, _⟩ := h.2.2.1.form
  obtain ⟨_, _, _, h4, _⟩ := h.2.2.2.1.form
  obtain ⟨_, _, _, h5, _⟩ := h.2.2.2.2.form
  exact ⟨by omega, by omega, by omega, by omega, by omega⟩
end Go.Proofs.YteciobkjfmddcaaDoor
set_option linter.unusedVariables false
namespace Go.Proofs.YteciobkjfmddcaaDoor
open Go.RowKit

theorem hasP_mem (L : List Int) (x : Int) : hasP (getI L) x L.length ↔ x ∈ L := by
  constructor
  · rintro ⟨j, hj, rfl⟩
    simp only [getI, List.getD_eq_getElem?_getD, List.getElem?_eq_getElem hj, Option.getD_some]
    exact List.getElem_mem hj
  · intro h
    obtain ⟨j, hj, he⟩ := List.getElem_of_mem h
    exact ⟨j, hj, by simp only [getI, List.getD_eq_getElem?_getD, List.getElem?_eq_getElem hj, Option.getD_some]; exact he⟩
theorem owns_form {w : World} {base : Nat} {e : TypeId} {size : Nat} {v : Value} {n : Nat} {xs : List Value} (h : w.ownsRow base e size v n xs) : ∃ a c, v = .slice a n c := by
  rcases h.2 with ⟨rfl, h0⟩ | ⟨b, cap, cur, rfl, _⟩
  · exact ⟨none, 0, by rw [h0]⟩
  · exact ⟨_, _, rfl⟩
end Go.Proofs.YteciobkjfmddcaaDoor
set_option linter.unusedVariables false
namespace Go.Proofs.YteciobkjfmddcaaDoor
open Go.RowKit

def valD (key : Int) (r : RowD) (tk fr sd : Int) : Int :=
  if key = 1 then wrap64 (r.points - tk) else if key = 5 then r.points else if key = 2 ∨ key = 6 then wrap64 (r.scored - r.against) else if key = 3 then r.scored else if key = 4 then r.wins else if key = 7 then wrap64 (-fr) else if key = 8 then wrap64 (-sd) else 0
def bookT (b : BookD) (key : Int) (gg : Nat → Int) (ng : Nat) : Nat → RowD := tabR b.win b.draw b.loss (selG (!mutualB key) gg ng) b.g b.m
def bookV (b : BookD) (key : Int) (gg : Nat → Int) (ng : Nat) (i : Nat) : Int := valD key (bookT b key gg ng i) (b.ta i) (b.fa i) (b.f i).seed
theorem row_of {w : World} {a : Option Addr} {c n j : Nat} {T : Nat → RowD} (h : RowRow w (.slice a n c) n T) (hj : j < n) : ∃ bo off, a = some ⟨bo, off, none⟩ ∧ n ≤ c ∧ CellsAt w bo (off + j * 7) (T j).cells := by
  obtain ⟨aa, cap, he, _, hc⟩ := h.form
  simp only [Value.slice.injEq, true_and] at he
  obtain ⟨bo, off, h1, h2, h3⟩ := hc (by omega)
  obtain ⟨rfl, rfl⟩ := he
  exact ⟨bo, off, h1, h2, h3 j hj⟩
def valsL (V : Nat → Int) (k : Nat) : List Int := (List.range k).map V
theorem valsL_succ (V : Nat → Int) (k : Nat) : valsL V (k + 1) = valsL V k ++ [V k] := by unfold valsL; rw [List.range_succ, List.map_append]; rfl
end Go.Proofs.YteciobkjfmddcaaDoor
set_option linter.unusedVariables false
namespace Go.Proofs.YteciobkjfmddcaaDoor
open Go.RowKit

def keyP (b : BookD) (team : Int) : Prop := bookP b ∧ 0 ≤ team ∧ team ≤ b.nf - 1
end Go.Proofs.YteciobkjfmddcaaDoor
set_option linter.unusedVariables false
namespace Go.Proofs.YteciobkjfmddcaaDoor
open Go.RowKit

def teamsP (n : Nat) (ng : Nat) (gg : Nat → Int) : Prop := ∀ i, i < ng → 0 ≤ gg i ∧ gg i ≤ (n : Int) - 1
theorem l07Teams_spec (vf vl vg vfa vta : Value) (b : BookD) (gv : Value) (ng : Nat) (gg : Nat → Int) (R : Bool) (w : World) (hR : R = true ↔ teamsP b.nf ng gg) (h : BookRow w vf vl vg vfa vta b) (hgv : IntRow w gv ng gg) :
    Calls Tryd.prog 18 #[.agg #[vf, .int .i64 b.win, .int .i64 b.draw, .int .i64 b.loss, vl, .bool b.again, vg, vfa, vta], gv] w fun e w' => e = .returned (.bool R) ∧ Below w.heap.size w w' := by
  obtain ⟨fa, fc, la, lc, ga, gc, qa, qc, ta, tc, rfl, rfl, rfl, rfl, rfl⟩ := h.form
  have hn64 : (b.nf : Int) ≤ 9223372036854775807 := by obtain ⟨_, _, _, hq, _⟩ := h.1.form; omega
  have HN := Lib.hid (boolF hR)
  have HY := Lib.hid (boolT hR)
  obtain ⟨xa, xc, rfl, hx64, _⟩ := hgv.form
  have b0 := (Below.refl w.heap.size w).alloc (Nat.le_refl _) (.cells #[.slice fa b.nf fc, .int .i64 b.win, .int .i64 b.draw, .int .i64 b.loss, .slice la b.nl lc, .bool b.again, .slice ga b.m gc, .slice qa b.nfa qc, .slice ta b.nta tc] 38)
  have BX0 := Lib.hid (BoxN.made (Below.refl (w.alloc (.cells #[.slice fa b.nf fc, .int .i64 b.win, .int .i64 b.draw, .int .i64 b.loss, .slice la b.nl lc, .bool b.again, .slice ga b.m gc, .slice qa b.nfa qc, .slice ta b.nta tc] 38)).heap.size (w.alloc (.cells #[.slice fa b.nf fc, .int .i64 b.win, .int .i64 b.draw, .int .i64 b.loss, .slice la b.nl lc, .bool b.again, .slice ga b.m gc, .slice qa b.nfa qc, .slice ta b.nta tc] 38))) (B := w.heap.size) rfl)
  have GR0 := Lib.hid (hgv.below b0 (Nat.le_refl _))
  have HB0 := Lib.hid b0
  clear hR h hgv b0
  go_enter Tryd.func18, Tryd.ntmps18
  go_wp2
  go_loop [9] (fun i => ∃ k : Nat, k ≤ ng ∧ i = .int .i64 k ∧ Hid (∀ i, i < k → 0 ≤ gg i ∧ gg i ≤ (b.nf : Int) - 1)) (fun i => ng - (RowKit.intOf i).toNat)
  case atStart => exact ⟨0, Nat.zero_le _, rfl, fun i hi => absurd hi (by omega)⟩
  case round =>
    obtain ⟨k, hk, rfl, hok⟩ := hrel
    by_cases hlt : k < ng
    · obtain ⟨q1, p1, rfl, hcq, u1⟩ := int_at GR0.out hlt
      have d0 := BX0.out.2 0 _ rfl
      have hS : Hid ((0 ≤ gg k ∧ gg k ≤ (b.nf : Int) - 1) → ∀ i, i < k + 1 → 0 ≤ gg i ∧ gg i ≤ (b.nf : Int) - 1) := fun h i hi => by
        by_cases hik : i = k
        · subst hik; exact h
        · exact hok.out i (by omega)
      have HNk := Lib.hid (fun (h : ¬ (0 ≤ gg k ∧ gg k ≤ (b.nf : Int) - 1)) => HN.out fun hp => h (hp k hlt))
      have hlt' : (k : Int) < ng := by omega
      clear hok HN HY
      generalize gg k = x at *
      by_cases hx : 0 ≤ x ∧ x ≤ (b.nf : Int) - 1
      case neg =>
        obtain rfl := HNk.out hx
        clear HNk hS
        go_wp2_with (go_at_call 41; refine (l01In_no _ _ _ _ hx).mono ?_; rintro e w2 ⟨rfl, rfl⟩)
        go_ret
        exact ⟨rfl, HB0.out⟩
      have HSk := Lib.hid (hS.out hx)
      clear HNk hS
      go_wp2_with (go_at_call 41; refine (l01In_yes _ _ _ _ hx).mono ?_; rintro e w2 ⟨rfl, rfl⟩)
      go_round
      case rel => exact ⟨k + 1, by omega, by go_num, HSk.out⟩
      case measure => simp [RowKit.intOf]; omega
    · obtain rfl : ng = k := by omega
      obtain rfl := HY.out hok.out
      clear HN HY hok
      go_wp2
      go_ret
      exact ⟨rfl, HB0.out⟩
end Go.Proofs.YteciobkjfmddcaaDoor
set_option linter.unusedVariables false
namespace Go.Proofs.YteciobkjfmddcaaDoor
open Go.RowKit

def set7 (w : World) (B o : Nat) (y : RowD) : World := ((((((w.setCell ⟨B, o, none⟩ (Value.int .i64 y.played)).setCell ⟨B, o + 1, none⟩ (Value.int .i64 y.wins)).setCell ⟨B, o + 2, none⟩ (Value.int .i64 y.draws)).setCell ⟨B, o + 3, none⟩ (Value.int .i64 y.losses)).setCell ⟨B, o + 4, none⟩ (Value.int .i64 y.scored)).setCell ⟨B, o + 5, none⟩ (Value.int .i64 y.against)).setCell ⟨B, o + 6, none⟩ (Value.int .i64 y.points)
theorem BoxF.set7 {w : World} {B : Nat} {x y : RowD} (h : BoxF w B x.cells) : BoxF (set7 w B 0 y) B y.cells := BoxF.row7 h
theorem below_set7 {a w : World} {B0 B : Nat} {o : Nat} {y : RowD} (h : Below B0 a w) (hB : B0 ≤ B) : Below B0 a (set7 w B o y) :=
  Below.setCell (Below.setCell (Below.setCell (Below.setCell (Below.setCell (Below.setCell (Below.setCell h (p := ⟨B, o, none⟩) hB (Value.int .i64 y.played)) (p := ⟨B, o + 1, none⟩) hB (Value.int .i64 y.wins)) (p := ⟨B, o + 2, none⟩) hB (Value.int .i64 y.draws)) (p := ⟨B, o + 3, none⟩) hB (Value.int .i64 y.losses)) (p := ⟨B, o + 4, none⟩) hB (Value.int .i64 y.scored)) (p := ⟨B, o + 5, none⟩) hB (Value.int .i64 y.against)) (p := ⟨B, o + 6, none⟩) hB (Value.int .i64 y.points)
theorem BoxF.other7 {w : World} {B D : Nat} {cs : List Value} (h : BoxF w B cs) (o : Nat) (y : RowD) (hD : B ≠ D) : BoxF (Go.Proofs.YteciobkjfmddcaaDoor.set7 w D o y) B cs :=
  ((((((h.other o _ hD).other (o + 1) _ hD).other (o + 2) _ hD).other (o + 3) _ hD).other (o + 4) _ hD).other (o + 5) _ hD).other (o + 6) _ hD
theorem BoxF.at0 {w : World} {B : Nat} {x : RowD} (h : BoxF w B x.cells) : CellsAt w B 0 x.cells := ⟨h.1, fun j u hu => by rw [Nat.zero_add]; exact (h.2 j u hu).1⟩
theorem BoxF.free0 {w : World} {B : Nat} {x : RowD} (h : BoxF w B x.cells) : ∀ j, j < 7 → w.frozen? ⟨B, 0 + j, none⟩ = false := fun j hj => by
  rw [Nat.zero_add]
  obtain ⟨v, hv⟩ : ∃ v, x.cells[j]? = some v := ⟨_, List.getElem?_eq_getElem (by simpa [RowD.cells] using hj)⟩
  exact (h.2 j v hv).2

theorem sumR_played (g : Nat → RowD) : ∀ k, (sumR g k).played = playedN g k
  | 0 => rfl
  | k + 1 => by
    show wrap64 ((sumR g k).played + (g k).played) = wrap64 (playedN g k + (g k).played)
    rw [sumR_played g k]
def offB (x : RowD) : Bool := wrap64 (wrap64 (x.wins + x.draws) + x.losses) != x.played
theorem offB_iff (x : RowD) : offB x = true ↔ ¬ balR x := by unfold offB balR; simp
end Go.Proofs.YteciobkjfmddcaaDoor
set_option linter.unusedVariables false
namespace Go.Proofs.YteciobkjfmddcaaDoor
open Go.RowKit

theorem run_append_zero {P : Program} {w : World} (base : Nat) (t ty e : TypeId) (i : TypeInfo) (size : Nat) (ht : P.underlying t = some (.slice e)) (hi : P.info? e = some i)
    (v : Value) (n : Nat) (xs : List Value) (hown : w.ownsRow base e size v n xs) (ad : Option Addr) (c : Nat) :
    (Builtin.append_ #[t, t] ty #[v, .slice ad 0 c]).run P w = .ok v w := by
  rcases ad with _ | ad
  · rcases hown.2 with ⟨rfl, rfl⟩ | ⟨g, cap, cur, rfl, _, _, hnc, _⟩
    · simp [Builtin.append_, run_underlying ht, sizeOf, typeInfo, hi, Builtin.lenOf, Builtin.firstCells]
    · simp [Builtin.append_, run_underlying ht, sizeOf, typeInfo, hi, Builtin.lenOf, Builtin.firstCells, hnc, storeCells]
  · have h0 : Sem.run P (loadCells ad 0) w = .ok #[] w := by simp [loadCells, loadCellsFrom]
    rcases hown.2 with ⟨rfl, rfl⟩ | ⟨g, cap, cur, rfl, _, _, hnc, _⟩
    · simp [Builtin.append_, run_underlying ht, sizeOf, typeInfo, hi, Builtin.lenOf, Builtin.firstCells, h0]
    · simp [Builtin.append_, run_underlying ht, sizeOf, typeInfo, hi, Builtin.lenOf, Builtin.firstCells, hnc, storeCells, h0]
theorem wpList_appendZero {P : Program} {w : World} {ops : Array Oper} {rest : List Oper} {o : Oper} {a : Act} {Q : Exit → Act → World → Prop} (hgd : o.guard = none) (s x : Operand) (t : TypeId)
    (ho : o.op = .call { callee := .builtin .append, args := #[s, x], argTypes := #[t, t] })
    (base : Nat) (e : TypeId) (i : TypeInfo) (size : Nat) (ht : P.underlying t = some (.slice e)) (hi : P.info? e = some i)
    (v : Value) (n : Nat) (xs : List Value) (hs : a.eval s = v) (hown : w.ownsRow base e size v n xs) (ad : Option Addr) (c : Nat) (hx : a.eval x = .slice ad 0 c)
    (h : wpList P ops Q rest (a.put o.dst v) w) : wpList P ops Q (o :: rest) a w := by
  refine wpList_plain hgd fun K hK => ?_
  have hrun := run_append_zero (P := P) (w := w) base t o.type e i size ht hi v n xs hown ad c
  unfold Oper.wp
  simp [execOp, ho, resolve, invoke, builtin, hs, hx, hrun, Result.andThen]
  exact hK _ _ h
def flatR (g : Nat → List Value) (n : Nat) : List Value := (List.range n).flatMap g
theorem flatR_len (k : Nat) (g : Nat → List Value) (n : Nat) (hk : ∀ i, i < n → (g i).length = k) : (flatR g n).length = n * k := by
  induction n with
  | zero => simp [flatR]
  | succ n ih =>
    have := ih fun i hi => hk i (by omega)
    unfold flatR at this ⊢
    rw [List.range_succ, List.flatMap_append, List.length_append, this]
    simp [hk n (by omega), Nat.succ_mul]
theorem flatR_cells (k : Nat) (g : Nat → List Value) (n : Nat) (hk : ∀ i, i < n → (g i).length = k) : RecCells k n (flatR g n) g := by
  induction n with
  | zero => exact RecCells.nil
  | succ n ih =>
    have h1 := ih fun i hi => hk i (by omega)
    have h2 := flatR_len k g n fun i hi => hk i (by omega)
    have h3 : flatR g (n + 1) = flatR g n ++ g n := by unfold flatR; rw [List.range_succ, List.flatMap_append]; simp
    rw [h3]
    exact h1.push h2 rfl (hk n (by omega))
theorem flatR_get (k : Nat) (g : Nat → List Value) (n : Nat) (hk : ∀ i, i < n → (g i).length = k) (h0 : 0 < k) (j : Nat) (u : Value) (h : (flatR g n)[j]? = some u) :
    j / k < n ∧ (g (j / k))[j % k]? = some u := by
  have hl := flatR_len k g n hk
  have hj : j < n * k := by rw [← hl]; exact (List.getElem?_eq_some_iff.1 h).1
  have hjn : j / k < n := Nat.div_lt_of_lt_mul (by rw [Nat.mul_comm]; exact hj)
  refine ⟨hjn, ?_⟩
  have hm : j % k < (g (j / k)).length := by rw [hk _ hjn]; exact Nat.mod_lt _ h0
  obtain ⟨u', hu'⟩ : ∃ u', (g (j / k))[j % k]? = some u' := ⟨_, List.getElem?_eq_getElem hm⟩
  have := flatR_cells k g n hk (j / k) hjn (j % k) u' hu'
  rw [Nat.mul_comm, Nat.div_add_mod, h] at this
  rw [hu']; exact this.symm
theorem wpList_cloneR {P : Program} {w : World} {ops : Array Oper} {rest : List Oper} {o : Oper} {a : Act} {Q : Exit → Act → World → Prop} (hgd : o.guard = none) (s x : Operand) (t : TypeId)
    (ho : o.op = .call { callee := .builtin .append, args := #[s, x], argTypes := #[t, t] })
    (e : TypeId) {i : TypeInfo} {z : Value} {k bytes : Nat} (ht : P.underlying t = some (.slice e)) (hi : P.info? e = some i) (hz : i.zero = some z) (hsize : i.size = k) (hby : i.bytes = bytes) (hzs : z.cells.size = k) (hk0 : 0 < k)
    {v : Value} {m : Nat} {g : Nat → List Value} (hs : a.eval s = .slice (some ⟨w.heap.size, 0, none⟩) 0 0) (hx : a.eval x = v) (hrow : RecRow k w v m g) (hgl : ∀ i, i < m → (g i).length = k) (h1 : ∀ i, i < m → ∀ u ∈ g i, u.oneCell' = true)
    (hm : m ≤ 1048576) (hb : bytes ≤ 1048576)
    (h : ∀ vv w', w'.ownsRow w.heap.size e k vv m (flatR g m) → Below w.heap.size w w' → wpList P ops Q rest (a.put o.dst vv) w') : wpList P ops Q (o :: rest) a (w.alloc (.cells #[] e)) := by
  have hown : (w.alloc (.cells #[] e)).ownsRow w.heap.size e k (.slice (some ⟨w.heap.size, 0, none⟩) 0 0) 0 [] := World.ownsRow_lit w #[] 0 (Nat.le_refl _) (by decide) (by simp)
  rcases hrow with ⟨ad, cap, rfl, rfl⟩ | ⟨b, off, c, rfl, h0, _, hc, _⟩
  · exact wpList_appendZero hgd s x t ho w.heap.size e i k ht hi _ 0 [] hs hown ad cap hx (h _ _ (by simpa [flatR] using hown) ((Below.refl _ _).alloc (Nat.le_refl _) _))
  · have hmul : (0 + m) * bytes ≤ 1048576 * 1048576 := Nat.mul_le_mul (by omega) hb
    refine wpList_append_lies _ hgd s x t ho w.heap.size e i z k bytes ht hi hz hsize hby hzs hk0 _ 0 [] hs hown ⟨b, off, none⟩ m c (flatR g m) hx (flatR_len k g m hgl) ?_ ?_ h0 (by unfold maxLen; omega) (by omega) (by simp) _ rfl ?_
    · intro j u hu
      obtain ⟨hj, hv⟩ := flatR_get k g m hgl hk0 j u hu
      have hadd : (⟨b, off, none⟩ : Addr).add j = ⟨b, off + j, none⟩ := by unfold Addr.add; split <;> simp_all
      have hq := (hc _ hj).2 _ u hv
      rw [show off + j / k * k + j % k = off + j by rw [Nat.add_assoc, Nat.mul_comm, Nat.div_add_mod]] at hq
      rw [hadd]
      exact (((Below.refl _ w).alloc (Nat.le_refl _) (.cells #[] e)).cell (p := ⟨b, off + j, none⟩) (hc _ hj).1).trans hq
    · intro u hu
      unfold flatR at hu
      rw [List.mem_flatMap] at hu
      obtain ⟨j, hj, hu⟩ := hu
      exact h1 j (List.mem_range.1 hj) u hu
    · intro gg cap w' ho' hg' hat hlt
      simp only [Nat.zero_add, List.nil_append] at ho' ⊢
      exact h _ w' ho' (((Below.refl _ w).alloc (Nat.le_refl _) _).grown hg' (by simp) (fun k hk => by simp [Value.ownBlock] at hk; omega))
end Go.Proofs.YteciobkjfmddcaaDoor
set_option linter.unusedVariables false
namespace Go.Proofs.YteciobkjfmddcaaDoor
open Go.RowKit

theorem owns_setCells {base : Nat} {e : TypeId} {size g n cap : Nat} (cs : List Value) : ∀ {w : World} {xs : List Value} (_ : w.ownsRow base e size (.slice (some ⟨g, 0, none⟩) n cap) n xs) (s : Nat),
    (w.setCells g s cs).ownsRow base e size (.slice (some ⟨g, 0, none⟩) n cap) n (setsFrom xs s cs) := by
  induction cs with
  | nil => intro w xs h s; exact h
  | cons u us ih => intro w xs h s; exact ih (h.stored s u).1 (s + 1)
theorem below_setCells {B0 g : Nat} {a : World} (cs : List Value) : ∀ {w : World} (_ : Below B0 a w) (_ : B0 ≤ g) (s : Nat), Below B0 a (w.setCells g s cs) := by
  induction cs with
  | nil => intro w h _ s; exact h
  | cons u us ih => intro w h hB s; exact ih (Below.setCell h (p := ⟨g, s, none⟩) hB u) hB (s + 1)
theorem run_copyR {P : Program} (w : World) (dT sT ty elem : TypeId) (i : TypeInfo) (k g o dLen dCap : Nat) (a : Addr) (sLen sCap : Nat) (cs : List Value)
    (hu : P.underlying dT = some (.slice elem)) (hi : P.info? elem = some i) (hk : i.size = k) (hn : cs.length = Nat.min sLen dLen * k)
    (hsrc : ∀ j v, cs[j]? = some v → w.cell? (a.add j) = some v) (hc : ∀ j, j < cs.length → (w.cell? ⟨g, o + j, none⟩).isSome = true) (hf : ∀ j, j < cs.length → w.frozen? ⟨g, o + j, none⟩ = false) (h1 : ∀ v ∈ cs, v.oneCell' = true) :
    (Builtin.copy_ #[dT, sT] ty #[.slice (some ⟨g, o, none⟩) dLen dCap, .slice (some a) sLen sCap]).run P w = .ok (goInt (Nat.min sLen dLen)) (w.setCells g o cs) := by
  have hl := run_loadCells_list (P := P) w a cs hsrc
  have hst := run_storeCells_cells (P := P) g o cs 0 w (by simpa using hc) (by simpa using hf) h1
  subst hk
  simp [Builtin.copy_, run_underlying hu, Builtin.lenOf, Builtin.firstCells, sizeOf, typeInfo, hi, ← hn, hl, hst]
section
variable {P : Program} {ops : Array Oper} {o : Oper} {a : Act} {w : World}
theorem upon_copyR {K : Act → World → Prop} {Q : Exit → Act → World → Prop} (d s : Operand) (dT sT : TypeId)
    (ho : o.op = .call { callee := .builtin .copy, args := #[d, s], argTypes := #[dT, sT] }) {base : Nat} {e : TypeId} {i : TypeInfo} {k : Nat} (hu : P.underlying dT = some (.slice e)) (hi : P.info? e = some i) (hk : i.size = k)
    {g n cap : Nat} {xs : List Value} (hown : w.ownsRow base e k (.slice (some ⟨g, 0, none⟩) n cap) n xs) (off dLen dCap : Nat) (ad : Addr) (sLen sCap : Nat)
    (hd : a.eval d = .slice (some ⟨g, off, none⟩) dLen dCap) (hs : a.eval s = .slice (some ad) sLen sCap) (cs : List Value) (q : Nat) (hq : q = Nat.min sLen dLen) (hn : cs.length = q * k)
    (hsrc : ∀ j v, cs[j]? = some v → w.cell? (ad.add j) = some v) (hfit : off + cs.length ≤ n * k) (h1 : ∀ v ∈ cs, v.oneCell' = true)
    (h : ∀ w', w'.ownsRow base e k (.slice (some ⟨g, 0, none⟩) n cap) n (setsFrom xs off cs) → Below base w w' → K (a.put o.dst (.int .i64 q)) w') :
    Oper.wp P o a w K Q := by
  subst hq
  have hlt := (hown.lt g rfl).1
  have hlen := hown.1
  have hrun := run_copyR (P := P) w dT sT o.type e i k g off dLen dCap ad sLen sCap cs hu hi hk hn hsrc
    (fun j hj => by rw [hown.cellAt _ (by omega)]; rw [List.getElem?_eq_getElem (by omega)]; rfl) (fun j hj => hown.frozenAt _) h1
  unfold Oper.wp
  simp [execOp, ho, resolve, invoke, builtin, hd, hs, hrun, Result.andThen]
  exact h _ (owns_setCells cs hown off) (below_setCells cs (Below.refl _ _) hlt off)
theorem step_copyR {K : Act → World → Prop} {Q : Exit → Act → World → Prop} {E : Prop} (hgd : o.guard = none) (d s : Operand) (dT sT : TypeId)
    (ho : o.op = .call { callee := .builtin .copy, args := #[d, s], argTypes := #[dT, sT] }) {base : Nat} {e : TypeId} {i : TypeInfo} {k : Nat} (hu : P.underlying dT = some (.slice e)) (hi : P.info? e = some i) (hk : i.size = k)
    {g n cap : Nat} {xs : List Value} (hown : w.ownsRow base e k (.slice (some ⟨g, 0, none⟩) n cap) n xs) (off dLen dCap : Nat) (ad : Addr) (sLen sCap : Nat)
    (hd : a.eval d = .slice (some ⟨g, off, none⟩) dLen dCap) (hs : a.eval s = .slice (some ad) sLen sCap) (cs : List Value) (q : Nat) (hq : q = Nat.min sLen dLen) (hn : cs.length = q * k)
    (hsrc : ∀ j v, cs[j]? = some v → w.cell? (ad.add j) = some v) (hfit : off + cs.length ≤ n * k) (h1 : ∀ v ∈ cs, v.oneCell' = true)
    (h : ∀ w', w'.ownsRow base e k (.slice (some ⟨g, 0, none⟩) n cap) n (setsFrom xs off cs) → Below base w w' → K (a.put o.dst (.int .i64 q)) w') :
    if Region.wanted o (yielded ops a.tmps) = true then Oper.wp P o a w K Q else E := by
  have hw : Region.wanted o (yielded ops a.tmps) = true := by simp [Region.wanted, hgd]
  rw [if_pos hw]
  exact upon_copyR d s dT sT ho hu hi hk hown off dLen dCap ad sLen sCap hd hs cs q hq hn hsrc hfit h1 h
theorem wpList_copyR {rest : List Oper} {Q : Exit → Act → World → Prop} (hgd : o.guard = none) (d s : Operand) (dT sT : TypeId)
    (ho : o.op = .call { callee := .builtin .copy, args := #[d, s], argTypes := #[dT, sT] }) {base : Nat} {e : TypeId} {i : TypeInfo} {k : Nat} (hu : P.underlying dT = some (.slice e)) (hi : P.info? e = some i) (hk : i.size = k)
    {g n cap : Nat} {xs : List Value} (hown : w.ownsRow base e k (.slice (some ⟨g, 0, none⟩) n cap) n xs) (off dLen dCap : Nat) (ad : Addr) (sLen sCap : Nat)
    (hd : a.eval d = .slice (some ⟨g, off, none⟩) dLen dCap) (hs : a.eval s = .slice (some ad) sLen sCap) (cs : List Value) (q : Nat) (hq : q = Nat.min sLen dLen) (hn : cs.length = q * k)
    (hsrc : ∀ j v, cs[j]? = some v → w.cell? (ad.add j) = some v) (hfit : off + cs.length ≤ n * k) (h1 : ∀ v ∈ cs, v.oneCell' = true)
    (h : ∀ w', w'.ownsRow base e k (.slice (some ⟨g, 0, none⟩) n cap) n (setsFrom xs off cs) → Below base w w' → wpList P ops Q rest (a.put o.dst (.int .i64 q)) w') :
    wpList P ops Q (o :: rest) a w := by
  refine wpList_plain hgd fun K hK => ?_
  exact upon_copyR d s dT sT ho hu hi hk hown off dLen dCap ad sLen sCap hd hs cs q hq hn hsrc hfit h1 (fun w' h1 h2 => hK _ _ (h w' h1 h2))
end
theorem cells_add {w : World} {B off : Nat} {cs : List Value} (h : CellsAt w B off cs) : ∀ j v, cs[j]? = some v → w.cell? ((⟨B, off, none⟩ : Addr).add j) = some v := fun j v hv => by
  have hadd : (⟨B, off, none⟩ : Addr).add j = ⟨B, off + j, none⟩ := by unfold Addr.add; split <;> simp_all
  rw [hadd]
  exact h.2 j v hv
def rep (cs : List Value) (q : Nat) : List Value := flatR (fun _ => cs) q
theorem rep_len {k : Nat} {cs : List Value} (h : cs.length = k) (q : Nat) : (rep cs q).length = q * k := flatR_len k _ q fun _ _ => h
theorem rep_cells {k : Nat} {cs : List Value} (h : cs.length = k) (q : Nat) : RecCells k q (rep cs q) (fun _ => cs) := flatR_cells k _ q fun _ _ => h
theorem cells_more {k n m q : Nat} {xs cs : List Value} (h : RecCells k m xs (fun _ => cs)) (hl : xs.length = n * k) (hcl : cs.length = k) (hmq : m + q ≤ n) :
    RecCells k (m + q) (setsFrom xs (m * k) (rep cs q)) (fun _ => cs) := by
  have hmul : m * k + q * k ≤ n * k := by rw [← Nat.add_mul]; exact Nat.mul_le_mul_right k hmq
  have hrl := rep_len hcl q
  intro i hi j u hu
  have hj : j < k := by rw [← hcl]; exact (List.getElem?_eq_some_iff.1 hu).1
  by_cases him : i < m
  · rw [setsFrom_out]
    · exact h i him j u hu
    · left
      have := Nat.mul_le_mul_right k (show i + 1 ≤ m by omega)
      rw [Nat.succ_mul] at this
      omega
  · obtain ⟨d, rfl⟩ : ∃ d, i = m + d := ⟨i - m, by omega⟩
    rw [show (m + d) * k + j = m * k + (d * k + j) by rw [Nat.add_mul]; omega]
    exact setsFrom_in _ _ _ _ u (by omega) (rep_cells hcl q d (by omega) j u hu)
theorem first_cells {k : Nat} {xs cs : List Value} (hcl : cs.length = k) (hl : k ≤ xs.length) : RecCells k 1 (setsFrom xs 0 cs) (fun _ => cs) := by
  intro i hi j u hu
  obtain rfl : i = 0 := by omega
  rw [Nat.zero_mul]
  exact setsFrom_in cs xs 0 j u (by omega) hu
theorem rep_one {cs : List Value} {q : Nat} {v : Value} (h1 : ∀ v ∈ cs, v.oneCell' = true) (h : v ∈ rep cs q) : v.oneCell' = true := by
  unfold rep flatR at h
  rw [List.mem_flatMap] at h
  obtain ⟨_, _, h⟩ := h
  exact h1 v h
theorem rep_at {w : World} {base g n cap m q k : Nat} {e : TypeId} {xs cs : List Value} (ho : w.ownsRow base e k (.slice (some ⟨g, 0, none⟩) n cap) n xs) (h : RecCells k m xs (fun _ => cs)) (hcl : cs.length = k) (hk : 0 < k) (hq : q ≤ m) (hm : m ≤ n) :
    ∀ j v, (rep cs q)[j]? = some v → w.cell? ((⟨g, 0, none⟩ : Addr).add j) = some v := by
  intro j v hv
  have hadd : (⟨g, 0, none⟩ : Addr).add j = ⟨g, j, none⟩ := by unfold Addr.add; split <;> simp_all
  obtain ⟨h1, h2⟩ := flatR_get k _ q (fun _ _ => hcl) hk j v hv
  have h3 := h (j / k) (by omega) (j % k) v h2
  rw [Nat.mul_comm, Nat.div_add_mod] at h3
  have hlen := ho.1
  have hj : j < xs.length := (List.getElem?_eq_some_iff.1 h3).1
  rw [hadd, ho.cellAt _ (by omega)]
  exact h3
end Go.Proofs.YteciobkjfmddcaaDoor
set_option linter.unusedVariables false
namespace Go.Proofs.YteciobkjfmddcaaDoor
open Go.RowKit

def sideR (win draw loss sc ag : Int) : RowD := if ag < sc then ⟨1, 1, 0, 0, sc, ag, win⟩ else if sc < ag then ⟨1, 0, 0, 1, sc, ag, loss⟩ else ⟨1, 0, 1, 0, sc, ag, draw⟩
def teamCs (x : RowD) (win draw loss : Int) (lad : Value) (agn : Bool) : List Value := x.cells ++ [.int .i64 win, .int .i64 draw, .int .i64 loss, lad, .bool agn]
theorem team_rules {w : World} {b o : Nat} {x : RowD} {win draw loss : Int} {lad : Value} {agn : Bool} (h : CellsAt w b o (teamCs x win draw loss lad agn)) :
    w.cell? ⟨b, o + 7, none⟩ = some (.int .i64 win) ∧ w.cell? ⟨b, o + 8, none⟩ = some (.int .i64 draw) ∧ w.cell? ⟨b, o + 9, none⟩ = some (.int .i64 loss) ∧ w.cell? ⟨b, o + 10, none⟩ = some lad ∧ w.cell? ⟨b, o + 11, none⟩ = some (.bool agn) :=
  ⟨h.2 7 _ rfl, h.2 8 _ rfl, h.2 9 _ rfl, h.2 10 _ rfl, h.2 11 _ rfl⟩
theorem team_row {w : World} {b o : Nat} {x : RowD} {win draw loss : Int} {lad : Value} {agn : Bool} (h : CellsAt w b o (teamCs x win draw loss lad agn)) : CellsAt w b o x.cells :=
  ⟨h.1, fun j u hu => h.2 j u (by unfold teamCs; rw [List.getElem?_append_left (List.getElem?_eq_some_iff.1 hu).1]; exact hu)⟩
end Go.Proofs.YteciobkjfmddcaaDoor
set_option linter.unusedVariables false
namespace Go.Proofs.YteciobkjfmddcaaDoor
open Go.RowKit

def SeenN (K : Nat) (w : World) (B : Nat) (S : Nat → Bool) : Prop := B < w.heap.size ∧ ∀ j, j < K → w.cell? ⟨B, j, none⟩ = some (.bool (S j)) ∧ w.frozen? ⟨B, j, none⟩ = false
theorem SeenN.made (K : Nat) (w : World) (cs : Array Value) (t : TypeId) (h : ∀ j, j < K → cs[j]? = some (.bool false)) : SeenN K (w.alloc (.cells cs t)) w.heap.size (fun _ => false) := by
  refine ⟨by simp, fun j hj => ⟨?_, ?_⟩⟩
  · rw [cell_of_row _ w.heap.size j _ t (0, 0) (heap_alloc_new w _)]
    exact h j hj
  · exact frozen_of_row _ w.heap.size j _ t (heap_alloc_new w _)
theorem SeenN.set {K : Nat} {w : World} {B : Nat} {S : Nat → Bool} (h : SeenN K w B S) (m : Nat) (hm : m < K) : SeenN K (w.setCell ⟨B, m, none⟩ (.bool true)) B (fun j => S j || decide (j = m)) := by
  refine ⟨by simpa [World.setCell] using h.1, fun j hj => ⟨?_, (World.frozen?_setCell _ _ _ _).trans (h.2 j hj).2⟩⟩
  by_cases hjm : j = m
  · subst hjm
    rw [World.cell?_setCell_same' _ _ _ (by rw [(h.2 j hj).1]; rfl)]
    simp
  · rw [World.cell?_setCell_other _ _ _ _ (by intro e; simp only [Addr.mk.injEq] at e; omega), (h.2 j hj).1]
    simp [hjm]
theorem pigeon (m : Nat) : ∀ (k : Nat) (g : Nat → Int), (∀ i, i < k → 1 ≤ g i ∧ g i ≤ m) → (∀ i j, i < j → j < k → g i ≠ g j) → k ≤ m := by
  induction m with
  | zero => intro k g h _; by_cases h0 : k = 0; · omega
            · have := h 0 (by omega); omega
  | succ m ih =>
    intro k g h hd
    by_cases hx : ∃ i, i < k ∧ g i = m + 1
    · obtain ⟨i0, hi0, he⟩ := hx
      have hk1 := ih (k - 1) (fun i => if i = i0 then g (k - 1) else g i) (fun i hi => by
          by_cases e : i = i0
          · simp only [e, if_true]
            have h1 := h (k - 1) (by omega)
            have h2 := hd i0 (k - 1) (by omega) (by omega)
            omega
          · simp only [e, if_false]
            have h1 := h i (by omega)
            have h2 : g i ≠ g i0 := by
              by_cases hlt : i < i0
              · exact hd i i0 hlt hi0
              · exact fun hh => hd i0 i (by omega) (by omega) hh.symm
            omega)
        (fun i j hij hj => by
          by_cases e : i = i0
          · by_cases e2 : j = i0
            · omega
            · simp only [e, e2, if_true, if_false]
              exact fun hh => hd j (k - 1) (by omega) (by omega) hh.symm
          · by_cases e2 : j = i0
            · simp only [e, e2, if_true, if_false]
              exact hd i (k - 1) (by omega) (by omega)
            · simp only [e, e2, if_false]
              exact hd i j hij (by omega))
      omega
    · have := ih k g (fun i hi => by
        have h1 := h i hi
        have h2 : g i ≠ m + 1 := fun he => hx ⟨i, hi, he⟩
        omega) hd
      omega
theorem pigeon8 {k : Nat} {g : Nat → Int} (h : ∀ i, i < k → (1 ≤ g i ∧ g i ≤ 8) ∧ ¬ hasP g (g i) i) : k ≤ 8 :=
  pigeon 8 k g (fun i hi => by have := (h i hi).1; omega) (fun i j hij hj he => (h j hj).2 ⟨i, hij, he⟩)
theorem knm_ne (m : Nat) (h1 : 1 ≤ m) (h8 : m ≤ 8) : (knm m).toList.isEmpty = false ∧ (knm m).toList ≠ [] := by
  have : m = 1 ∨ m = 2 ∨ m = 3 ∨ m = 4 ∨ m = 5 ∨ m = 6 ∨ m = 7 ∨ m = 8 := by omega
  rcases this with rfl | rfl | rfl | rfl | rfl | rfl | rfl | rfl <;> exact ⟨by decide +kernel, by decide +kernel⟩
set_option maxRecDepth 100000 in
theorem isLadder_impl (n : Nat) (g : Nat → Int) (R : Bool) (v : Value) (w : World) (hR : R = true ↔ ladP n g) (h : IntRow w v n g) :
    Calls Tryd.prog 61 #[v] w fun e w' => e = .returned (.bool R) ∧ Below w.heap.size w w' := by
  obtain ⟨a, cap, rfl, hn, hv⟩ := h.form
  have HV := Lib.hid hv
  have HR := Lib.hid hR
  clear hv h hR
  have HNO2 : Hid (∀ k, k < n → ¬ ((1 ≤ g k ∧ g k ≤ 8) ∧ ¬ hasP g (g k) k) → R = false) := fun k hk h => by
    cases R with
    | false => rfl
    | true => exact absurd ((HR.out.1 rfl).2 k hk) h
  have HYES2 : Hid (0 < n → (∀ i, i < n → (1 ≤ g i ∧ g i ≤ 8) ∧ ¬ hasP g (g i) i) → R = true) := fun h0 h => HR.out.2 ⟨⟨by omega, by have := pigeon8 h; omega⟩, h⟩
  have HZ : Hid (n = 0 → R = false) := fun h0 => by
    cases R with
    | false => rfl
    | true => have := (HR.out.1 rfl).1; omega
  clear HR
  go_enter Tryd.func61, Tryd.ntmps61
  go_wp2
  have s1 := SeenN.made 9 w #[.bool false, .bool false, .bool false, .bool false, .bool false, .bool false, .bool false, .bool false, .bool false] 97 (fun j hj => by
    have : j = 0 ∨ j = 1 ∨ j = 2 ∨ j = 3 ∨ j = 4 ∨ j = 5 ∨ j = 6 ∨ j = 7 ∨ j = 8 := by omega
    rcases this with rfl | rfl | rfl | rfl | rfl | rfl | rfl | rfl | rfl <;> rfl)
  go_loopw [8] (fun i wr => ∃ (k : Nat) (S : Nat → Bool), k ≤ n ∧ i = .int .i64 k ∧ Hid (∀ i, i < k → (1 ≤ g i ∧ g i ≤ 8) ∧ ¬ hasP g (g i) i) ∧ SeenN 9 wr w.heap.size S ∧ Hid (∀ j : Nat, S j = true ↔ hasP g j k) ∧ Below w.heap.size w wr) (fun i _ => n - (RowKit.intOf i).toNat)
  case atStart => exact ⟨0, _, Nat.zero_le _, rfl, fun i hi => absurd hi (by omega), s1, fun j => ⟨fun h => absurd h (by simp), fun ⟨i, hi, _⟩ => absurd hi (by omega)⟩, (Below.refl _ _).alloc (Nat.le_refl _) _⟩
  case round =>
    clear s1
    obtain ⟨k, S, hk, rfl, hall, hS, hSk, hb⟩ := hrel
    by_cases hlt : k < n
    · obtain ⟨b, off, rfl, hc⟩ := HV.out (by omega)
      have c1 := (hb.cell (p := ⟨b, off + k, none⟩) (World.block_lt_of_cell? w _ (hc k hlt))).trans (hc k hlt)
      have HN := Lib.hid (HNO2.out k hlt)
      clear hc HV
      have HY : Hid (((1 ≤ g k ∧ g k ≤ 8) ∧ ¬ hasP g (g k) k) → ∀ i, i < k + 1 → (1 ≤ g i ∧ g i ≤ 8) ∧ ¬ hasP g (g i) i) := fun h i hi => by
        by_cases hik : i = k
        · subst hik; exact h
        · exact hall.out i (by omega)
      have HE : Hid (∀ m : Nat, g k = m → ∀ j : Nat, (S j || decide (j = m)) = true ↔ hasP g j (k + 1)) := fun m hm j => by
        simp only [Bool.or_eq_true, decide_eq_true_eq]
        constructor
        · rintro (h | rfl)
          · obtain ⟨i, hi, hij⟩ := (hSk.out j).1 h
            exact ⟨i, by omega, hij⟩
          · exact ⟨k, by omega, hm⟩
        · rintro ⟨i, hi, hij⟩
          by_cases hik : i = k
          · subst hik; right; omega
          · exact .inl ((hSk.out j).2 ⟨i, by omega, hij⟩)
      have HSm : Hid (∀ m : Nat, g k = m → (S m = true ↔ hasP g (g k) k)) := fun m hm => by rw [hm]; exact hSk.out m
      clear hall hSk HNO2 HYES2 HZ
      generalize hasP g (g k) k = hp at *
      generalize hy : g k = y at *
      clear hy
      by_cases hy18 : 1 ≤ y ∧ y ≤ 8
      · obtain ⟨m, rfl⟩ : ∃ m : Nat, y = m := ⟨y.toNat, by omega⟩
        obtain ⟨h1, h8⟩ := hy18
        have hm9 : m < 9 := by omega
        have hm9' : (m : Int) < 9 := by omega
        obtain ⟨e1, f1⟩ := hS.2 m hm9
        have CN := Lib.hid (fun w => keyNameI_yes m w (by omega) (by omega))
        obtain ⟨n1, n2⟩ := knm_ne m (by omega) (by omega)
        generalize knm m = s at *
        by_cases hSm : S m = true
        · rw [hSm] at e1
          have hf : R = false := HN.out fun h => h.2 ((HSm.out m rfl).1 hSm)
          subst hf
          clear HN HY HE HSm hSm
          go_wp2_with (go_at_call 27; refine (CN.out _).mono ?_; rintro e w' ⟨rfl, rfl⟩)
          go_ret
          exact ⟨rfl, hb⟩
        · have hSm' : S m = false := by simpa using hSm
          rw [hSm'] at e1
          have HY2 := Lib.hid (HY.out ⟨⟨by omega, by omega⟩, fun h => hSm ((HSm.out m rfl).2 h)⟩)
          have HS2 := Lib.hid (hS.set m hm9)
          have HE2 := Lib.hid (HE.out m rfl)
          clear HN HY HE HSm hSm hSm' hS
          go_wp2_with (go_at_call 27; refine (CN.out _).mono ?_; rintro e w' ⟨rfl, rfl⟩)
          go_roundw
          case rel => exact ⟨k + 1, _, by omega, by go_num, HY2.out, HS2.out, HE2.out, hb.setCell (Nat.le_refl _) _⟩
          case measure => simp [RowKit.intOf]; omega
      · have hf : R = false := HN.out fun h => hy18 h.1
        subst hf
        clear HN HY HE HSm
        go_wp2_with (go_at_call 27; refine (keyNameI_no y _ hy18).mono ?_; rintro e w' ⟨rfl, rfl⟩)
        go_ret
        exact ⟨rfl, hb⟩
    · obtain rfl : k = n := by omega
      by_cases h0 : k = 0
      · have hf : R = false := HZ.out h0
        subst hf
        subst h0
        clear HNO2 HYES2 HZ hall hSk hS
        go_wp2
        go_ret
        exact ⟨rfl, hb⟩
      · have h1 : 0 < k := by omega
        have hf : R = true := HYES2.out h1 hall.out
        subst hf
        clear HNO2 HYES2 HZ hall hSk hS
        go_wp2
        go_ret
        exact ⟨rfl, hb⟩
end Go.Proofs.YteciobkjfmddcaaDoor
set_option linter.unusedVariables false
namespace Go.Proofs.YteciobkjfmddcaaDoor
open Go.RowKit

theorem bool_of {R : Bool} {p : Prop} (h : R = true ↔ p) (hp : p) : R = true := h.2 hp
theorem bool_not {R : Bool} {p : Prop} (h : R = true ↔ p) (hp : ¬ p) : R = false := by
  cases R with
  | false => rfl
  | true => exact absurd (h.1 rfl) hp

theorem areOpp_impl (n a b : Int) (R : Bool) (w : World) (hR : R = true ↔ (0 ≤ a ∧ a < n ∧ 0 ≤ b ∧ b < n ∧ a ≠ b)) :
    Calls Tryd.prog 69 #[.int .i64 n, .int .i64 a, .int .i64 b] w fun e w' => e = .returned (.bool R) ∧ w = w' := by
  have HN := Lib.hid (bool_not hR)
  have HY := Lib.hid (bool_of hR)
  clear hR
  by_cases h1 : 0 ≤ a
  case neg =>
    have g1 : decide (0 ≤ a) = false := decide_eq_false h1
    obtain rfl := HN.out fun h => h1 h.1
    clear HN HY h1
    go_enter Tryd.func69, Tryd.ntmps69
    go_wp2
    go_ret
    exact ⟨by first | rfl | exact congrArg (fun q => Ending.returned (Value.bool q)) (by unfold bne; rw [g5]; rfl), rfl⟩
  have g1 : decide (0 ≤ a) = true := decide_eq_true h1
  by_cases h2 : a < n
  case neg =>
    have g2 : decide (a < n) = false := decide_eq_false h2
    obtain rfl := HN.out fun h => h2 h.2.1
    clear HN HY h2
    go_enter Tryd.func69, Tryd.ntmps69
    go_wp2
    go_ret
    exact ⟨by first | rfl | exact congrArg (fun q => Ending.returned (Value.bool q)) (by unfold bne; rw [g5]; rfl), rfl⟩
  have g2 : decide (a < n) = true := decide_eq_true h2
  by_cases h3 : 0 ≤ b
  case neg =>
    have g3 : decide (0 ≤ b) = false := decide_eq_false h3
    obtain rfl := HN.out fun h => h3 h.2.2.1
    clear HN HY h3
    go_enter Tryd.func69, Tryd.ntmps69
    go_wp2
    go_ret
    exact ⟨by first | rfl | exact congrArg (fun q => Ending.returned (Value.bool q)) (by unfold bne; rw [g5]; rfl), rfl⟩
  have g3 : decide (0 ≤ b) = true := decide_eq_true h3
  by_cases h4 : b < n
  case neg =>
    have g4 : decide (b < n) = false := decide_eq_false h4
    obtain rfl := HN.out fun h => h4 h.2.2.2.1
    clear HN HY h4
    go_enter Tryd.func69, Tryd.ntmps69
    go_wp2
    go_ret
    exact ⟨by first | rfl | exact congrArg (fun q => Ending.returned (Value.bool q)) (by unfold bne; rw [g5]; rfl), rfl⟩
  have g4 : decide (b < n) = true := decide_eq_true h4
  by_cases h5 : a ≠ b
  case neg =>
    have g5 : (a == b) = true := by simpa using h5
    obtain rfl := HN.out fun h => h5 h.2.2.2.2
    clear HN HY h5
    go_enter Tryd.func69, Tryd.ntmps69
    go_wp2
    go_ret
    exact ⟨by first | rfl | exact congrArg (fun q => Ending.returned (Value.bool q)) (by unfold bne; rw [g5]; rfl), rfl⟩
  have g5 : (a == b) = false := beq_eq_false_iff_ne.2 h5
  obtain rfl := HY.out ⟨h1, h2, h3, h4, h5⟩
  clear HN HY h5
  go_enter Tryd.func69, Tryd.ntmps69
  go_wp2
  go_ret
  exact ⟨congrArg (fun q => Ending.returned (Value.bool q)) (by unfold bne; rw [g5]; rfl), rfl⟩
theorem exists_impl (st : Int) (R : Bool) (w : World) (hR : R = true ↔ (0 ≤ st ∧ st ≤ 4)) :
    Calls Tryd.prog 70 #[.int .i64 st] w fun e w' => e = .returned (.bool R) ∧ w = w' := by
  have HN := Lib.hid (bool_not hR)
  have HY := Lib.hid (bool_of hR)
  clear hR
  by_cases h1 : 0 ≤ st
  case neg =>
    have g1 : decide (0 ≤ st) = false := decide_eq_false h1
    obtain rfl := HN.out fun h => h1 h.1
    clear HN HY h1
    go_enter Tryd.func70, Tryd.ntmps70
    go_wp2
    go_ret
    exact ⟨rfl, rfl⟩
  have g1 : decide (0 ≤ st) = true := decide_eq_true h1
  by_cases h2 : st ≤ 4
  case neg =>
    have g2 : decide (st ≤ 4) = false := decide_eq_false h2
    obtain rfl := HN.out fun h => h2 h.2
    clear HN HY h2
    go_enter Tryd.func70, Tryd.ntmps70
    go_wp2
    go_ret
    exact ⟨rfl, rfl⟩
  have g2 : decide (st ≤ 4) = true := decide_eq_true h2
  obtain rfl := HY.out ⟨h1, h2⟩
  clear HN HY
  go_enter Tryd.func70, Tryd.ntmps70
  go_wp2
  go_ret
  exact ⟨rfl, rfl⟩
theorem allows_impl (st q : Int) (R : Bool) (w : World) (hR : R = true ↔ ((st = 1 ∧ 0 ≤ q ∧ q ≤ 99) ∨ (st ≠ 1 ∧ q = 0))) :
    Calls Tryd.prog 71 #[.int .i64 st, .int .i64 q] w fun e w' => e = .returned (.bool R) ∧ w = w' := by
  have HN := Lib.hid (bool_not hR)
  have HY := Lib.hid (bool_of hR)
  clear hR
  by_cases h0 : st = 1
  · have HN2 := Lib.hid (fun (h : ¬ (0 ≤ q ∧ q ≤ 99)) => HN.out fun h1 => h1.elim (fun h2 => h h2.2) fun h2 => h2.1 h0)
    have HY2 := Lib.hid (fun (h : 0 ≤ q ∧ q ≤ 99) => HY.out (.inl ⟨h0, h⟩))
    clear HN HY
    subst h0
    by_cases h1 : 0 ≤ q
    case neg =>
      have g1 : decide (0 ≤ q) = false := decide_eq_false h1
      obtain rfl := HN2.out fun h => h1 h.1
      clear HN2 HY2 h1
      go_enter Tryd.func71, Tryd.ntmps71
      go_wp2
      go_ret
      exact ⟨rfl, rfl⟩
    have g1 : decide (0 ≤ q) = true := decide_eq_true h1
    by_cases h2 : q ≤ 99
    case neg =>
      have g2 : decide (q ≤ 99) = false := decide_eq_false h2
      obtain rfl := HN2.out fun h => h2 h.2
      clear HN2 HY2 h2
      go_enter Tryd.func71, Tryd.ntmps71
      go_wp2
      go_ret
      exact ⟨rfl, rfl⟩
    have g2 : decide (q ≤ 99) = true := decide_eq_true h2
    obtain rfl := HY2.out ⟨h1, h2⟩
    clear HN2 HY2
    go_enter Tryd.func71, Tryd.ntmps71
    go_wp2
    go_ret
    exact ⟨rfl, rfl⟩
  · have g0 : (st == 1) = false := beq_eq_false_iff_ne.2 h0
    by_cases h1 : q = 0
    · obtain rfl := HY.out (.inr ⟨h0, h1⟩)
      have g1 : (q == 0) = true := by simpa using h1
      clear HN HY h0 h1
      go_enter Tryd.func71, Tryd.ntmps71
      go_wp2
      go_ret
      exact ⟨rfl, rfl⟩
    · obtain rfl := HN.out fun h => h.elim (fun h2 => h0 h2.1) fun h2 => h1 h2.2
      have g1 : (q == 0) = false := beq_eq_false_iff_ne.2 h1
      clear HN HY h0 h1
      go_enter Tryd.func71, Tryd.ntmps71
      go_wp2
      go_ret
      exact ⟨rfl, rfl⟩
theorem bool_ex (p : Prop) : ∃ R : Bool, R = true ↔ p := by
  by_cases h : p
  · exact ⟨true, fun _ => h, fun _ => rfl⟩
  · exact ⟨false, (fun e => by cases e), fun e => absurd e h⟩
set_option maxHeartbeats 1000000 in
theorem gameOk_impl (n : Int) (home away hg ag st : Int) (R : Bool) (w : World) (hR : R = true ↔ gameP n ⟨home, away, hg, ag, st⟩) :
    Calls Tryd.prog 62 #[.int .i64 n, .agg #[.int .i64 home, .int .i64 away, .int .i64 hg, .int .i64 ag, .int .i64 st]] w fun e w' => e = .returned (.bool R) ∧ Below w.heap.size w w' := by
  obtain ⟨ro, hro⟩ := bool_ex (0 ≤ home ∧ home < n ∧ 0 ≤ away ∧ away < n ∧ home ≠ away)
  obtain ⟨re, hre⟩ := bool_ex (0 ≤ st ∧ st ≤ 4)
  obtain ⟨rh, hrh⟩ := bool_ex ((st = 1 ∧ 0 ≤ hg ∧ hg ≤ 99) ∨ (st ≠ 1 ∧ hg = 0))
  obtain ⟨ra, hra⟩ := bool_ex ((st = 1 ∧ 0 ≤ ag ∧ ag ≤ 99) ∨ (st ≠ 1 ∧ ag = 0))
  have hall : R = true ↔ (2 ≤ n ∧ n ≤ 8 ∧ ro = true ∧ re = true ∧ rh = true ∧ ra = true) := by
    rw [hR, hro, hre, hrh, hra]
    unfold gameP
    constructor
    · rintro ⟨⟨a1, a2⟩, ⟨b1, b2⟩, ⟨c1, c2⟩, d, ⟨e1, e2⟩, f⟩
      rcases f with ⟨f1, f2, f3⟩ | ⟨f1, f2, f3⟩
      · exact ⟨a1, a2, ⟨b1, by simp only at *; omega, c1, by simp only at *; omega, d⟩, ⟨e1, e2⟩, .inl ⟨f1, f2⟩, .inl ⟨f1, f3⟩⟩
      · exact ⟨a1, a2, ⟨b1, by simp only at *; omega, c1, by simp only at *; omega, d⟩, ⟨e1, e2⟩, .inr ⟨f1, f2⟩, .inr ⟨f1, f3⟩⟩
    · rintro ⟨a1, a2, ⟨b1, b2, c1, c2, d⟩, ⟨e1, e2⟩, f, f'⟩
      refine ⟨⟨a1, a2⟩, ⟨b1, by simp only at *; omega⟩, ⟨c1, by simp only at *; omega⟩, d, ⟨e1, e2⟩, ?_⟩
      rcases f with ⟨f1, f2⟩ | ⟨f1, f2⟩
      · rcases f' with ⟨f3, f4⟩ | ⟨f3, f4⟩
        · exact .inl ⟨f1, f2, f4⟩
        · exact absurd f1 f3
      · rcases f' with ⟨f3, f4⟩ | ⟨f3, f4⟩
        · exact absurd f3 f1
        · exact .inr ⟨f1, f2, f4⟩
  have CO := Lib.hid (fun w1 => areOpp_impl n home away ro w1 hro)
  have CE := Lib.hid (fun w1 => exists_impl st re w1 hre)
  have CH := Lib.hid (fun w1 => allows_impl st hg rh w1 hrh)
  have CA := Lib.hid (fun w1 => allows_impl st ag ra w1 hra)
  have HN := Lib.hid (bool_not hall)
  have HY := Lib.hid (bool_of hall)
  clear hR hro hre hrh hra hall
  by_cases h1 : 2 ≤ n
  case neg =>
    have g1 : decide (2 ≤ n) = false := decide_eq_false h1
    obtain rfl := HN.out fun h => h1 h.1
    clear HN HY h1
    go_enter Tryd.func62, Tryd.ntmps62
    go_wp2
    go_ret
    exact ⟨rfl, (Below.refl _ _).alloc (Nat.le_refl _) _⟩
  have g1 : decide (2 ≤ n) = true := decide_eq_true h1
  by_cases h2 : n ≤ 8
  case neg =>
    have g2 : decide (n ≤ 8) = false := decide_eq_false h2
    obtain rfl := HN.out fun h => h2 h.2.1
    clear HN HY h2
    go_enter Tryd.func62, Tryd.ntmps62
    go_wp2
    go_ret
    exact ⟨rfl, (Below.refl _ _).alloc (Nat.le_refl _) _⟩
  have g2 : decide (n ≤ 8) = true := decide_eq_true h2
  cases ro with
  | false =>
    obtain rfl := HN.out fun h => by have := h.2.2.1; cases this
    clear HN HY
    go_enter Tryd.func62, Tryd.ntmps62
    go_wp2_with fail
    refine (CO.out _).mono ?_
    rintro e w' ⟨rfl, rfl⟩
    go_wp2
    go_ret
    exact ⟨rfl, (Below.refl _ _).alloc (Nat.le_refl _) _⟩
  | true =>
  cases re with
  | false =>
    obtain rfl := HN.out fun h => by have := h.2.2.2.1; cases this
    clear HN HY
    go_enter Tryd.func62, Tryd.ntmps62
    go_wp2_with fail
    refine (CO.out _).mono ?_
    rintro e w' ⟨rfl, rfl⟩
    go_wp2_with fail
    refine (CE.out _).mono ?_
    rintro e w' ⟨rfl, rfl⟩
    go_wp2
    go_ret
    exact ⟨rfl, (Below.refl _ _).alloc (Nat.le_refl _) _⟩
  | true =>
  cases rh with
  | false =>
    obtain rfl := HN.out fun h => by have := h.2.2.2.2.1; cases this
    clear HN HY
    go_enter Tryd.func62, Tryd.ntmps62
    go_wp2_with fail
    refine (CO.out _).mono ?_
    rintro e w' ⟨rfl, rfl⟩
    go_wp2_with fail
    refine (CE.out _).mono ?_
    rintro e w' ⟨rfl, rfl⟩
    go_wp2_with fail
    refine (CH.out _).mono ?_
    rintro e w' ⟨rfl, rfl⟩
    go_wp2
    go_ret
    exact ⟨rfl, (Below.refl _ _).alloc (Nat.le_refl _) _⟩
  | true =>
  cases ra with
  | false =>
    obtain rfl := HN.out fun h => by have := h.2.2.2.2.2; cases this
    clear HN HY
    go_enter Tryd.func62, Tryd.ntmps62
    go_wp2_with fail
    refine (CO.out _).mono ?_
    rintro e w' ⟨rfl, rfl⟩
    go_wp2_with fail
    refine (CE.out _).mono ?_
    rintro e w' ⟨rfl, rfl⟩
    go_wp2_with fail
    refine (CH.out _).mono ?_
    rintro e w' ⟨rfl, rfl⟩
    go_wp2_with fail
    refine (CA.out _).mono ?_
    rintro e w' ⟨rfl, rfl⟩
    go_wp2
    go_ret
    exact ⟨rfl, (Below.refl _ _).alloc (Nat.le_refl _) _⟩
  | true =>
  obtain rfl := HY.out ⟨h1, h2, rfl, rfl, rfl, rfl⟩
  clear HN HY
  go_enter Tryd.func62, Tryd.ntmps62
  go_wp2_with fail
  refine (CO.out _).mono ?_
  rintro e w' ⟨rfl, rfl⟩
  go_wp2_with fail
  refine (CE.out _).mono ?_
  rintro e w' ⟨rfl, rfl⟩
  go_wp2_with fail
  refine (CH.out _).mono ?_
  rintro e w' ⟨rfl, rfl⟩
  go_wp2_with fail
  refine (CA.out _).mono ?_
  rintro e w' ⟨rfl, rfl⟩
  go_wp2
  go_ret
  exact ⟨rfl, (Below.refl _ _).alloc (Nat.le_refl _) _⟩
end Go.Proofs.YteciobkjfmddcaaDoor
set_option linter.unusedVariables false
namespace Go.Proofs.YteciobkjfmddcaaDoor
open Go.RowKit

def twoBoxes (f B1 B2 : Nat) : Value := .func (.func f) #[] #[.pointer (some ⟨B1, 0, none⟩), .pointer (some ⟨B2, 0, none⟩)]
end Go.Proofs.YteciobkjfmddcaaDoor
