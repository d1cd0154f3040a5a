/-
  Packed: BookKit, HasMem, BookVals, KeyValue, TeamsAll, TablesImplA, Push2, CopyR.
-/
import Derived.Laws.AppendOwnNone
import Derived.Laws.IdiomCopy
import Derived.Test.YtakbolkdbpehoaaQ1
import Derived.Test.YtakbolkdbpehoaaQ3
import Derived.Test.YtakbolkdbpehoaaQ5
import Derived.Test.YtakbolkdbpehoaaQ6
import Derived.Test.YtakbolkdbpehoaaQ8
set_option linter.unusedVariables false
namespace Go.Proofs.Ytakbolkdbpehoaa
open Go.RowKit

/-- the cells of a book -/
abbrev bkList (fa : Option Addr) (fc : Nat) (la : Option Addr) (lc : Nat) (ga : Option Addr) (gc : Nat) (qa : Option Addr) (qc : Nat) (ta : Option Addr) (tc : Nat) (b : BookD) : List Value :=
  [.slice fa b.nf fc, .int .i64 b.win, .int .i64 b.draw, .int .i64 b.loss, .slice la b.nl lc, .bool b.again, .slice ga b.m gc, .slice qa b.nfa qc, .slice ta b.nta tc]
/-- at w, reached from w0: the box at block B holds the book, and its slices hold what they did -/
structure BkAt (w0 w : World) (B : Nat) (fa : Option Addr) (fc : Nat) (la : Option Addr) (lc : Nat) (ga : Option Addr) (gc : Nat) (qa : Option Addr) (qc : Nat) (ta : Option Addr) (tc : Nat) (b : BookD) : Prop where
  box : BoxN w B (bkList fa fc la lc ga gc qa qc ta tc b)
  row0 : BookRow w0 (.slice fa b.nf fc) (.slice la b.nl lc) (.slice ga b.m gc) (.slice qa b.nfa qc) (.slice ta b.nta tc) b
  bel : Below w0.heap.size w0 w
section
variable {w0 w w' : World} {B : Nat} {fa : Option Addr} {fc : Nat} {la : Option Addr} {lc : Nat} {ga : Option Addr} {gc : Nat} {qa : Option Addr} {qc : Nat} {ta : Option Addr} {tc : Nat} {b : BookD}
theorem BkAt.row (h : BkAt w0 w B fa fc la lc ga gc qa qc ta tc b) : BookRow w (.slice fa b.nf fc) (.slice la b.nl lc) (.slice ga b.m gc) (.slice qa b.nfa qc) (.slice ta b.nta tc) b := h.row0.below h.bel (Nat.le_refl _)
theorem BkAt.next (h : BkAt w0 w B fa fc la lc ga gc qa qc ta tc b) (hb : Below w.heap.size w w') : BkAt w0 w' B fa fc la lc ga gc qa qc ta tc b :=
  ⟨BoxN.below h.box hb, h.row0, h.bel.trans (hb.mono h.bel.size)⟩
theorem box_store {w : World} {B : Nat} {cs : List Value} (h : BoxN w B cs) {p : Addr} (hp : B ≠ p.block) (u : Value) : BoxN (w.setCell p u) B cs :=
  ⟨by have := h.1; simp; omega, fun j v hj => (World.cell?_of_block (w := w) (w' := w.setCell p u) (a := ⟨B, j, none⟩) (Below.heap_setCell w p u B hp)).trans (h.2 j v hj)⟩
theorem BkAt.store (h : BkAt w0 w B fa fc la lc ga gc qa qc ta tc b) {p : Addr} (hp : B ≠ p.block) (h0 : w0.heap.size ≤ p.block) (u : Value) : BkAt w0 (w.setCell p u) B fa fc la lc ga gc qa qc ta tc b :=
  ⟨box_store h.box hp u, h.row0, h.bel.setCell h0 u⟩
theorem BkAt.alloc (h : BkAt w0 w B fa fc la lc ga gc qa qc ta tc b) (o : Obj) : BkAt w0 (w.alloc o) B fa fc la lc ga gc qa qc ta tc b :=
  h.next ((Below.refl _ _).alloc (Nat.le_refl _) _)
theorem BkAt.made (h : BookRow w (.slice fa b.nf fc) (.slice la b.nl lc) (.slice ga b.m gc) (.slice qa b.nfa qc) (.slice ta b.nta tc) b) (t : TypeId) :
    BkAt w (w.alloc (.cells (bkList fa fc la lc ga gc qa qc ta tc b).toArray t)) w.heap.size fa fc la lc ga gc qa qc ta tc b :=
  ⟨BoxN.made (Below.refl _ _) rfl, h, (Below.refl _ _).alloc (Nat.le_refl _) _⟩
/-- the box lies behind a pending other one -/
theorem BkAt.made2 {u : World} (h : BookRow w0 (.slice fa b.nf fc) (.slice la b.nl lc) (.slice ga b.m gc) (.slice qa b.nfa qc) (.slice ta b.nta tc) b) (hu : Below w0.heap.size w0 u) (t : TypeId) (hB : u.heap.size = B) :
    BkAt w0 (u.alloc (.cells (bkList fa fc la lc ga gc qa qc ta tc b).toArray t)) B fa fc la lc ga gc qa qc ta tc b :=
  ⟨BoxN.made (Below.refl _ _) hB, h, hu.trans (((Below.refl _ _).alloc (Nat.le_refl _) _).mono hu.size)⟩
theorem BkAt.grown {q : Nat} (h : BkAt w0 w B fa fc la lc ga gc qa qc ta tc b) (hg : w.grownBy w' (some q)) (hq : B < q) (h0 : w0.heap.size ≤ B) : BkAt w0 w' B fa fc la lc ga gc qa qc ta tc b :=
  ⟨⟨Nat.lt_of_lt_of_le h.box.1 hg.size, fun j v hj => hg.cell (h.box.2 j v hj) (by simp; omega)⟩, h.row0, h.bel.grown hg h.bel.size (fun k e => by cases e; omega)⟩
/-- a world that a walk has built is named -/
theorem code_named {P : Program} {c : Code} {Q : Exit → Act → World → Prop} {a : Act} {w : World} (h : ∀ w', Hid (w' = w) → Code.wp P c Q a w') : Code.wp P c Q a w := h w rfl
theorem BkAt.cells (h : BkAt w0 w B fa fc la lc ga gc qa qc ta tc b) :
    w.cell? ⟨B, 0, none⟩ = some (.slice fa b.nf fc) ∧ w.cell? ⟨B, 1, none⟩ = some (.int .i64 b.win) ∧ w.cell? ⟨B, 2, none⟩ = some (.int .i64 b.draw) ∧ w.cell? ⟨B, 3, none⟩ = some (.int .i64 b.loss) ∧ w.cell? ⟨B, 4, none⟩ = some (.slice la b.nl lc) ∧ w.cell? ⟨B, 5, none⟩ = some (.bool b.again) ∧ w.cell? ⟨B, 6, none⟩ = some (.slice ga b.m gc) ∧ w.cell? ⟨B, 7, none⟩ = some (.slice qa b.nfa qc) ∧ w.cell? ⟨B, 8, none⟩ = some (.slice ta b.nta tc) :=
  ⟨h.box.2 0 _ rfl, h.box.2 1 _ rfl, h.box.2 2 _ rfl, h.box.2 3 _ rfl, h.box.2 4 _ rfl, h.box.2 5 _ rfl, h.box.2 6 _ rfl, h.box.2 7 _ rfl, h.box.2 8 _ rfl⟩
theorem BkAt.lt (h : BkAt w0 w B fa fc la lc ga gc qa qc ta tc b) : B < w.heap.size := h.box.1
theorem BkAt.size (h : BkAt w0 w B fa fc la lc ga gc qa qc ta tc b) : w0.heap.size ≤ w.heap.size := h.bel.size
end
theorem BookRow.sixty {w : World} {vf vl vg vfa vta : Value} {b : BookD} (h : BookRow w vf vl vg vfa vta b) : (b.nf : Int) ≤ 9223372036854775807 ∧ (b.nl : Int) ≤ 9223372036854775807 ∧ (b.m : Int) ≤ 9223372036854775807 ∧ (b.nfa : Int) ≤ 9223372036854775807 ∧ (b.nta : Int) ≤ 9223372036854775807 := by
  obtain ⟨_, _, _, h1, _⟩ := h.1.form
  obtain ⟨_, _, _, h2, _⟩ := h.2.1.form
  obtain ⟨_, _, _, h3, _⟩ := h.2.2.1.form
  obtain ⟨_, _, _, h4, _⟩ := h.2.2.2.1.form
  obtain ⟨_, _, _, h5, _⟩ := h.2.2.2.2.form
  exact ⟨by omega, by omega, by omega, by omega, by omega⟩
end Go.Proofs.Ytakbolkdbpehoaa
set_option linter.unusedVariables false
namespace Go.Proofs.Ytakbolkdbpehoaa
open Go.RowKit

theorem hasP_mem (L : List Int) (x : Int) : hasP (getI L) x L.length ↔ x ∈ L := by
  constructor
  · rintro ⟨j, hj, rfl⟩
    simp only [getI, List.getD_eq_getElem?_getD, List.getElem?_eq_getElem hj, Option.getD_some]
    exact List.getElem_mem hj
  · intro h
    obtain ⟨j, hj, he⟩ := List.getElem_of_mem h
    exact ⟨j, hj, by simp only [getI, List.getD_eq_getElem?_getD, List.getElem?_eq_getElem hj, Option.getD_some]; exact he⟩
theorem owns_form {w : World} {base : Nat} {e : TypeId} {size : Nat} {v : Value} {n : Nat} {xs : List Value} (h : w.ownsRow base e size v n xs) : ∃ a c, v = .slice a n c := by
  rcases h.2 with ⟨rfl, h0⟩ | ⟨b, cap, cur, rfl, _⟩
  · exact ⟨none, 0, by rw [h0]⟩
  · exact ⟨_, _, rfl⟩
end Go.Proofs.Ytakbolkdbpehoaa
set_option linter.unusedVariables false
namespace Go.Proofs.Ytakbolkdbpehoaa
open Go.RowKit

/-- a team's value for a key -/
def valD (key : Int) (r : RowD) (tk fr sd : Int) : Int :=
  if key = 1 then wrap64 (r.points - tk) else if key = 5 then r.points else if key = 2 ∨ key = 6 then wrap64 (r.scored - r.against) else if key = 3 then r.scored else if key = 4 then r.wins else if key = 7 then wrap64 (-fr) else if key = 8 then wrap64 (-sd) else 0
def bookT (b : BookD) (key : Int) (gg : Nat → Int) (ng : Nat) : Nat → RowD := tabR b.win b.draw b.loss (selG (!mutualB key) gg ng) b.g b.m
def bookV (b : BookD) (key : Int) (gg : Nat → Int) (ng : Nat) (i : Nat) : Int := valD key (bookT b key gg ng i) (b.ta i) (b.fa i) (b.f i).seed
theorem row_of {w : World} {a : Option Addr} {c n j : Nat} {T : Nat → RowD} (h : RowRow w (.slice a n c) n T) (hj : j < n) : ∃ bo off, a = some ⟨bo, off, none⟩ ∧ n ≤ c ∧ CellsAt w bo (off + j * 7) (T j).cells := by
  obtain ⟨aa, cap, he, _, hc⟩ := h.form
  simp only [Value.slice.injEq, true_and] at he
  obtain ⟨bo, off, h1, h2, h3⟩ := hc (by omega)
  obtain ⟨rfl, rfl⟩ := he
  exact ⟨bo, off, h1, h2, h3 j hj⟩
def valsL (V : Nat → Int) (k : Nat) : List Int := (List.range k).map V
theorem valsL_succ (V : Nat → Int) (k : Nat) : valsL V (k + 1) = valsL V k ++ [V k] := by unfold valsL; rw [List.range_succ, List.map_append]; rfl
set_option maxRecDepth 100000 in
set_option maxHeartbeats 4000000 in
theorem l07Values_spec (vf vl vg vfa vta : Value) (b : BookD) (key : Int) (gv : Value) (ng : Nat) (gg : Nat → Int) (w : World) (hp : bookP b) (h : BookRow w vf vl vg vfa vta b) (hgv : IntRow w gv ng gg) :
    Calls Try.prog 32 #[.agg #[vf, .int .i64 b.win, .int .i64 b.draw, .int .i64 b.loss, vl, .bool b.again, vg, vfa, vta], .int .i64 key, gv] w (IntsL w (valsL (bookV b key gg ng) b.nf)) := by
  obtain ⟨i0, hi, hz0, hz1, hz2⟩ := info_parts Try.infoI
  obtain ⟨fa, fc, la, lc, ga, gc, qa, qc, ta, tc, rfl, rfl, rfl, rfl, rfl⟩ := h.form
  have hn8 : b.nf ≤ 8 := by have := hp.1.1; omega
  have hfa : b.nfa = b.nf := hp.2.2.2.1
  have hta : b.nta = b.nf := hp.2.2.2.2.1
  have CAM := Lib.hid (fun wa h1 h2 => l06Among_spec b.win b.draw b.loss (.slice la b.nl lc) b.again b.nf b.m (.slice ga b.m gc) b.g gv ng gg (!mutualB key) wa ⟨_, _, _, rfl⟩ hn8 h1 h2 (fun i hi => (hp.2.2.1.2 i hi).1))
  obtain ⟨T, hT⟩ : ∃ T, tabR b.win b.draw b.loss (selG (!mutualB key) gg ng) b.g b.m = T := ⟨_, rfl⟩
  rw [hT] at CAM
  have HVd : Hid (∀ i, bookV b key gg ng i = valD key (T i) (b.ta i) (b.fa i) (b.f i).seed) := fun i => by rw [← hT]; rfl
  generalize bookV b key gg ng = V at *
  generalize hmu : mutualB key = mu at *
  have HMU := Lib.hid hmu
  have HFA := Lib.hid hfa
  have HTA := Lib.hid hta
  have CMU : Hid (∀ wa, Calls Try.prog 51 #[.int .i64 key] wa fun e w' => e = .returned (.bool mu) ∧ Below wa.heap.size wa w') := fun wa => by rw [← HMU.out]; exact (isMutual_spec key wa).mono fun _ _ h => ⟨h.1, by rw [← h.2]; exact Below.refl _ _⟩
  have b0 := (Below.refl w.heap.size w).alloc (Nat.le_refl _) (.cells #[.slice fa b.nf fc, .int .i64 b.win, .int .i64 b.draw, .int .i64 b.loss, .slice la b.nl lc, .bool b.again, .slice ga b.m gc, .slice qa b.nfa qc, .slice ta b.nta tc] 35)
  have BX0 := Lib.hid (BoxN.made (Below.refl (w.alloc (.cells #[.slice fa b.nf fc, .int .i64 b.win, .int .i64 b.draw, .int .i64 b.loss, .slice la b.nl lc, .bool b.again, .slice ga b.m gc, .slice qa b.nfa qc, .slice ta b.nta tc] 35)).heap.size (w.alloc (.cells #[.slice fa b.nf fc, .int .i64 b.win, .int .i64 b.draw, .int .i64 b.loss, .slice la b.nl lc, .bool b.again, .slice ga b.m gc, .slice qa b.nfa qc, .slice ta b.nta tc] 35))) (B := w.heap.size) rfl)
  have BR0 := Lib.hid (h.below b0 (Nat.le_refl _))
  have GR0 := Lib.hid (hgv.below b0 (Nat.le_refl _))
  have HB0 := Lib.hid b0
  clear h b0 hT hmu hp hgv hfa hta
  go_enter Try.func32, Try.ntmps32
  obtain ⟨S, HSd⟩ : ∃ S : World → Prop, S = fun w' => BoxN w' w.heap.size [.slice fa b.nf fc, .int .i64 b.win, .int .i64 b.draw, .int .i64 b.loss, .slice la b.nl lc, .bool b.again, .slice ga b.m gc, .slice qa b.nfa qc, .slice ta b.nta tc] ∧ BookRow w' (.slice fa b.nf fc) (.slice la b.nl lc) (.slice ga b.m gc) (.slice qa b.nfa qc) (.slice ta b.nta tc) b ∧ IntRow w' gv ng gg ∧ Below w.heap.size w w' := ⟨_, rfl⟩
  have KS : Hid (∀ wa wb, S wa → Below wa.heap.size wa wb → S wb) := by subst HSd; exact fun wa wb ⟨bx, br, gr, hb⟩ b0 => ⟨bx.below b0, br.below b0 (Nat.le_refl _), gr.below b0 (Nat.le_refl _), hb.trans (b0.mono hb.size)⟩
  have OS : Hid (∀ wa, S wa → BoxN wa w.heap.size [.slice fa b.nf fc, .int .i64 b.win, .int .i64 b.draw, .int .i64 b.loss, .slice la b.nl lc, .bool b.again, .slice ga b.m gc, .slice qa b.nfa qc, .slice ta b.nta tc] ∧ BookRow wa (.slice fa b.nf fc) (.slice la b.nl lc) (.slice ga b.m gc) (.slice qa b.nfa qc) (.slice ta b.nta tc) b ∧ IntRow wa gv ng gg ∧ Below w.heap.size w wa) := by subst HSd; exact fun wa h => h
  have KS0 : Hid (S (w.alloc (.cells #[.slice fa b.nf fc, .int .i64 b.win, .int .i64 b.draw, .int .i64 b.loss, .slice la b.nl lc, .bool b.again, .slice ga b.m gc, .slice qa b.nfa qc, .slice ta b.nta tc] 35)).drew) := by subst HSd; exact ⟨BX0.out.below (Below.refl _ _).drew, BR0.out.below (Below.refl _ _).drew (Nat.le_refl _), GR0.out.below (Below.refl _ _).drew (Nat.le_refl _), HB0.out.drew⟩
  clear HSd
  go_wp2_with fail
  refine wp_region_held_drew (S := S) (by kernel_rfl) ?_ (fun hHeld => ?_)
  · exact KS0.out
  clear KS0 
  refine wpAnyH_take (i := 0) (v := ?_) rfl (by kernel_rfl) (by kernel_rfl) (by kernel_rfl) (fun _ _ _ h => h) (Or.inl ⟨by rfl, ?_⟩) hHeld ?_
  rotate_left
  · (intro wa hSw; obtain ⟨bx, br, gr, hb⟩ := OS.out _ hSw; skip; go_simp; try with_reducible rfl)
  simp only [Act.put, List.getElem_toArray, List.getElem_cons_zero, List.setIfInBounds_toArray, List.set_cons_zero, List.set_cons_succ]
  refine wpAnyH_take (i := 1) (v := ?_) rfl (by kernel_rfl) (by kernel_rfl) (by kernel_rfl) (fun _ _ _ h => h) (Or.inl ⟨by rfl, ?_⟩) hHeld ?_
  rotate_left
  · (intro wa hSw; obtain ⟨bx, br, gr, hb⟩ := OS.out _ hSw; have d0 := bx.2 0 _ rfl; have d1 := bx.2 1 _ rfl; have d2 := bx.2 2 _ rfl; have d3 := bx.2 3 _ rfl; have d4 := bx.2 4 _ rfl; have d5 := bx.2 5 _ rfl; have d6 := bx.2 6 _ rfl; have d7 := bx.2 7 _ rfl; have d8 := bx.2 8 _ rfl; go_simp; try with_reducible rfl)
  simp only [Act.put, List.getElem_toArray, List.getElem_cons_zero, List.getElem_cons_succ, List.setIfInBounds_toArray, List.set_cons_zero, List.set_cons_succ]
  refine wpAnyH_take (i := 2) (v := ?_) rfl (by kernel_rfl) (by kernel_rfl) (by kernel_rfl) (fun _ _ _ h => h) (Or.inl ⟨by rfl, ?_⟩) hHeld ?_
  rotate_left
  · (intro wa hSw; obtain ⟨bx, br, gr, hb⟩ := OS.out _ hSw; skip; go_simp; try with_reducible rfl)
  simp only [Act.put, List.getElem_toArray, List.getElem_cons_zero, List.getElem_cons_succ, List.setIfInBounds_toArray, List.set_cons_zero, List.set_cons_succ]
  refine wpAnyH_take (i := 3) (v := ?_) rfl (by kernel_rfl) (by kernel_rfl) (by kernel_rfl) (fun _ _ _ h => h) (Or.inl ⟨by rfl, ?_⟩) hHeld ?_
  rotate_left
  · (intro wa hSw; obtain ⟨bx, br, gr, hb⟩ := OS.out _ hSw; have d0 := bx.2 0 _ rfl; have d1 := bx.2 1 _ rfl; have d2 := bx.2 2 _ rfl; have d3 := bx.2 3 _ rfl; have d4 := bx.2 4 _ rfl; have d5 := bx.2 5 _ rfl; have d6 := bx.2 6 _ rfl; have d7 := bx.2 7 _ rfl; have d8 := bx.2 8 _ rfl; go_simp; try with_reducible rfl)
  simp only [Act.put, List.getElem_toArray, List.getElem_cons_zero, List.getElem_cons_succ, List.setIfInBounds_toArray, List.set_cons_zero, List.set_cons_succ]
  refine wpAnyH_take (i := 4) (v := ?_) rfl (by kernel_rfl) (by kernel_rfl) (by kernel_rfl) (fun _ _ _ h => h) (Or.inl ⟨by rfl, ?_⟩) hHeld ?_
  rotate_left
  · (intro wa hSw; obtain ⟨bx, br, gr, hb⟩ := OS.out _ hSw; skip; go_simp; try with_reducible rfl)
  simp only [Act.put, List.getElem_toArray, List.getElem_cons_zero, List.getElem_cons_succ, List.setIfInBounds_toArray, List.set_cons_zero, List.set_cons_succ]
  refine wpAnyH_take (i := 5) (v := ?_) rfl (by kernel_rfl) (by kernel_rfl) (by kernel_rfl) (fun _ _ _ h => h) (Or.inl ⟨by rfl, ?_⟩) hHeld ?_
  rotate_left
  · (intro wa hSw; obtain ⟨bx, br, gr, hb⟩ := OS.out _ hSw; skip; go_simp; try with_reducible rfl)
  simp only [Act.put, List.getElem_toArray, List.getElem_cons_zero, List.getElem_cons_succ, List.setIfInBounds_toArray, List.set_cons_zero, List.set_cons_succ]
  refine wpAnyH_take (i := 6) (v := ?_) rfl (by kernel_rfl) (by kernel_rfl) (by kernel_rfl) (fun _ _ _ h => h) (Or.inl ⟨by rfl, ?_⟩) hHeld ?_
  rotate_left
  · (intro wa hSw; obtain ⟨bx, br, gr, hb⟩ := OS.out _ hSw; have d0 := bx.2 0 _ rfl; have d1 := bx.2 1 _ rfl; have d2 := bx.2 2 _ rfl; have d3 := bx.2 3 _ rfl; have d4 := bx.2 4 _ rfl; have d5 := bx.2 5 _ rfl; have d6 := bx.2 6 _ rfl; have d7 := bx.2 7 _ rfl; have d8 := bx.2 8 _ rfl; go_simp; try with_reducible rfl)
  simp only [Act.put, List.getElem_toArray, List.getElem_cons_zero, List.getElem_cons_succ, List.setIfInBounds_toArray, List.set_cons_zero, List.set_cons_succ]
  refine wpAnyH_take (i := 7) (v := ?_) rfl (by kernel_rfl) (by kernel_rfl) (by kernel_rfl) (fun _ _ _ h => h) (Or.inl ⟨by rfl, ?_⟩) hHeld ?_
  rotate_left
  · (intro wa hSw; obtain ⟨bx, br, gr, hb⟩ := OS.out _ hSw; skip; go_simp; try with_reducible rfl)
  simp only [Act.put, List.getElem_toArray, List.getElem_cons_zero, List.getElem_cons_succ, List.setIfInBounds_toArray, List.set_cons_zero, List.set_cons_succ]
  refine wpAnyH_take (i := 8) (v := ?_) rfl (by kernel_rfl) (by kernel_rfl) (by kernel_rfl) (fun _ _ _ h => h) (Or.inl ⟨by rfl, ?_⟩) hHeld ?_
  rotate_left
  · (intro wa hSw; obtain ⟨bx, br, gr, hb⟩ := OS.out _ hSw; skip; go_simp; try with_reducible rfl)
  simp only [Act.put, List.getElem_toArray, List.getElem_cons_zero, List.getElem_cons_succ, List.setIfInBounds_toArray, List.set_cons_zero, List.set_cons_succ]
  refine wpAnyH_ready (rs := [9]) (by kernel_rfl) (by simp) ?_
  refine AllReadyH.cons (o := _) rfl (fun K hK => ?_) AllReadyH.nil
  go_simp
  obtain ⟨bx, br, gr, hb⟩ := OS.out _ hHeld
  refine (CMU.out _).mono ?_
  rintro e w101 ⟨rfl, b101⟩
  clear bx br gr hb
  (try go_wp2_with fail)
  refine hK.out _ _ ?_ (fun hHeld101 => ?_)
  · exact KS.out _ _ hHeld b101
  clear hK K
  refine wpAnyH_take (i := 10) (v := ?_) rfl (by kernel_rfl) (by kernel_rfl) (by kernel_rfl) (fun _ _ _ h => h) (Or.inl ⟨by rfl, ?_⟩) hHeld101 ?_
  rotate_left
  · (intro wa hSw; obtain ⟨bx, br, gr, hb⟩ := OS.out _ hSw; skip; go_simp; try with_reducible rfl)
  simp only [Act.put, List.getElem_toArray, List.getElem_cons_zero, List.getElem_cons_succ, List.setIfInBounds_toArray, List.set_cons_zero, List.set_cons_succ]
  refine wpAnyH_ready (rs := [11]) (by kernel_rfl) (by simp) ?_
  refine AllReadyH.cons (o := _) rfl (fun K hK => ?_) AllReadyH.nil
  go_simp
  obtain ⟨bx, br, gr, hb⟩ := OS.out _ hHeld101
  refine (CAM.out _ br.2.2.1 gr).mono ?_
  rintro e w102 ⟨v7, xs7, rfl, ho7, hc7, b102⟩
  clear bx br gr hb
  have ho8 := Lib.hid ho7
  have hc8 := Lib.hid hc7
  clear ho7 hc7
  (try go_wp2_with fail)
  refine hK.out _ _ ?_ (fun hHeld102 => ?_)
  · exact KS.out _ _ hHeld101 b102
  clear hK K
  clear hHeld101
  refine wpAnyH_take (i := 12) (v := ?_) rfl (by kernel_rfl) (by kernel_rfl) (by kernel_rfl) (fun _ _ _ h => h) (Or.inl ⟨by rfl, ?_⟩) hHeld102 ?_
  rotate_left
  · (intro wa hSw; obtain ⟨bx, br, gr, hb⟩ := OS.out _ hSw; skip; go_simp; try with_reducible rfl)
  simp only [Act.put, List.getElem_toArray, List.getElem_cons_zero, List.getElem_cons_succ, List.setIfInBounds_toArray, List.set_cons_zero, List.set_cons_succ]
  refine wpAnyH_done (by kernel_rfl) ?_ _
  obtain ⟨bx, br, gr, hb⟩ := OS.out _ hHeld102
  clear KS OS hHeld hHeld102
  have RR := Lib.hid (show RowRow _ _ _ T from RecRow.of_owns ho8.out (by omega) hc8.out (fun _ _ => Nat.le_refl _))
  obtain ⟨s7a, s7c, rfl⟩ := owns_form ho8.out
  have HBR := Lib.hid br
  have HBX := Lib.hid bx
  have HHB := Lib.hid hb
  have o0 := World.ownsRow_lit (e := 3) (size := 1) w102 #[] 0 (Nat.le_refl _) (by decide) rfl
  have HO0 := Lib.hid o0
  have HB9 := Lib.hid ((Below.refl w102.heap.size w102).alloc (Nat.le_refl _) (.cells #[] 3))
  clear ho8 hc8 o0 br bx gr hb BX0 BR0 GR0 HB0
  go_wp2
  go_loopw [8, 27] (fun ov iv wr => ∃ k : Nat, k ≤ b.nf ∧ iv = .int .i64 k ∧ Hid (wr.ownsRow w102.heap.size 3 1 ov k ((valsL V k).map (Value.int .i64))) ∧ Hid (Below w102.heap.size w102 wr)) (fun _ iv _ => b.nf - (intOf iv).toNat)
  case atStart => exact ⟨0, Nat.zero_le _, rfl, HO0, HB9⟩
  case round =>
    clear HO0 HB9
    obtain ⟨k, hk, rfl, HO, HB⟩ := hrel
    by_cases hlt : k < b.nf
    · have RRw := RR.out.below HB.out (Nat.le_refl _)
      obtain ⟨b7, o7, rfl, hcap7, p7⟩ := row_of RRw hlt
      obtain ⟨c0, c1, c2, c3, c4, c5, c6⟩ := row_cells p7
      have BRw := HBR.out.below HB.out (Nat.le_refl _)
      obtain ⟨q1, p1, rfl, hcq, u1⟩ : ∃ bo off, qa = some ⟨bo, off, none⟩ ∧ b.nfa ≤ qc ∧ wr.cell? ⟨bo, off + k, none⟩ = some (.int .i64 (b.fa k)) := int_at BRw.2.2.2.1 (by have := HFA.out; omega)
      obtain ⟨q2, p2, rfl, hct, u2⟩ : ∃ bo off, ta = some ⟨bo, off, none⟩ ∧ b.nta ≤ tc ∧ wr.cell? ⟨bo, off + k, none⟩ = some (.int .i64 (b.ta k)) := int_at BRw.2.2.2.2 (by have := HTA.out; omega)
      obtain ⟨q3, p3, rfl, hcf, u3⟩ : ∃ bo off, fa = some ⟨bo, off, none⟩ ∧ b.nf ≤ fc ∧ wr.cell? ⟨bo, off + k * 3 + 2, none⟩ = some (.int .i64 (b.f k).seed) := by
        obtain ⟨a, cap, he, _, hc⟩ := BRw.1.form'
        simp only [Value.slice.injEq, true_and] at he
        obtain ⟨rfl, rfl⟩ := he
        obtain ⟨bo, off, rfl, hcc, hcs⟩ := hc (by omega)
        exact ⟨bo, off, rfl, hcc, (hcs k hlt).2.2⟩
      have hq1 : q1 < wr.heap.size := World.block_lt_of_cell? wr _ u1
      have hq2 : q2 < wr.heap.size := World.block_lt_of_cell? wr _ u2
      have hq3 : q3 < wr.heap.size := World.block_lt_of_cell? wr _ u3
      have e1 : (k : Int) < b.nfa := by have := HFA.out; omega
      have e2 : (k : Int) < b.nta := by have := HTA.out; omega
      have e3 : (k : Int) < b.nf := by omega
      have e1n : k < b.nfa := by omega
      have e2n : k < b.nta := by omega
      have x3 := (HBX.out.below HB.out).2 0 _ rfl
      have x7 := (HBX.out.below HB.out).2 7 _ rfl
      have x8 := (HBX.out.below HB.out).2 8 _ rfl
      have hBl := HBX.out.1
      have hBl2 : w.heap.size < wr.heap.size := Nat.lt_of_lt_of_le hBl HB.out.size
      have HVk0 := Lib.hid (HVd.out k)
      generalize T k = y at *
      generalize b.fa k = fk at *
      generalize b.ta k = tk at *
      generalize (b.f k).seed = sk at *
      have hsz := HB.out.size
      have hg0 : Below wr.heap.size wr (wr.alloc (.cells #[.int .i64 y.played, .int .i64 y.wins, .int .i64 y.draws, .int .i64 y.losses, .int .i64 y.scored, .int .i64 y.against, .int .i64 y.points] 90)) := (Below.refl _ _).alloc (Nat.le_refl _) _
      have hown2 := owns_below HO.out hg0 (Nat.le_refl _)
      have hb2 := Lib.hid (HB.out.trans (hg0.mono hsz))
      have hsz2 := hb2.out.size
      have hk64 : k + 1 ≤ maxLen := by unfold maxLen; omega
      have CDF := Lib.hid (fun wa => differenceOf_spec y wa)
      clear HO HB RRw BRw hg0 p7
      by_cases k1 : key = 1
      · subst k1
        have HVk : Hid (V k = wrap64 (y.points - tk)) := HVk0.out.trans (by unfold valD; simp)
        clear HVk0
        go_wp2
        go_quiet (fail)
        go_wp2_with (at_builtin; refine wpList_pushL rfl (.tmp 77) (.tmp 79) 23 rfl w102.heap.size 3 Try.underlying23 hi hz0 hz1 hz2 rfl (by decide) [.int .i64 (wrap64 (y.points - tk))] rfl (by intro u hu; simp at hu; subst hu; rfl) rfl (by show Value.slice (some ⟨_, 0, none⟩) 1 1 = _; simp) (owns_drewN hown2) hk64 (by omega) hsz2 ?_; intro gg5 cc5 w5 o5 g5 at5 lt5)
        have hHB := Lib.hid ((below_drewN hb2.out _).grown g5 hsz2 (fun q hq => (hown2.lt q hq).1))
        have hO5 : Hid (w5.ownsRow w102.heap.size 3 1 (.slice (some ⟨gg5, 0, none⟩) (k + 1) cc5) (k + 1) ((valsL V (k + 1)).map (Value.int .i64))) := by rw [valsL_succ, List.map_append, HVk.out]; exact o5
        clear o5 g5 at5 hown2 HVk
        go_roundw
        case rel => exact ⟨k + 1, by omega, by go_num, hO5, hHB⟩
        case measure => simp [intOf]; omega
      have g1 : (key == 1) = false := beq_eq_false_iff_ne.2 k1
      by_cases k5 : key = 5
      · subst k5
        have HVk : Hid (V k = y.points) := HVk0.out.trans (by unfold valD; simp)
        clear HVk0
        go_wp2_with (at_builtin; refine wpList_pushL rfl (.tmp 77) (.tmp 79) 23 rfl w102.heap.size 3 Try.underlying23 hi hz0 hz1 hz2 rfl (by decide) [.int .i64 (y.points)] rfl (by intro u hu; simp at hu; subst hu; rfl) rfl (by show Value.slice (some ⟨_, 0, none⟩) 1 1 = _; simp) hown2 hk64 (by omega) hsz2 ?_; intro gg5 cc5 w5 o5 g5 at5 lt5)
        have hHB := Lib.hid (hb2.out.grown g5 hsz2 (fun q hq => (hown2.lt q hq).1))
        have hO5 : Hid (w5.ownsRow w102.heap.size 3 1 (.slice (some ⟨gg5, 0, none⟩) (k + 1) cc5) (k + 1) ((valsL V (k + 1)).map (Value.int .i64))) := by rw [valsL_succ, List.map_append, HVk.out]; exact o5
        clear o5 g5 at5 hown2 HVk
        go_roundw
        case rel => exact ⟨k + 1, by omega, by go_num, hO5, hHB⟩
        case measure => simp [intOf]; omega
      have g5 : (key == 5) = false := beq_eq_false_iff_ne.2 k5
      by_cases k2 : key = 2
      · subst k2
        have HVk : Hid (V k = wrap64 (y.scored - y.against)) := HVk0.out.trans (by unfold valD; simp)
        clear HVk0
        go_wp2_with fail
        refine (CDF.out _).mono ?_
        rintro e wd ⟨rfl, bd⟩
        replace hown2 := owns_below hown2 bd (Nat.le_refl _)
        replace hb2 := Lib.hid (hb2.out.trans (bd.mono hsz2))
        replace hsz2 := hb2.out.size
        clear bd
        go_wp2_with (at_builtin; refine wpList_pushL rfl (.tmp 77) (.tmp 79) 23 rfl w102.heap.size 3 Try.underlying23 hi hz0 hz1 hz2 rfl (by decide) [.int .i64 (wrap64 (y.scored - y.against))] rfl (by intro u hu; simp at hu; subst hu; rfl) rfl (by show Value.slice (some ⟨_, 0, none⟩) 1 1 = _; simp) hown2 hk64 (by omega) hsz2 ?_; intro gg5 cc5 w5 o5 g5 at5 lt5)
        have hHB := Lib.hid (hb2.out.grown g5 hsz2 (fun q hq => (hown2.lt q hq).1))
        have hO5 : Hid (w5.ownsRow w102.heap.size 3 1 (.slice (some ⟨gg5, 0, none⟩) (k + 1) cc5) (k + 1) ((valsL V (k + 1)).map (Value.int .i64))) := by rw [valsL_succ, List.map_append, HVk.out]; exact o5
        clear o5 g5 at5 hown2 HVk
        go_roundw
        case rel => exact ⟨k + 1, by omega, by go_num, hO5, hHB⟩
        case measure => simp [intOf]; omega
      have g2 : (key == 2) = false := beq_eq_false_iff_ne.2 k2
      by_cases k6 : key = 6
      · subst k6
        have HVk : Hid (V k = wrap64 (y.scored - y.against)) := HVk0.out.trans (by unfold valD; simp)
        clear HVk0
        go_wp2_with fail
        refine (CDF.out _).mono ?_
        rintro e wd ⟨rfl, bd⟩
        replace hown2 := owns_below hown2 bd (Nat.le_refl _)
        replace hb2 := Lib.hid (hb2.out.trans (bd.mono hsz2))
        replace hsz2 := hb2.out.size
        clear bd
        go_wp2_with (at_builtin; refine wpList_pushL rfl (.tmp 77) (.tmp 79) 23 rfl w102.heap.size 3 Try.underlying23 hi hz0 hz1 hz2 rfl (by decide) [.int .i64 (wrap64 (y.scored - y.against))] rfl (by intro u hu; simp at hu; subst hu; rfl) rfl (by show Value.slice (some ⟨_, 0, none⟩) 1 1 = _; simp) hown2 hk64 (by omega) hsz2 ?_; intro gg5 cc5 w5 o5 g5 at5 lt5)
        have hHB := Lib.hid (hb2.out.grown g5 hsz2 (fun q hq => (hown2.lt q hq).1))
        have hO5 : Hid (w5.ownsRow w102.heap.size 3 1 (.slice (some ⟨gg5, 0, none⟩) (k + 1) cc5) (k + 1) ((valsL V (k + 1)).map (Value.int .i64))) := by rw [valsL_succ, List.map_append, HVk.out]; exact o5
        clear o5 g5 at5 hown2 HVk
        go_roundw
        case rel => exact ⟨k + 1, by omega, by go_num, hO5, hHB⟩
        case measure => simp [intOf]; omega
      have g6 : (key == 6) = false := beq_eq_false_iff_ne.2 k6
      by_cases k3 : key = 3
      · subst k3
        have HVk : Hid (V k = y.scored) := HVk0.out.trans (by unfold valD; simp)
        clear HVk0
        go_wp2_with (at_builtin; refine wpList_pushL rfl (.tmp 77) (.tmp 79) 23 rfl w102.heap.size 3 Try.underlying23 hi hz0 hz1 hz2 rfl (by decide) [.int .i64 (y.scored)] rfl (by intro u hu; simp at hu; subst hu; rfl) rfl (by show Value.slice (some ⟨_, 0, none⟩) 1 1 = _; simp) hown2 hk64 (by omega) hsz2 ?_; intro gg5 cc5 w5 o5 g5 at5 lt5)
        have hHB := Lib.hid (hb2.out.grown g5 hsz2 (fun q hq => (hown2.lt q hq).1))
        have hO5 : Hid (w5.ownsRow w102.heap.size 3 1 (.slice (some ⟨gg5, 0, none⟩) (k + 1) cc5) (k + 1) ((valsL V (k + 1)).map (Value.int .i64))) := by rw [valsL_succ, List.map_append, HVk.out]; exact o5
        clear o5 g5 at5 hown2 HVk
        go_roundw
        case rel => exact ⟨k + 1, by omega, by go_num, hO5, hHB⟩
        case measure => simp [intOf]; omega
      have g3 : (key == 3) = false := beq_eq_false_iff_ne.2 k3
      by_cases k4 : key = 4
      · subst k4
        have HVk : Hid (V k = y.wins) := HVk0.out.trans (by unfold valD; simp)
        clear HVk0
        go_wp2_with (at_builtin; refine wpList_pushL rfl (.tmp 77) (.tmp 79) 23 rfl w102.heap.size 3 Try.underlying23 hi hz0 hz1 hz2 rfl (by decide) [.int .i64 (y.wins)] rfl (by intro u hu; simp at hu; subst hu; rfl) rfl (by show Value.slice (some ⟨_, 0, none⟩) 1 1 = _; simp) hown2 hk64 (by omega) hsz2 ?_; intro gg5 cc5 w5 o5 g5 at5 lt5)
        have hHB := Lib.hid (hb2.out.grown g5 hsz2 (fun q hq => (hown2.lt q hq).1))
        have hO5 : Hid (w5.ownsRow w102.heap.size 3 1 (.slice (some ⟨gg5, 0, none⟩) (k + 1) cc5) (k + 1) ((valsL V (k + 1)).map (Value.int .i64))) := by rw [valsL_succ, List.map_append, HVk.out]; exact o5
        clear o5 g5 at5 hown2 HVk
        go_roundw
        case rel => exact ⟨k + 1, by omega, by go_num, hO5, hHB⟩
        case measure => simp [intOf]; omega
      have g4 : (key == 4) = false := beq_eq_false_iff_ne.2 k4
      by_cases k7 : key = 7
      · subst k7
        have HVk : Hid (V k = wrap64 (-fk)) := HVk0.out.trans (by unfold valD; simp)
        clear HVk0
        go_wp2_with (at_builtin; refine wpList_pushL rfl (.tmp 77) (.tmp 79) 23 rfl w102.heap.size 3 Try.underlying23 hi hz0 hz1 hz2 rfl (by decide) [.int .i64 (wrap64 (-fk))] rfl (by intro u hu; simp at hu; subst hu; rfl) rfl (by show Value.slice (some ⟨_, 0, none⟩) 1 1 = _; simp) hown2 hk64 (by omega) hsz2 ?_; intro gg5 cc5 w5 o5 g5 at5 lt5)
        have hHB := Lib.hid (hb2.out.grown g5 hsz2 (fun q hq => (hown2.lt q hq).1))
        have hO5 : Hid (w5.ownsRow w102.heap.size 3 1 (.slice (some ⟨gg5, 0, none⟩) (k + 1) cc5) (k + 1) ((valsL V (k + 1)).map (Value.int .i64))) := by rw [valsL_succ, List.map_append, HVk.out]; exact o5
        clear o5 g5 at5 hown2 HVk
        go_roundw
        case rel => exact ⟨k + 1, by omega, by go_num, hO5, hHB⟩
        case measure => simp [intOf]; omega
      have g7 : (key == 7) = false := beq_eq_false_iff_ne.2 k7
      by_cases k8 : key = 8
      · subst k8
        have HVk : Hid (V k = wrap64 (-sk)) := HVk0.out.trans (by unfold valD; simp)
        clear HVk0
        go_wp2_with (at_builtin; refine wpList_pushL rfl (.tmp 77) (.tmp 79) 23 rfl w102.heap.size 3 Try.underlying23 hi hz0 hz1 hz2 rfl (by decide) [.int .i64 (wrap64 (-sk))] rfl (by intro u hu; simp at hu; subst hu; rfl) rfl (by show Value.slice (some ⟨_, 0, none⟩) 1 1 = _; simp) hown2 hk64 (by omega) hsz2 ?_; intro gg5 cc5 w5 o5 g5 at5 lt5)
        have hHB := Lib.hid (hb2.out.grown g5 hsz2 (fun q hq => (hown2.lt q hq).1))
        have hO5 : Hid (w5.ownsRow w102.heap.size 3 1 (.slice (some ⟨gg5, 0, none⟩) (k + 1) cc5) (k + 1) ((valsL V (k + 1)).map (Value.int .i64))) := by rw [valsL_succ, List.map_append, HVk.out]; exact o5
        clear o5 g5 at5 hown2 HVk
        go_roundw
        case rel => exact ⟨k + 1, by omega, by go_num, hO5, hHB⟩
        case measure => simp [intOf]; omega
      have g8 : (key == 8) = false := beq_eq_false_iff_ne.2 k8
      have HVk : Hid (V k = 0) := HVk0.out.trans (by unfold valD; simp [k1, k2, k3, k4, k5, k6, k7, k8])
      clear HVk0 k1 k2 k3 k4 k5 k6 k7 k8
      go_wp2_with (at_builtin; refine wpList_pushL rfl (.tmp 77) (.tmp 79) 23 rfl w102.heap.size 3 Try.underlying23 hi hz0 hz1 hz2 rfl (by decide) [.int .i64 (0)] rfl (by intro u hu; simp at hu; subst hu; rfl) rfl (by show Value.slice (some ⟨_, 0, none⟩) 1 1 = _; simp) hown2 hk64 (by omega) hsz2 ?_; intro gg5 cc5 w5 o5 g5 at5 lt5)
      have hHB := Lib.hid (hb2.out.grown g5 hsz2 (fun q hq => (hown2.lt q hq).1))
      have hO5 : Hid (w5.ownsRow w102.heap.size 3 1 (.slice (some ⟨gg5, 0, none⟩) (k + 1) cc5) (k + 1) ((valsL V (k + 1)).map (Value.int .i64))) := by rw [valsL_succ, List.map_append, HVk.out]; exact o5
      clear o5 g5 at5 hown2 HVk
      go_roundw
      case rel => exact ⟨k + 1, by omega, by go_num, hO5, hHB⟩
      case measure => simp [intOf]; omega
    · obtain rfl : b.nf = k := by omega
      have hbE := HHB.out.trans (HB.out.mono HHB.out.size)
      have hoE := owns_mono HO.out HHB.out.size
      go_wp2
      go_ret
      have hlen : (valsL V b.nf).length = b.nf := by unfold valsL; simp
      exact ⟨_, rfl, by rw [hlen]; exact hoE, hbE⟩

end Go.Proofs.Ytakbolkdbpehoaa
set_option linter.unusedVariables false
namespace Go.Proofs.Ytakbolkdbpehoaa
open Go.RowKit

/-- the value is asked of a valid book and a team of its field -/
def keyP (b : BookD) (team : Int) : Prop := bookP b ∧ 0 ≤ team ∧ team ≤ b.nf - 1
theorem keyValue_spec (vf vl vg vfa vta : Value) (b : BookD) (key team : Int) (gv : Value) (ng : Nat) (gg : Nat → Int) (R : Bool) (w : World) (hR : R = true ↔ keyP b team) (h : BookRow w vf vl vg vfa vta b) (hs : ∀ i, (b.f i).nm.size ≤ maxLen) (hgv : IntRow w gv ng gg) :
    Calls Try.prog 10 #[.agg #[vf, .int .i64 b.win, .int .i64 b.draw, .int .i64 b.loss, vl, .bool b.again, vg, vfa, vta], .int .i64 key, .int .i64 team, gv] w fun e w' =>
      e = .returned (.int .i64 (if R = true then bookV b key gg ng team.toNat else 0)) ∧ Below w.heap.size w w' := by
  obtain ⟨fa, fc, la, lc, ga, gc, qa, qc, ta, tc, rfl, rfl, rfl, rfl, rfl⟩ := h.form
  obtain ⟨r1, hr1⟩ := boolEx (bookP b)
  have C1 := Lib.hid (fun wa h1 => bookOk_spec (.slice fa b.nf fc) (.slice la b.nl lc) (.slice ga b.m gc) (.slice qa b.nfa qc) (.slice ta b.nta tc) b r1 wa hr1 h1 hs)
  have C2 := Lib.hid (fun (hb : bookP b) wa h1 h2 => l07Values_spec (.slice fa b.nf fc) (.slice la b.nl lc) (.slice ga b.m gc) (.slice qa b.nfa qc) (.slice ta b.nta tc) b key gv ng gg wa hb h1 h2)
  have hall : R = true ↔ (r1 = true ∧ 0 ≤ team ∧ team ≤ b.nf - 1) := by rw [hR, hr1]; exact Iff.rfl
  have HN := Lib.hid (boolF hall)
  have HY := Lib.hid (boolT hall)
  have HB1 : Hid (r1 = true → bookP b) := hr1.1
  have b0 := (Below.refl w.heap.size w).alloc (Nat.le_refl _) (.cells #[.slice fa b.nf fc, .int .i64 b.win, .int .i64 b.draw, .int .i64 b.loss, .slice la b.nl lc, .bool b.again, .slice ga b.m gc, .slice qa b.nfa qc, .slice ta b.nta tc] 35)
  have BX0 := Lib.hid (BoxN.made (Below.refl (w.alloc (.cells #[.slice fa b.nf fc, .int .i64 b.win, .int .i64 b.draw, .int .i64 b.loss, .slice la b.nl lc, .bool b.again, .slice ga b.m gc, .slice qa b.nfa qc, .slice ta b.nta tc] 35)).heap.size (w.alloc (.cells #[.slice fa b.nf fc, .int .i64 b.win, .int .i64 b.draw, .int .i64 b.loss, .slice la b.nl lc, .bool b.again, .slice ga b.m gc, .slice qa b.nfa qc, .slice ta b.nta tc] 35))) (B := w.heap.size) rfl)
  have BR0 := Lib.hid (h.below b0 (Nat.le_refl _))
  have GR0 := Lib.hid (hgv.below b0 (Nat.le_refl _))
  have HB0 := Lib.hid b0
  have hn64 : (b.nf : Int) ≤ 9223372036854775807 := by obtain ⟨_, _, _, hq, _⟩ := h.1.form; omega
  clear hR hr1 hall h hgv b0 hs
  go_enter Try.func10, Try.ntmps10
  cases r1 with
  | false =>
    obtain rfl := HN.out fun h => by have := h.1; cases this
    clear HN HY
    have d0 := BX0.out.2 0 _ rfl
    have d1 := BX0.out.2 1 _ rfl
    have d2 := BX0.out.2 2 _ rfl
    have d3 := BX0.out.2 3 _ rfl
    have d4 := BX0.out.2 4 _ rfl
    have d5 := BX0.out.2 5 _ rfl
    have d6 := BX0.out.2 6 _ rfl
    have d7 := BX0.out.2 7 _ rfl
    have d8 := BX0.out.2 8 _ rfl
    go_wp2_with fail
    refine (C1.out _ BR0.out).mono ?_
    rintro e w1 ⟨rfl, b1⟩
    have HE := Lib.hid (HB0.out.trans (b1.mono HB0.out.size))
    clear b1
    go_wp2
    go_ret
    exact ⟨rfl, HE.out⟩
  | true =>
    have hbp := HB1.out rfl
    have HBP := Lib.hid hbp
    have hn8 : b.nf ≤ 8 := by have := hbp.1.1; omega
    have d0 := BX0.out.2 0 _ rfl
    have d1 := BX0.out.2 1 _ rfl
    have d2 := BX0.out.2 2 _ rfl
    have d3 := BX0.out.2 3 _ rfl
    have d4 := BX0.out.2 4 _ rfl
    have d5 := BX0.out.2 5 _ rfl
    have d6 := BX0.out.2 6 _ rfl
    have d7 := BX0.out.2 7 _ rfl
    have d8 := BX0.out.2 8 _ rfl
    go_wp2_with fail
    refine (C1.out _ BR0.out).mono ?_
    rintro e w1 ⟨rfl, b1⟩
    have BX1 := Lib.hid (BoxN.below BX0.out b1)
    have BR1 := Lib.hid (BR0.out.below b1 (Nat.le_refl _))
    have GR1 := Lib.hid (GR0.out.below b1 (Nat.le_refl _))
    have HE1 := Lib.hid (HB0.out.trans (b1.mono HB0.out.size))
    clear d0 d1 d2 d3 d4 d5 d6 d7 d8 BX0 BR0 GR0 HB0 b1 hbp
    have d0 := BX1.out.2 0 _ rfl
    have d1 := BX1.out.2 1 _ rfl
    have d2 := BX1.out.2 2 _ rfl
    have d3 := BX1.out.2 3 _ rfl
    have d4 := BX1.out.2 4 _ rfl
    have d5 := BX1.out.2 5 _ rfl
    have d6 := BX1.out.2 6 _ rfl
    have d7 := BX1.out.2 7 _ rfl
    have d8 := BX1.out.2 8 _ rfl
    by_cases ht : 0 ≤ team ∧ team ≤ (b.nf : Int) - 1
    case neg =>
      obtain rfl := HN.out fun h => ht h.2
      clear HN HY
      go_wp2_with (go_at_call 21; refine (l01In_no _ _ _ _ ht).mono ?_; rintro e w2 ⟨rfl, rfl⟩)
      go_ret
      exact ⟨rfl, HE1.out⟩
    obtain rfl := HY.out ⟨by first | rfl | trivial, ht⟩
    obtain ⟨t, rfl⟩ : ∃ t : Nat, team = t := ⟨team.toNat, by omega⟩
    have ht2 : t < b.nf := by omega
    have ht3 : (t : Int) < b.nf := by omega
    clear HN HY
    go_wp2_with fail
    refine (l01In_yes _ _ _ _ ht).mono ?_
    rintro e w2 ⟨rfl, rfl⟩
    go_wp2_with fail
    refine (C2.out HBP.out _ BR1.out GR1.out).mono ?_
    rintro e w3 ⟨v3, rfl, ho3, b3⟩
    have hlen : (valsL (bookV b key gg ng) b.nf).length = b.nf := by unfold valsL; simp
    rw [hlen] at ho3
    obtain ⟨s3, hs3⟩ : ∃ s, (valsL (bookV b key gg ng) b.nf).map (Value.int .i64) = s := ⟨_, rfl⟩
    have hc3 : s3[t]? = some (.int .i64 (bookV b key gg ng t)) := by
      rw [← hs3, List.getElem?_map]
      unfold valsL
      rw [List.getElem?_map, List.getElem?_range ht2]
      rfl
    rw [hs3] at ho3
    have HO3 := Lib.hid ho3
    have HE3 := Lib.hid (HE1.out.trans (b3.mono HE1.out.size))
    obtain ⟨V, hV⟩ : ∃ V, bookV b key gg ng t = V := ⟨_, rfl⟩
    rw [hV] at hc3
    have HV := Lib.hid hV
    clear hV
    obtain ⟨gg3, cap3, he, hcap⟩ : ∃ g c, v3 = .slice (some ⟨g, 0, none⟩) b.nf c ∧ b.nf ≤ c := by
      rcases ho3.2 with ⟨rfl, h0⟩ | ⟨g, cap, cur, rfl, h1⟩
      · omega
      · exact ⟨g, cap, rfl, by obtain ⟨h2, h3, h4, h5, h6⟩ := h1; omega⟩
    subst he
    have c3 : w3.cell? ⟨gg3, t, none⟩ = some (.int .i64 V) := by rw [HO3.out.cellAt t (by omega)]; exact hc3
    clear d0 d1 d2 d3 d4 d5 d6 d7 d8 ho3 b3 hs3 hc3 hlen
    go_wp2
    go_ret
    exact ⟨by first | (rw [HV.out]; rfl) | (rw [HV.out]) | simp [HV.out], HE3.out⟩
end Go.Proofs.Ytakbolkdbpehoaa
set_option linter.unusedVariables false
namespace Go.Proofs.Ytakbolkdbpehoaa
open Go.RowKit

/-- all teams of a group exist -/
def teamsP (n : Nat) (ng : Nat) (gg : Nat → Int) : Prop := ∀ i, i < ng → 0 ≤ gg i ∧ gg i ≤ (n : Int) - 1
end Go.Proofs.Ytakbolkdbpehoaa
set_option linter.unusedVariables false
namespace Go.Proofs.Ytakbolkdbpehoaa
open Go.RowKit

theorem addRows_impl (a b : RowD) (w : World) :
    Calls Try.prog 91 #[.agg #[.int .i64 a.played, .int .i64 a.wins, .int .i64 a.draws, .int .i64 a.losses, .int .i64 a.scored, .int .i64 a.against, .int .i64 a.points], .agg #[.int .i64 b.played, .int .i64 b.wins, .int .i64 b.draws, .int .i64 b.losses, .int .i64 b.scored, .int .i64 b.against, .int .i64 b.points]] w fun e w' => e = .returned (addW a b).val ∧ Below w.heap.size w w' := by
  unfold addW RowD.val
  go_enter Try.func91, Try.ntmps91
  go_wp2
  refine bodyPost_ret (by simp [results, Try.results91, go_sem]) rfl ⟨rfl, ?_⟩
  repeat (first | exact Below.refl _ _ | refine Below.setCell ?_ (by simp <;> omega) _ | refine Below.alloc ?_ (by simp <;> omega) _)
theorem differenceOf_impl (a : RowD) (w : World) :
    Calls Try.prog 73 #[.agg #[.int .i64 a.played, .int .i64 a.wins, .int .i64 a.draws, .int .i64 a.losses, .int .i64 a.scored, .int .i64 a.against, .int .i64 a.points]] w fun e w' => e = .returned (.int .i64 (wrap64 (a.scored - a.against))) ∧ Below w.heap.size w w' := by
  go_enter Try.func73, Try.ntmps73
  go_wp2
  go_ret
  exact ⟨rfl, (Below.refl _ _).alloc (Nat.le_refl _) _⟩
/-- seven stores, one behind the other -/
def set7 (w : World) (B o : Nat) (y : RowD) : World := ((((((w.setCell ⟨B, o, none⟩ (Value.int .i64 y.played)).setCell ⟨B, o + 1, none⟩ (Value.int .i64 y.wins)).setCell ⟨B, o + 2, none⟩ (Value.int .i64 y.draws)).setCell ⟨B, o + 3, none⟩ (Value.int .i64 y.losses)).setCell ⟨B, o + 4, none⟩ (Value.int .i64 y.scored)).setCell ⟨B, o + 5, none⟩ (Value.int .i64 y.against)).setCell ⟨B, o + 6, none⟩ (Value.int .i64 y.points)
theorem BoxF.set7 {w : World} {B : Nat} {x y : RowD} (h : BoxF w B x.cells) : BoxF (set7 w B 0 y) B y.cells := BoxF.row7 h
theorem below_set7 {a w : World} {B0 B : Nat} {o : Nat} {y : RowD} (h : Below B0 a w) (hB : B0 ≤ B) : Below B0 a (set7 w B o y) :=
  Below.setCell (Below.setCell (Below.setCell (Below.setCell (Below.setCell (Below.setCell (Below.setCell h (p := ⟨B, o, none⟩) hB (Value.int .i64 y.played)) (p := ⟨B, o + 1, none⟩) hB (Value.int .i64 y.wins)) (p := ⟨B, o + 2, none⟩) hB (Value.int .i64 y.draws)) (p := ⟨B, o + 3, none⟩) hB (Value.int .i64 y.losses)) (p := ⟨B, o + 4, none⟩) hB (Value.int .i64 y.scored)) (p := ⟨B, o + 5, none⟩) hB (Value.int .i64 y.against)) (p := ⟨B, o + 6, none⟩) hB (Value.int .i64 y.points)
theorem BoxF.other7 {w : World} {B D : Nat} {cs : List Value} (h : BoxF w B cs) (o : Nat) (y : RowD) (hD : B ≠ D) : BoxF (Go.Proofs.Ytakbolkdbpehoaa.set7 w D o y) B cs :=
  ((((((h.other o _ hD).other (o + 1) _ hD).other (o + 2) _ hD).other (o + 3) _ hD).other (o + 4) _ hD).other (o + 5) _ hD).other (o + 6) _ hD
theorem BoxF.at0 {w : World} {B : Nat} {x : RowD} (h : BoxF w B x.cells) : CellsAt w B 0 x.cells := ⟨h.1, fun j u hu => by rw [Nat.zero_add]; exact (h.2 j u hu).1⟩
theorem BoxF.free0 {w : World} {B : Nat} {x : RowD} (h : BoxF w B x.cells) : ∀ j, j < 7 → w.frozen? ⟨B, 0 + j, none⟩ = false := fun j hj => by
  rw [Nat.zero_add]
  obtain ⟨v, hv⟩ : ∃ v, x.cells[j]? = some v := ⟨_, List.getElem?_eq_getElem (by simpa [RowD.cells] using hj)⟩
  exact (h.2 j v hv).2

set_option maxRecDepth 100000 in
set_option maxHeartbeats 1000000 in
theorem sumsAdd_impl (s x : RowD) (B off : Nat) (w : World) (hc : CellsAt w B off s.cells) (hf : ∀ j, j < 7 → w.frozen? ⟨B, off + j, none⟩ = false) :
    Calls Try.prog 87 #[.pointer (some ⟨B, off, none⟩), .agg #[.int .i64 x.played, .int .i64 x.wins, .int .i64 x.draws, .int .i64 x.losses, .int .i64 x.scored, .int .i64 x.against, .int .i64 x.points]] w fun e w' => e = .returned (.tuple #[]) ∧ ∃ w1, Below w.heap.size w w1 ∧ w' = set7 w1 B off (addW s x) := by
  have hBs := hc.1
  have HF := Lib.hid hf
  have hb0 : Below w.heap.size w (w.alloc (.cells #[.int .i64 x.played, .int .i64 x.wins, .int .i64 x.draws, .int .i64 x.losses, .int .i64 x.scored, .int .i64 x.against, .int .i64 x.points] 90)) := (Below.refl _ _).alloc (Nat.le_refl _) _
  obtain ⟨W1, hW1⟩ : ∃ W1, W1 = w.alloc (.cells #[.int .i64 x.played, .int .i64 x.wins, .int .i64 x.draws, .int .i64 x.losses, .int .i64 x.scored, .int .i64 x.against, .int .i64 x.points] 90) := ⟨_, rfl⟩
  have HB : Hid (Below w.heap.size w W1.drew) := by subst hW1; exact hb0.drew
  obtain ⟨F, HFd⟩ : ∃ F : World → Prop, F = fun w' => CellsAt w' B off s.cells ∧ CellsAt w' w.heap.size 0 x.cells := ⟨_, rfl⟩
  have FE : Hid (∀ wa, F wa → CellsAt wa B off s.cells ∧ CellsAt wa w.heap.size 0 x.cells) := by subst HFd; exact fun _ h => h
  have FI : Hid (∀ wa, CellsAt wa B off s.cells → CellsAt wa w.heap.size 0 x.cells → F wa) := by subst HFd; exact fun _ h1 h2 => ⟨h1, h2⟩
  have F0 : Hid (F W1.drew) := FI.out _ (by subst hW1; exact hc.below hb0.drew) (by
    subst hW1
    have hbx : BoxF (w.alloc (.cells #[.int .i64 x.played, .int .i64 x.wins, .int .i64 x.draws, .int .i64 x.losses, .int .i64 x.scored, .int .i64 x.against, .int .i64 x.points] 90)) w.heap.size x.cells := BoxF.made (Below.refl _ _) rfl
    exact hbx.at0.below (Below.refl _ _).drew)
  clear HFd hc hf hb0
  go_enter Try.func87, Try.ntmps87
  go_wp2_with fail
  rw [← hW1]
  refine Await.begin (S := Until 9 F) (by kernel_rfl) ?_ (fun hS => ?_)
  · exact Until.of F0.out
  clear F0 hW1
  refine Await.pure (i := 0) (v := ?_) rfl (by kernel_rfl) (by kernel_rfl) (by kernel_rfl) (by kernel_rfl) (fun _ _ _ h => h) (Or.inl ⟨by rfl, ?_⟩) (by assumption) ?_
  rotate_left
  · (intro wa _; go_simp; try with_reducible rfl)
  simp only [Act.put, List.getElem_toArray, List.getElem_cons_zero, List.setIfInBounds_toArray, List.set_cons_zero, List.set_cons_succ]
  refine Await.pure (i := 1) (v := ?_) rfl (by kernel_rfl) (by kernel_rfl) (by kernel_rfl) (by kernel_rfl) (fun _ _ _ h => h) (Or.inl ⟨by rfl, ?_⟩) (by assumption) ?_
  rotate_left
  · (intro wa _; go_simp; try with_reducible rfl)
  simp only [Act.put, List.getElem_toArray, List.getElem_cons_zero, List.getElem_cons_succ, List.setIfInBounds_toArray, List.set_cons_zero, List.set_cons_succ]
  refine Await.pure (i := 2) (v := ?_) rfl (by kernel_rfl) (by kernel_rfl) (by kernel_rfl) (by kernel_rfl) (fun _ _ _ h => h) (Or.inl ⟨by rfl, ?_⟩) (by assumption) ?_
  rotate_left
  · (intro wa _; go_simp; try with_reducible rfl)
  simp only [Act.put, List.getElem_toArray, List.getElem_cons_zero, List.getElem_cons_succ, List.setIfInBounds_toArray, List.set_cons_zero, List.set_cons_succ]
  refine Await.pure (i := 3) (v := ?_) rfl (by kernel_rfl) (by kernel_rfl) (by kernel_rfl) (by kernel_rfl) (fun _ _ _ h => h) (Or.inl ⟨by rfl, ?_⟩) (by assumption) ?_
  rotate_left
  · (intro wa _; go_simp; try with_reducible rfl)
  simp only [Act.put, List.getElem_toArray, List.getElem_cons_zero, List.getElem_cons_succ, List.setIfInBounds_toArray, List.set_cons_zero, List.set_cons_succ]
  refine Await.takes (i := 4) [6] (v := ?_) rfl (by kernel_rfl) (by kernel_rfl) (by kernel_rfl) (by kernel_rfl) (fun _ _ _ h => h) (Or.inl ⟨by rfl, ?_⟩) (by assumption) ?_
  rotate_left
  · (intro wa hSw; obtain ⟨fs, fx⟩ := FE.out wa hSw; obtain ⟨a0, a1, a2, a3, a4, a5, a6⟩ := row_cells fs; obtain ⟨b0, b1, b2, b3, b4, b5, b6⟩ := row_cells fx; go_simp; try with_reducible rfl)
  simp only [Act.put, List.getElem_toArray, List.getElem_cons_zero, List.getElem_cons_succ, List.setIfInBounds_toArray, List.set_cons_zero, List.set_cons_succ]
  refine Await.takes (i := 5) [6] (v := ?_) rfl (by kernel_rfl) (by kernel_rfl) (by kernel_rfl) (by kernel_rfl) (fun _ _ _ h => h) (Or.inl ⟨by rfl, ?_⟩) (by assumption) ?_
  rotate_left
  · (intro wa hSw; obtain ⟨fs, fx⟩ := FE.out wa hSw; obtain ⟨a0, a1, a2, a3, a4, a5, a6⟩ := row_cells fs; obtain ⟨b0, b1, b2, b3, b4, b5, b6⟩ := row_cells fx; go_simp; try with_reducible rfl)
  simp only [Act.put, List.getElem_toArray, List.getElem_cons_zero, List.getElem_cons_succ, List.setIfInBounds_toArray, List.set_cons_zero, List.set_cons_succ]
  refine Await.step (i := 6) (o := _) (by kernel_rfl) rfl (fun K1 hK1' => ?_)
  go_simp
  refine (addRows_impl s x _).mono ?_
  rintro e w9 ⟨rfl, b9⟩
  generalize hz : addW s x = z
  have HZ := Lib.hid hz
  clear hz
  unfold RowD.val
  (try go_wp2_with fail)
  refine hK1'.out _ _ ?_ (fun hS => ?_)
  · exact Until.of (FI.out _ ((FE.out _ (hS (by kernel_rfl))).1.below b9) ((FE.out _ (hS (by kernel_rfl))).2.below b9))
  clear hK1' K1
  refine Await.pure (i := 7) (v := ?_) rfl (by kernel_rfl) (by kernel_rfl) (by kernel_rfl) (by kernel_rfl) (fun _ _ _ h => h) (Or.inl ⟨by rfl, ?_⟩) (by assumption) ?_
  rotate_left
  · (intro wa _; go_simp; try with_reducible rfl)
  simp only [Act.put, List.getElem_toArray, List.getElem_cons_zero, List.getElem_cons_succ, List.setIfInBounds_toArray, List.set_cons_zero, List.set_cons_succ]
  refine Await.pure (i := 8) (v := ?_) rfl (by kernel_rfl) (by kernel_rfl) (by kernel_rfl) (by kernel_rfl) (fun _ _ _ h => h) (Or.inl ⟨by rfl, ?_⟩) (by assumption) ?_
  rotate_left
  · (intro wa _; go_simp; try with_reducible rfl)
  simp only [Act.put, List.getElem_toArray, List.getElem_cons_zero, List.getElem_cons_succ, List.setIfInBounds_toArray, List.set_cons_zero, List.set_cons_succ]
  have hcs9 := (FE.out _ (hS (by kernel_rfl))).1
  have hb9 := Lib.hid (HB.out.trans (b9.mono HB.out.size))
  have hfr : ∀ j, j < 7 → w9.frozen? ⟨B, off + j, none⟩ = false := fun j hj => (hb9.out.frozen (p := ⟨B, off + j, none⟩) hBs).trans (HF.out j hj)
  obtain ⟨d0, d1, d2, d3, d4, d5, d6⟩ := row_cells hcs9
  have e0 := hfr 0 (by omega)
  have e1 := hfr 1 (by omega)
  have e2 := hfr 2 (by omega)
  have e3 := hfr 3 (by omega)
  have e4 := hfr 4 (by omega)
  have e5 := hfr 5 (by omega)
  have e6 := hfr 6 (by omega)
  rw [Nat.add_zero] at e0
  clear hcs9 hfr b9
  refine Await.step (i := 9) (o := _) (by kernel_rfl) rfl (fun K1 hK1' => ?_)
  go_simp
  refine hK1'.out _ _ ?_ (fun hS => ?_)
  · exact Until.over (by kernel_rfl)
  clear hK1' K1
  refine Await.done (by kernel_rfl) ?_ _
  go_wp2
  go_end0
  refine ⟨rfl, w9, hb9.out, ?_⟩
  rw [← HZ.out] at *
  rfl
theorem field_sums (s : RowD) (w : World) : Sem.run Try.prog (Instr.field 113 (.agg #[.int .i64 s.played, .int .i64 s.wins, .int .i64 s.draws, .int .i64 s.losses, .int .i64 s.scored, .int .i64 s.against, .int .i64 s.points]) 0) w = .ok (.agg #[.int .i64 s.played, .int .i64 s.wins, .int .i64 s.draws, .int .i64 s.losses, .int .i64 s.scored, .int .i64 s.against, .int .i64 s.points]) w := by kernel_rfl
theorem field_row (s : RowD) (w : World) : Sem.run Try.prog (Instr.field 90 (.agg #[.int .i64 s.played, .int .i64 s.wins, .int .i64 s.draws, .int .i64 s.losses, .int .i64 s.scored, .int .i64 s.against, .int .i64 s.points]) 0) w = .ok (.int .i64 s.played) w := by kernel_rfl
theorem sumR_played (g : Nat → RowD) : ∀ k, (sumR g k).played = playedN g k
  | 0 => rfl
  | k + 1 => by
    show wrap64 ((sumR g k).played + (g k).played) = wrap64 (playedN g k + (g k).played)
    rw [sumR_played g k]
/-- the row is off -/
def offB (x : RowD) : Bool := wrap64 (wrap64 (x.wins + x.draws) + x.losses) != x.played
theorem offB_iff (x : RowD) : offB x = true ↔ ¬ balR x := by unfold offB balR; simp
end Go.Proofs.Ytakbolkdbpehoaa
set_option linter.unusedVariables false
namespace Go.Proofs.Ytakbolkdbpehoaa
open Go.RowKit

theorem run_append_zero {P : Program} {w : World} (base : Nat) (t ty e : TypeId) (i : TypeInfo) (size : Nat) (ht : P.underlying t = some (.slice e)) (hi : P.info? e = some i)
    (v : Value) (n : Nat) (xs : List Value) (hown : w.ownsRow base e size v n xs) (ad : Option Addr) (c : Nat) :
    (Builtin.append_ #[t, t] ty #[v, .slice ad 0 c]).run P w = .ok v w := by
  rcases ad with _ | ad
  · rcases hown.2 with ⟨rfl, rfl⟩ | ⟨g, cap, cur, rfl, _, _, hnc, _⟩
    · simp [Builtin.append_, run_underlying ht, sizeOf, typeInfo, hi, Builtin.lenOf, Builtin.firstCells]
    · simp [Builtin.append_, run_underlying ht, sizeOf, typeInfo, hi, Builtin.lenOf, Builtin.firstCells, hnc, storeCells]
  · have h0 : Sem.run P (loadCells ad 0) w = .ok #[] w := by simp [loadCells, loadCellsFrom]
    rcases hown.2 with ⟨rfl, rfl⟩ | ⟨g, cap, cur, rfl, _, _, hnc, _⟩
    · simp [Builtin.append_, run_underlying ht, sizeOf, typeInfo, hi, Builtin.lenOf, Builtin.firstCells, h0]
    · simp [Builtin.append_, run_underlying ht, sizeOf, typeInfo, hi, Builtin.lenOf, Builtin.firstCells, hnc, storeCells, h0]
theorem wpList_appendZero {P : Program} {w : World} {ops : Array Oper} {rest : List Oper} {o : Oper} {a : Act} {Q : Exit → Act → World → Prop} (hgd : o.guard = none) (s x : Operand) (t : TypeId)
    (ho : o.op = .call { callee := .builtin .append, args := #[s, x], argTypes := #[t, t] })
    (base : Nat) (e : TypeId) (i : TypeInfo) (size : Nat) (ht : P.underlying t = some (.slice e)) (hi : P.info? e = some i)
    (v : Value) (n : Nat) (xs : List Value) (hs : a.eval s = v) (hown : w.ownsRow base e size v n xs) (ad : Option Addr) (c : Nat) (hx : a.eval x = .slice ad 0 c)
    (h : wpList P ops Q rest (a.put o.dst v) w) : wpList P ops Q (o :: rest) a w := by
  refine wpList_plain hgd fun K hK => ?_
  have hrun := run_append_zero (P := P) (w := w) base t o.type e i size ht hi v n xs hown ad c
  unfold Oper.wp
  simp [execOp, ho, resolve, invoke, builtin, hs, hx, hrun, Result.andThen]
  exact hK _ _ h
/-- the cells of n records, one after another -/
def flatR (g : Nat → List Value) (n : Nat) : List Value := (List.range n).flatMap g
theorem flatR_len (k : Nat) (g : Nat → List Value) (n : Nat) (hk : ∀ i, i < n → (g i).length = k) : (flatR g n).length = n * k := by
  induction n with
  | zero => simp [flatR]
  | succ n ih =>
    have := ih fun i hi => hk i (by omega)
    unfold flatR at this ⊢
    rw [List.range_succ, List.flatMap_append, List.length_append, this]
    simp [hk n (by omega), Nat.succ_mul]
theorem flatR_cells (k : Nat) (g : Nat → List Value) (n : Nat) (hk : ∀ i, i < n → (g i).length = k) : RecCells k n (flatR g n) g := by
  induction n with
  | zero => exact RecCells.nil
  | succ n ih =>
    have h1 := ih fun i hi => hk i (by omega)
    have h2 := flatR_len k g n fun i hi => hk i (by omega)
    have h3 : flatR g (n + 1) = flatR g n ++ g n := by unfold flatR; rw [List.range_succ, List.flatMap_append]; simp
    rw [h3]
    exact h1.push h2 rfl (hk n (by omega))
theorem flatR_get (k : Nat) (g : Nat → List Value) (n : Nat) (hk : ∀ i, i < n → (g i).length = k) (h0 : 0 < k) (j : Nat) (u : Value) (h : (flatR g n)[j]? = some u) :
    j / k < n ∧ (g (j / k))[j % k]? = some u := by
  have hl := flatR_len k g n hk
  have hj : j < n * k := by rw [← hl]; exact (List.getElem?_eq_some_iff.1 h).1
  have hjn : j / k < n := Nat.div_lt_of_lt_mul (by rw [Nat.mul_comm]; exact hj)
  refine ⟨hjn, ?_⟩
  have hm : j % k < (g (j / k)).length := by rw [hk _ hjn]; exact Nat.mod_lt _ h0
  obtain ⟨u', hu'⟩ : ∃ u', (g (j / k))[j % k]? = some u' := ⟨_, List.getElem?_eq_getElem hm⟩
  have := flatR_cells k g n hk (j / k) hjn (j % k) u' hu'
  rw [Nat.mul_comm, Nat.div_add_mod, h] at this
  rw [hu']; exact this.symm
/-- 'append([]T{}, x...)' for a slice x of m records of k cells -/
theorem wpList_cloneR {P : Program} {w : World} {ops : Array Oper} {rest : List Oper} {o : Oper} {a : Act} {Q : Exit → Act → World → Prop} (hgd : o.guard = none) (s x : Operand) (t : TypeId)
    (ho : o.op = .call { callee := .builtin .append, args := #[s, x], argTypes := #[t, t] })
    (e : TypeId) {i : TypeInfo} {z : Value} {k bytes : Nat} (ht : P.underlying t = some (.slice e)) (hi : P.info? e = some i) (hz : i.zero = some z) (hsize : i.size = k) (hby : i.bytes = bytes) (hzs : z.cells.size = k) (hk0 : 0 < k)
    {v : Value} {m : Nat} {g : Nat → List Value} (hs : a.eval s = .slice (some ⟨w.heap.size, 0, none⟩) 0 0) (hx : a.eval x = v) (hrow : RecRow k w v m g) (hgl : ∀ i, i < m → (g i).length = k) (h1 : ∀ i, i < m → ∀ u ∈ g i, u.oneCell' = true)
    (hm : m ≤ 1048576) (hb : bytes ≤ 1048576)
    (h : ∀ vv w', w'.ownsRow w.heap.size e k vv m (flatR g m) → Below w.heap.size w w' → wpList P ops Q rest (a.put o.dst vv) w') : wpList P ops Q (o :: rest) a (w.alloc (.cells #[] e)) := by
  have hown : (w.alloc (.cells #[] e)).ownsRow w.heap.size e k (.slice (some ⟨w.heap.size, 0, none⟩) 0 0) 0 [] := World.ownsRow_lit w #[] 0 (Nat.le_refl _) (by decide) (by simp)
  rcases hrow with ⟨ad, cap, rfl, rfl⟩ | ⟨b, off, c, rfl, h0, _, hc, _⟩
  · exact wpList_appendZero hgd s x t ho w.heap.size e i k ht hi _ 0 [] hs hown ad cap hx (h _ _ (by simpa [flatR] using hown) ((Below.refl _ _).alloc (Nat.le_refl _) _))
  · have hmul : (0 + m) * bytes ≤ 1048576 * 1048576 := Nat.mul_le_mul (by omega) hb
    refine wpList_append_lies _ hgd s x t ho w.heap.size e i z k bytes ht hi hz hsize hby hzs hk0 _ 0 [] hs hown ⟨b, off, none⟩ m c (flatR g m) hx (flatR_len k g m hgl) ?_ ?_ h0 (by unfold maxLen; omega) (by omega) (by simp) _ rfl ?_
    · intro j u hu
      obtain ⟨hj, hv⟩ := flatR_get k g m hgl hk0 j u hu
      have hadd : (⟨b, off, none⟩ : Addr).add j = ⟨b, off + j, none⟩ := by unfold Addr.add; split <;> simp_all
      have hq := (hc _ hj).2 _ u hv
      rw [show off + j / k * k + j % k = off + j by rw [Nat.add_assoc, Nat.mul_comm, Nat.div_add_mod]] at hq
      rw [hadd]
      exact (((Below.refl _ w).alloc (Nat.le_refl _) (.cells #[] e)).cell (p := ⟨b, off + j, none⟩) (hc _ hj).1).trans hq
    · intro u hu
      unfold flatR at hu
      rw [List.mem_flatMap] at hu
      obtain ⟨j, hj, hu⟩ := hu
      exact h1 j (List.mem_range.1 hj) u hu
    · intro gg cap w' ho' hg' hat hlt
      simp only [Nat.zero_add, List.nil_append] at ho' ⊢
      exact h _ w' ho' (((Below.refl _ w).alloc (Nat.le_refl _) _).grown hg' (by simp) (fun k hk => by simp [Value.ownBlock] at hk; omega))
end Go.Proofs.Ytakbolkdbpehoaa
set_option linter.unusedVariables false
namespace Go.Proofs.Ytakbolkdbpehoaa
open Go.RowKit

theorem owns_setCells {base : Nat} {e : TypeId} {size g n cap : Nat} (cs : List Value) : ∀ {w : World} {xs : List Value} (_ : w.ownsRow base e size (.slice (some ⟨g, 0, none⟩) n cap) n xs) (s : Nat),
    (w.setCells g s cs).ownsRow base e size (.slice (some ⟨g, 0, none⟩) n cap) n (setsFrom xs s cs) := by
  induction cs with
  | nil => intro w xs h s; exact h
  | cons u us ih => intro w xs h s; exact ih (h.stored s u).1 (s + 1)
theorem below_setCells {B0 g : Nat} {a : World} (cs : List Value) : ∀ {w : World} (_ : Below B0 a w) (_ : B0 ≤ g) (s : Nat), Below B0 a (w.setCells g s cs) := by
  induction cs with
  | nil => intro w h _ s; exact h
  | cons u us ih => intro w h hB s; exact ih (Below.setCell h (p := ⟨g, s, none⟩) hB u) hB (s + 1)
theorem run_copyR {P : Program} (w : World) (dT sT ty elem : TypeId) (i : TypeInfo) (k g o dLen dCap : Nat) (a : Addr) (sLen sCap : Nat) (cs : List Value)
    (hu : P.underlying dT = some (.slice elem)) (hi : P.info? elem = some i) (hk : i.size = k) (hn : cs.length = Nat.min sLen dLen * k)
    (hsrc : ∀ j v, cs[j]? = some v → w.cell? (a.add j) = some v) (hc : ∀ j, j < cs.length → (w.cell? ⟨g, o + j, none⟩).isSome = true) (hf : ∀ j, j < cs.length → w.frozen? ⟨g, o + j, none⟩ = false) (h1 : ∀ v ∈ cs, v.oneCell' = true) :
    (Builtin.copy_ #[dT, sT] ty #[.slice (some ⟨g, o, none⟩) dLen dCap, .slice (some a) sLen sCap]).run P w = .ok (goInt (Nat.min sLen dLen)) (w.setCells g o cs) := by
  have hl := run_loadCells_list (P := P) w a cs hsrc
  have hst := run_storeCells_cells (P := P) g o cs 0 w (by simpa using hc) (by simpa using hf) h1
  subst hk
  simp [Builtin.copy_, run_underlying hu, Builtin.lenOf, Builtin.firstCells, sizeOf, typeInfo, hi, ← hn, hl, hst]
section
variable {P : Program} {ops : Array Oper} {o : Oper} {a : Act} {w : World}
/-- a copy of q records into an owned row -/
theorem upon_copyR {K : Act → World → Prop} {Q : Exit → Act → World → Prop} (d s : Operand) (dT sT : TypeId)
    (ho : o.op = .call { callee := .builtin .copy, args := #[d, s], argTypes := #[dT, sT] }) {base : Nat} {e : TypeId} {i : TypeInfo} {k : Nat} (hu : P.underlying dT = some (.slice e)) (hi : P.info? e = some i) (hk : i.size = k)
    {g n cap : Nat} {xs : List Value} (hown : w.ownsRow base e k (.slice (some ⟨g, 0, none⟩) n cap) n xs) (off dLen dCap : Nat) (ad : Addr) (sLen sCap : Nat)
    (hd : a.eval d = .slice (some ⟨g, off, none⟩) dLen dCap) (hs : a.eval s = .slice (some ad) sLen sCap) (cs : List Value) (q : Nat) (hq : q = Nat.min sLen dLen) (hn : cs.length = q * k)
    (hsrc : ∀ j v, cs[j]? = some v → w.cell? (ad.add j) = some v) (hfit : off + cs.length ≤ n * k) (h1 : ∀ v ∈ cs, v.oneCell' = true)
    (h : ∀ w', w'.ownsRow base e k (.slice (some ⟨g, 0, none⟩) n cap) n (setsFrom xs off cs) → Below base w w' → K (a.put o.dst (.int .i64 q)) w') :
    Oper.wp P o a w K Q := by
  subst hq
  have hlt := (hown.lt g rfl).1
  have hlen := hown.1
  have hrun := run_copyR (P := P) w dT sT o.type e i k g off dLen dCap ad sLen sCap cs hu hi hk hn hsrc
    (fun j hj => by rw [hown.cellAt _ (by omega)]; rw [List.getElem?_eq_getElem (by omega)]; rfl) (fun j hj => hown.frozenAt _) h1
  unfold Oper.wp
  simp [execOp, ho, resolve, invoke, builtin, hd, hs, hrun, Result.andThen]
  exact h _ (owns_setCells cs hown off) (below_setCells cs (Below.refl _ _) hlt off)
/-- the same as one step of a drawn region -/
theorem step_copyR {K : Act → World → Prop} {Q : Exit → Act → World → Prop} {E : Prop} (hgd : o.guard = none) (d s : Operand) (dT sT : TypeId)
    (ho : o.op = .call { callee := .builtin .copy, args := #[d, s], argTypes := #[dT, sT] }) {base : Nat} {e : TypeId} {i : TypeInfo} {k : Nat} (hu : P.underlying dT = some (.slice e)) (hi : P.info? e = some i) (hk : i.size = k)
    {g n cap : Nat} {xs : List Value} (hown : w.ownsRow base e k (.slice (some ⟨g, 0, none⟩) n cap) n xs) (off dLen dCap : Nat) (ad : Addr) (sLen sCap : Nat)
    (hd : a.eval d = .slice (some ⟨g, off, none⟩) dLen dCap) (hs : a.eval s = .slice (some ad) sLen sCap) (cs : List Value) (q : Nat) (hq : q = Nat.min sLen dLen) (hn : cs.length = q * k)
    (hsrc : ∀ j v, cs[j]? = some v → w.cell? (ad.add j) = some v) (hfit : off + cs.length ≤ n * k) (h1 : ∀ v ∈ cs, v.oneCell' = true)
    (h : ∀ w', w'.ownsRow base e k (.slice (some ⟨g, 0, none⟩) n cap) n (setsFrom xs off cs) → Below base w w' → K (a.put o.dst (.int .i64 q)) w') :
    if Region.wanted o (yielded ops a.tmps) = true then Oper.wp P o a w K Q else E := by
  have hw : Region.wanted o (yielded ops a.tmps) = true := by simp [Region.wanted, hgd]
  rw [if_pos hw]
  exact upon_copyR d s dT sT ho hu hi hk hown off dLen dCap ad sLen sCap hd hs cs q hq hn hsrc hfit h1 h
/-- the same at the head of a list of operations -/
theorem wpList_copyR {rest : List Oper} {Q : Exit → Act → World → Prop} (hgd : o.guard = none) (d s : Operand) (dT sT : TypeId)
    (ho : o.op = .call { callee := .builtin .copy, args := #[d, s], argTypes := #[dT, sT] }) {base : Nat} {e : TypeId} {i : TypeInfo} {k : Nat} (hu : P.underlying dT = some (.slice e)) (hi : P.info? e = some i) (hk : i.size = k)
    {g n cap : Nat} {xs : List Value} (hown : w.ownsRow base e k (.slice (some ⟨g, 0, none⟩) n cap) n xs) (off dLen dCap : Nat) (ad : Addr) (sLen sCap : Nat)
    (hd : a.eval d = .slice (some ⟨g, off, none⟩) dLen dCap) (hs : a.eval s = .slice (some ad) sLen sCap) (cs : List Value) (q : Nat) (hq : q = Nat.min sLen dLen) (hn : cs.length = q * k)
    (hsrc : ∀ j v, cs[j]? = some v → w.cell? (ad.add j) = some v) (hfit : off + cs.length ≤ n * k) (h1 : ∀ v ∈ cs, v.oneCell' = true)
    (h : ∀ w', w'.ownsRow base e k (.slice (some ⟨g, 0, none⟩) n cap) n (setsFrom xs off cs) → Below base w w' → wpList P ops Q rest (a.put o.dst (.int .i64 q)) w') :
    wpList P ops Q (o :: rest) a w := by
  refine wpList_plain hgd fun K hK => ?_
  exact upon_copyR d s dT sT ho hu hi hk hown off dLen dCap ad sLen sCap hd hs cs q hq hn hsrc hfit h1 (fun w' h1 h2 => hK _ _ (h w' h1 h2))
end
theorem cells_add {w : World} {B off : Nat} {cs : List Value} (h : CellsAt w B off cs) : ∀ j v, cs[j]? = some v → w.cell? ((⟨B, off, none⟩ : Addr).add j) = some v := fun j v hv => by
  have hadd : (⟨B, off, none⟩ : Addr).add j = ⟨B, off + j, none⟩ := by unfold Addr.add; split <;> simp_all
  rw [hadd]
  exact h.2 j v hv
/-- q times the same record -/
def rep (cs : List Value) (q : Nat) : List Value := flatR (fun _ => cs) q
theorem rep_len {k : Nat} {cs : List Value} (h : cs.length = k) (q : Nat) : (rep cs q).length = q * k := flatR_len k _ q fun _ _ => h
theorem rep_cells {k : Nat} {cs : List Value} (h : cs.length = k) (q : Nat) : RecCells k q (rep cs q) (fun _ => cs) := flatR_cells k _ q fun _ _ => h
/-- q records more -/
theorem cells_more {k n m q : Nat} {xs cs : List Value} (h : RecCells k m xs (fun _ => cs)) (hl : xs.length = n * k) (hcl : cs.length = k) (hmq : m + q ≤ n) :
    RecCells k (m + q) (setsFrom xs (m * k) (rep cs q)) (fun _ => cs) := by
  have hmul : m * k + q * k ≤ n * k := by rw [← Nat.add_mul]; exact Nat.mul_le_mul_right k hmq
  have hrl := rep_len hcl q
  intro i hi j u hu
  have hj : j < k := by rw [← hcl]; exact (List.getElem?_eq_some_iff.1 hu).1
  by_cases him : i < m
  · rw [setsFrom_out]
    · exact h i him j u hu
    · left
      have := Nat.mul_le_mul_right k (show i + 1 ≤ m by omega)
      rw [Nat.succ_mul] at this
      omega
  · obtain ⟨d, rfl⟩ : ∃ d, i = m + d := ⟨i - m, by omega⟩
    rw [show (m + d) * k + j = m * k + (d * k + j) by rw [Nat.add_mul]; omega]
    exact setsFrom_in _ _ _ _ u (by omega) (rep_cells hcl q d (by omega) j u hu)
theorem first_cells {k : Nat} {xs cs : List Value} (hcl : cs.length = k) (hl : k ≤ xs.length) : RecCells k 1 (setsFrom xs 0 cs) (fun _ => cs) := by
  intro i hi j u hu
  obtain rfl : i = 0 := by omega
  rw [Nat.zero_mul]
  exact setsFrom_in cs xs 0 j u (by omega) hu
theorem rep_one {cs : List Value} {q : Nat} {v : Value} (h1 : ∀ v ∈ cs, v.oneCell' = true) (h : v ∈ rep cs q) : v.oneCell' = true := by
  unfold rep flatR at h
  rw [List.mem_flatMap] at h
  obtain ⟨_, _, h⟩ := h
  exact h1 v h
/-- what lies at the head of a row of equal records -/
theorem rep_at {w : World} {base g n cap m q k : Nat} {e : TypeId} {xs cs : List Value} (ho : w.ownsRow base e k (.slice (some ⟨g, 0, none⟩) n cap) n xs) (h : RecCells k m xs (fun _ => cs)) (hcl : cs.length = k) (hk : 0 < k) (hq : q ≤ m) (hm : m ≤ n) :
    ∀ j v, (rep cs q)[j]? = some v → w.cell? ((⟨g, 0, none⟩ : Addr).add j) = some v := by
  intro j v hv
  have hadd : (⟨g, 0, none⟩ : Addr).add j = ⟨g, j, none⟩ := by unfold Addr.add; split <;> simp_all
  obtain ⟨h1, h2⟩ := flatR_get k _ q (fun _ _ => hcl) hk j v hv
  have h3 := h (j / k) (by omega) (j % k) v h2
  rw [Nat.mul_comm, Nat.div_add_mod] at h3
  have hlen := ho.1
  have hj : j < xs.length := (List.getElem?_eq_some_iff.1 h3).1
  rw [hadd, ho.cellAt _ (by omega)]
  exact h3
end Go.Proofs.Ytakbolkdbpehoaa
