/-
  Packed: Judge, JudgeVal, PtrMap.
-/
import Derived.Test.YtakbolkdbpehoaaGreatQ6
import Derived.Test.YtakbolkdbpehoaaGreatQ14
import Derived.Test.YtakbolkdbpehoaaGreatQ15
set_option linter.unusedVariables false
namespace Go.Proofs.YtakbolkdbpehoaaGreat
open Go.RowKit

/-- the table of all games -/
def tabAll (b : BookD) : Nat → RowD := tabR b.win b.draw b.loss (selG true (fun _ => 0) 0) b.g b.m
/-- the table of the games among a group -/
def tabSome (b : BookD) (gg : Nat → Int) (ng : Nat) : Nat → RowD := tabR b.win b.draw b.loss (selG false gg ng) b.g b.m
theorem bookT_plain {b : BookD} {key : Int} {gg : Nat → Int} {ng : Nat} (h : mutualB key = false) : bookT b key gg ng = tabAll b := by
  unfold bookT tabAll; rw [h]; rfl
theorem bookT_mutual {b : BookD} {key : Int} {gg : Nat → Int} {ng : Nat} (h : mutualB key = true) : bookT b key gg ng = tabSome b gg ng := by
  unfold bookT tabSome; rw [h]; rfl
theorem BkAt.drew {w0 w : World} {B : Nat} {fa : Option Addr} {fc : Nat} {la : Option Addr} {lc : Nat} {ga : Option Addr} {gc : Nat} {qa : Option Addr} {qc : Nat} {ta : Option Addr} {tc : Nat} {b : BookD} (h : BkAt w0 w B fa fc la lc ga gc qa qc ta tc b) : BkAt w0 w.drew B fa fc la lc ga gc qa qc ta tc b := h.next (Below.refl _ _).drew
theorem ResAt.drew {w : World} {B k : Nat} (h : ResAt w B k) : ResAt w.drew B k := h.below (Below.refl _ _).drew
theorem book_tab {b : BookD} (hp : bookP b) : tabP b.win b.draw b.loss b.nl b.l b.nf b.m b.g := ⟨hp.2.1, by have := hp.1.1; omega, hp.2.2.1⟩
theorem book_n {b : BookD} : (if true = true then ((b.nf : Int)).toNat else 0) = b.nf := by simp
/-- at w, reached from w0: the box at block B holds a judge -/
structure JgAt (w0 w : World) (B : Nat) (fa : Option Addr) (fc : Nat) (la : Option Addr) (lc : Nat) (ga : Option Addr) (gc : Nat) (qa : Option Addr) (qc : Nat) (ta : Option Addr) (tc : Nat) (b : BookD) (ra : Option Addr) (rc : Nat) (T : Nat → RowD) : Prop where
  box : BoxN w B [.slice fa b.nf fc, .int .i64 b.win, .int .i64 b.draw, .int .i64 b.loss, .slice la b.nl lc, .bool b.again, .slice ga b.m gc, .slice qa b.nfa qc, .slice ta b.nta tc, .slice ra b.nf rc]
  row0 : BookRow w0 (.slice fa b.nf fc) (.slice la b.nl lc) (.slice ga b.m gc) (.slice qa b.nfa qc) (.slice ta b.nta tc) b
  tab0 : RowRow w0 (.slice ra b.nf rc) b.nf T
  bel : Below w0.heap.size w0 w
section
variable {w0 w w' : World} {B : Nat} {fa : Option Addr} {fc : Nat} {la : Option Addr} {lc : Nat} {ga : Option Addr} {gc : Nat} {qa : Option Addr} {qc : Nat} {ta : Option Addr} {tc : Nat} {b : BookD} {ra : Option Addr} {rc : Nat} {T : Nat → RowD}
theorem JgAt.row (h : JgAt w0 w B fa fc la lc ga gc qa qc ta tc b ra rc T) : BookRow w (.slice fa b.nf fc) (.slice la b.nl lc) (.slice ga b.m gc) (.slice qa b.nfa qc) (.slice ta b.nta tc) b := h.row0.below h.bel (Nat.le_refl _)
theorem JgAt.tab (h : JgAt w0 w B fa fc la lc ga gc qa qc ta tc b ra rc T) : RowRow w (.slice ra b.nf rc) b.nf T := h.tab0.below h.bel (Nat.le_refl _)
theorem JgAt.next (h : JgAt w0 w B fa fc la lc ga gc qa qc ta tc b ra rc T) (hb : Below w.heap.size w w') : JgAt w0 w' B fa fc la lc ga gc qa qc ta tc b ra rc T :=
  ⟨BoxN.below h.box hb, h.row0, h.tab0, h.bel.trans (hb.mono h.bel.size)⟩
theorem JgAt.drew (h : JgAt w0 w B fa fc la lc ga gc qa qc ta tc b ra rc T) : JgAt w0 w.drew B fa fc la lc ga gc qa qc ta tc b ra rc T := h.next (Below.refl _ _).drew
theorem JgAt.alloc (h : JgAt w0 w B fa fc la lc ga gc qa qc ta tc b ra rc T) (o : Obj) : JgAt w0 (w.alloc o) B fa fc la lc ga gc qa qc ta tc b ra rc T := h.next ((Below.refl _ _).alloc (Nat.le_refl _) _)
theorem JgAt.made (h : BookRow w (.slice fa b.nf fc) (.slice la b.nl lc) (.slice ga b.m gc) (.slice qa b.nfa qc) (.slice ta b.nta tc) b) (ht : RowRow w (.slice ra b.nf rc) b.nf T) (t : TypeId) : JgAt w (w.alloc (.cells #[.slice fa b.nf fc, .int .i64 b.win, .int .i64 b.draw, .int .i64 b.loss, .slice la b.nl lc, .bool b.again, .slice ga b.m gc, .slice qa b.nfa qc, .slice ta b.nta tc, .slice ra b.nf rc] t)) w.heap.size fa fc la lc ga gc qa qc ta tc b ra rc T :=
  ⟨BoxN.made (Below.refl _ _) rfl, h, ht, (Below.refl _ _).alloc (Nat.le_refl _) _⟩
theorem JgAt.cells (h : JgAt w0 w B fa fc la lc ga gc qa qc ta tc b ra rc T) :
    w.cell? ⟨B, 0, none⟩ = some (.slice fa b.nf fc) ∧ w.cell? ⟨B, 1, none⟩ = some (.int .i64 b.win) ∧ w.cell? ⟨B, 2, none⟩ = some (.int .i64 b.draw) ∧ w.cell? ⟨B, 3, none⟩ = some (.int .i64 b.loss) ∧ w.cell? ⟨B, 4, none⟩ = some (.slice la b.nl lc) ∧ w.cell? ⟨B, 5, none⟩ = some (.bool b.again) ∧ w.cell? ⟨B, 6, none⟩ = some (.slice ga b.m gc) ∧ w.cell? ⟨B, 7, none⟩ = some (.slice qa b.nfa qc) ∧ w.cell? ⟨B, 8, none⟩ = some (.slice ta b.nta tc) ∧ w.cell? ⟨B, 9, none⟩ = some (.slice ra b.nf rc) :=
  ⟨h.box.2 0 _ rfl, h.box.2 1 _ rfl, h.box.2 2 _ rfl, h.box.2 3 _ rfl, h.box.2 4 _ rfl, h.box.2 5 _ rfl, h.box.2 6 _ rfl, h.box.2 7 _ rfl, h.box.2 8 _ rfl, h.box.2 9 _ rfl⟩
theorem JgAt.lt (h : JgAt w0 w B fa fc la lc ga gc qa qc ta tc b ra rc T) : B < w.heap.size := h.box.1
end
theorem jg_put {w : World} {B C : Nat} {cs : List Value} (hC : B ≠ C) : ∀ (vs : List Value) (o : Nat) (w : World), BoxN w B cs → BoxN (putCs w C o vs) B cs
  | [], _, _, h => h
  | v :: vs, o, w, h => jg_put (w := w) hC vs (o + 1) _ (box_store h (p := ⟨C, o, none⟩) hC v)

set_option maxRecDepth 100000 in
set_option maxHeartbeats 2000000 in
theorem judgeOf_impl (vf vl vg vfa vta : Value) (b : BookD) (w : World) (hp : bookP b) (h : BookRow w vf vl vg vfa vta b) :
    Calls Tryz.prog 44 #[.agg #[vf, .int .i64 b.win, .int .i64 b.draw, .int .i64 b.loss, vl, .bool b.again, vg, vfa, vta]] w fun e w' => ∃ ra rc, e = .returned (.agg #[vf, .int .i64 b.win, .int .i64 b.draw, .int .i64 b.loss, vl, .bool b.again, vg, vfa, vta, .slice ra b.nf rc]) ∧ RowRow w' (.slice ra b.nf rc) b.nf (tabAll b) ∧ Below w.heap.size w w' := by
  obtain ⟨fa, fc, la, lc, ga, gc, qa, qc, ta, tc, rfl, rfl, rfl, rfl, rfl⟩ := h.form
  have C := Lib.hid (fun wa h1 h2 => tableOf_impl b.win b.draw b.loss (.slice la b.nl lc) b.nl b.l b.again b.nf (.slice ga b.m gc) b.m b.g true wa ⟨fun _ => book_tab hp, fun _ => rfl⟩ h1 h2)
  rw [book_n] at C
  have hsix := h.sixty
  have HR := Lib.hid h
  clear h
  unfold tabAll
  generalize tabR b.win b.draw b.loss (selG true (fun _ => 0) 0) b.g b.m = T at *
  go_enter Tryz.func44, Tryz.ntmps44
  obtain ⟨S, HSd⟩ : ∃ S : World → Prop, S = fun w' => (fun x => BkAt w x w.heap.size fa fc la lc ga gc qa qc ta tc b ∧ ResAt x (w.heap.size + 1) 10) w' := ⟨_, rfl⟩
  have KS : Hid (∀ wa wb, S wa → Below wa.heap.size wa wb → S wb) := by subst HSd; exact fun wa wb h b => ⟨h.1.next b, h.2.below b⟩
  have OS : Hid (∀ wa, S wa → (fun x => BkAt w x w.heap.size fa fc la lc ga gc qa qc ta tc b ∧ ResAt x (w.heap.size + 1) 10) wa) := by subst HSd; exact fun wa h => h
  have IS : Hid (∀ wa, (fun x => BkAt w x w.heap.size fa fc la lc ga gc qa qc ta tc b ∧ ResAt x (w.heap.size + 1) 10) wa → S wa) := by subst HSd; exact fun wa h => h
  clear HSd
  go_wp2_with fail
  refine wp_region_held_drew (S := S) (by kernel_rfl) ?_ (fun hHeld => ?_)
  · exact IS.out _ (⟨((BkAt.made HR.out 29).alloc _).drew, (ResAt.made' (by simp) rfl).drew⟩)
  refine wpAnyH_take (i := 0) (v := ?_) rfl (by kernel_rfl) (by kernel_rfl) (by kernel_rfl) (fun _ _ _ h => h) (Or.inl ⟨by rfl, ?_⟩) hHeld ?_
  rotate_left
  · (intro wa hSw; have K := OS.out _ hSw; obtain ⟨d0, d1, d2, d3, d4, d5, d6, d7, d8⟩ := K.1.cells; go_simp; try with_reducible rfl)
  simp only [Act.put, List.getElem_toArray, List.getElem_cons_zero, List.setIfInBounds_toArray, List.set_cons_zero, List.set_cons_succ]
  refine wpAnyH_take (i := 1) (v := ?_) rfl (by kernel_rfl) (by kernel_rfl) (by kernel_rfl) (fun _ _ _ h => h) (Or.inl ⟨by rfl, ?_⟩) hHeld ?_
  rotate_left
  · (intro wa hSw; go_simp; try with_reducible rfl)
  simp only [Act.put, List.getElem_toArray, List.getElem_cons_zero, List.getElem_cons_succ, List.setIfInBounds_toArray, List.set_cons_zero, List.set_cons_succ]
  refine wpAnyH_take (i := 2) (v := ?_) rfl (by kernel_rfl) (by kernel_rfl) (by kernel_rfl) (fun _ _ _ h => h) (Or.inl ⟨by rfl, ?_⟩) hHeld ?_
  rotate_left
  · (intro wa hSw; have K := OS.out _ hSw; obtain ⟨d0, d1, d2, d3, d4, d5, d6, d7, d8⟩ := K.1.cells; go_simp; try with_reducible rfl)
  simp only [Act.put, List.getElem_toArray, List.getElem_cons_zero, List.getElem_cons_succ, List.setIfInBounds_toArray, List.set_cons_zero, List.set_cons_succ]
  refine wpAnyH_take (i := 3) (v := ?_) rfl (by kernel_rfl) (by kernel_rfl) (by kernel_rfl) (fun _ _ _ h => h) (Or.inl ⟨by rfl, ?_⟩) hHeld ?_
  rotate_left
  · (intro wa hSw; go_simp; try with_reducible rfl)
  simp only [Act.put, List.getElem_toArray, List.getElem_cons_zero, List.getElem_cons_succ, List.setIfInBounds_toArray, List.set_cons_zero, List.set_cons_succ]
  refine wpAnyH_take (i := 4) (v := ?_) rfl (by kernel_rfl) (by kernel_rfl) (by kernel_rfl) (fun _ _ _ h => h) (Or.inl ⟨by rfl, ?_⟩) hHeld ?_
  rotate_left
  · (intro wa hSw; have K := OS.out _ hSw; obtain ⟨d0, d1, d2, d3, d4, d5, d6, d7, d8⟩ := K.1.cells; go_simp; try with_reducible rfl)
  simp only [Act.put, List.getElem_toArray, List.getElem_cons_zero, List.getElem_cons_succ, List.setIfInBounds_toArray, List.set_cons_zero, List.set_cons_succ]
  refine wpAnyH_take (i := 5) (v := ?_) rfl (by kernel_rfl) (by kernel_rfl) (by kernel_rfl) (fun _ _ _ h => h) (Or.inl ⟨by rfl, ?_⟩) hHeld ?_
  rotate_left
  · (intro wa hSw; go_simp; try with_reducible rfl)
  simp only [Act.put, List.getElem_toArray, List.getElem_cons_zero, List.getElem_cons_succ, List.setIfInBounds_toArray, List.set_cons_zero, List.set_cons_succ]
  refine wpAnyH_take (i := 6) (v := ?_) rfl (by kernel_rfl) (by kernel_rfl) (by kernel_rfl) (fun _ _ _ h => h) (Or.inl ⟨by rfl, ?_⟩) hHeld ?_
  rotate_left
  · (intro wa hSw; go_simp; try with_reducible rfl)
  simp only [Act.put, List.getElem_toArray, List.getElem_cons_zero, List.getElem_cons_succ, List.setIfInBounds_toArray, List.set_cons_zero, List.set_cons_succ]
  refine wpAnyH_take (i := 7) (v := ?_) rfl (by kernel_rfl) (by kernel_rfl) (by kernel_rfl) (fun _ _ _ h => h) (Or.inl ⟨by rfl, ?_⟩) hHeld ?_
  rotate_left
  · (intro wa hSw; have K := OS.out _ hSw; obtain ⟨d0, d1, d2, d3, d4, d5, d6, d7, d8⟩ := K.1.cells; go_simp; try with_reducible rfl)
  simp only [Act.put, List.getElem_toArray, List.getElem_cons_zero, List.getElem_cons_succ, List.setIfInBounds_toArray, List.set_cons_zero, List.set_cons_succ]
  refine wpAnyH_ready (rs := [8]) (by kernel_rfl) (by simp) ?_
  refine AllReadyH.cons (o := _) rfl (fun K hK => ?_) AllReadyH.nil
  go_simp
  have KK := OS.out _ hHeld
  refine (C.out _ KK.1.row.2.1 KK.1.row.2.2.1).mono ?_
  rintro e w101 ⟨vr, rfl, hTR, ⟨xs, hOX⟩, b101⟩
  clear KK
  obtain ⟨ra, rc, rfl, _, _⟩ := RowRow.form hTR
  have hTR := Lib.hid hTR
  have hIW := Lib.hid ((InW.of_owns hOX).mono (lo' := w.heap.size + 2) (by simp) (Nat.le_refl _))
  have HQ := Lib.hid (OS.out _ hHeld)
  have hBK := Lib.hid (HQ.out.1.bel.trans (b101.mono HQ.out.1.bel.size))
  have HRA := Lib.hid (HQ.out.2.below b101)
  (try go_wp2_with fail)
  refine hK.out _ _ ?_ (fun hHeld101 => ?_)
  · exact KS.out _ _ hHeld b101
  clear hK K
  refine wpAnyH_take (i := 9) (v := ?_) rfl (by kernel_rfl) (by kernel_rfl) (by kernel_rfl) (fun _ _ _ h => h) (Or.inl ⟨by rfl, ?_⟩) hHeld101 ?_
  rotate_left
  · (intro wa hSw; go_simp; try with_reducible rfl)
  simp only [Act.put, List.getElem_toArray, List.getElem_cons_zero, List.getElem_cons_succ, List.setIfInBounds_toArray, List.set_cons_zero, List.set_cons_succ]
  refine wpAnyH_ready (rs := [10]) (by kernel_rfl) (by simp) ?_
  refine AllReadyH.cons (o := _) rfl (fun K hK => ?_) AllReadyH.nil
  have KK := OS.out _ hHeld101
  obtain ⟨⟨x0, q0⟩, z0⟩ := KK.2.at 0 (by omega)
  obtain ⟨⟨x1, q1⟩, z1⟩ := KK.2.at 1 (by omega)
  obtain ⟨⟨x2, q2⟩, z2⟩ := KK.2.at 2 (by omega)
  obtain ⟨⟨x3, q3⟩, z3⟩ := KK.2.at 3 (by omega)
  obtain ⟨⟨x4, q4⟩, z4⟩ := KK.2.at 4 (by omega)
  obtain ⟨⟨x5, q5⟩, z5⟩ := KK.2.at 5 (by omega)
  obtain ⟨⟨x6, q6⟩, z6⟩ := KK.2.at 6 (by omega)
  obtain ⟨⟨x7, q7⟩, z7⟩ := KK.2.at 7 (by omega)
  obtain ⟨⟨x8, q8⟩, z8⟩ := KK.2.at 8 (by omega)
  obtain ⟨⟨x9, q9⟩, z9⟩ := KK.2.at 9 (by omega)
  go_simp
  refine hK.out _ _ ?_ (fun hHeld102 => ?_)
  · exact IS.out _ ((fun K => ⟨⟨jg_put (w := w) (by omega) [.slice fa b.nf fc, .int .i64 b.win, .int .i64 b.draw, .int .i64 b.loss, .slice la b.nl lc, .bool b.again, .slice ga b.m gc, .slice qa b.nfa qc, .slice ta b.nta tc, .slice ra b.nf rc] 0 _ K.1.box, K.1.row0, Below.putCs (by omega) [.slice fa b.nf fc, .int .i64 b.win, .int .i64 b.draw, .int .i64 b.loss, .slice la b.nl lc, .bool b.again, .slice ga b.m gc, .slice qa b.nfa qc, .slice ta b.nta tc, .slice ra b.nf rc] 0 _ _ K.1.bel⟩, by exact (K.2.put (vs := [.slice fa b.nf fc, .int .i64 b.win, .int .i64 b.draw, .int .i64 b.loss, .slice la b.nl lc, .bool b.again, .slice ga b.m gc, .slice qa b.nfa qc, .slice ta b.nta tc, .slice ra b.nf rc]) rfl).of_put⟩) (OS.out _ hHeld101))
  clear hK K
  clear hHeld101
  refine wpAnyH_done (by kernel_rfl) ?_ _
  have KE := Lib.hid (OS.out _ hHeld102)
  clear KS OS IS hHeld hHeld102
  refine post_named fun w9 hw9 => ?_
  have e9 : w9 = putCs w101 (w.heap.size + 1) 0 [.slice fa b.nf fc, .int .i64 b.win, .int .i64 b.draw, .int .i64 b.loss, .slice la b.nl lc, .bool b.again, .slice ga b.m gc, .slice qa b.nfa qc, .slice ta b.nta tc, .slice ra b.nf rc] := hw9.out
  have HT9 := Lib.hid (hTR.out.touch (hi := w.heap.size + 1 + 1) (lo := w.heap.size + 1) (Touch.putCs (Nat.le_refl _) (by omega) [.slice fa b.nf fc, .int .i64 b.win, .int .i64 b.draw, .int .i64 b.loss, .slice la b.nl lc, .bool b.again, .slice ga b.m gc, .slice qa b.nfa qc, .slice ta b.nta tc, .slice ra b.nf rc] 0 _ _ (Touch.refl _ _ _)) (fun _ => hIW.out) (.inr (by have := HRA.out.lt; omega)))
  have HB9 := Lib.hid (Below.putCs (C := w.heap.size) (B := w.heap.size + 1) (by omega) [.slice fa b.nf fc, .int .i64 b.win, .int .i64 b.draw, .int .i64 b.loss, .slice la b.nl lc, .bool b.again, .slice ga b.m gc, .slice qa b.nfa qc, .slice ta b.nta tc, .slice ra b.nf rc] 0 _ _ hBK.out)
  have HX9 := Lib.hid (HRA.out.put (vs := [.slice fa b.nf fc, .int .i64 b.win, .int .i64 b.draw, .int .i64 b.loss, .slice la b.nl lc, .bool b.again, .slice ga b.m gc, .slice qa b.nfa qc, .slice ta b.nta tc, .slice ra b.nf rc]) rfl)
  rw [← e9] at HT9 HB9 HX9
  clear hw9 e9 hTR hIW hBK HRA KE
  have y0 := (HX9.out.2 0 _ rfl).1
  have y1 := (HX9.out.2 1 _ rfl).1
  have y2 := (HX9.out.2 2 _ rfl).1
  have y3 := (HX9.out.2 3 _ rfl).1
  have y4 := (HX9.out.2 4 _ rfl).1
  have y5 := (HX9.out.2 5 _ rfl).1
  have y6 := (HX9.out.2 6 _ rfl).1
  have y7 := (HX9.out.2 7 _ rfl).1
  have y8 := (HX9.out.2 8 _ rfl).1
  have y9 := (HX9.out.2 9 _ rfl).1
  have y_lt := HX9.out.1
  clear HX9
  go_wp2
  (try simp only [Exit.inBlock, Exit.then])
  refine bodyPost_ret (v := .agg #[.slice fa b.nf fc, .int .i64 b.win, .int .i64 b.draw, .int .i64 b.loss, .slice la b.nl lc, .bool b.again, .slice ga b.m gc, .slice qa b.nfa qc, .slice ta b.nta tc, .slice ra b.nf rc]) ?_ rfl ⟨_, _, rfl, HT9.out, HB9.out⟩
  rw [results_cell rfl]
  go_simp

set_option maxRecDepth 100000 in
set_option maxHeartbeats 2000000 in
theorem among_impl (fa : Option Addr) (fc : Nat) (la : Option Addr) (lc : Nat) (ga : Option Addr) (gc : Nat) (qa : Option Addr) (qc : Nat) (ta : Option Addr) (tc : Nat) (b : BookD) (ra : Option Addr) (rc : Nat) (T : Nat → RowD) (gv : Value) (ng : Nat) (gg : Nat → Int) (w : World) (hp : bookP b) (h : BookRow w (.slice fa b.nf fc) (.slice la b.nl lc) (.slice ga b.m gc) (.slice qa b.nfa qc) (.slice ta b.nta tc) b) (ht : RowRow w (.slice ra b.nf rc) b.nf T) (hgv : IntRow w gv ng gg) :
    Calls Tryz.prog 88 #[.agg #[.slice fa b.nf fc, .int .i64 b.win, .int .i64 b.draw, .int .i64 b.loss, .slice la b.nl lc, .bool b.again, .slice ga b.m gc, .slice qa b.nfa qc, .slice ta b.nta tc, .slice ra b.nf rc], gv] w fun e w' => ∃ ra2 rc2, e = .returned (.agg #[.slice fa b.nf fc, .int .i64 b.win, .int .i64 b.draw, .int .i64 b.loss, .slice la b.nl lc, .bool b.again, .slice ga b.m gc, .slice qa b.nfa qc, .slice ta b.nta tc, .slice ra2 b.nf rc2]) ∧ RowRow w' (.slice ra2 b.nf rc2) b.nf (tabSome b gg ng) ∧ Below w.heap.size w w' := by
  have C := Lib.hid (fun wa h1 h2 h3 => tableAmong_impl b.win b.draw b.loss (.slice la b.nl lc) b.nl b.l b.again b.nf (.slice ga b.m gc) b.m b.g gv ng gg true wa ⟨fun _ => book_tab hp, fun _ => rfl⟩ h1 h2 h3)
  rw [book_n] at C
  have hsix := h.sixty
  have HR := Lib.hid h
  have HTT := Lib.hid ht
  have HG := Lib.hid hgv
  obtain ⟨xa, xc, rfl, _, _⟩ := hgv.form
  clear h ht hgv
  unfold tabSome
  generalize tabR b.win b.draw b.loss (selG false gg ng) b.g b.m = T2 at *
  go_enter Tryz.func88, Tryz.ntmps88
  obtain ⟨S, HSd⟩ : ∃ S : World → Prop, S = fun w' => (fun x => JgAt w x w.heap.size fa fc la lc ga gc qa qc ta tc b ra rc T ∧ ResAt x (w.heap.size + 1) 10) w' := ⟨_, rfl⟩
  have KS : Hid (∀ wa wb, S wa → Below wa.heap.size wa wb → S wb) := by subst HSd; exact fun wa wb h b => ⟨h.1.next b, h.2.below b⟩
  have OS : Hid (∀ wa, S wa → (fun x => JgAt w x w.heap.size fa fc la lc ga gc qa qc ta tc b ra rc T ∧ ResAt x (w.heap.size + 1) 10) wa) := by subst HSd; exact fun wa h => h
  have IS : Hid (∀ wa, (fun x => JgAt w x w.heap.size fa fc la lc ga gc qa qc ta tc b ra rc T ∧ ResAt x (w.heap.size + 1) 10) wa → S wa) := by subst HSd; exact fun wa h => h
  clear HSd
  go_wp2_with fail
  refine wp_region_held_drew (S := S) (by kernel_rfl) ?_ (fun hHeld => ?_)
  · exact IS.out _ (⟨((JgAt.made HR.out HTT.out 74).alloc _).drew, (ResAt.made' (by simp) rfl).drew⟩)
  refine wpAnyH_take (i := 0) (v := ?_) rfl (by kernel_rfl) (by kernel_rfl) (by kernel_rfl) (fun _ _ _ h => h) (Or.inl ⟨by rfl, ?_⟩) hHeld ?_
  rotate_left
  · (intro wa hSw; go_simp; try with_reducible rfl)
  simp only [Act.put, List.getElem_toArray, List.getElem_cons_zero, List.setIfInBounds_toArray, List.set_cons_zero, List.set_cons_succ]
  refine wpAnyH_take (i := 1) (v := ?_) rfl (by kernel_rfl) (by kernel_rfl) (by kernel_rfl) (fun _ _ _ h => h) (Or.inl ⟨by rfl, ?_⟩) hHeld ?_
  rotate_left
  · (intro wa hSw; have K := OS.out _ hSw; obtain ⟨d0, d1, d2, d3, d4, d5, d6, d7, d8, d9⟩ := K.1.cells; go_simp; try with_reducible rfl)
  simp only [Act.put, List.getElem_toArray, List.getElem_cons_zero, List.getElem_cons_succ, List.setIfInBounds_toArray, List.set_cons_zero, List.set_cons_succ]
  refine wpAnyH_take (i := 2) (v := ?_) rfl (by kernel_rfl) (by kernel_rfl) (by kernel_rfl) (fun _ _ _ h => h) (Or.inl ⟨by rfl, ?_⟩) hHeld ?_
  rotate_left
  · (intro wa hSw; go_simp; try with_reducible rfl)
  simp only [Act.put, List.getElem_toArray, List.getElem_cons_zero, List.getElem_cons_succ, List.setIfInBounds_toArray, List.set_cons_zero, List.set_cons_succ]
  refine wpAnyH_take (i := 3) (v := ?_) rfl (by kernel_rfl) (by kernel_rfl) (by kernel_rfl) (fun _ _ _ h => h) (Or.inl ⟨by rfl, ?_⟩) hHeld ?_
  rotate_left
  · (intro wa hSw; go_simp; try with_reducible rfl)
  simp only [Act.put, List.getElem_toArray, List.getElem_cons_zero, List.getElem_cons_succ, List.setIfInBounds_toArray, List.set_cons_zero, List.set_cons_succ]
  refine wpAnyH_take (i := 4) (v := ?_) rfl (by kernel_rfl) (by kernel_rfl) (by kernel_rfl) (fun _ _ _ h => h) (Or.inl ⟨by rfl, ?_⟩) hHeld ?_
  rotate_left
  · (intro wa hSw; have K := OS.out _ hSw; obtain ⟨d0, d1, d2, d3, d4, d5, d6, d7, d8, d9⟩ := K.1.cells; go_simp; try with_reducible rfl)
  simp only [Act.put, List.getElem_toArray, List.getElem_cons_zero, List.getElem_cons_succ, List.setIfInBounds_toArray, List.set_cons_zero, List.set_cons_succ]
  refine wpAnyH_take (i := 5) (v := ?_) rfl (by kernel_rfl) (by kernel_rfl) (by kernel_rfl) (fun _ _ _ h => h) (Or.inl ⟨by rfl, ?_⟩) hHeld ?_
  rotate_left
  · (intro wa hSw; go_simp; try with_reducible rfl)
  simp only [Act.put, List.getElem_toArray, List.getElem_cons_zero, List.getElem_cons_succ, List.setIfInBounds_toArray, List.set_cons_zero, List.set_cons_succ]
  refine wpAnyH_take (i := 6) (v := ?_) rfl (by kernel_rfl) (by kernel_rfl) (by kernel_rfl) (fun _ _ _ h => h) (Or.inl ⟨by rfl, ?_⟩) hHeld ?_
  rotate_left
  · (intro wa hSw; go_simp; try with_reducible rfl)
  simp only [Act.put, List.getElem_toArray, List.getElem_cons_zero, List.getElem_cons_succ, List.setIfInBounds_toArray, List.set_cons_zero, List.set_cons_succ]
  refine wpAnyH_take (i := 7) (v := ?_) rfl (by kernel_rfl) (by kernel_rfl) (by kernel_rfl) (fun _ _ _ h => h) (Or.inl ⟨by rfl, ?_⟩) hHeld ?_
  rotate_left
  · (intro wa hSw; have K := OS.out _ hSw; obtain ⟨d0, d1, d2, d3, d4, d5, d6, d7, d8, d9⟩ := K.1.cells; go_simp; try with_reducible rfl)
  simp only [Act.put, List.getElem_toArray, List.getElem_cons_zero, List.getElem_cons_succ, List.setIfInBounds_toArray, List.set_cons_zero, List.set_cons_succ]
  refine wpAnyH_take (i := 8) (v := ?_) rfl (by kernel_rfl) (by kernel_rfl) (by kernel_rfl) (fun _ _ _ h => h) (Or.inl ⟨by rfl, ?_⟩) hHeld ?_
  rotate_left
  · (intro wa hSw; go_simp; try with_reducible rfl)
  simp only [Act.put, List.getElem_toArray, List.getElem_cons_zero, List.getElem_cons_succ, List.setIfInBounds_toArray, List.set_cons_zero, List.set_cons_succ]
  refine wpAnyH_take (i := 9) (v := ?_) rfl (by kernel_rfl) (by kernel_rfl) (by kernel_rfl) (fun _ _ _ h => h) (Or.inl ⟨by rfl, ?_⟩) hHeld ?_
  rotate_left
  · (intro wa hSw; go_simp; try with_reducible rfl)
  simp only [Act.put, List.getElem_toArray, List.getElem_cons_zero, List.getElem_cons_succ, List.setIfInBounds_toArray, List.set_cons_zero, List.set_cons_succ]
  refine wpAnyH_take (i := 10) (v := ?_) rfl (by kernel_rfl) (by kernel_rfl) (by kernel_rfl) (fun _ _ _ h => h) (Or.inl ⟨by rfl, ?_⟩) hHeld ?_
  rotate_left
  · (intro wa hSw; go_simp; try with_reducible rfl)
  simp only [Act.put, List.getElem_toArray, List.getElem_cons_zero, List.getElem_cons_succ, List.setIfInBounds_toArray, List.set_cons_zero, List.set_cons_succ]
  refine wpAnyH_take (i := 11) (v := ?_) rfl (by kernel_rfl) (by kernel_rfl) (by kernel_rfl) (fun _ _ _ h => h) (Or.inl ⟨by rfl, ?_⟩) hHeld ?_
  rotate_left
  · (intro wa hSw; have K := OS.out _ hSw; obtain ⟨d0, d1, d2, d3, d4, d5, d6, d7, d8, d9⟩ := K.1.cells; go_simp; try with_reducible rfl)
  simp only [Act.put, List.getElem_toArray, List.getElem_cons_zero, List.getElem_cons_succ, List.setIfInBounds_toArray, List.set_cons_zero, List.set_cons_succ]
  refine wpAnyH_take (i := 12) (v := ?_) rfl (by kernel_rfl) (by kernel_rfl) (by kernel_rfl) (fun _ _ _ h => h) (Or.inl ⟨by rfl, ?_⟩) hHeld ?_
  rotate_left
  · (intro wa hSw; go_simp; try with_reducible rfl)
  simp only [Act.put, List.getElem_toArray, List.getElem_cons_zero, List.getElem_cons_succ, List.setIfInBounds_toArray, List.set_cons_zero, List.set_cons_succ]
  refine wpAnyH_ready (rs := [13]) (by kernel_rfl) (by simp) ?_
  refine AllReadyH.cons (o := _) rfl (fun K hK => ?_) AllReadyH.nil
  go_simp
  have KK := OS.out _ hHeld
  refine (C.out _ KK.1.row.2.1 KK.1.row.2.2.1 (HG.out.below KK.1.bel (Nat.le_refl _))).mono ?_
  rintro e w101 ⟨vr, rfl, hTR, ⟨xs, hOX⟩, b101⟩
  clear KK
  obtain ⟨ra2, rc2, rfl, _, _⟩ := RowRow.form hTR
  have hTR := Lib.hid hTR
  have hIW := Lib.hid ((InW.of_owns hOX).mono (lo' := w.heap.size + 2) (by simp) (Nat.le_refl _))
  have HQ := Lib.hid (OS.out _ hHeld)
  have hBK := Lib.hid (HQ.out.1.bel.trans (b101.mono HQ.out.1.bel.size))
  have HRA := Lib.hid (HQ.out.2.below b101)
  (try go_wp2_with fail)
  refine hK.out _ _ ?_ (fun hHeld101 => ?_)
  · exact KS.out _ _ hHeld b101
  clear hK K
  refine wpAnyH_take (i := 14) (v := ?_) rfl (by kernel_rfl) (by kernel_rfl) (by kernel_rfl) (fun _ _ _ h => h) (Or.inl ⟨by rfl, ?_⟩) hHeld101 ?_
  rotate_left
  · (intro wa hSw; go_simp; try with_reducible rfl)
  simp only [Act.put, List.getElem_toArray, List.getElem_cons_zero, List.getElem_cons_succ, List.setIfInBounds_toArray, List.set_cons_zero, List.set_cons_succ]
  refine wpAnyH_ready (rs := [15]) (by kernel_rfl) (by simp) ?_
  refine AllReadyH.cons (o := _) rfl (fun K hK => ?_) AllReadyH.nil
  have KK := OS.out _ hHeld101
  obtain ⟨⟨x0, q0⟩, z0⟩ := KK.2.at 0 (by omega)
  obtain ⟨⟨x1, q1⟩, z1⟩ := KK.2.at 1 (by omega)
  obtain ⟨⟨x2, q2⟩, z2⟩ := KK.2.at 2 (by omega)
  obtain ⟨⟨x3, q3⟩, z3⟩ := KK.2.at 3 (by omega)
  obtain ⟨⟨x4, q4⟩, z4⟩ := KK.2.at 4 (by omega)
  obtain ⟨⟨x5, q5⟩, z5⟩ := KK.2.at 5 (by omega)
  obtain ⟨⟨x6, q6⟩, z6⟩ := KK.2.at 6 (by omega)
  obtain ⟨⟨x7, q7⟩, z7⟩ := KK.2.at 7 (by omega)
  obtain ⟨⟨x8, q8⟩, z8⟩ := KK.2.at 8 (by omega)
  obtain ⟨⟨x9, q9⟩, z9⟩ := KK.2.at 9 (by omega)
  go_simp
  refine hK.out _ _ ?_ (fun hHeld102 => ?_)
  · exact IS.out _ ((fun K => ⟨⟨jg_put (w := w) (by omega) [.slice fa b.nf fc, .int .i64 b.win, .int .i64 b.draw, .int .i64 b.loss, .slice la b.nl lc, .bool b.again, .slice ga b.m gc, .slice qa b.nfa qc, .slice ta b.nta tc, .slice ra2 b.nf rc2] 0 _ K.1.box, K.1.row0, K.1.tab0, Below.putCs (by omega) [.slice fa b.nf fc, .int .i64 b.win, .int .i64 b.draw, .int .i64 b.loss, .slice la b.nl lc, .bool b.again, .slice ga b.m gc, .slice qa b.nfa qc, .slice ta b.nta tc, .slice ra2 b.nf rc2] 0 _ _ K.1.bel⟩, by exact (K.2.put (vs := [.slice fa b.nf fc, .int .i64 b.win, .int .i64 b.draw, .int .i64 b.loss, .slice la b.nl lc, .bool b.again, .slice ga b.m gc, .slice qa b.nfa qc, .slice ta b.nta tc, .slice ra2 b.nf rc2]) rfl).of_put⟩) (OS.out _ hHeld101))
  clear hK K
  clear hHeld101
  refine wpAnyH_done (by kernel_rfl) ?_ _
  have KE := Lib.hid (OS.out _ hHeld102)
  clear KS OS IS hHeld hHeld102
  refine post_named fun w9 hw9 => ?_
  have e9 : w9 = putCs w101 (w.heap.size + 1) 0 [.slice fa b.nf fc, .int .i64 b.win, .int .i64 b.draw, .int .i64 b.loss, .slice la b.nl lc, .bool b.again, .slice ga b.m gc, .slice qa b.nfa qc, .slice ta b.nta tc, .slice ra2 b.nf rc2] := hw9.out
  have HT9 := Lib.hid (hTR.out.touch (hi := w.heap.size + 1 + 1) (lo := w.heap.size + 1) (Touch.putCs (Nat.le_refl _) (by omega) [.slice fa b.nf fc, .int .i64 b.win, .int .i64 b.draw, .int .i64 b.loss, .slice la b.nl lc, .bool b.again, .slice ga b.m gc, .slice qa b.nfa qc, .slice ta b.nta tc, .slice ra2 b.nf rc2] 0 _ _ (Touch.refl _ _ _)) (fun _ => hIW.out) (.inr (by have := HRA.out.lt; omega)))
  have HB9 := Lib.hid (Below.putCs (C := w.heap.size) (B := w.heap.size + 1) (by omega) [.slice fa b.nf fc, .int .i64 b.win, .int .i64 b.draw, .int .i64 b.loss, .slice la b.nl lc, .bool b.again, .slice ga b.m gc, .slice qa b.nfa qc, .slice ta b.nta tc, .slice ra2 b.nf rc2] 0 _ _ hBK.out)
  have HX9 := Lib.hid (HRA.out.put (vs := [.slice fa b.nf fc, .int .i64 b.win, .int .i64 b.draw, .int .i64 b.loss, .slice la b.nl lc, .bool b.again, .slice ga b.m gc, .slice qa b.nfa qc, .slice ta b.nta tc, .slice ra2 b.nf rc2]) rfl)
  rw [← e9] at HT9 HB9 HX9
  clear hw9 e9 hTR hIW hBK HRA KE
  have y0 := (HX9.out.2 0 _ rfl).1
  have y1 := (HX9.out.2 1 _ rfl).1
  have y2 := (HX9.out.2 2 _ rfl).1
  have y3 := (HX9.out.2 3 _ rfl).1
  have y4 := (HX9.out.2 4 _ rfl).1
  have y5 := (HX9.out.2 5 _ rfl).1
  have y6 := (HX9.out.2 6 _ rfl).1
  have y7 := (HX9.out.2 7 _ rfl).1
  have y8 := (HX9.out.2 8 _ rfl).1
  have y9 := (HX9.out.2 9 _ rfl).1
  have y_lt := HX9.out.1
  clear HX9
  go_wp2
  (try simp only [Exit.inBlock, Exit.then])
  refine bodyPost_ret (v := .agg #[.slice fa b.nf fc, .int .i64 b.win, .int .i64 b.draw, .int .i64 b.loss, .slice la b.nl lc, .bool b.again, .slice ga b.m gc, .slice qa b.nfa qc, .slice ta b.nta tc, .slice ra2 b.nf rc2]) ?_ rfl ⟨_, _, rfl, HT9.out, HB9.out⟩
  rw [results_cell rfl]
  go_simp

theorem team_of {w : World} {a : Option Addr} {c n j : Nat} {g : Nat → TeamD} (h : TeamRow w (.slice a n c) n g) (hj : j < n) : ∃ bo off, a = some ⟨bo, off, none⟩ ∧ n ≤ c ∧ (w.cell? ⟨bo, off + j * 3, none⟩ = some (.string (g j).nm) ∧ w.cell? ⟨bo, off + j * 3 + 1, none⟩ = some (.int .i64 (g j).club) ∧ w.cell? ⟨bo, off + j * 3 + 2, none⟩ = some (.int .i64 (g j).seed)) := by
  obtain ⟨aa, cap, he, _, hc⟩ := h.form'
  simp only [Value.slice.injEq, true_and] at he
  obtain ⟨bo, off, h1, h2, h3⟩ := hc (by omega)
  obtain ⟨rfl, rfl⟩ := he
  exact ⟨bo, off, h1, h2, h3 j hj⟩
theorem wrapEqJ (x : Int) : IntKind.i64.wrap x = wrap64 x := by rw [IntKind.wrap_i64]; unfold wrap64; omega

set_option maxRecDepth 100000 in
set_option maxHeartbeats 2000000 in
theorem j_points (fa : Option Addr) (fc : Nat) (la : Option Addr) (lc : Nat) (ga : Option Addr) (gc : Nat) (qa : Option Addr) (qc : Nat) (ta : Option Addr) (tc : Nat) (b : BookD) (ra : Option Addr) (rc : Nat) (T : Nat → RowD) (t : Nat) (w : World) (hp : bookP b) (h : BookRow w (.slice fa b.nf fc) (.slice la b.nl lc) (.slice ga b.m gc) (.slice qa b.nfa qc) (.slice ta b.nta tc) b) (ht : RowRow w (.slice ra b.nf rc) b.nf T) (hlt : t < b.nf) :
    Calls Tryz.prog 89 #[.agg #[.slice fa b.nf fc, .int .i64 b.win, .int .i64 b.draw, .int .i64 b.loss, .slice la b.nl lc, .bool b.again, .slice ga b.m gc, .slice qa b.nfa qc, .slice ta b.nta tc, .slice ra b.nf rc], .int .i64 t] w fun e w' => e = .returned (.int .i64 (T t).points) ∧ Below w.heap.size w w' := by
  have K0 := Lib.hid (JgAt.made h ht 74)
  have hsix := h.sixty
  clear h ht
  obtain ⟨bo, off, rfl, hcap, hc⟩ := row_of K0.out.tab hlt
  obtain ⟨c0, c1, c2, c3, c4, c5, c6⟩ := row_cells hc
  clear hc
  generalize T t = x at *
  obtain ⟨d0, d1, d2, d3, d4, d5, d6, d7, d8, d9⟩ := K0.out.cells
  have HB := Lib.hid K0.out.bel
  clear K0
  go_enter Tryz.func89, Tryz.ntmps89
  go_wp2
  go_ret
  exact ⟨rfl, HB.out⟩

set_option maxRecDepth 100000 in
set_option maxHeartbeats 2000000 in
theorem j_scored (fa : Option Addr) (fc : Nat) (la : Option Addr) (lc : Nat) (ga : Option Addr) (gc : Nat) (qa : Option Addr) (qc : Nat) (ta : Option Addr) (tc : Nat) (b : BookD) (ra : Option Addr) (rc : Nat) (T : Nat → RowD) (t : Nat) (w : World) (hp : bookP b) (h : BookRow w (.slice fa b.nf fc) (.slice la b.nl lc) (.slice ga b.m gc) (.slice qa b.nfa qc) (.slice ta b.nta tc) b) (ht : RowRow w (.slice ra b.nf rc) b.nf T) (hlt : t < b.nf) :
    Calls Tryz.prog 86 #[.agg #[.slice fa b.nf fc, .int .i64 b.win, .int .i64 b.draw, .int .i64 b.loss, .slice la b.nl lc, .bool b.again, .slice ga b.m gc, .slice qa b.nfa qc, .slice ta b.nta tc, .slice ra b.nf rc], .int .i64 t] w fun e w' => e = .returned (.int .i64 (T t).scored) ∧ Below w.heap.size w w' := by
  have K0 := Lib.hid (JgAt.made h ht 74)
  have hsix := h.sixty
  clear h ht
  obtain ⟨bo, off, rfl, hcap, hc⟩ := row_of K0.out.tab hlt
  obtain ⟨c0, c1, c2, c3, c4, c5, c6⟩ := row_cells hc
  clear hc
  generalize T t = x at *
  obtain ⟨d0, d1, d2, d3, d4, d5, d6, d7, d8, d9⟩ := K0.out.cells
  have HB := Lib.hid K0.out.bel
  clear K0
  go_enter Tryz.func86, Tryz.ntmps86
  go_wp2
  go_ret
  exact ⟨rfl, HB.out⟩

set_option maxRecDepth 100000 in
set_option maxHeartbeats 2000000 in
theorem j_wins (fa : Option Addr) (fc : Nat) (la : Option Addr) (lc : Nat) (ga : Option Addr) (gc : Nat) (qa : Option Addr) (qc : Nat) (ta : Option Addr) (tc : Nat) (b : BookD) (ra : Option Addr) (rc : Nat) (T : Nat → RowD) (t : Nat) (w : World) (hp : bookP b) (h : BookRow w (.slice fa b.nf fc) (.slice la b.nl lc) (.slice ga b.m gc) (.slice qa b.nfa qc) (.slice ta b.nta tc) b) (ht : RowRow w (.slice ra b.nf rc) b.nf T) (hlt : t < b.nf) :
    Calls Tryz.prog 87 #[.agg #[.slice fa b.nf fc, .int .i64 b.win, .int .i64 b.draw, .int .i64 b.loss, .slice la b.nl lc, .bool b.again, .slice ga b.m gc, .slice qa b.nfa qc, .slice ta b.nta tc, .slice ra b.nf rc], .int .i64 t] w fun e w' => e = .returned (.int .i64 (T t).wins) ∧ Below w.heap.size w w' := by
  have K0 := Lib.hid (JgAt.made h ht 74)
  have hsix := h.sixty
  clear h ht
  obtain ⟨bo, off, rfl, hcap, hc⟩ := row_of K0.out.tab hlt
  obtain ⟨c0, c1, c2, c3, c4, c5, c6⟩ := row_cells hc
  clear hc
  generalize T t = x at *
  obtain ⟨d0, d1, d2, d3, d4, d5, d6, d7, d8, d9⟩ := K0.out.cells
  have HB := Lib.hid K0.out.bel
  clear K0
  go_enter Tryz.func87, Tryz.ntmps87
  go_wp2
  go_ret
  exact ⟨rfl, HB.out⟩

set_option maxRecDepth 100000 in
set_option maxHeartbeats 2000000 in
theorem j_difference (fa : Option Addr) (fc : Nat) (la : Option Addr) (lc : Nat) (ga : Option Addr) (gc : Nat) (qa : Option Addr) (qc : Nat) (ta : Option Addr) (tc : Nat) (b : BookD) (ra : Option Addr) (rc : Nat) (T : Nat → RowD) (t : Nat) (w : World) (hp : bookP b) (h : BookRow w (.slice fa b.nf fc) (.slice la b.nl lc) (.slice ga b.m gc) (.slice qa b.nfa qc) (.slice ta b.nta tc) b) (ht : RowRow w (.slice ra b.nf rc) b.nf T) (hlt : t < b.nf) :
    Calls Tryz.prog 85 #[.agg #[.slice fa b.nf fc, .int .i64 b.win, .int .i64 b.draw, .int .i64 b.loss, .slice la b.nl lc, .bool b.again, .slice ga b.m gc, .slice qa b.nfa qc, .slice ta b.nta tc, .slice ra b.nf rc], .int .i64 t] w fun e w' => e = .returned (.int .i64 (wrap64 ((T t).scored - (T t).against))) ∧ Below w.heap.size w w' := by
  have K0 := Lib.hid (JgAt.made h ht 74)
  have hsix := h.sixty
  clear h ht
  obtain ⟨bo, off, rfl, hcap, hc⟩ := row_of K0.out.tab hlt
  obtain ⟨c0, c1, c2, c3, c4, c5, c6⟩ := row_cells hc
  clear hc
  generalize T t = x at *
  have C := Lib.hid (fun wa => differenceOf_impl x wa)
  obtain ⟨d0, d1, d2, d3, d4, d5, d6, d7, d8, d9⟩ := K0.out.cells
  have HB := Lib.hid K0.out.bel
  clear K0
  go_enter Tryz.func85, Tryz.ntmps85
  go_wp2_with fail
  refine (C.out _).mono ?_
  rintro e w1 ⟨rfl, b1⟩
  have HB1 := Lib.hid (HB.out.trans (b1.mono HB.out.size))
  clear b1 HB C d0 d1 d2 d3 d4 d5 d6 d7 d8 d9 c0 c1 c2 c3 c4 c5 c6
  have HB := HB1
  go_wp2
  go_ret
  exact ⟨rfl, HB.out⟩

set_option maxRecDepth 100000 in
set_option maxHeartbeats 2000000 in
theorem j_fairness (fa : Option Addr) (fc : Nat) (la : Option Addr) (lc : Nat) (ga : Option Addr) (gc : Nat) (qa : Option Addr) (qc : Nat) (ta : Option Addr) (tc : Nat) (b : BookD) (ra : Option Addr) (rc : Nat) (T : Nat → RowD) (t : Nat) (w : World) (hp : bookP b) (h : BookRow w (.slice fa b.nf fc) (.slice la b.nl lc) (.slice ga b.m gc) (.slice qa b.nfa qc) (.slice ta b.nta tc) b) (ht : RowRow w (.slice ra b.nf rc) b.nf T) (hlt : t < b.nf) :
    Calls Tryz.prog 90 #[.agg #[.slice fa b.nf fc, .int .i64 b.win, .int .i64 b.draw, .int .i64 b.loss, .slice la b.nl lc, .bool b.again, .slice ga b.m gc, .slice qa b.nfa qc, .slice ta b.nta tc, .slice ra b.nf rc], .int .i64 t] w fun e w' => e = .returned (.int .i64 (wrap64 (-(b.fa t)))) ∧ Below w.heap.size w w' := by
  have K0 := Lib.hid (JgAt.made h ht 74)
  have hsix := h.sixty
  clear h ht
  have hlt2 : t < b.nfa := by have hfa : b.nfa = b.nf := hp.2.2.2.1; omega
  obtain ⟨bo, off, rfl, hcap, c0⟩ := int_at K0.out.row.2.2.2.1 hlt2
  generalize b.fa t = x at *
  obtain ⟨d0, d1, d2, d3, d4, d5, d6, d7, d8, d9⟩ := K0.out.cells
  have HB := Lib.hid K0.out.bel
  clear K0
  go_enter Tryz.func90, Tryz.ntmps90
  go_wp2
  go_ret
  exact ⟨rfl, HB.out⟩

set_option maxRecDepth 100000 in
set_option maxHeartbeats 2000000 in
theorem j_seeding (fa : Option Addr) (fc : Nat) (la : Option Addr) (lc : Nat) (ga : Option Addr) (gc : Nat) (qa : Option Addr) (qc : Nat) (ta : Option Addr) (tc : Nat) (b : BookD) (ra : Option Addr) (rc : Nat) (T : Nat → RowD) (t : Nat) (w : World) (hp : bookP b) (h : BookRow w (.slice fa b.nf fc) (.slice la b.nl lc) (.slice ga b.m gc) (.slice qa b.nfa qc) (.slice ta b.nta tc) b) (ht : RowRow w (.slice ra b.nf rc) b.nf T) (hlt : t < b.nf) :
    Calls Tryz.prog 91 #[.agg #[.slice fa b.nf fc, .int .i64 b.win, .int .i64 b.draw, .int .i64 b.loss, .slice la b.nl lc, .bool b.again, .slice ga b.m gc, .slice qa b.nfa qc, .slice ta b.nta tc, .slice ra b.nf rc], .int .i64 t] w fun e w' => e = .returned (.int .i64 (wrap64 (-(b.f t).seed))) ∧ Below w.heap.size w w' := by
  have K0 := Lib.hid (JgAt.made h ht 74)
  have hsix := h.sixty
  clear h ht
  obtain ⟨bo, off, rfl, hcap, cc⟩ := team_of K0.out.row.1 hlt
  obtain ⟨c0, c1, c2⟩ := cc
  generalize b.f t = x at *
  obtain ⟨d0, d1, d2, d3, d4, d5, d6, d7, d8, d9⟩ := K0.out.cells
  have HB := Lib.hid K0.out.bel
  clear K0
  go_enter Tryz.func91, Tryz.ntmps91
  go_wp2
  go_ret
  exact ⟨rfl, HB.out⟩

set_option maxRecDepth 100000 in
set_option maxHeartbeats 2000000 in
theorem j_left (fa : Option Addr) (fc : Nat) (la : Option Addr) (lc : Nat) (ga : Option Addr) (gc : Nat) (qa : Option Addr) (qc : Nat) (ta : Option Addr) (tc : Nat) (b : BookD) (ra : Option Addr) (rc : Nat) (T : Nat → RowD) (t : Nat) (w : World) (hp : bookP b) (h : BookRow w (.slice fa b.nf fc) (.slice la b.nl lc) (.slice ga b.m gc) (.slice qa b.nfa qc) (.slice ta b.nta tc) b) (ht : RowRow w (.slice ra b.nf rc) b.nf T) (hlt : t < b.nf) :
    Calls Tryz.prog 84 #[.agg #[.slice fa b.nf fc, .int .i64 b.win, .int .i64 b.draw, .int .i64 b.loss, .slice la b.nl lc, .bool b.again, .slice ga b.m gc, .slice qa b.nfa qc, .slice ta b.nta tc, .slice ra b.nf rc], .int .i64 t] w fun e w' => e = .returned (.int .i64 (wrap64 ((T t).points - b.ta t))) ∧ Below w.heap.size w w' := by
  have hsix := h.sixty
  have hlt2 : t < b.nta := by have hta : b.nta = b.nf := hp.2.2.2.2.1; omega
  have hw := fun (x y : Int) => wrapEqJ (x - y)
  have C := Lib.hid (fun wa h1 h2 => j_points fa fc la lc ga gc qa qc ta tc b ra rc T t wa hp h1 h2 hlt)
  have HR := Lib.hid h
  have HTT := Lib.hid ht
  obtain ⟨qo, qf, rfl, hcap, _⟩ := int_at h.2.2.2.2 hlt2
  have HT1 : Hid (∀ wa, Below w.heap.size w wa → wa.cell? ⟨qo, qf + t, none⟩ = some (.int .i64 (b.ta t))) := fun wa hb => by
    obtain ⟨q1, q2, hq, _, hc⟩ := int_at (HR.out.2.2.2.2.below hb (Nat.le_refl _)) hlt2
    simp only [Option.some.injEq, Addr.mk.injEq, and_true] at hq
    obtain ⟨rfl, rfl⟩ := hq
    exact hc
  clear h ht
  generalize T t = x at *
  generalize b.ta t = y at *
  go_enter Tryz.func84, Tryz.ntmps84
  obtain ⟨S, HSd⟩ : ∃ S : World → Prop, S = fun w' => (fun z => JgAt w z w.heap.size fa fc la lc ga gc qa qc (some ⟨qo, qf, none⟩) tc b ra rc T) w' := ⟨_, rfl⟩
  have KS : Hid (∀ wa wb, S wa → Below wa.heap.size wa wb → S wb) := by subst HSd; exact fun wa wb h b => h.next b
  have OS : Hid (∀ wa, S wa → (fun z => JgAt w z w.heap.size fa fc la lc ga gc qa qc (some ⟨qo, qf, none⟩) tc b ra rc T) wa) := by subst HSd; exact fun wa h => h
  have IS : Hid (∀ wa, (fun z => JgAt w z w.heap.size fa fc la lc ga gc qa qc (some ⟨qo, qf, none⟩) tc b ra rc T) wa → S wa) := by subst HSd; exact fun wa h => h
  clear HSd
  go_wp2_with fail
  refine wp_region_held_drew (S := S) (by kernel_rfl) ?_ (fun hHeld => ?_)
  · exact IS.out _ ((JgAt.made HR.out HTT.out 74).drew)
  refine wpAnyH_take (i := 0) (v := ?_) rfl (by kernel_rfl) (by kernel_rfl) (by kernel_rfl) (fun _ _ _ h => h) (Or.inl ⟨by rfl, ?_⟩) hHeld ?_
  rotate_left
  · (intro wa hSw; have K := OS.out _ hSw; obtain ⟨d0, d1, d2, d3, d4, d5, d6, d7, d8, d9⟩ := K.cells; have z0 := HT1.out _ K.bel; go_simp; try with_reducible rfl)
  simp only [Act.put, List.getElem_toArray, List.getElem_cons_zero, List.setIfInBounds_toArray, List.set_cons_zero, List.set_cons_succ]
  refine wpAnyH_take (i := 1) (v := ?_) rfl (by kernel_rfl) (by kernel_rfl) (by kernel_rfl) (fun _ _ _ h => h) (Or.inl ⟨by rfl, ?_⟩) hHeld ?_
  rotate_left
  · (intro wa hSw; go_simp; try with_reducible rfl)
  simp only [Act.put, List.getElem_toArray, List.getElem_cons_zero, List.getElem_cons_succ, List.setIfInBounds_toArray, List.set_cons_zero, List.set_cons_succ]
  refine wpAnyH_take (i := 3) (v := ?_) rfl (by kernel_rfl) (by kernel_rfl) (by kernel_rfl) (fun _ _ _ h => h) (Or.inl ⟨by rfl, ?_⟩) hHeld ?_
  rotate_left
  · (intro wa hSw; go_simp; try with_reducible rfl)
  simp only [Act.put, List.getElem_toArray, List.getElem_cons_zero, List.getElem_cons_succ, List.setIfInBounds_toArray, List.set_cons_zero, List.set_cons_succ]
  refine wpAnyH_take (i := 4) (v := ?_) rfl (by kernel_rfl) (by kernel_rfl) (by kernel_rfl) (fun _ _ _ h => h) (Or.inl ⟨by rfl, ?_⟩) hHeld ?_
  rotate_left
  · (intro wa hSw; go_simp; try with_reducible rfl)
  simp only [Act.put, List.getElem_toArray, List.getElem_cons_zero, List.getElem_cons_succ, List.setIfInBounds_toArray, List.set_cons_zero, List.set_cons_succ]
  refine wpAnyH_take (i := 5) (v := ?_) rfl (by kernel_rfl) (by kernel_rfl) (by kernel_rfl) (fun _ _ _ h => h) (Or.inl ⟨by rfl, ?_⟩) hHeld ?_
  rotate_left
  · (intro wa hSw; have K := OS.out _ hSw; obtain ⟨d0, d1, d2, d3, d4, d5, d6, d7, d8, d9⟩ := K.cells; have z0 := HT1.out _ K.bel; go_simp; try with_reducible rfl)
  simp only [Act.put, List.getElem_toArray, List.getElem_cons_zero, List.getElem_cons_succ, List.setIfInBounds_toArray, List.set_cons_zero, List.set_cons_succ]
  refine wpAnyH_take (i := 6) (v := ?_) rfl (by kernel_rfl) (by kernel_rfl) (by kernel_rfl) (fun _ _ _ h => h) (Or.inl ⟨by rfl, ?_⟩) hHeld ?_
  rotate_left
  · (intro wa hSw; go_simp; try with_reducible rfl)
  simp only [Act.put, List.getElem_toArray, List.getElem_cons_zero, List.getElem_cons_succ, List.setIfInBounds_toArray, List.set_cons_zero, List.set_cons_succ]
  refine wpAnyH_take (i := 7) (v := ?_) rfl (by kernel_rfl) (by kernel_rfl) (by kernel_rfl) (fun _ _ _ h => h) (Or.inl ⟨by rfl, ?_⟩) hHeld ?_
  rotate_left
  · (intro wa hSw; go_simp; try with_reducible rfl)
  simp only [Act.put, List.getElem_toArray, List.getElem_cons_zero, List.getElem_cons_succ, List.setIfInBounds_toArray, List.set_cons_zero, List.set_cons_succ]
  refine wpAnyH_take (i := 8) (v := ?_) rfl (by kernel_rfl) (by kernel_rfl) (by kernel_rfl) (fun _ _ _ h => h) (Or.inl ⟨by rfl, ?_⟩) hHeld ?_
  rotate_left
  · (intro wa hSw; have K := OS.out _ hSw; obtain ⟨d0, d1, d2, d3, d4, d5, d6, d7, d8, d9⟩ := K.cells; have z0 := HT1.out _ K.bel; go_simp; try with_reducible rfl)
  simp only [Act.put, List.getElem_toArray, List.getElem_cons_zero, List.getElem_cons_succ, List.setIfInBounds_toArray, List.set_cons_zero, List.set_cons_succ]
  refine wpAnyH_ready (rs := [2]) (by kernel_rfl) (by simp) ?_
  refine AllReadyH.cons (o := _) rfl (fun K hK => ?_) AllReadyH.nil
  go_simp
  have KK := OS.out _ hHeld
  refine (C.out _ KK.row KK.tab).mono ?_
  rintro e w101 ⟨rfl, b101⟩
  clear KK
  (try go_wp2_with fail)
  refine hK.out _ _ ?_ (fun hHeld101 => ?_)
  · exact KS.out _ _ hHeld b101
  clear hK K
  refine wpAnyH_take (i := 9) (v := ?_) rfl (by kernel_rfl) (by kernel_rfl) (by kernel_rfl) (fun _ _ _ h => h) (Or.inl ⟨by rfl, ?_⟩) hHeld101 ?_
  rotate_left
  · (intro wa hSw; go_simp; try with_reducible rfl)
  simp only [Act.put, List.getElem_toArray, List.getElem_cons_zero, List.getElem_cons_succ, List.setIfInBounds_toArray, List.set_cons_zero, List.set_cons_succ]
  refine wpAnyH_take (i := 10) (v := ?_) rfl (by kernel_rfl) (by kernel_rfl) (by kernel_rfl) (fun _ _ _ h => h) (Or.inl ⟨by rfl, ?_⟩) hHeld101 ?_
  rotate_left
  · (intro wa hSw; go_simp; try with_reducible rfl)
  simp only [Act.put, List.getElem_toArray, List.getElem_cons_zero, List.getElem_cons_succ, List.setIfInBounds_toArray, List.set_cons_zero, List.set_cons_succ]
  refine wpAnyH_done (by kernel_rfl) ?_ _
  have KE := Lib.hid (OS.out _ hHeld101)
  clear KS OS IS hHeld hHeld101
  have HB := Lib.hid KE.out.bel
  clear KE
  go_wp2
  go_ret
  exact ⟨rfl, HB.out⟩

end Go.Proofs.YtakbolkdbpehoaaGreat
set_option linter.unusedVariables false
namespace Go.Proofs.YtakbolkdbpehoaaGreat
open Go.RowKit

/-- the function value answers V at the teams below n -/
def ValFn (w : World) (fv : Value) (n : Nat) (V : Nat → Int) : Prop :=
  ∃ (f : Nat) (bd : Array Value), (bd = #[] ∨ ∃ J, bd = #[J]) ∧ fv = .func (.func f) bd #[] ∧ Entered f ∧ ∀ (t : Nat) w', t < n → Below w.heap.size w w' → Calls Tryz.prog f (bd.push (.int .i64 t)) w' fun e w'' => e = .returned (.int .i64 (V t)) ∧ Below w'.heap.size w' w''
theorem ValFn.below {w w' : World} {fv : Value} {n : Nat} {V : Nat → Int} (h : ValFn w fv n V) (hb : Below w.heap.size w w') : ValFn w' fv n V := by
  obtain ⟨f, bd, h1, h2, h3, h4⟩ := h
  exact ⟨f, bd, h1, h2, h3, fun t w2 ht h => h4 t w2 ht (hb.trans (h.mono hb.size))⟩

set_option maxRecDepth 100000 in
set_option maxHeartbeats 2000000 in
theorem val0_impl (x : Int) (w : World) :
    Calls Tryz.prog 92 #[.int .i64 x] w fun e w' => e = .returned (.int .i64 0) ∧ Below w.heap.size w w' := by
  go_enter Tryz.func92, Tryz.ntmps92
  go_wp2
  go_ret
  exact ⟨rfl, Below.refl _ _⟩

set_option maxRecDepth 100000 in
set_option maxHeartbeats 2000000 in
theorem valueBy_impl (fa : Option Addr) (fc : Nat) (la : Option Addr) (lc : Nat) (ga : Option Addr) (gc : Nat) (qa : Option Addr) (qc : Nat) (ta : Option Addr) (tc : Nat) (b : BookD) (ra : Option Addr) (rc : Nat) (key : Int) (gv : Value) (ng : Nat) (gg : Nat → Int) (w : World) (hp : bookP b) (h : BookRow w (.slice fa b.nf fc) (.slice la b.nl lc) (.slice ga b.m gc) (.slice qa b.nfa qc) (.slice ta b.nta tc) b) (ht : RowRow w (.slice ra b.nf rc) b.nf (tabAll b)) (hgv : IntRow w gv ng gg) :
    Calls Tryz.prog 45 #[.agg #[.slice fa b.nf fc, .int .i64 b.win, .int .i64 b.draw, .int .i64 b.loss, .slice la b.nl lc, .bool b.again, .slice ga b.m gc, .slice qa b.nfa qc, .slice ta b.nta tc, .slice ra b.nf rc], .int .i64 key, gv] w fun e w' => ∃ fv, e = .returned fv ∧ ValFn w' fv b.nf (bookV b key gg ng) ∧ Below w.heap.size w w' := by
  have K0 := Lib.hid (JgAt.made h ht 74)
  have HR0 := Lib.hid h
  have HT0 := Lib.hid ht
  have HG := Lib.hid hgv
  have CA := Lib.hid (fun wa h1 h2 h3 => among_impl fa fc la lc ga gc qa qc ta tc b ra rc (tabAll b) gv ng gg wa hp h1 h2 h3)
  obtain ⟨xa, xc, rfl, _, _⟩ := hgv.form
  clear h ht hgv
  by_cases k1 : key = 1
  case pos =>
    subst k1
    go_enter Tryz.func45, Tryz.ntmps45
    have HV : Hid (∀ t, bookV b 1 gg ng t = wrap64 (((tabAll b) t).points - b.ta t)) := fun t => by unfold bookV; rw [bookT_plain (by decide)]; rfl
    obtain ⟨d0, d1, d2, d3, d4, d5, d6, d7, d8, d9⟩ := K0.out.cells
    go_wp2
    go_ret
    exact ⟨_, rfl, ⟨84, #[.agg #[.slice fa b.nf fc, .int .i64 b.win, .int .i64 b.draw, .int .i64 b.loss, .slice la b.nl lc, .bool b.again, .slice ga b.m gc, .slice qa b.nfa qc, .slice ta b.nta tc, .slice ra b.nf rc]], .inr ⟨_, rfl⟩, rfl, (fun _ _ => rfl), fun t w' ht hb => by have h1 := j_left fa fc la lc ga gc qa qc ta tc b ra rc (tabAll b) t w' hp (HR0.out.below (K0.out.bel.trans (hb.mono K0.out.bel.size)) (Nat.le_refl _)) (HT0.out.below (K0.out.bel.trans (hb.mono K0.out.bel.size)) (Nat.le_refl _)) ht; rw [HV.out t]; exact h1⟩, K0.out.bel⟩
  have g1 : (key == 1) = false := beq_eq_false_iff_ne.2 k1
  by_cases k2 : key = 2
  case pos =>
    subst k2
    clear k1 g1
    go_enter Tryz.func45, Tryz.ntmps45
    have HV : Hid (∀ t, bookV b 2 gg ng t = wrap64 (((tabAll b) t).scored - ((tabAll b) t).against)) := fun t => by unfold bookV; rw [bookT_plain (by decide)]; rfl
    obtain ⟨d0, d1, d2, d3, d4, d5, d6, d7, d8, d9⟩ := K0.out.cells
    go_wp2
    go_ret
    exact ⟨_, rfl, ⟨85, #[.agg #[.slice fa b.nf fc, .int .i64 b.win, .int .i64 b.draw, .int .i64 b.loss, .slice la b.nl lc, .bool b.again, .slice ga b.m gc, .slice qa b.nfa qc, .slice ta b.nta tc, .slice ra b.nf rc]], .inr ⟨_, rfl⟩, rfl, (fun _ _ => rfl), fun t w' ht hb => by have h1 := j_difference fa fc la lc ga gc qa qc ta tc b ra rc (tabAll b) t w' hp (HR0.out.below (K0.out.bel.trans (hb.mono K0.out.bel.size)) (Nat.le_refl _)) (HT0.out.below (K0.out.bel.trans (hb.mono K0.out.bel.size)) (Nat.le_refl _)) ht; rw [HV.out t]; exact h1⟩, K0.out.bel⟩
  have g2 : (key == 2) = false := beq_eq_false_iff_ne.2 k2
  by_cases k3 : key = 3
  case pos =>
    subst k3
    clear k1 g1 k2 g2
    go_enter Tryz.func45, Tryz.ntmps45
    have HV : Hid (∀ t, bookV b 3 gg ng t = ((tabAll b) t).scored) := fun t => by unfold bookV; rw [bookT_plain (by decide)]; rfl
    obtain ⟨d0, d1, d2, d3, d4, d5, d6, d7, d8, d9⟩ := K0.out.cells
    go_wp2
    go_ret
    exact ⟨_, rfl, ⟨86, #[.agg #[.slice fa b.nf fc, .int .i64 b.win, .int .i64 b.draw, .int .i64 b.loss, .slice la b.nl lc, .bool b.again, .slice ga b.m gc, .slice qa b.nfa qc, .slice ta b.nta tc, .slice ra b.nf rc]], .inr ⟨_, rfl⟩, rfl, (fun _ _ => rfl), fun t w' ht hb => by have h1 := j_scored fa fc la lc ga gc qa qc ta tc b ra rc (tabAll b) t w' hp (HR0.out.below (K0.out.bel.trans (hb.mono K0.out.bel.size)) (Nat.le_refl _)) (HT0.out.below (K0.out.bel.trans (hb.mono K0.out.bel.size)) (Nat.le_refl _)) ht; rw [HV.out t]; exact h1⟩, K0.out.bel⟩
  have g3 : (key == 3) = false := beq_eq_false_iff_ne.2 k3
  by_cases k4 : key = 4
  case pos =>
    subst k4
    clear k1 g1 k2 g2 k3 g3
    go_enter Tryz.func45, Tryz.ntmps45
    have HV : Hid (∀ t, bookV b 4 gg ng t = ((tabAll b) t).wins) := fun t => by unfold bookV; rw [bookT_plain (by decide)]; rfl
    obtain ⟨d0, d1, d2, d3, d4, d5, d6, d7, d8, d9⟩ := K0.out.cells
    go_wp2
    go_ret
    exact ⟨_, rfl, ⟨87, #[.agg #[.slice fa b.nf fc, .int .i64 b.win, .int .i64 b.draw, .int .i64 b.loss, .slice la b.nl lc, .bool b.again, .slice ga b.m gc, .slice qa b.nfa qc, .slice ta b.nta tc, .slice ra b.nf rc]], .inr ⟨_, rfl⟩, rfl, (fun _ _ => rfl), fun t w' ht hb => by have h1 := j_wins fa fc la lc ga gc qa qc ta tc b ra rc (tabAll b) t w' hp (HR0.out.below (K0.out.bel.trans (hb.mono K0.out.bel.size)) (Nat.le_refl _)) (HT0.out.below (K0.out.bel.trans (hb.mono K0.out.bel.size)) (Nat.le_refl _)) ht; rw [HV.out t]; exact h1⟩, K0.out.bel⟩
  have g4 : (key == 4) = false := beq_eq_false_iff_ne.2 k4
  by_cases k5 : key = 5
  case pos =>
    subst k5
    clear k1 g1 k2 g2 k3 g3 k4 g4
    go_enter Tryz.func45, Tryz.ntmps45
    have HV : Hid (∀ t, bookV b 5 gg ng t = ((tabSome b gg ng) t).points) := fun t => by unfold bookV; rw [bookT_mutual (by decide)]; rfl
    obtain ⟨d0, d1, d2, d3, d4, d5, d6, d7, d8, d9⟩ := K0.out.cells
    go_wp2_with fail
    refine (CA.out _ K0.out.row K0.out.tab (HG.out.below K0.out.bel (Nat.le_refl _))).mono ?_
    rintro e w4 ⟨ra2, rc2, rfl, hTR, b4⟩
    have HR4 := Lib.hid (K0.out.row.below b4 (Nat.le_refl _))
    have HT4 := Lib.hid hTR
    have HB4 := Lib.hid (K0.out.bel.trans (b4.mono K0.out.bel.size))
    clear hTR b4 K0 CA HR0 HT0 d0 d1 d2 d3 d4 d5 d6 d7 d8 d9
    go_wp2
    go_ret
    exact ⟨_, rfl, ⟨89, #[.agg #[.slice fa b.nf fc, .int .i64 b.win, .int .i64 b.draw, .int .i64 b.loss, .slice la b.nl lc, .bool b.again, .slice ga b.m gc, .slice qa b.nfa qc, .slice ta b.nta tc, .slice ra2 b.nf rc2]], .inr ⟨_, rfl⟩, rfl, (fun _ _ => rfl), fun t w' ht hb => by have h1 := j_points fa fc la lc ga gc qa qc ta tc b ra2 rc2 (tabSome b gg ng) t w' hp (HR4.out.below hb (Nat.le_refl _)) (HT4.out.below hb (Nat.le_refl _)) ht; rw [HV.out t]; exact h1⟩, HB4.out⟩
  have g5 : (key == 5) = false := beq_eq_false_iff_ne.2 k5
  by_cases k6 : key = 6
  case pos =>
    subst k6
    clear k1 g1 k2 g2 k3 g3 k4 g4 k5 g5
    go_enter Tryz.func45, Tryz.ntmps45
    have HV : Hid (∀ t, bookV b 6 gg ng t = wrap64 (((tabSome b gg ng) t).scored - ((tabSome b gg ng) t).against)) := fun t => by unfold bookV; rw [bookT_mutual (by decide)]; rfl
    obtain ⟨d0, d1, d2, d3, d4, d5, d6, d7, d8, d9⟩ := K0.out.cells
    go_wp2_with fail
    refine (CA.out _ K0.out.row K0.out.tab (HG.out.below K0.out.bel (Nat.le_refl _))).mono ?_
    rintro e w4 ⟨ra2, rc2, rfl, hTR, b4⟩
    have HR4 := Lib.hid (K0.out.row.below b4 (Nat.le_refl _))
    have HT4 := Lib.hid hTR
    have HB4 := Lib.hid (K0.out.bel.trans (b4.mono K0.out.bel.size))
    clear hTR b4 K0 CA HR0 HT0 d0 d1 d2 d3 d4 d5 d6 d7 d8 d9
    go_wp2
    go_ret
    exact ⟨_, rfl, ⟨85, #[.agg #[.slice fa b.nf fc, .int .i64 b.win, .int .i64 b.draw, .int .i64 b.loss, .slice la b.nl lc, .bool b.again, .slice ga b.m gc, .slice qa b.nfa qc, .slice ta b.nta tc, .slice ra2 b.nf rc2]], .inr ⟨_, rfl⟩, rfl, (fun _ _ => rfl), fun t w' ht hb => by have h1 := j_difference fa fc la lc ga gc qa qc ta tc b ra2 rc2 (tabSome b gg ng) t w' hp (HR4.out.below hb (Nat.le_refl _)) (HT4.out.below hb (Nat.le_refl _)) ht; rw [HV.out t]; exact h1⟩, HB4.out⟩
  have g6 : (key == 6) = false := beq_eq_false_iff_ne.2 k6
  by_cases k7 : key = 7
  case pos =>
    subst k7
    clear k1 g1 k2 g2 k3 g3 k4 g4 k5 g5 k6 g6
    go_enter Tryz.func45, Tryz.ntmps45
    have HV : Hid (∀ t, bookV b 7 gg ng t = wrap64 (-(b.fa t))) := fun t => by unfold bookV; rw [bookT_plain (by decide)]; rfl
    obtain ⟨d0, d1, d2, d3, d4, d5, d6, d7, d8, d9⟩ := K0.out.cells
    go_wp2
    go_ret
    exact ⟨_, rfl, ⟨90, #[.agg #[.slice fa b.nf fc, .int .i64 b.win, .int .i64 b.draw, .int .i64 b.loss, .slice la b.nl lc, .bool b.again, .slice ga b.m gc, .slice qa b.nfa qc, .slice ta b.nta tc, .slice ra b.nf rc]], .inr ⟨_, rfl⟩, rfl, (fun _ _ => rfl), fun t w' ht hb => by have h1 := j_fairness fa fc la lc ga gc qa qc ta tc b ra rc (tabAll b) t w' hp (HR0.out.below (K0.out.bel.trans (hb.mono K0.out.bel.size)) (Nat.le_refl _)) (HT0.out.below (K0.out.bel.trans (hb.mono K0.out.bel.size)) (Nat.le_refl _)) ht; rw [HV.out t]; exact h1⟩, K0.out.bel⟩
  have g7 : (key == 7) = false := beq_eq_false_iff_ne.2 k7
  by_cases k8 : key = 8
  case pos =>
    subst k8
    clear k1 g1 k2 g2 k3 g3 k4 g4 k5 g5 k6 g6 k7 g7
    go_enter Tryz.func45, Tryz.ntmps45
    have HV : Hid (∀ t, bookV b 8 gg ng t = wrap64 (-(b.f t).seed)) := fun t => by unfold bookV; rw [bookT_plain (by decide)]; rfl
    obtain ⟨d0, d1, d2, d3, d4, d5, d6, d7, d8, d9⟩ := K0.out.cells
    go_wp2
    go_ret
    exact ⟨_, rfl, ⟨91, #[.agg #[.slice fa b.nf fc, .int .i64 b.win, .int .i64 b.draw, .int .i64 b.loss, .slice la b.nl lc, .bool b.again, .slice ga b.m gc, .slice qa b.nfa qc, .slice ta b.nta tc, .slice ra b.nf rc]], .inr ⟨_, rfl⟩, rfl, (fun _ _ => rfl), fun t w' ht hb => by have h1 := j_seeding fa fc la lc ga gc qa qc ta tc b ra rc (tabAll b) t w' hp (HR0.out.below (K0.out.bel.trans (hb.mono K0.out.bel.size)) (Nat.le_refl _)) (HT0.out.below (K0.out.bel.trans (hb.mono K0.out.bel.size)) (Nat.le_refl _)) ht; rw [HV.out t]; exact h1⟩, K0.out.bel⟩
  have g8 : (key == 8) = false := beq_eq_false_iff_ne.2 k8
  have HV : Hid (∀ t, bookV b key gg ng t = 0) := fun t => by unfold bookV valD; simp [k1, k2, k3, k4, k5, k6, k7, k8]
  clear k1 k2 k3 k4 k5 k6 k7 k8
  obtain ⟨d0, d1, d2, d3, d4, d5, d6, d7, d8, d9⟩ := K0.out.cells
  go_enter Tryz.func45, Tryz.ntmps45
  go_wp2
  go_ret
  exact ⟨_, rfl, ⟨92, #[], .inl rfl, rfl, (fun _ _ => rfl), fun t w' ht hb => by have h1 := val0_impl t w'; rw [HV.out t]; exact h1⟩, K0.out.bel⟩

end Go.Proofs.YtakbolkdbpehoaaGreat
set_option linter.unusedVariables false
namespace Go.Proofs.YtakbolkdbpehoaaGreat
open Go.RowKit Go.Maps

/-- a pointer to record number i of the row at block b, offset o; nil where i is negative -/
def ptrV (b o : Nat) (i : Int) : Value := if i < 0 then .pointer none else .pointer (some ⟨b, o + i.toNat * 7, none⟩)
theorem ptrV_neg {b o : Nat} {i : Int} (h : i < 0) : ptrV b o i = .pointer none := if_pos h
theorem ptrV_nat (b o j : Nat) : ptrV b o (j : Int) = .pointer (some ⟨b, o + j * 7, none⟩) := by
  unfold ptrV; rw [if_neg (by omega)]; simp
/-- such a pointer read as its number -/
def ptrElem (b o : Nat) (v : Value) : Option (DataW Unit × List MemPlace) :=
  match v with
  | .pointer none => some (.lit (.int .i64 (-1)), [])
  | .pointer (some ⟨b', o', none⟩) => if b' = b ∧ o ≤ o' ∧ (o' - o) % 7 = 0 then some (.lit (.int .i64 (((o' - o) / 7 : Nat) : Int)), []) else none
  | _ => none
theorem ptrElem_mk (b o : Nat) {i : Int} (h : -1 ≤ i) : ptrElem b o (ptrV b o i) = some (.lit (.int .i64 i), []) := by
  by_cases h0 : i < 0
  · obtain rfl : i = -1 := by omega
    rw [ptrV_neg h0]; rfl
  · obtain ⟨j, rfl⟩ : ∃ j : Nat, i = (j : Int) := ⟨i.toNat, by omega⟩
    rw [ptrV_nat]
    unfold ptrElem
    have e1 : o + j * 7 - o = j * 7 := by omega
    simp [e1]
theorem ptrElem_inv {b o : Nat} {v : Value} {z : DataW Unit × List MemPlace} (h : ptrElem b o v = some z) : ∃ i : Int, -1 ≤ i ∧ v = ptrV b o i ∧ z = (.lit (.int .i64 i), []) := by
  unfold ptrElem at h
  split at h
  · exact ⟨-1, by omega, (ptrV_neg (by omega)).symm, (Option.some.inj h).symm⟩
  · rename_i b' o'
    by_cases hc : b' = b ∧ o ≤ o' ∧ (o' - o) % 7 = 0
    · rw [if_pos hc] at h
      obtain ⟨rfl, h1, h2⟩ := hc
      refine ⟨((o' - o) / 7 : Nat), by omega, ?_, (Option.some.inj h).symm⟩
      rw [ptrV_nat]
      have : o + (o' - o) / 7 * 7 = o' := by omega
      rw [this]
    · rw [if_neg hc] at h; cases h
  · cases h
/-- D holds the number F s at the key s, and nothing where F s is negative -/
def MapD (F : Int → Int) (D : DataW Unit) : Prop :=
  (∀ kl, has D kl = true ↔ ∃ s : Int, kl = .int .i64 s ∧ 0 ≤ F s) ∧ (∀ s : Int, D.atKey (.int .i64 s) (.lit (.int .i64 (-1))) = .lit (.int .i64 (F s))) ∧ ∀ s, -1 ≤ F s
theorem MapD.none : MapD (fun _ => -1) (.map []) :=
  ⟨fun kl => ⟨fun h => by simp [Maps.has_eq] at h, fun ⟨s, _, h⟩ => absurd (show (0 : Int) ≤ -1 from h) (by omega)⟩, fun s => rfl, fun s => Int.le_refl _⟩
theorem MapD.put {F F' : Int → Int} {D : DataW Unit} {s i : Int} (h : MapD F D) (hm : IsMap D) (hi : 0 ≤ i) (h1 : F' s = i) (h2 : ∀ t, t ≠ s → F' t = F t) : MapD F' (D.put (.int .i64 s) (.lit (.int .i64 i))) := by
  obtain ⟨ha, hb, hc⟩ := h
  have hk : WideAt.IsKeyLit (.int .i64 s) := trivial
  refine ⟨fun kl => ?_, fun t => ?_, fun t => ?_⟩
  · by_cases e : kl = .int .i64 s
    · subst e
      rw [has_put_same hm hk]
      exact ⟨fun _ => ⟨s, rfl, by omega⟩, fun _ => rfl⟩
    · rw [has_put_other e, ha kl]
      constructor
      · rintro ⟨t, rfl, ht⟩
        exact ⟨t, rfl, by rw [h2 t (fun e' => e (by rw [e']))]; exact ht⟩
      · rintro ⟨t, rfl, ht⟩
        exact ⟨t, rfl, by rw [h2 t (fun e' => e (by rw [e']))] at ht; exact ht⟩
  · by_cases e : t = s
    · subst e
      rw [atKey_put_same hm hk, h1]
    · rw [atKey_put_other (by simpa using e), hb t, h2 t e]
  · by_cases e : t = s
    · subst e; omega
    · rw [h2 t e]; exact hc t
theorem MapD.del {F F' : Int → Int} {D : DataW Unit} {s : Int} (h : MapD F D) (h1 : F' s = -1) (h2 : ∀ t, t ≠ s → F' t = F t) : MapD F' (D.del (.int .i64 s)) := by
  obtain ⟨ha, hb, hc⟩ := h
  refine ⟨fun kl => ?_, fun t => ?_, fun t => ?_⟩
  · by_cases e : kl = .int .i64 s
    · subst e
      rw [has_del_same]
      refine ⟨(fun h => by cases h), ?_⟩
      rintro ⟨t, e, ht⟩
      simp only [Lit.int.injEq, true_and] at e
      subst e
      omega
    · rw [has_del_other e, ha kl]
      constructor
      · rintro ⟨t, rfl, ht⟩
        exact ⟨t, rfl, by rw [h2 t (fun e' => e (by rw [e']))]; exact ht⟩
      · rintro ⟨t, rfl, ht⟩
        exact ⟨t, rfl, by rw [h2 t (fun e' => e (by rw [e']))] at ht; exact ht⟩
  · by_cases e : t = s
    · subst e
      rw [atKey_del_same, h1]
    · rw [atKey_del_other (by simpa using e), hb t, h2 t e]
  · by_cases e : t = s
    · subst e; omega
    · rw [h2 t e]; exact hc t
/-- block m of w is such a map, of at most n entries -/
def PtrMap (P : Program) (w : World) (k : TypeId) (b o m n : Nat) (F : Int → Int) : Prop := ∃ D : DataW Unit, w.ownsMap P k (ptrElem b o) m n D ∧ MapD F D
/-- .. and is being ranged over -/
def PtrRange (P : Program) (w : World) (k : TypeId) (b o m r n : Nat) (F : Int → Int) (left : Lit → Bool) (cnt : Nat) : Prop := ∃ D : DataW Unit, w.ranges P k (ptrElem b o) m r n D left cnt ∧ MapD F D
section
variable {P : Program} {w w' : World} {k e t : TypeId} {b o m n r cnt : Nat} {F : Int → Int} {left : Lit → Bool}
theorem PtrMap.made (w : World) (P : Program) (k : TypeId) (b o : Nat) : PtrMap P (w.alloc (.map #[] 0)) k b o w.heap.size 0 (fun _ => -1) := ⟨.map [], World.ownsMap_made w P k _, MapD.none⟩
theorem PtrMap.grown {row : Option Nat} (h : PtrMap P w k b o m n F) (hg : w.grownBy w' row) (hne : some m ≠ row) : PtrMap P w' k b o m n F := by
  obtain ⟨D, ho, hD⟩ := h
  exact ⟨D, ho.kept hg hne, hD⟩
theorem PtrMap.below {B : Nat} (h : PtrMap P w k b o m n F) (hb : Below B w w') (hB : w.heap.size ≤ B) : PtrMap P w' k b o m n F := h.grown (below_grown hb hB) (by simp)
theorem PtrMap.alloc (h : PtrMap P w k b o m n F) (x : Obj) : PtrMap P (w.alloc x) k b o m n F := h.grown (World.grownBy_alloc w x none) (by simp)
theorem PtrMap.mono {n' : Nat} (h : PtrMap P w k b o m n F) (hn : n ≤ n') : PtrMap P w k b o m n' F := by
  obtain ⟨D, ho, hD⟩ := h
  exact ⟨D, ho.mono hn, hD⟩
theorem PtrMap.lt (h : PtrMap P w k b o m n F) : m < w.heap.size := by
  obtain ⟨D, ho, _⟩ := h
  exact ho.lt
theorem PtrMap.congr {F' : Int → Int} (h : PtrMap P w k b o m n F) (hF : ∀ s, F' s = F s) : PtrMap P w k b o m n F' := by
  obtain rfl : F' = F := funext hF
  exact h
theorem PtrMap.run (h : PtrMap P w k b o m n F) (K : Keyed P k) (ht : P.underlying t = some (.map k e)) (hk : P.underlying k = some (.int .i64)) (hz : (zeroValue e).run P w = .ok (.pointer none) w) {s : Int} (hs : (Lit.int .i64 s).wf = true) :
    (Instr.lookup t (.map (some m)) (.int .i64 s) false).run P w = .ok (ptrV b o (F s)) w := by
  obtain ⟨D, ho, _, hb, hc⟩ := h
  obtain ⟨v, ps, hrun, hv⟩ := ho.lookup K ht hz (show ptrElem b o (.pointer none) = some (.lit (.int .i64 (-1)), []) from rfl) (keyOf_int_mk hk hs)
  obtain ⟨i, _, rfl, hx⟩ := ptrElem_inv hv
  simp only [Prod.mk.injEq] at hx
  rw [hb s] at hx
  simp only [DataW.lit.injEq, Lit.int.injEq, true_and] at hx
  rw [hrun, hx.1]
theorem PtrMap.len (h : PtrMap P w k b o m n F) (ht : P.underlying t = some (.map k e)) (ty : TypeId) : ∃ c : Nat, c ≤ n ∧ (Builtin.len_ #[t] ty #[.map (some m)]).run P w = .ok (.int .i64 (c : Int)) w := by
  obtain ⟨D, ho, _⟩ := h
  exact ⟨_, ho.size_le, ho.len ht ty⟩
/-- 'm[s] = &records[i]' -/
theorem wpList_ptrPut {ops : Array Oper} {rest : List Oper} {op : Oper} {a : Act} {Q : Exit → Act → World → Prop} (hg : op.guard = none) (mm x v : Operand) (t : TypeId) (hop : op.op = Op.mapUpdate t mm x v)
    (k e : TypeId) (K : Keyed P k) (ht : P.underlying t = some (.map k e)) (hk : P.underlying k = some (.int .i64)) (b o m n : Nat) (F F' : Int → Int)
    (hm : a.eval mm = .map (some m)) (hown : PtrMap P w k b o m n F) (hn : n < maxLen) (s i : Int) (hx : a.eval x = .int .i64 s) (hv : a.eval v = ptrV b o i) (hs : (Lit.int .i64 s).wf = true) (hi : 0 ≤ i) (h1 : F' s = i) (h2 : ∀ t, t ≠ s → F' t = F t)
    (hK : ∀ w', PtrMap P w' k b o m (n + 1) F' → w.grownBy w' (some m) → wpList P ops Q rest (a.put op.dst undef) w') :
    wpList P ops Q (op :: rest) a w := by
  obtain ⟨D, ho, hD⟩ := hown
  exact wpList_mapUpdate_own w hg mm x v t hop k e K ht (ptrElem b o) m n D hm ho hn _ _ (.int .i64 s) hx hv (keyOf_int_mk hk hs) (.lit (.int .i64 i)) [] (ptrElem_mk b o (by omega)) fun w' g1 g2 => hK w' ⟨_, g1, hD.put ho.isMap hi h1 h2⟩ g2
/-- 'range m' -/
theorem wpList_ptrRange {ops : Array Oper} {rest : List Oper} {op : Oper} {a : Act} {Q : Exit → Act → World → Prop} (hg : op.guard = none) (mm : Operand) (t : TypeId) (hop : op.op = Op.range t mm) (k e : TypeId) (K : Keyed P k) (ht : P.underlying t = some (.map k e)) (b o m n : Nat) (F : Int → Int)
    (hm : a.eval mm = .map (some m)) (hown : PtrMap P w k b o m n F)
    (hK : ∀ w' left cnt, (∀ kl, left kl = true ↔ ∃ s : Int, kl = .int .i64 s ∧ 0 ≤ F s) → PtrRange P w' k b o m w.heap.size n F left cnt → w.grownBy w' none → w'.heap.size = w.heap.size + 1 → wpList P ops Q rest (a.put op.dst (.pointer (some ⟨w.heap.size, 0, none⟩))) w') :
    wpList P ops Q (op :: rest) a w := by
  obtain ⟨D, ho, hD⟩ := hown
  exact wpList_range_own w hg mm t hop k e K ht (ptrElem b o) m n D hm ho fun w' g1 g2 g3 => hK w' _ _ hD.1 ⟨D, g1, hD⟩ g2 g3
/-- the step -/
theorem wpList_ptrNext {ops : Array Oper} {rest : List Oper} {op : Oper} {a : Act} {Q : Exit → Act → World → Prop} (hg : op.guard = none) (it : Operand) (hop : op.op = Op.next it false) (k : TypeId) (K : Keyed P k) (hk : P.underlying k = some (.int .i64))
    (b o m r n : Nat) (F : Int → Int) (left : Lit → Bool) (cnt : Nat) (hit : a.eval it = .pointer (some ⟨r, 0, none⟩)) (h : PtrRange P w k b o m r n F left cnt)
    (hDone : (∀ kl, left kl = false) → wpList P ops Q rest (a.put op.dst (.tuple #[.bool false])) w)
    (hMore : ∀ (s : Int) (j : Nat) (w' : World) (cnt' : Nat), (Lit.int .i64 s).wf = true → left (.int .i64 s) = true → F s = (j : Int) → PtrRange P w' k b o m r n F (fun z => left z && !z.sameKey (.int .i64 s)) cnt' → cnt' < cnt →
      w.grownBy w' (some r) → w'.heap.size = w.heap.size → (Instr.entry (.pointer (some ⟨r, 0, none⟩))).run P w' = .ok (.tuple #[.int .i64 s, .pointer (some ⟨b, o + j * 7, none⟩)]) w' → wpList P ops Q rest (a.put op.dst (.tuple #[.bool true, .int .i64 s, .pointer (some ⟨b, o + j * 7, none⟩)])) w') :
    wpList P ops Q (op :: rest) a w := by
  obtain ⟨D, ho, hD⟩ := h
  refine wpList_next_ranges w hg it hop k K (ptrElem b o) (Value.int .i64) (ptrV b o) (fun key kl hkey => by obtain ⟨x, rfl, _⟩ := Maps.keyOf_int_inv hk hkey; exact ⟨x, rfl⟩) (fun v y hv => by obtain ⟨i, _, rfl, _⟩ := ptrElem_inv hv; exact ⟨i, rfl⟩)
    m r n D left cnt hit ho (fun _ h => hDone h) fun x c kl y w' cnt' hkey hl hv hat hrg hlt hgr hsz hen => ?_
  obtain ⟨x', ex, rfl, hwf⟩ := Maps.keyOf_int_inv hk hkey
  obtain rfl : x = x' := by simpa using ex
  have hF : F x = c ∧ 0 ≤ F x := by
    obtain ⟨i, hi, hvi, rfl⟩ := ptrElem_inv hv
    have e1 := hat (.lit (.int .i64 (-1)))
    rw [hD.2.1 x] at e1
    simp only [DataW.lit.injEq, Lit.int.injEq, true_and] at e1
    have hpos : 0 ≤ F x := by
      cases hh : has D (.int .i64 x) with
      | true =>
        obtain ⟨s, es, hs⟩ := (hD.1 _).1 hh
        simp only [Lit.int.injEq, true_and] at es
        subst es; exact hs
      | false =>
        have a1 := atKey_of_not_has hh (.lit (.int .i64 (-1)))
        have a2 := atKey_of_not_has hh (.lit (.int .i64 (-2)))
        rw [hat] at a1 a2
        rw [a1] at a2
        simp at a2
    refine ⟨?_, hpos⟩
    obtain ⟨j, rfl⟩ : ∃ j : Nat, i = (j : Int) := ⟨i.toNat, by omega⟩
    rw [ptrV_nat] at hvi
    unfold ptrV at hvi
    split at hvi
    · cases hvi
    · simp only [Value.pointer.injEq, Option.some.injEq, Addr.mk.injEq, true_and, and_true] at hvi
      omega
  obtain ⟨j, hj⟩ : ∃ j : Nat, F x = (j : Int) := ⟨(F x).toNat, by omega⟩
  obtain rfl : c = (j : Int) := by omega
  rw [ptrV_nat] at hen ⊢
  exact hMore x j w' cnt' hwf hl hj ⟨D, hrg, hD⟩ hlt hgr hsz hen
/-- 'delete(m, s)' in the round -/
theorem wpList_ptrDel {ops : Array Oper} {rest : List Oper} {op : Oper} {a : Act} {Q : Exit → Act → World → Prop} (hg : op.guard = none) (mm x : Operand) (t k : TypeId) (hop : op.op = Op.call { callee := Callee.builtin Builtin.delete, args := #[mm, x], argTypes := #[t, k] })
    (e : TypeId) (K : Keyed P k) (ht : P.underlying t = some (.map k e)) (hk : P.underlying k = some (.int .i64)) (b o m r n : Nat) (F F' : Int → Int) (left : Lit → Bool) (cnt : Nat)
    (hm : a.eval mm = .map (some m)) (h : PtrRange P w k b o m r n F left cnt) (s : Int) (hx : a.eval x = .int .i64 s) (hs : (Lit.int .i64 s).wf = true) (h1 : F' s = -1) (h2 : ∀ t, t ≠ s → F' t = F t)
    (hK : ∀ w' cnt', PtrRange P w' k b o m r n F' (fun z => left z && !z.sameKey (.int .i64 s)) cnt' → cnt' ≤ cnt → w.grownBy w' (some m) → wpList P ops Q rest (a.put op.dst (.tuple #[])) w') :
    wpList P ops Q (op :: rest) a w := by
  obtain ⟨D, ho, hD⟩ := h
  exact wpList_delete_ranges w hg mm x t k hop e K ht (ptrElem b o) m r n D left cnt hm ho _ (.int .i64 s) hx (keyOf_int_mk hk hs) fun w' cnt' g1 g2 g3 => hK w' cnt' ⟨_, g1, hD.del h1 h2⟩ g2 g3.grown
theorem PtrRange.owns (h : PtrRange P w k b o m r n F left cnt) : PtrMap P w k b o m n F := by
  obtain ⟨D, ho, hD⟩ := h
  exact ⟨D, ho.owns, hD⟩
theorem PtrRange.left_eq (h : PtrRange P w k b o m r n F left cnt) : w.rangeLeft m r = cnt := by
  obtain ⟨D, ho, _⟩ := h
  exact ho.left_eq
theorem PtrRange.kept {row : Option Nat} (h : PtrRange P w k b o m r n F left cnt) (hg : w.grownBy w' row) (hm : some m ≠ row) (hr : some r ≠ row) : PtrRange P w' k b o m r n F left cnt := by
  obtain ⟨D, ho, hD⟩ := h
  exact ⟨D, ho.kept hg hm hr, hD⟩
theorem PtrRange.below {B : Nat} (h : PtrRange P w k b o m r n F left cnt) (hb : Below B w w') (hB : w.heap.size ≤ B) : PtrRange P w' k b o m r n F left cnt := h.kept (below_grown hb hB) (by simp) (by simp)
end
end Go.Proofs.YtakbolkdbpehoaaGreat
