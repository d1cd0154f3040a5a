/-
  Packed: SepSteps, RankSpec2, StepClone, TeamRec, TypeNote, Records, Records2, Records3, Records4, Records5, NotesList, Canon, Apply, Num, IntFmt.
-/
import Derived.Deep.RegionHeld3
import Derived.Lib.ItoaNum
import Derived.Lib.AtoiAll
import Derived.Test.YteciobkjfmddcaaGreatProg
import Derived.Laws.BytesArg
import Derived.Deep.RegionWith
import Derived.WalkSmall
import Derived.Sort.Grow
import Derived.KernelRfl
import Derived.Outline
import Derived.Test.YteciobkjfmddcaaGreatQ1
import Derived.Test.YteciobkjfmddcaaGreatQ3
import Derived.Test.YteciobkjfmddcaaGreatQ4
import Derived.Test.YteciobkjfmddcaaGreatQ6
import Derived.Test.YteciobkjfmddcaaGreatQ7
import Derived.Test.YteciobkjfmddcaaGreatQ8
import Derived.Test.YteciobkjfmddcaaGreatQ11
import Derived.Test.YteciobkjfmddcaaGreatQ14
import Derived.Test.YteciobkjfmddcaaGreatQ15
import Derived.Test.YteciobkjfmddcaaGreatQ16
set_option linter.unusedVariables false
namespace Go.Proofs.YteciobkjfmddcaaGreat
open Go.RowKit
attribute [local go_sem] Oper.semAt_some

theorem box_append {W w1 : World} {kB E n m : Nat} {T e : TypeId} {v v' : Value} {xs ys : List Value} {tmp : Obj} (hv : Boxed W kB T v) (hrow : W.ownsRow E e 1 v n xs) (hE : kB < E)
    (hown : w1.ownsRow E e 1 v' m ys) (hgrow : (W.alloc tmp).grownBy w1 v.ownBlock) :
    Boxed w1 kB T v ∧ Boxed (w1.setCell ⟨kB, 0, none⟩ v') kB T v' ∧ (w1.setCell ⟨kB, 0, none⟩ v').ownsRow E e 1 v' m ys ∧ KeepsOthers W (w1.setCell ⟨kB, 0, none⟩ v') ∧ Below kB W (w1.setCell ⟨kB, 0, none⟩ v') ∧
      (∀ k, k < W.heap.size → k ≠ kB → v.ownBlock ≠ some k → (w1.setCell ⟨kB, 0, none⟩ v').heap[k]? = W.heap[k]?) := by
  have hne : some kB ≠ v.ownBlock := fun h => by have := (hrow.lt kB h.symm).1; omega
  have hne' : some kB ≠ v'.ownBlock := fun h => by have := (hown.lt kB h.symm).1; omega
  have h1 : Boxed w1 kB T v := (hv.alloc tmp).kept hgrow hne
  refine ⟨h1, h1.set v', hown.kept (grownBy_setCell' w1 kB v') (.inr hne'.symm), ?_, ?_, fun k hk hkB hq => ?_⟩
  · refine ((KeepsOthers.alloc W tmp).trans (KeepsOthers.of_grownBy hgrow fun j o ej hj => ?_)).trans (KeepsOthers.setCell _ _ _)
    rcases (hrow.alloc tmp).2 with ⟨rfl, _⟩ | ⟨g, cap, cur, rfl, _, hgb, _⟩
    · simp [Value.ownBlock] at ej
    · obtain rfl : g = j := by simpa [Value.ownBlock] using ej
      rw [hgb] at hj; cases hj; rfl
  · refine (((Below.refl kB W).alloc (Nat.le_of_lt hv.lt) tmp).grown hgrow (by have := hv.lt; simp; omega) fun j ej => ?_).setCell (p := ⟨kB, 0, none⟩) (Nat.le_refl _) v'
    have := (hrow.lt j ej).1; omega
  · rw [Below.heap_setCell w1 _ v' k hkB]
    exact (hgrow.block k (by simp; omega) (fun h => hq h.symm)).trans (Below.heap_alloc W tmp k hk)
theorem sepAll_len (b : BookD) (x : Int) (hx : 0 ≤ x ∧ x < (b.nf : Int)) (h8 : b.nl ≤ 8) (hf : b.nf ≤ 8) : (sepAll b x).length ≤ 80 := by
  have h1 := congrArg List.length (sep_steps b x (allL b.nf) 0 (allL_mem.2 hx))
  rw [List.length_map] at h1
  have h2 := stepP_len b x _ (allL b.nf) 0 (Nat.lt_succ_self _)
  have h3 : rankM b.nl (allL b.nf).length 0 ≤ 80 := by
    rw [allL_len]
    unfold rankM
    have : b.nf * (b.nl + 1) ≤ 8 * 9 := Nat.mul_le_mul hf (by omega)
    omega
  unfold sepAll
  omega
theorem RelX.cells {b : BookD} {t : Int} {D H E : Nat} (pre : List SepX) (x : SepX) (W0 W : World) (k : Nat) (h : RelX b t D pre x W0 W) (hz : ZX H E x k) (hk : E ≤ k) : ∃ o : Obj, W.heap[k]? = some o ∧ o.isCells = true := by
  rcases hz with hz | hz
  · omega
  · rcases h.2.2.1.2 with ⟨e, _⟩ | ⟨g, cap, cur, e, _, hgb, _⟩
    · rw [e] at hz; cases hz
    · rw [e] at hz
      simp only [Value.ownBlock, Option.some.injEq] at hz
      subst hz
      exact ⟨_, hgb, rfl⟩
theorem RelX.below {b : BookD} {t : Int} {D : Nat} (pre : List SepX) (x : SepX) (W0 W W' : World) (h : RelX b t D pre x W0 W) (hb : Below W.heap.size W W') : RelX b t D pre x W0 W' :=
  ⟨h.1, owns_below h.2.1 hb (Nat.le_refl _), owns_below h.2.2.1 hb (Nat.le_refl _), h.2.2.2⟩
theorem RelX.put {b : BookD} {t : Int} {D E : Nat} (pre : List SepX) (x : SepX) (W0 W : World) (l : Nat) (o o' : Obj) (h : RelX b t D pre x W0 W) (_ : E ≤ l) (hl : W.heap[l]? = some o) (ho : o.isCells = false) : RelX b t D pre x (W0.putObj l o') (W.putObj l o') :=
  ⟨h.1, ownsRow_putObj h.2.1 o' hl ho, by rw [World.putObj_size]; exact ownsRow_putObj h.2.2.1 o' hl ho, by rw [World.putObj_size]; exact h.2.2.2⟩
theorem RelX.len {b : BookD} {t : Int} {D : Nat} {pre : List SepX} {x : SepX} {W0 W : World} (h : RelX b t D pre x W0 W) : pre.length < (sepAll b t).length := by
  obtain ⟨rest, e⟩ := h.1
  rw [e]; simp
set_option maxRecDepth 100000 in
set_option maxHeartbeats 2000000 in
theorem stepsOf_no (vf vl vg vfa vta : Value) (b : BookD) (x : Int) (w : World) (hR : ¬ (bookP b ∧ (0 ≤ x ∧ x ≤ (b.nf : Int) - 1))) (h : BookRow w vf vl vg vfa vta b) (hs : ∀ i, (b.f i).nm.size ≤ maxLen) :
    Calls Tryz.prog 11 #[.agg #[vf, .int .i64 b.win, .int .i64 b.draw, .int .i64 b.loss, vl, .bool b.again, vg, vfa, vta], .int .i64 x] w (IntsL w []) := by
  obtain ⟨fa, fc, la, lc, ga, gc, qa, qc, ta, tc, rfl, rfl, rfl, rfl, rfl⟩ := h.form
  obtain ⟨r1, hr1⟩ := boolEx (bookP b)
  have C1 := Lib.hid (fun wa h1 => bookOk_impl (.slice fa b.nf fc) (.slice la b.nl lc) (.slice ga b.m gc) (.slice qa b.nfa qc) (.slice ta b.nta tc) b r1 wa hr1 h1 hs)
  have C2 := Lib.hid (fun wa h1 => isTeamOf_impl (.slice fa b.nf fc) (.slice la b.nl lc) (.slice ga b.m gc) (.slice qa b.nfa qc) (.slice ta b.nta tc) b x wa h1)
  have K0 := Lib.hid (BkAt.made h 29)
  have hsix := h.sixty
  have HX : Hid (r1 = true → decide (0 ≤ x ∧ x < (b.nf : Int)) = false) := fun e => decide_eq_false fun h => hR ⟨hr1.1 e, by omega⟩
  clear hR hr1 h hs
  generalize decide (0 ≤ x ∧ x < (b.nf : Int)) = r2 at *
  obtain ⟨d0, d1, d2, d3, d4, d5, d6, d7, d8⟩ := K0.out.cells
  go_enter Tryz.func11, Tryz.ntmps11
  go_wp2_with fail
  refine (C1.out _ K0.out.row).mono ?_
  rintro e w1 ⟨rfl, b1⟩
  have K1 := Lib.hid (K0.out.next b1)
  clear d0 d1 d2 d3 d4 d5 d6 d7 d8 K0 b1
  obtain ⟨d0, d1, d2, d3, d4, d5, d6, d7, d8⟩ := K1.out.cells
  cases r1 with
  | false =>
    have HE := Lib.hid K1.out.bel
    go_wp2
    go_ret
    exact IntsL.none HE.out
  | true =>
    obtain rfl := HX.out (by first | rfl | trivial)
    go_wp2_with fail
    refine (C2.out _ K1.out.row).mono ?_
    rintro e w2 ⟨rfl, b2⟩
    have K2 := Lib.hid (K1.out.next b2)
    clear d0 d1 d2 d3 d4 d5 d6 d7 d8 K1 b2
    have HE := Lib.hid K2.out.bel
    go_wp2
    go_ret
    exact IntsL.none HE.out

set_option maxRecDepth 100000 in
set_option maxHeartbeats 4000000 in
theorem stepsOf_yes (vf vl vg vfa vta : Value) (b : BookD) (x : Int) (w : World) (hp : bookP b) (hx : 0 ≤ x ∧ x ≤ (b.nf : Int) - 1) (h : BookRow w vf vl vg vfa vta b) (hs : ∀ i, (b.f i).nm.size ≤ maxLen) :
    Calls Tryz.prog 11 #[.agg #[vf, .int .i64 b.win, .int .i64 b.draw, .int .i64 b.loss, vl, .bool b.again, vg, vfa, vta], .int .i64 x] w (IntsL w ((sepAll b x).map SepD.key)) := by
  obtain ⟨i0, hi, hz0, hz1, hz2⟩ := info_parts Tryz.infoI
  obtain ⟨fa, fc, la, lc, ga, gc, qa, qc, ta, tc, rfl, rfl, rfl, rfl, rfl⟩ := h.form
  have C1 := Lib.hid (fun wa h1 => bookOk_impl (.slice fa b.nf fc) (.slice la b.nl lc) (.slice ga b.m gc) (.slice qa b.nfa qc) (.slice ta b.nta tc) b true wa (by simp [hp]) h1 hs)
  have C2 := Lib.hid (fun wa h1 => isTeamOf_impl (.slice fa b.nf fc) (.slice la b.nl lc) (.slice ga b.m gc) (.slice qa b.nfa qc) (.slice ta b.nta tc) b x wa h1)
  rw [decide_eq_true (by omega : 0 ≤ x ∧ x < (b.nf : Int))] at C2
  have K0 := Lib.hid (BkAt.made h 29)
  have hsix := h.sixty
  have HP := Lib.hid hp
  have HX := Lib.hid hx
  have HR := Lib.hid h
  clear hp hx h hs
  obtain ⟨d0, d1, d2, d3, d4, d5, d6, d7, d8⟩ := K0.out.cells
  refine (callsIn_wide (n := 3)).1 ?_
  refine callsIn_of_wp_marks Tryz.func11 rfl trivial ?_ rfl
  simp only [Tryz.ntmps11, List.size_toArray, List.length_cons, List.length_nil, Nat.reduceAdd, Nat.reduceSub, Array.replicate_succ, Array.replicate_zero, List.push_toArray, List.append_toArray, List.nil_append, List.cons_append]
  refine wpIn_wide.2 ?_
  go_wp2_with fail
  refine (C1.out _ K0.out.row).mono ?_
  rintro e w1 ⟨rfl, b1⟩
  have K1 := Lib.hid (K0.out.next b1)
  clear d0 d1 d2 d3 d4 d5 d6 d7 d8 K0 b1
  obtain ⟨d0, d1, d2, d3, d4, d5, d6, d7, d8⟩ := K1.out.cells
  go_wp2_with fail
  refine (C2.out _ K1.out.row).mono ?_
  rintro e w2 ⟨rfl, b2⟩
  have K2 := Lib.hid (K1.out.next b2)
  clear d0 d1 d2 d3 d4 d5 d6 d7 d8 K1 b2
  have K3 := Lib.hid (K2.out.alloc (.cells #[.slice none 0 0] 24))
  have BX3 := Lib.hid (Boxed.new w2 24 (.slice none 0 0))
  obtain ⟨kB, hkB⟩ : ∃ kB, w2.heap.size = kB := ⟨_, rfl⟩
  have hs3 : (w2.alloc (.cells #[.slice none 0 0] 24)).heap.size = w2.heap.size + 1 := by simp
  obtain ⟨d0, d1, d2, d3, d4, d5, d6, d7, d8⟩ := K3.out.cells
  have HS3 := Lib.hid hs3
  have HKB := Lib.hid hkB
  clear hs3 hkB
  go_wp2_with fail
  refine (judgeOf_in (.slice fa b.nf fc) (.slice la b.nl lc) (.slice ga b.m gc) (.slice qa b.nfa qc) (.slice ta b.nta tc) b _ HP.out K3.out.row).mono ?_
  rintro e w4 ⟨ra, rc, rfl, hTR, b4, hlo⟩
  have HT4 := Lib.hid hTR
  have HLO := Lib.hid hlo
  have K4 := Lib.hid (K3.out.next b4)
  have BX4 := Lib.hid ((b4.block w2.heap.size (by rw [HS3.out]; omega)).trans BX3.out)
  have HS4 := Lib.hid b4.size
  clear hTR hlo d0 d1 d2 d3 d4 d5 d6 d7 d8 K3 BX3 b4
  go_wp2_with fail
  refine (separationsOf_impl fa fc la lc ga gc qa qc ta tc b ra rc x _).mono ?_
  rintro e w5 ⟨rfl, a1, a2, a3, b5, hs5⟩
  go_wp2_with fail
  have HSP : Hid (SpAt w5 w4.heap.size (w4.heap.size + 2) (w4.heap.size + 1) fa fc la lc ga gc qa qc ta tc b ra rc x) := ⟨a1, a2, a3, K4.out.row.below b5 (Nat.le_refl _), HT4.out.below b5 (Nat.le_refl _)⟩
  have HBW : Hid (Below w.heap.size w w5) := K4.out.bel.trans (b5.mono K4.out.bel.size)
  have HSZ : Hid (w.heap.size ≤ w2.heap.size ∧ w2.heap.size + 1 ≤ w4.heap.size ∧ w5.heap.size = w4.heap.size + 3) := ⟨K2.out.bel.size, by have := HS4.out; have := HS3.out; omega, hs5⟩
  have HBX : Hid (Boxed w5 w2.heap.size 24 (.slice none 0 0)) := (b5.block w2.heap.size (by have := HSZ.out; omega)).trans BX4.out
  have HSE := Lib.hid (sepIter 2 (by omega) w w5 (w2.heap.size + 1) w4.heap.size (w4.heap.size + 2) (w4.heap.size + 1) fa fc la lc ga gc qa qc ta tc b ra rc x HP.out (by have := HX.out; omega) HSP.out HR.out HBW.out (by have := HSZ.out; omega) (by have := HSZ.out; omega) (by have := HSZ.out; omega) (by have := HSZ.out; omega) (fun q hq => by have := HLO.out q hq; have := HS3.out; omega))
  have HLEN := Lib.hid (sepAll_len b x (by have := HX.out; omega) (by have := HP.out.2.1.2.2.2.1; omega) (by have := HP.out.1.1; omega))
  clear a1 a2 a3 b5 hs5 HT4 HLO BX4 HS4 HS3 K4 K2 HR HSP HKB C1 C2
  refine (wpIn_wide (n := 3)).1 ?_
  refine wpIn_rangeRel rfl (by omega) (gf := 83) (lb := #[.pointer (some ⟨w4.heap.size, 0, none⟩), .pointer (some ⟨w4.heap.size + 2, 0, none⟩), .pointer (some ⟨w4.heap.size + 1, 0, none⟩)]) rfl trivial (enters_of Tryz.func83 (by kernel_rfl) rfl) HSE.out (Below.refl _ _) HBW.out.size (fun _ => rfl) ?hZ ?hR1 ?hR2
    (fun (pre : List SepX) W => (∃ v, Boxed W w2.heap.size 24 v ∧ W.ownsRow w5.heap.size 3 1 v pre.length (pre.map fun X => Value.int .i64 X.key) ∧ True) ∧ Below w.heap.size w W)
    (fun _ _ => False)
    (OwnFrom.and (Own.from (holdsRow_own w5.heap.size w2.heap.size 24 3 1 (fun (pre : List SepX) => pre.length) (fun (pre : List SepX) => pre.map fun X => Value.int .i64 X.key) (fun _ _ => True)) _) (ownFrom_below (Nat.le_refl _) HBW.out.size))
    (fun _ _ _ _ hs _ _ => hs)
    ⟨⟨_, HBX.out, World.ownsRow_nil _ _ _ _, trivial⟩, HBW.out⟩
    (fun (X : SepX) a' W => ∃ sB, W.heap[sB]? = some (.cells #[.int .i64 X.key, X.gv, X.pv] 78 (0, 0)) ∧ a' = { tmps := #[.agg #[.slice fa b.nf fc, .int .i64 b.win, .int .i64 b.draw, .int .i64 b.loss, .slice la b.nl lc, .bool b.again, .slice ga b.m gc, .slice qa b.nfa qc, .slice ta b.nta tc], .int .i64 x, .pointer (some ⟨w.heap.size, 0, none⟩), undef, .slice none 0 0, .pointer (some ⟨w2.heap.size, 0, none⟩), .pointer (some ⟨sB, 0, none⟩), .agg #[.slice fa b.nf fc, .int .i64 b.win, .int .i64 b.draw, .int .i64 b.loss, .slice la b.nl lc, .bool b.again, .slice ga b.m gc, .slice qa b.nfa qc, .slice ta b.nta tc], .bool true, .bool false, .bool false, .agg #[.slice fa b.nf fc, .int .i64 b.win, .int .i64 b.draw, .int .i64 b.loss, .slice la b.nl lc, .bool b.again, .slice ga b.m gc, .slice qa b.nfa qc, .slice ta b.nta tc], .int .i64 x, .bool true, .bool false, .bool false, .agg #[.slice fa b.nf fc, .int .i64 b.win, .int .i64 b.draw, .int .i64 b.loss, .slice la b.nl lc, .bool b.again, .slice ga b.m gc, .slice qa b.nfa qc, .slice ta b.nta tc], .agg #[.slice fa b.nf fc, .int .i64 b.win, .int .i64 b.draw, .int .i64 b.loss, .slice la b.nl lc, .bool b.again, .slice ga b.m gc, .slice qa b.nfa qc, .slice ta b.nta tc, .slice ra b.nf rc], .int .i64 x, .func (.func 83) #[] #[.pointer (some ⟨w4.heap.size, 0, none⟩), .pointer (some ⟨w4.heap.size + 2, 0, none⟩), .pointer (some ⟨w4.heap.size + 1, 0, none⟩)], .agg #[.int .i64 X.key, X.gv, X.pv], undef, undef, undef, undef, undef, undef], defers := [] }) ?hAx ?assign ?body ?done ?stop
  case hZ => exact RelX.cells
  case hR1 => exact RelX.below
  case hR2 => exact RelX.put
  case hAx =>
    rintro X a' s A B row ⟨sB, h2, h3⟩ hg hr
    exact ⟨sB, (grownBy_keeps_cells hg (fun r e => (hr r e).2) h2 rfl).trans h2, h3⟩
  case assign =>
    rintro l pre ⟨key, gv, grp, pv, part⟩ W0 W K hI hb hr hsz hK
    obtain ⟨xa1, xc1, e1⟩ := owns_form hr.2.1
    obtain ⟨xa2, xc2, e2⟩ := owns_form hr.2.2.1
    dsimp only at e1 e2
    subst e1
    subst e2
    clear hI hb hr hsz
    gi_wp2
    exact hK _ _ ((Below.refl _ _).alloc (Nat.le_refl _) _) ⟨W.heap.size, World.alloc_heap_new _ _, rfl⟩
  case body =>
    rintro l pre X a' W0 W ⟨⟨v, hv0, hrow0, _⟩, hB0⟩ hb hr ⟨sB, hcs, rfl⟩ hsz
    have hv : Boxed W w2.heap.size 24 v := (hb.block _ hv0.lt).trans hv0
    have hrow := owns_below hrow0 hb (Nat.le_refl _)
    have hB := hB0.trans (hb.mono hB0.size)
    have HVQ : Hid (∀ q, v.ownBlock = some q → w5.heap.size ≤ q ∧ q < W0.heap.size) := fun q hq => hrow0.lt q hq
    have HPQ : Hid (∀ q, X.pv.ownBlock = some q → W0.heap.size ≤ q ∧ q < W.heap.size) := fun q hq => hr.2.2.1.lt q hq
    have hplen : pre.length < 80 := by have := hr.len; have := HLEN.out; omega
    have hkey : ∀ j, j < 3 → W.cell? ⟨sB, j, none⟩ = (#[Value.int .i64 X.key, X.gv, X.pv])[j]? := fun j _ => by simp [World.cell?, hcs]
    have hk0 := hkey 0 (by omega)
    simp at hk0
    have hc := hv.cell
    have HV := Lib.hid hv
    have HROW := Lib.hid hrow
    have HB := Lib.hid hB
    have hE : w2.heap.size < w5.heap.size := by have := HSZ.out; omega
    have hW5 : w5.heap.size ≤ W.heap.size := by have := hb.size; omega
    clear hkey hcs hr hv0 hrow0 hB0 hv hrow hB hb
    gi_wp2_with (gi_at_builtin; refine wpListIn_append_own _ rfl _ _ 24 rfl w5.heap.size 3 i0 (.int .i64 0) 1 8 Tryz.underlying24 hi hz0 hz1 hz2 rfl (by decide) _ _ _ rfl (HROW.out.alloc _) ⟨W.heap.size, 0, none⟩ 1 1 [.int .i64 X.key] rfl rfl (cell_one_new _ _ _) (by simp [Value.oneCell']) (by unfold maxLen; omega) (by omega) (by simp; omega) ?_; intro v' w9 hown' hgrow _; obtain ⟨g', cap', rfl⟩ := ownsRow_succ hown'; obtain ⟨hv1, hv2, hr2, hk2, hb2, hs2⟩ := box_append HV.out HROW.out hE hown' hgrow; have hc1 := hv1.cell; have hf1 := hv1.frozen)
    refine ⟨hk2.from _, ⟨hb2.mono HSZ.out.1, fun k hk hl => hs2 k hl ?_ ?_⟩, ⟨⟨_, hv2, ?_, trivial⟩, HB.out.trans (hb2.mono HSZ.out.1)⟩⟩
    · rcases hk with hk | hk
      · omega
      · have := HPQ.out k hk; omega
    · intro e
      have h1 := HVQ.out k e
      rcases hk with hk | hk
      · omega
      · have := HPQ.out k hk; omega
    · rw [List.length_append, List.map_append]
      exact hr2
  case done =>
    rintro D xs W hD hS ⟨⟨v, hv, hrow, _⟩, hB⟩ hK
    have hc := hv.cell
    have hlen : xs.map SepX.dat = sepAll b x := hS
    have HL : Hid ((sepAll b x).map SepD.key = xs.map SepX.key ∧ ((sepAll b x).map SepD.key).length = xs.length) := by
      rw [← hlen]
      refine ⟨?_, by simp⟩
      rw [List.map_map]; rfl
    clear hlen hS
    go_wp2
    refine ⟨by simp, .inl ⟨_, _, rfl, run_takeDeferred hK, ?_⟩⟩
    refine ⟨_, results_tmp rfl _ _ _, v, rfl, ?_, hB.trans (below_put _ _ _ _ (Nat.le_trans HBW.out.size hD))⟩
    rw [HL.out.2, HL.out.1, List.map_map]
    exact ownsRow_putObj (owns_mono hrow HBW.out.size) _ hK rfl
  case stop =>
    intro D pre W _ _ h _
    exact h.elim

theorem stepsOf_impl (vf vl vg vfa vta : Value) (b : BookD) (x : Int) (R : Bool) (w : World) (hR : R = true ↔ (bookP b ∧ (0 ≤ x ∧ x ≤ (b.nf : Int) - 1))) (h : BookRow w vf vl vg vfa vta b) (hs : ∀ i, (b.f i).nm.size ≤ maxLen) (hn6 : b.nf ≤ 1048576) :
    Calls Tryz.prog 11 #[.agg #[vf, .int .i64 b.win, .int .i64 b.draw, .int .i64 b.loss, vl, .bool b.again, vg, vfa, vta], .int .i64 x] w (IntsL w (if R = true then stepP b x (allL b.nf) 0 else [])) := by
  cases R with
  | true =>
    obtain ⟨hp, hx⟩ := hR.1 rfl
    rw [if_pos rfl, ← sep_steps b x _ _ (allL_mem.2 (by omega))]
    exact stepsOf_yes vf vl vg vfa vta b x w hp hx h hs
  | false =>
    rw [if_neg (by decide)]
    exact stepsOf_no vf vl vg vfa vta b x w (fun e => by have := hR.2 e; cases this) h hs
end Go.Proofs.YteciobkjfmddcaaGreat
set_option linter.unusedVariables false
namespace Go.Proofs.YteciobkjfmddcaaGreat
open Go.RowKit

theorem rank_ne (b : BookD) : ∀ G s, ∀ p ∈ rankP b G s, p ≠ [] := by
  refine rankP_ind b (P := fun _ _ L => ∀ p ∈ L, p ≠ []) (fun s p hp => by cases hp) (fun G s hG _ p hp => ?_) (fun G s hG h1 hs ih p hp => ?_)
  · simp only [List.mem_singleton] at hp; subst hp; exact hG
  · rw [rankP_step b hG h1 hs] at hp
    obtain ⟨q, hq, hpq⟩ := List.mem_flatMap.1 hp
    exact ih q hq p hpq
theorem flat_take {α : Type} (L : List (List α)) (k : Nat) {x : List α} (h : L[k]? = some x) : (L.take (k + 1)).flatten = (L.take k).flatten ++ x := by
  simp [List.take_add_one, h, List.flatten_append]
theorem flat_take_le {α : Type} (L : List (List α)) (k : Nat) : (L.take k).flatten.length ≤ L.flatten.length := by
  have h := congrArg List.length (congrArg List.flatten (List.take_append_drop k L))
  rw [List.flatten_append, List.length_append] at h
  omega
theorem all_flat (b : BookD) : (rankP b (allL b.nf) 0).flatten.length = b.nf := by rw [(rank_perm b (allL b.nf) 0).length_eq, allL_len]

end Go.Proofs.YteciobkjfmddcaaGreat
set_option linter.unusedVariables false
namespace Go.Proofs.YteciobkjfmddcaaGreat
open Go.RowKit

theorem step_cloneI {P : Program} (w : World) {ops : Array Oper} {o : Oper} {a : Act} {K : Act → World → Prop} {Q : Exit → Act → World → Prop} {E : Prop} (hgd : o.guard = none) (s x : Operand) (t : TypeId)
    (ho : o.op = .call { callee := .builtin .append, args := #[s, x], argTypes := #[t, t] })
    (base : Nat) (e : TypeId) (i : TypeInfo) (ht : P.underlying t = some (.slice e)) (hi : P.info? e = some i) (hz : i.zero = some (.int .i64 0)) (hsize : i.size = 1) (hby : i.bytes = 8)
    (D : Nat) (hs : a.eval s = .slice (some ⟨D, 0, none⟩) 0 0) (hown : w.ownsRow base e 1 (.slice (some ⟨D, 0, none⟩) 0 0) 0 [])
    (v : Value) (m : Nat) (g : Nat → Int) (hx : a.eval x = v) (hrow : IntRow w v m g) (h0 : 0 < m) (hm : m ≤ 1048576) (hbase : base ≤ D) (hD : D < w.heap.size)
    (h : ∀ gg cap w', w'.ownsRow base e 1 (.slice (some ⟨gg, 0, none⟩) m cap) m ((List.range m).map fun j => Value.int .i64 (g j)) → w.grownBy w' (some D) → K (a.put o.dst (.slice (some ⟨gg, 0, none⟩) m cap)) w') :
    if Region.wanted o (yielded ops a.tmps) = true then Oper.wp P o a w K Q else E := by
  rcases hrow with ⟨_, _, _, h1⟩ | ⟨b, off, c, rfl, _, _, hc, _⟩
  · omega
  refine step_append_lies w hgd s x t ho base e i (.int .i64 0) 1 8 ht hi hz hsize hby rfl (by decide) (.slice (some ⟨D, 0, none⟩) 0 0) 0 [] hs hown ⟨b, off, none⟩ m c ((List.range m).map fun j => Value.int .i64 (g j)) hx (by simp) ?_
    (by intro u hu; simp only [List.mem_map] at hu; obtain ⟨_, _, rfl⟩ := hu; rfl) h0 (by unfold maxLen; omega) (by omega) (by omega) _ rfl ?_
  · intro j u hu
    simp only [List.getElem?_map] at hu
    by_cases hj : j < m
    · rw [List.getElem?_range hj] at hu
      simp only [Option.map_some, Option.some.injEq] at hu
      subst hu
      have hadd : (⟨b, off, none⟩ : Addr).add j = ⟨b, off + j, none⟩ := by unfold Addr.add; split <;> simp_all
      rw [hadd]
      exact hc j hj
    · rw [List.getElem?_eq_none (by simp; omega)] at hu; cases hu
  · intro gg cap w' ho' hg' hat hlt
    simp only [Nat.zero_add, List.nil_append] at ho' ⊢
    exact h gg cap w' ho' hg'
end Go.Proofs.YteciobkjfmddcaaGreat
set_option linter.unusedVariables false
namespace Go.Proofs.YteciobkjfmddcaaGreat
open Go.RowKit

theorem TeamRow.rec {w : World} {v : Value} {n : Nat} {g : Nat → TeamD} (h : TeamRow w v n g) : RecRow 3 w v n fun i => (g i).cells := by
  rcases h with ⟨a, c, rfl, rfl⟩ | ⟨b, off, c, rfl, h0, h1, hc, h2⟩
  · exact .inl ⟨_, _, rfl, rfl⟩
  · refine .inr ⟨b, off, c, rfl, h0, h1, fun i hi => ⟨World.block_lt_of_cell? w _ (hc i hi).1, fun j u hu => ?_⟩, h2⟩
    have hj : j < 3 := by have := (List.getElem?_eq_some_iff.1 hu).1; simpa [TeamD.cells] using this
    have : j = 0 ∨ j = 1 ∨ j = 2 := by omega
    rcases this with rfl | rfl | rfl <;> (simp [TeamD.cells] at hu; subst hu)
    · exact (hc i hi).1
    · exact (hc i hi).2.1
    · exact (hc i hi).2.2
theorem RecRow.teams {w : World} {v : Value} {n : Nat} {g : Nat → TeamD} (h : RecRow 3 w v n fun i => (g i).cells) : TeamRow w v n g := by
  rcases h with ⟨a, c, rfl, rfl⟩ | ⟨b, off, c, rfl, h0, h1, hc, h2⟩
  · exact .inl ⟨_, _, rfl, rfl⟩
  · exact .inr ⟨b, off, c, rfl, h0, h1, fun i hi => ⟨(hc i hi).2 0 _ rfl, (hc i hi).2 1 _ rfl, (hc i hi).2 2 _ rfl⟩, h2⟩
end Go.Proofs.YteciobkjfmddcaaGreat
set_option linter.unusedVariables false
namespace Go.Proofs.YteciobkjfmddcaaGreat
open Go.RowKit

structure NoteD where
  serial : Int
  game : Int
  res : GameD
instance : Inhabited NoteD := ⟨⟨0, 0, ⟨0, 0, 0, 0, 0⟩⟩⟩
def NoteD.cells (t : NoteD) : List Value := [.int .i64 t.serial, .int .i64 t.game, .int .i64 t.res.home, .int .i64 t.res.away, .int .i64 t.res.hg, .int .i64 t.res.ag, .int .i64 t.res.st]
def NoteD.val (t : NoteD) : Value := .agg #[.int .i64 t.serial, .int .i64 t.game, .int .i64 t.res.home, .int .i64 t.res.away, .int .i64 t.res.hg, .int .i64 t.res.ag, .int .i64 t.res.st]
def NoteD.fit (t : NoteD) : Prop := IntFit t.serial ∧ IntFit t.game ∧ IntFit t.res.home ∧ IntFit t.res.away ∧ IntFit t.res.hg ∧ IntFit t.res.ag ∧ IntFit t.res.st
theorem NoteD.len (t : NoteD) : t.cells.length = 7 := rfl
def NoteRow (w : World) (v : Value) (n : Nat) (g : Nat → NoteD) : Prop := RecRow 7 w v n fun i => (g i).cells
theorem NoteRow.below {w w' : World} {B : Nat} {v : Value} {n : Nat} {g : Nat → NoteD} (h : NoteRow w v n g) (hb : Below B w w') (hB : w.heap.size ≤ B) : NoteRow w' v n g := RecRow.below h hb hB
theorem NoteRow.touch {lo hi lo' hi' : Nat} {w w' : World} {v : Value} {n : Nat} {g : Nat → NoteD} (h : NoteRow w v n g) (t : Touch lo hi w w') (hv : 0 < n → InW lo' hi' v) (ho : hi' ≤ lo ∨ hi ≤ lo') : NoteRow w' v n g := RecRow.touch h t hv ho
theorem NoteRow.form {w : World} {v : Value} {n : Nat} {g : Nat → NoteD} (h : NoteRow w v n g) : ∃ a cap, v = .slice a n cap ∧ n ≤ 9223372036854775807 ∧ (0 < n → ∃ b off, a = some ⟨b, off, none⟩ ∧ n ≤ cap ∧ ∀ i, i < n → CellsAt w b (off + i * 7) (g i).cells) := RecRow.form h
theorem InW.noteRow {hi : Nat} {v : Value} {w : World} {n : Nat} {g : Nat → NoteD} (h : NoteRow w v n g) (h0 : 0 < n) (hs : w.heap.size ≤ hi) : InW 0 hi v := RecRow.inw h h0 hs
theorem NoteRow.of_owns {w : World} {base : Nat} {e : TypeId} {v : Value} {n : Nat} {xs : List Value} {g : Nat → NoteD} (h : w.ownsRow base e 7 v n xs) (hn : n ≤ 9223372036854775807) (hg : RecCells 7 n xs fun i => (g i).cells) : NoteRow w v n g := RecRow.of_owns h hn hg fun _ _ => Nat.le_refl _
def noteMk (k : Int) (i : Nat) : NoteD := ⟨k + 7 * (i : Int), k + 7 * (i : Int) + 1, ⟨k + 7 * (i : Int) + 1 + 1, k + 7 * (i : Int) + 1 + 1 + 1, k + 7 * (i : Int) + 1 + 1 + 1 + 1, k + 7 * (i : Int) + 1 + 1 + 1 + 1 + 1, k + 7 * (i : Int) + 1 + 1 + 1 + 1 + 1 + 1⟩⟩
theorem tgrownNote {a b c : World} {row : Option Nat} (h : a.grownBy b row) (k : b.grownBy c row) : a.grownBy c row :=
  ⟨k.os.trans h.os, k.tape.trans h.tape, k.output.trans h.output, Nat.le_trans h.size k.size, fun i hi hne => (k.block i (Nat.lt_of_lt_of_le hi h.size) hne).trans (h.block i hi hne)⟩
section
open Go.ChangeShapes Go.WideShapes
variable {H : Type} {enc : TypeId × Value → H} {P : Program} {w : World} {base : Nat} {spare : Nat → Bool} {held : Bool}
theorem open_notes {t e : TypeId} {f0 f1 f2 : Field} {v : Value} (ht : P.underlying t = some (.slice e)) (he : P.underlying e = some (.struct #[f0, f1, f2]))
    (ce : P.cellsOf e = 7) (o0 : f0.offset = 0) (c0 : P.cellsOf f0.type = 1) (u0 : P.underlying f0.type = some (.int .i64)) (o1 : f1.offset = 1) (c1 : P.cellsOf f1.type = 1) (u1 : P.underlying f1.type = some (.int .i64)) (o2 : f2.offset = 2) (c2 : P.cellsOf f2.type = 5) {s0 s1 s2 s3 s4 : Field} (u2 : P.underlying f2.type = some (.struct #[s0, s1, s2, s3, s4])) (so0 : s0.offset = 0) (sc0 : P.cellsOf s0.type = 1) (su0 : P.underlying s0.type = some (.int .i64)) (so1 : s1.offset = 1) (sc1 : P.cellsOf s1.type = 1) (su1 : P.underlying s1.type = some (.int .i64)) (so2 : s2.offset = 2) (sc2 : P.cellsOf s2.type = 1) (su2 : P.underlying s2.type = some (.int .i64)) (so3 : s3.offset = 3) (sc3 : P.cellsOf s3.type = 1) (su3 : P.underlying s3.type = some (.int .i64)) (so4 : s4.offset = 4) (sc4 : P.cellsOf s4.type = 1) (su4 : P.underlying s4.type = some (.int .i64))
    (h : ∃ (fuel : Nat) (x : DataW H × List MemPlace), DataW.trod enc P w base spare held fuel t [v] = some x) : ∃ (n : Nat) (g : Nat → NoteD), NoteRow w v n g ∧ (∀ i, (g i).fit) ∧ n ≤ 9223372036854775807 := by
  obtain ⟨fuel, x, h⟩ := h
  have hz : (default : NoteD).fit := by simp [NoteD.fit, IntFit, default]
  rcases Go.Deep.open_slice ht h with ⟨h0, _⟩ | ⟨a, len, cap, m, q, D, Pl, h0, hb, hl, hm, hmm, rfl, hx⟩
  · simp only [List.cons.injEq, and_true] at h0
    subst h0
    exact ⟨0, fun _ => default, .inl ⟨_, _, rfl, rfl⟩, fun _ => hz, by omega⟩
  simp only [List.cons.injEq, and_true] at h0
  subst h0
  have hlm : len ≤ m := by rw [hmm]; split <;> omega
  have each : ∀ i, i < len → ∃ q : NoteD, (∀ j u, q.cells[j]? = some u → w.cell? ((a.add (i * 7)).add j) = some u) ∧ q.fit := by
    intro i hi
    obtain ⟨cs', h1, h2⟩ := hx i (by omega)
    rw [ce] at h1
    obtain ⟨_, hlen, hcell⟩ := World.cells?_some h1
    obtain ⟨xs, kk, hk, hxy, _, hxl, hf⟩ := DataW.trod_struct he h2
    match xs, hxl, cs', hlen with
    | [y0, y1, y2], _, [v0, v1, v2, v3, v4, v5, v6], _ =>
      have g0 := hf 0 f0 rfl
      simp [o0, c0] at g0
      obtain ⟨z0, e0, _, k0⟩ := DataW.trod_int u0 g0
      simp only [List.cons.injEq, and_true] at e0
      subst e0
      have g1 := hf 1 f1 rfl
      simp [o1, c1] at g1
      obtain ⟨z1, e1, _, k1⟩ := DataW.trod_int u1 g1
      simp only [List.cons.injEq, and_true] at e1
      subst e1
      have g2 := hf 2 f2 rfl
      simp [o2, c2] at g2
      obtain ⟨ys, k2', hk', hxy', _, hyl, hf'⟩ := DataW.trod_struct u2 g2
      match ys, hyl with
      | [w0, w1, w2, w3, w4], _ =>
      have h0 := hf' 0 s0 rfl
      simp [so0, sc0] at h0
      obtain ⟨z2, e2', _, k2⟩ := DataW.trod_int su0 h0
      simp only [List.cons.injEq, and_true] at e2'
      subst e2'
      have h1 := hf' 1 s1 rfl
      simp [so1, sc1] at h1
      obtain ⟨z3, e3', _, k3⟩ := DataW.trod_int su1 h1
      simp only [List.cons.injEq, and_true] at e3'
      subst e3'
      have h2 := hf' 2 s2 rfl
      simp [so2, sc2] at h2
      obtain ⟨z4, e4', _, k4⟩ := DataW.trod_int su2 h2
      simp only [List.cons.injEq, and_true] at e4'
      subst e4'
      have h3 := hf' 3 s3 rfl
      simp [so3, sc3] at h3
      obtain ⟨z5, e5', _, k5⟩ := DataW.trod_int su3 h3
      simp only [List.cons.injEq, and_true] at e5'
      subst e5'
      have h4 := hf' 4 s4 rfl
      simp [so4, sc4] at h4
      obtain ⟨z6, e6', _, k6⟩ := DataW.trod_int su4 h4
      simp only [List.cons.injEq, and_true] at e6'
      subst e6'
      refine ⟨⟨z0, z1, ⟨z2, z3, z4, z5, z6⟩⟩, fun j u hu => ?_, ⟨intFit_of k0, intFit_of k1, intFit_of k2, intFit_of k3, intFit_of k4, intFit_of k5, intFit_of k6⟩⟩
      have hj : j < 7 := (List.getElem?_eq_some_iff.1 hu).1
      rw [hcell j hj]
      exact hu
  obtain ⟨g, hg⟩ := Go.Deep.choose_lt each
  have hfit : ∀ i, (if i < len then g i else default : NoteD).fit := fun i => by
    by_cases hi : i < len
    · simpa [hi] using (hg i hi).2
    · simpa [hi] using hz
  unfold maxLen at hm
  refine ⟨len, fun i => if i < len then g i else default, ?_, hfit, by omega⟩
  by_cases h0 : len = 0
  · subst h0; exact .inl ⟨_, _, rfl, rfl⟩
  · have hc0 := (hg 0 (by omega)).1 0 _ rfl
    obtain ⟨b, off, spot⟩ := a
    have hspot : spot = none := by simpa [Addr.add] using World.cell?_spot hc0
    subst hspot
    have hadd : ∀ j, (⟨b, off, none⟩ : Addr).add j = ⟨b, off + j, none⟩ := fun j => by unfold Addr.add; split <;> simp_all
    have hadd2 : ∀ o j, (⟨b, o, none⟩ : Addr).add j = ⟨b, o + j, none⟩ := fun o j => by unfold Addr.add; split <;> simp_all
    simp only [hadd, hadd2] at hc0
    refine .inr ⟨b, off, cap, rfl, by omega, by omega, fun i hi => ⟨World.block_lt_of_cell? w _ hc0, fun j u hu => ?_⟩, hl⟩
    have := (hg i hi).1
    simp only [hadd, hadd2] at this
    simp only [hi, if_true] at hu
    exact this j u hu
end
section
open Go.ChangeShapes Go.WideShapes
variable {H : Type} {enc : TypeId × Value → H} {P : Program} {w : World} {base : Nat} {spare : Nat → Bool} {held : Bool}
theorem open_note {r : Reach} {b0 : Nat} {e : TypeId} {f0 f1 f2 : Field} {v : Value} {d : DataW H} {pl : List MemPlace} (he : P.underlying e = some (.struct #[f0, f1, f2]))
    (ce : P.cellsOf e = 7) (o0 : f0.offset = 0) (c0 : P.cellsOf f0.type = 1) (u0 : P.underlying f0.type = some (.int .i64)) (o1 : f1.offset = 1) (c1 : P.cellsOf f1.type = 1) (u1 : P.underlying f1.type = some (.int .i64)) (o2 : f2.offset = 2) (c2 : P.cellsOf f2.type = 5) {s0 s1 s2 s3 s4 : Field} (u2 : P.underlying f2.type = some (.struct #[s0, s1, s2, s3, s4])) (so0 : s0.offset = 0) (sc0 : P.cellsOf s0.type = 1) (su0 : P.underlying s0.type = some (.int .i64)) (so1 : s1.offset = 1) (sc1 : P.cellsOf s1.type = 1) (su1 : P.underlying s1.type = some (.int .i64)) (so2 : s2.offset = 2) (sc2 : P.cellsOf s2.type = 1) (su2 : P.underlying s2.type = some (.int .i64)) (so3 : s3.offset = 3) (sc3 : P.cellsOf s3.type = 1) (su3 : P.underlying s3.type = some (.int .i64)) (so4 : s4.offset = 4) (sc4 : P.cellsOf s4.type = 1) (su4 : P.underlying s4.type = some (.int .i64))
    (hv : Value.okWide P w r b0 e v) (h : DataW.Trod enc P w base spare held e v d pl) : ∃ q : NoteD, v = q.val ∧ q.fit := by
  obtain ⟨cs, rfl, hsz⟩ := okWide_struct he hv
  obtain ⟨l⟩ := cs
  obtain ⟨fuel, h⟩ := h
  obtain ⟨xs, kk, hk, hxy, _, hxl, hf⟩ := DataW.trod_struct he h
  match xs, hxl, l, hsz.trans ce with
  | [y0, y1, y2], _, [v0, v1, v2, v3, v4, v5, v6], _ =>
      have g0 := hf 0 f0 rfl
      simp [Value.cells, o0, c0] at g0
      obtain ⟨z0, e0, _, k0⟩ := DataW.trod_int u0 g0
      simp only [List.cons.injEq, and_true] at e0
      subst e0
      have g1 := hf 1 f1 rfl
      simp [Value.cells, o1, c1] at g1
      obtain ⟨z1, e1, _, k1⟩ := DataW.trod_int u1 g1
      simp only [List.cons.injEq, and_true] at e1
      subst e1
      have g2 := hf 2 f2 rfl
      simp [Value.cells, o2, c2] at g2
      obtain ⟨ys, k2', hk', hxy', _, hyl, hf'⟩ := DataW.trod_struct u2 g2
      match ys, hyl with
      | [w0, w1, w2, w3, w4], _ =>
      have h0 := hf' 0 s0 rfl
      simp [so0, sc0] at h0
      obtain ⟨z2, e2', _, k2⟩ := DataW.trod_int su0 h0
      simp only [List.cons.injEq, and_true] at e2'
      subst e2'
      have h1 := hf' 1 s1 rfl
      simp [so1, sc1] at h1
      obtain ⟨z3, e3', _, k3⟩ := DataW.trod_int su1 h1
      simp only [List.cons.injEq, and_true] at e3'
      subst e3'
      have h2 := hf' 2 s2 rfl
      simp [so2, sc2] at h2
      obtain ⟨z4, e4', _, k4⟩ := DataW.trod_int su2 h2
      simp only [List.cons.injEq, and_true] at e4'
      subst e4'
      have h3 := hf' 3 s3 rfl
      simp [so3, sc3] at h3
      obtain ⟨z5, e5', _, k5⟩ := DataW.trod_int su3 h3
      simp only [List.cons.injEq, and_true] at e5'
      subst e5'
      have h4 := hf' 4 s4 rfl
      simp [so4, sc4] at h4
      obtain ⟨z6, e6', _, k6⟩ := DataW.trod_int su4 h4
      simp only [List.cons.injEq, and_true] at e6'
      subst e6'
      exact ⟨⟨z0, z1, ⟨z2, z3, z4, z5, z6⟩⟩, rfl, ⟨intFit_of k0, intFit_of k1, intFit_of k2, intFit_of k3, intFit_of k4, intFit_of k5, intFit_of k6⟩⟩
end
end Go.Proofs.YteciobkjfmddcaaGreat
set_option linter.unusedVariables false
namespace Go.Proofs.YteciobkjfmddcaaGreat
open Go.RowKit

theorem note_cells {w : World} {b o : Nat} {x : NoteD} (h : CellsAt w b o x.cells) : w.cell? ⟨b, o, none⟩ = some (.int .i64 x.serial) ∧ w.cell? ⟨b, o + 1, none⟩ = some (.int .i64 x.game) ∧ w.cell? ⟨b, o + 2, none⟩ = some (.int .i64 x.res.home) ∧
    w.cell? ⟨b, o + 3, none⟩ = some (.int .i64 x.res.away) ∧ w.cell? ⟨b, o + 4, none⟩ = some (.int .i64 x.res.hg) ∧ w.cell? ⟨b, o + 5, none⟩ = some (.int .i64 x.res.ag) ∧ w.cell? ⟨b, o + 6, none⟩ = some (.int .i64 x.res.st) :=
  ⟨h.2 0 _ rfl, h.2 1 _ rfl, h.2 2 _ rfl, h.2 3 _ rfl, h.2 4 _ rfl, h.2 5 _ rfl, h.2 6 _ rfl⟩
def serialN (g : Nat → NoteD) (gm : Int) : Nat → Int
  | 0 => 0
  | k + 1 => if (g k).game = gm ∧ serialN g gm k < (g k).serial then (g k).serial else serialN g gm k
end Go.Proofs.YteciobkjfmddcaaGreat
set_option linter.unusedVariables false
namespace Go.Proofs.YteciobkjfmddcaaGreat
open Go.RowKit

def noteP (n : Int) (m : Nat) (g : Nat → GameD) (x : NoteD) : Prop :=
  (1 ≤ x.serial ∧ x.serial ≤ 100000) ∧ (0 ≤ x.game ∧ x.game ≤ (m : Int) - 1) ∧ gameP n x.res ∧ x.res.st ≠ 0 ∧ x.res.home = (g x.game.toNat).home ∧ x.res.away = (g x.game.toNat).away
end Go.Proofs.YteciobkjfmddcaaGreat
set_option linter.unusedVariables false
namespace Go.Proofs.YteciobkjfmddcaaGreat
open Go.RowKit

theorem note_ne {x y : NoteD} (h : x ≠ y) : (x.serial == y.serial) = false ∨ (x.game == y.game) = false ∨ (x.res.home == y.res.home) = false ∨ (x.res.away == y.res.away) = false ∨ (x.res.hg == y.res.hg) = false ∨ (x.res.ag == y.res.ag) = false ∨ (x.res.st == y.res.st) = false := by
  obtain ⟨a1, a2, ⟨a3, a4, a5, a6, a7⟩⟩ := x
  obtain ⟨b1, b2, ⟨b3, b4, b5, b6, b7⟩⟩ := y
  simp only [beq_eq_false_iff_ne, ne_eq, NoteD.mk.injEq, GameD.mk.injEq] at h ⊢
  omega
end Go.Proofs.YteciobkjfmddcaaGreat
set_option linter.unusedVariables false
namespace Go.Proofs.YteciobkjfmddcaaGreat
open Go.RowKit

def notesP (n : Int) (m : Nat) (g : Nat → GameD) (k : Nat) (ns : Nat → NoteD) : Prop :=
  seasonP n m g ∧ k ≤ 80 ∧ ∀ i, i < k → noteP n m g (ns i) ∧ ∀ j, j < i → (ns j).serial = (ns i).serial → ns j = ns i
end Go.Proofs.YteciobkjfmddcaaGreat
set_option linter.unusedVariables false
namespace Go.Proofs.YteciobkjfmddcaaGreat
open Go.RowKit

def getN' (L : List NoteD) (i : Nat) : NoteD := L.getD i default
theorem flat_len (L : List NoteD) : (L.flatMap NoteD.cells).length = L.length * 7 := by
  induction L with
  | nil => rfl
  | cons x L ih => simp only [List.flatMap_cons, List.length_append, ih, List.length_cons, NoteD.len]; omega
theorem notes_cells (L : List NoteD) : RecCells 7 L.length (L.flatMap NoteD.cells) fun i => (getN' L i).cells := by
  induction L with
  | nil => exact RecCells.nil
  | cons x L ih =>
    intro i hi j u hu
    rw [List.flatMap_cons]
    have hj : j < 7 := by have := (List.getElem?_eq_some_iff.1 hu).1; simpa [NoteD.len] using this
    cases i with
    | zero =>
      rw [List.getElem?_append_left (by rw [NoteD.len]; omega)]
      simpa [getN'] using hu
    | succ i =>
      rw [List.getElem?_append_right (by rw [NoteD.len]; omega), NoteD.len, show (i + 1) * 7 + j - 7 = i * 7 + j by omega]
      simp only [List.length_cons] at hi
      exact ih i (by omega) j u (by simpa [getN'] using hu)
def upL (g : Nat → NoteD) (s : Int) : Nat → List NoteD
  | 0 => []
  | k + 1 => if (g k).serial ≤ s then upL g s k ++ [g k] else upL g s k
def seenL (g : Nat → NoteD) (gm : Int) : Nat → List Int
  | 0 => []
  | k + 1 => if (g k).game = gm ∧ ¬ (g k).serial ∈ seenL g gm k then seenL g gm k ++ [(g k).serial] else seenL g gm k
def corrN (g : Nat → NoteD) (gm : Int) (n : Nat) : Int := if 0 < ((seenL g gm n).length : Int) - 1 then ((seenL g gm n).length : Int) - 1 else 0
end Go.Proofs.YteciobkjfmddcaaGreat
set_option linter.unusedVariables false
namespace Go.Proofs.YteciobkjfmddcaaGreat
open Go.RowKit

def leadN (s : Int) : List NoteD → Nat
  | [] => 0
  | y :: L => if y.serial < s then leadN s L + 1 else 0
def insN (L : List NoteD) (x : NoteD) : List NoteD :=
  if leadN x.serial L < L.length ∧ (getN' L (leadN x.serial L)).serial = x.serial then L else L.take (leadN x.serial L) ++ x :: L.drop (leadN x.serial L)
def canonL (g : Nat → NoteD) : Nat → List NoteD
  | 0 => []
  | k + 1 => insN (canonL g k) (g k)
theorem lead_le (s : Int) (L : List NoteD) : leadN s L ≤ L.length := by
  induction L with
  | nil => exact Nat.le_refl _
  | cons y L ih => unfold leadN; split <;> simp <;> omega
theorem lead_lt (s : Int) (L : List NoteD) : ∀ i, i < leadN s L → (getN' L i).serial < s := by
  induction L with
  | nil => intro i hi; exact absurd hi (by simp [leadN])
  | cons y L ih =>
    intro i hi
    unfold leadN at hi
    split at hi
    · next h =>
      cases i with
      | zero => exact h
      | succ i => exact ih i (by omega)
    · omega
theorem lead_ge (s : Int) (L : List NoteD) : leadN s L < L.length → ¬ (getN' L (leadN s L)).serial < s := by
  induction L with
  | nil => intro h; exact absurd h (by simp)
  | cons y L ih =>
    intro h
    unfold leadN at h ⊢
    split at h
    · next hy => rw [if_pos hy]; exact ih (by simpa using h)
    · next hy => rw [if_neg hy]; exact hy
theorem ins_len (L : List NoteD) (x : NoteD) : (insN L x).length ≤ L.length + 1 := by
  unfold insN
  split
  · omega
  · have := lead_le x.serial L; simp; omega
def gapL (L : List NoteD) (j : Nat) (u : NoteD) : List NoteD := L.take j ++ u :: L.drop j
theorem gap_len (L : List NoteD) (j : Nat) (u : NoteD) (h : j ≤ L.length) : (gapL L j u).length = L.length + 1 := by
  unfold gapL; simp; omega
theorem gap_get (L : List NoteD) (j : Nat) (u : NoteD) (i : Nat) (h : i < j) (hj : j ≤ L.length) : getN' (gapL L j u) i = getN' L i := by
  unfold gapL getN'
  simp only [List.getD_eq_getElem?_getD]
  rw [List.getElem?_append_left (by simp; omega), List.getElem?_take_of_lt h]
theorem gap_set (L : List NoteD) (j : Nat) (u x : NoteD) (hj : j ≤ L.length) : (gapL L j u).set j x = gapL L j x := by
  unfold gapL
  rw [List.set_append_right _ _ (by simp; omega)]
  simp [Nat.min_eq_left hj]
theorem gap_step (L : List NoteD) (j : Nat) (hj : j < L.length) : gapL L (j + 1) (getN' L j) = gapL L j (getN' L j) := by
  unfold gapL
  have h1 : getN' L j = L[j] := by simp [getN', List.getD_eq_getElem?_getD, List.getElem?_eq_getElem hj]
  have h2 : L.take (j + 1) = L.take j ++ [L[j]] := (List.take_append_getElem hj).symm
  rw [h1, h2, List.drop_eq_getElem_cons hj]
  simp only [List.append_assoc, List.cons_append, List.nil_append]
theorem gap_end (L : List NoteD) (u : NoteD) : gapL L L.length u = L ++ [u] := by
  unfold gapL; simp
theorem flat_set (x : NoteD) : ∀ (M : List NoteD) (j : Nat), j < M.length → setsFrom (M.flatMap NoteD.cells) (j * 7) x.cells = (M.set j x).flatMap NoteD.cells := by
  intro M j hj
  apply List.ext_getElem?
  intro t
  have hlen := flat_len M
  have hlen2 := flat_len (M.set j x)
  rw [List.length_set] at hlen2
  by_cases ht : t < M.length * 7
  · have h1 := notes_cells M (t / 7) (by omega) (t % 7)
    have h2 := notes_cells (M.set j x) (t / 7) (by rw [List.length_set]; omega) (t % 7)
    have ht7 : t / 7 * 7 + t % 7 = t := by omega
    rw [ht7] at h1 h2
    by_cases hjt : t / 7 = j
    · have hx : (getN' (M.set j x) (t / 7)) = x := by simp [getN', List.getD_eq_getElem?_getD, hjt, hj]
      have hm : t % 7 < x.cells.length := by rw [NoteD.len]; omega
      obtain ⟨u, hu⟩ : ∃ u, x.cells[t % 7]? = some u := ⟨_, List.getElem?_eq_getElem hm⟩
      rw [h2 u (by simp only [hx]; exact hu), show t = j * 7 + t % 7 by omega]
      exact setsFrom_in x.cells _ _ _ u (by rw [NoteD.len]; omega) hu
    · have hx : (getN' (M.set j x) (t / 7)) = getN' M (t / 7) := by
        simp only [getN', List.getD_eq_getElem?_getD]
        rw [List.getElem?_set_ne (by omega)]
      have hm : t % 7 < (getN' M (t / 7)).cells.length := by rw [NoteD.len]; omega
      obtain ⟨u, hu⟩ : ∃ u, (getN' M (t / 7)).cells[t % 7]? = some u := ⟨_, List.getElem?_eq_getElem hm⟩
      rw [h2 u (by simp only [hx]; exact hu), setsFrom_out _ _ _ _ (by rw [NoteD.len]; omega)]
      exact h1 u hu
  · rw [List.getElem?_eq_none (by rw [setsFrom_len]; omega), List.getElem?_eq_none (by omega)]
theorem canon_len (g : Nat → NoteD) : ∀ n, (canonL g n).length ≤ n := by
  intro n
  induction n with
  | zero => simp [canonL]
  | succ n ih => have := ins_len (canonL g n) (g n); show (insN _ _).length ≤ _; omega
theorem up_len (g : Nat → NoteD) (s : Int) : ∀ n, (upL g s n).length ≤ n := by
  intro n
  induction n with
  | zero => simp [upL]
  | succ n ih =>
    unfold upL
    split
    · simp only [List.length_append, List.length_cons, List.length_nil]; omega
    · omega
end Go.Proofs.YteciobkjfmddcaaGreat
set_option linter.unusedVariables false
namespace Go.Proofs.YteciobkjfmddcaaGreat
open Go.RowKit

theorem box_set {w : World} {D gg s : Nat} {cs : List Value} {u : Value} (h : BoxN w D cs) (hne : gg ≠ D) : BoxN (w.setCell ⟨gg, s, none⟩ u) D cs := by
  by_cases hlt : gg < D
  · exact h.touch (Touch.setCell (lo := 0) (hi := D) (Touch.refl _ _ _) ⟨gg, s, none⟩ u (Nat.zero_le _) hlt) (Or.inr (Nat.le_refl _))
  · exact h.touch (Touch.setCell (lo := D + 1) (hi := gg + 1) (Touch.refl _ _ _) ⟨gg, s, none⟩ u (show D + 1 ≤ gg by omega) (Nat.lt_succ_self _)) (Or.inl (Nat.lt_succ_self _))
end Go.Proofs.YteciobkjfmddcaaGreat
set_option linter.unusedVariables false
namespace Go.Proofs.YteciobkjfmddcaaGreat
open Go.RowKit

def applyN (g : Nat → GameD) (C : List NoteD) : Nat → Nat → GameD
  | 0 => g
  | j + 1 => fun i => if i = (getN' C j).game.toNat then (getN' C j).res else applyN g C j i
theorem ins_mem (L : List NoteD) (x y : NoteD) (h : y ∈ insN L x) : y ∈ L ∨ y = x := by
  unfold insN at h
  split at h
  · exact .inl h
  · rcases List.mem_append.1 h with h | h
    · exact .inl (List.mem_of_mem_take h)
    · rcases List.mem_cons.1 h with h | h
      · exact .inr h
      · exact .inl (List.mem_of_mem_drop h)
theorem canon_mem (g : Nat → NoteD) (y : NoteD) : ∀ n, y ∈ canonL g n → ∃ i, i < n ∧ g i = y := by
  intro n
  induction n with
  | zero => intro h; simp [canonL] at h
  | succ n ih =>
    intro h
    rcases ins_mem _ _ _ (show y ∈ insN (canonL g n) (g n) from h) with h | h
    · obtain ⟨i, hi, he⟩ := ih h; exact ⟨i, by omega, he⟩
    · exact ⟨n, by omega, h.symm⟩
theorem getN_mem (L : List NoteD) (j : Nat) (h : j < L.length) : getN' L j ∈ L := by
  unfold getN'
  rw [List.getD_eq_getElem?_getD, List.getElem?_eq_getElem h]
  exact List.getElem_mem h
theorem GameD.ones (x : GameD) : ∀ u ∈ x.cells, u.oneCell' = true := by
  intro u hu; simp [GameD.cells] at hu; rcases hu with rfl | rfl | rfl | rfl | rfl <;> rfl
end Go.Proofs.YteciobkjfmddcaaGreat
set_option linter.unusedVariables false
namespace Go.Proofs.YteciobkjfmddcaaGreat
open Go.Lib

theorem decDigits_step (u : Nat) (h : ¬ u < 10) : decDigits u = decDigits (u / 10) ++ [UInt8.ofNat (48 + u % 10)] := by rw [decDigits, dif_neg h]
theorem dig_toNat (d : Nat) (h : d < 10) : (UInt8.ofNat (48 + d)).toNat = 48 + d := by
  rw [UInt8.toNat_ofNat']; omega
theorem decDigits_dig (u : Nat) : ∀ b ∈ decDigits u, 48 ≤ b.toNat ∧ b.toNat ≤ 57 := by
  induction u using Nat.strongRecOn with
  | _ u ih =>
    intro b hb
    by_cases h : u < 10
    · rw [decDigits_one h] at hb
      simp only [List.mem_singleton] at hb
      rw [hb, dig_toNat u h]; omega
    · rw [decDigits_step u h] at hb
      simp only [List.mem_append, List.mem_singleton] at hb
      rcases hb with hb | hb
      · exact ih (u / 10) (by omega) b hb
      · rw [hb, dig_toNat (u % 10) (by omega)]; omega
def valL (l : List UInt8) : Nat := l.foldl (fun a b => a * 10 + (b.toNat - 48)) 0
theorem valL_nil : valL [] = 0 := rfl
theorem valL_snoc (l : List UInt8) (b : UInt8) : valL (l ++ [b]) = valL l * 10 + (b.toNat - 48) := by simp [valL]
theorem valL_decDigits (u : Nat) : valL (decDigits u) = u := by
  induction u using Nat.strongRecOn with
  | _ u ih =>
    by_cases h : u < 10
    · rw [decDigits_one h]
      show 0 * 10 + ((UInt8.ofNat (48 + u)).toNat - 48) = u
      rw [dig_toNat u h]; omega
    · rw [decDigits_step u h, valL_snoc, ih (u / 10) (by omega), dig_toNat (u % 10) (by omega)]; omega
theorem decDigits_ne (u : Nat) : decDigits u ≠ [] := by
  have h1 := decDigits_length u
  have h2 := nDigits_pos u
  intro h
  rw [h] at h1
  simp at h1; omega
theorem decDigits_cons (u : Nat) : ∃ b r, decDigits u = b :: r ∧ 48 ≤ b.toNat ∧ b.toNat ≤ 57 := by
  cases h : decDigits u with
  | nil => exact absurd h (decDigits_ne u)
  | cons b r => exact ⟨b, r, rfl, decDigits_dig u b (by rw [h]; exact List.mem_cons_self ..)⟩
theorem valL_take_le (l : List UInt8) : ∀ j k, j ≤ k → valL (l.take j) ≤ valL (l.take k) := by
  intro j k hjk
  induction k with
  | zero => obtain rfl : j = 0 := by omega
            exact Nat.le_refl _
  | succ k ih =>
    by_cases h : j = k + 1
    · rw [h]; exact Nat.le_refl _
    · refine Nat.le_trans (ih (by omega)) ?_
      by_cases hk : k < l.length
      · rw [List.take_succ_eq_append_getElem hk, valL_snoc]; omega
      · rw [List.take_of_length_le (by omega), List.take_of_length_le (by omega)]; exact Nat.le_refl _
theorem nDigits_le (u : Nat) (h : u ≤ 9223372036854775808) : nDigits u ≤ 19 := by
  by_cases h19 : nDigits u ≤ 19
  · exact h19
  · exfalso
    have key : ∀ k v : Nat, v < 10 ^ (k + 1) → nDigits v ≤ k + 1 := by
      intro k
      induction k with
      | zero => intro v hv; rw [nDigits_small (by simpa using hv)]; exact Nat.le_refl _
      | succ k ih =>
        intro v hv
        by_cases hs : v < 10
        · rw [nDigits_small hs]; omega
        · rw [nDigits_big hs]
          have := ih (v / 10) (by rw [Nat.pow_succ] at hv; omega)
          omega
    have := key 18 u (by have : (10 : Nat) ^ (18 + 1) = 10000000000000000000 := by decide
                         omega)
    omega

def isInt (n : Int) : Prop := -9223372036854775808 ≤ n ∧ n ≤ 9223372036854775807
theorem itoa_neg (n : Int) (h : n < 0) : itoa n = 45 :: decDigits n.natAbs := by simp [itoa, h]
theorem itoa_pos (n : Int) (h : ¬ n < 0) : itoa n = decDigits n.toNat := by simp [itoa, h]
theorem itoa_inj {a b : Int} (h : itoa a = itoa b) : a = b := by
  by_cases ha : a < 0
  · by_cases hb : b < 0
    · rw [itoa_neg a ha, itoa_neg b hb] at h
      have h1 := congrArg valL (List.cons.inj h).2
      rw [valL_decDigits, valL_decDigits] at h1
      omega
    · rw [itoa_neg a ha, itoa_pos b hb] at h
      obtain ⟨x, r, hx, h1, h2⟩ := decDigits_cons b.toNat
      rw [hx] at h
      have := congrArg UInt8.toNat (List.cons.inj h).1
      simp at this; omega
  · by_cases hb : b < 0
    · rw [itoa_pos a ha, itoa_neg b hb] at h
      obtain ⟨x, r, hx, h1, h2⟩ := decDigits_cons a.toNat
      rw [hx] at h
      have := congrArg UInt8.toNat (List.cons.inj h).1
      simp at this; omega
    · rw [itoa_pos a ha, itoa_pos b hb] at h
      have h1 := congrArg valL h
      rw [valL_decDigits, valL_decDigits] at h1
      omega
def parsed (l : List UInt8) (v : Int) (ok : Bool) : Prop := if ok = true then isInt v ∧ itoa v = l else v = 0 ∧ ∀ n, isInt n → itoa n ≠ l
theorem parsed_unique {l : List UInt8} {v v' : Int} {b b' : Bool} (h : parsed l v b) (h' : parsed l v' b') : v = v' ∧ b = b' := by
  unfold parsed at h h'
  cases b <;> cases b' <;> simp at h h'
  · exact ⟨by rw [h.1, h'.1], rfl⟩
  · exact absurd h'.2 (h.2 v' h'.1)
  · exact absurd h.2 (h'.2 v h.1)
  · exact ⟨itoa_inj (h.2.trans h'.2.symm), rfl⟩

theorem canon_pos {n : Int} {l : List UInt8} (hn : isInt n) (h : itoa n = l) (hl : ∀ r, l ≠ 45 :: r) : l ≠ [] ∧ (∀ b ∈ l, 48 ≤ b.toNat ∧ b.toNat ≤ 57) ∧ l.length ≤ 19 ∧ valL l ≤ 9223372036854775807 ∧ n = valL l := by
  have hp : ¬ n < 0 := fun hp => hl _ (by rw [← h, itoa_neg n hp])
  rw [itoa_pos n hp] at h
  subst h
  have h1 := decDigits_length n.toNat
  have h2 := nDigits_le n.toNat (by unfold isInt at hn; omega)
  refine ⟨decDigits_ne _, decDigits_dig _, by omega, ?_, ?_⟩
  · rw [valL_decDigits]; unfold isInt at hn; omega
  · rw [valL_decDigits]; omega
theorem canon_neg {n : Int} {r : List UInt8} (hn : isInt n) (h : itoa n = 45 :: r) : r ≠ [] ∧ (∀ b ∈ r, 48 ≤ b.toNat ∧ b.toNat ≤ 57) ∧ r.length ≤ 19 ∧ valL r ≤ 9223372036854775808 ∧ n = -(valL r : Int) := by
  have hp : n < 0 := by
    by_cases hp : n < 0
    · exact hp
    · rw [itoa_pos n hp] at h
      obtain ⟨x, r', hx, h1, h2⟩ := decDigits_cons n.toNat
      rw [hx] at h
      have := congrArg UInt8.toNat (List.cons.inj h).1
      simp at this; omega
  rw [itoa_neg n hp] at h
  have h := (List.cons.inj h).2
  subst h
  have h1 := decDigits_length n.natAbs
  have h2 := nDigits_le n.natAbs (by unfold isInt at hn; omega)
  refine ⟨decDigits_ne _, decDigits_dig _, by omega, ?_, ?_⟩
  · rw [valL_decDigits]; unfold isInt at hn; omega
  · rw [valL_decDigits]; omega
end Go.Proofs.YteciobkjfmddcaaGreat
set_option linter.unusedVariables false
namespace Go.Proofs.YteciobkjfmddcaaGreat
open Go.RowKit
open Go.Sort (grow)

theorem one_byte {P : Program} (w : World) (src dst e : TypeId) (hs : P.underlying src = some (.slice e)) (he : P.underlying e = some (.int .u8)) (hd : P.underlying dst = some .string) (v : Int) :
    (convert src dst (.slice (some ⟨w.heap.size, 0, none⟩) 1 1)).run P (w.alloc (.cells #[.int .u8 v] e)) = .ok (.string ⟨[UInt8.ofNat v.toNat].toArray⟩) (w.alloc (.cells #[.int .u8 v] e)) := by
  have h := run_convert_bytes_arg (P := P) (w.alloc (.cells #[.int .u8 v] e)) src e hs he w.heap.size 0 1 1 [v] rfl (fun i hi => by
    obtain rfl : i = 0 := by omega
    simp) dst hd
  rw [h]
  rfl
theorem one_byte_at {P : Program} (src dst e : TypeId) (hs : P.underlying src = some (.slice e)) (he : P.underlying e = some (.int .u8)) (hd : P.underlying dst = some .string) (v : Int) (B : Nat) (W : World)
    (hc : W.cell? ⟨B, 0, none⟩ = some (.int .u8 v)) :
    (convert src dst (.slice (some ⟨B, 0, none⟩) 1 1)).run P W = .ok (.string ⟨[UInt8.ofNat v.toNat].toArray⟩) W := by
  have h := run_convert_bytes_arg (P := P) W src e hs he B 0 1 1 [v] rfl (fun i hi => by
    obtain rfl : i = 0 := by omega
    simpa using hc) dst hd
  rw [h]
  rfl
theorem kept_cell1 {w w1 : World} {v : Value} {e : TypeId} (b : Below (w.drew.alloc (.cells #[v] e)).heap.size (w.drew.alloc (.cells #[v] e)) w1) : w1.cell? ⟨w.heap.size, 0, none⟩ = some v := by
  rw [b.cell (p := ⟨w.heap.size, 0, none⟩) (by simp)]
  exact World.cell?_alloc_mark w.drew #[v] e (0, 0) 0
theorem kept_cell2 {w w1 : World} {v : Value} {e : TypeId} (b : Below (w.alloc (.cells #[v] e)).drew.heap.size (w.alloc (.cells #[v] e)).drew w1) : w1.cell? ⟨w.heap.size, 0, none⟩ = some v := by
  rw [b.cell (p := ⟨w.heap.size, 0, none⟩) (by simp)]
  exact World.cell?_alloc_mark w #[v] e (0, 0) 0
theorem cats (x y : List UInt8) : (ByteArray.mk x.toArray ++ ByteArray.mk y.toArray) = ByteArray.mk (x ++ y).toArray := ByteArray.mk_append_mk x y

theorem of48 (x : Nat) : UInt8.ofNat (48 + x) = 48 + UInt8.ofNat x := by simp

set_option maxRecDepth 100000 in
theorem formatInt_nat (m : Nat) (w : World) (hm : m ≤ 9223372036854775807) :
    Calls Tryz.prog 101 #[.int .i64 (m : Int)] w fun e w' => e = .returned (.string ⟨(Lib.decDigits m).toArray⟩) ∧ Below w.heap.size w w' := by
  go_enter Tryz.func101, Tryz.ntmps101
  go_wp2_with fail
  go_loopw [0, 3] (fun nv sv wr => ∃ (j : Nat) (l : List UInt8), nv = .int .i64 (j : Int) ∧ sv = .string ⟨l.toArray⟩ ∧ 2 * l.length + j ≤ m ∧ Hid (Lib.decDigits j ++ l = Lib.decDigits m) ∧ Below w.heap.size w wr) (fun nv _ _ => (RowKit.intOf nv).toNat)
  case atStart => exact ⟨m, [], rfl, rfl, by simp, by simp [Hid], Below.refl _ _⟩
  case round =>
    obtain ⟨j, l, rfl, rfl, hl, hd, hb⟩ := hrel
    have hz : l.toArray.size ≤ 4611686018427387904 := by simp; omega
    by_cases h9 : 9 < j
    · have hcv := one_byte (P := Tryz.prog) wr 22 9 5 Tryz.underlying22 Tryz.underlying5 Tryz.underlying9 (48 + (j : Int) % 10)
      have Hd : Hid (Lib.decDigits (j / 10) ++ ((48 + UInt8.ofNat (j % 10)) :: l) = Lib.decDigits m) := by
        show _ = _; rw [← hd.out, decDigits_step j (by omega), of48]; simp
      go_wp2_with fail
      go_roundw
      case rel =>
        exact ⟨j / 10, (48 + UInt8.ofNat (j % 10)) :: l, by go_num, congrArg Value.string (cats [48 + UInt8.ofNat (j % 10)] l), by simp; omega, Hd.out, hb.alloc hb.size _⟩
      case measure => simp [RowKit.intOf]; omega
    · have hcv := one_byte (P := Tryz.prog) wr 22 9 5 Tryz.underlying22 Tryz.underlying5 Tryz.underlying9 (48 + (j : Int))
      have Hd : Hid (((48 + UInt8.ofNat j) :: l) = Lib.decDigits m) := by
        show _ = _; rw [← hd.out, Lib.decDigits_one (show j < 10 by omega), of48]; rfl
      go_wp2_with fail
      go_ret
      exact ⟨by rw [← Hd.out]; exact congrArg (fun x => Ending.returned (Value.string x)) (cats [48 + UInt8.ofNat j] l), hb.alloc hb.size _⟩

set_option maxRecDepth 100000 in
theorem formatInt_neg (m : Nat) : ∀ w : World, 1 ≤ m → m ≤ 9223372036854775808 →
    Calls Tryz.prog 101 #[.int .i64 (-(m : Int))] w fun e w' => e = .returned (.string ⟨(45 :: Lib.decDigits m).toArray⟩) ∧ Below w.heap.size w w' := by
  induction m using Nat.strongRecOn with
  | _ m ih =>
  intro w h1 hm
  by_cases h9 : m < 10
  · have hcv := one_byte (P := Tryz.prog) w 22 9 5 Tryz.underlying22 Tryz.underlying5 Tryz.underlying9 (48 + (m : Int))
    have g1 : (-((m : Int) / 10) == 0) = true := by
      have : -((m : Int) / 10) = 0 := by omega
      simp [this]
    have hd := Lib.hid (Lib.decDigits_one h9)
    go_enter Tryz.func101, Tryz.ntmps101
    go_wp2_with fail
    go_ret
    refine ⟨?_, (Below.refl _ _).alloc (Nat.le_refl _) _⟩
    rw [hd.out, of48]
    exact congrArg (fun x => Ending.returned (Value.string x)) (cats [45] [48 + UInt8.ofNat m])
  · have g1 : (-((m : Int) / 10) == 0) = false := by
      have : -((m : Int) / 10) ≠ 0 := by omega
      simp; omega
    have ih' : Hid (∀ w : World, Calls Tryz.prog 101 #[.int .i64 (-((m : Int) / 10))] w fun e w' => e = .returned (.string ⟨(45 :: Lib.decDigits (m / 10)).toArray⟩) ∧ Below w.heap.size w w') := fun w => by
      have := ih (m / 10) (by omega) w (by omega) (by omega)
      rwa [show (-(((m / 10 : Nat)) : Int)) = -((m : Int) / 10) by omega] at this
    have Hd : Hid (Lib.decDigits m = Lib.decDigits (m / 10) ++ [UInt8.ofNat (48 + m % 10)]) := decDigits_step m (by omega)
    have hlen : (Lib.decDigits (m / 10)).length ≤ 19 := by rw [Lib.decDigits_length]; exact nDigits_le _ (by omega)
    clear ih
    generalize Lib.decDigits (m / 10) = D at *
    have e1 : IntKind.i64.wrap (-((m : Int) / 10)) = -((m : Int) / 10) := IntWalk.i64_in _ (by omega)
    have e2 : (m : Int).tmod 10 = (m : Int) % 10 := Int.tmod_eq_emod_of_nonneg (by omega)
    have e3 : IntKind.i64.wrap (48 + (m : Int) % 10) = 48 + (m : Int) % 10 := IntWalk.i64_in _ (by omega)
    have e4 : IntKind.u8.wrap (48 + (m : Int) % 10) = 48 + (m : Int) % 10 := by
      simp [IntKind.wrap, IntKind.bits, IntKind.signed]; omega
    have hcv := fun B W hc => one_byte_at (P := Tryz.prog) 22 9 5 Tryz.underlying22 Tryz.underlying5 Tryz.underlying9 (48 + (m : Int) % 10) B W hc
    go_enter Tryz.func101, Tryz.ntmps101
    go_wp2_with fail
    go_region_with (go_at_call 101; refine (ih'.out _).mono ?_; rintro e w1 ⟨rfl, b1⟩; first | (have hc1 := kept_cell1 b1) | (have hc1 := kept_cell2 b1) | skip)
    all_goals
      go_wp2_with fail
      go_ret
      refine ⟨by rw [Hd.out, of48]; exact congrArg (fun x => Ending.returned (Value.string x)) (cats (45 :: D) [48 + UInt8.ofNat (m % 10)]), ?_⟩
      have hs := b1.size
      first
        | exact ((Below.refl _ _).drew.trans b1).alloc hs _
        | exact ((Below.refl _ w).drew.alloc (Nat.le_refl _) _).trans (b1.mono (by simp))
        | exact (((Below.refl _ w).alloc (Nat.le_refl _) _).drew).trans (b1.mono (by simp))

theorem formatInt_spec (n : Int) (w : World) (h : isInt n) :
    Calls Tryz.prog 101 #[.int .i64 n] w fun e w' => e = .returned (.string ⟨(Lib.itoa n).toArray⟩) ∧ Below w.heap.size w w' := by
  unfold isInt at h
  by_cases hp : n < 0
  · have := formatInt_neg n.natAbs w (by omega) (by omega)
    rw [show (-((n.natAbs : Nat) : Int)) = n by omega, ← itoa_neg n hp] at this
    exact this
  · have := formatInt_nat n.toNat w (by omega)
    rw [show ((n.toNat : Nat) : Int) = n by omega, ← itoa_pos n hp] at this
    exact this
theorem grow_below (w : World) (k : Nat) (os : Array Obj) : Below w.heap.size w (grow (w.drewN k) os) := by
  refine ⟨rfl, rfl, rfl, by simp [grow], fun i hi => ?_⟩
  show (w.heap ++ os)[i]? = w.heap[i]?
  rw [Array.getElem?_append_left hi]
end Go.Proofs.YteciobkjfmddcaaGreat
