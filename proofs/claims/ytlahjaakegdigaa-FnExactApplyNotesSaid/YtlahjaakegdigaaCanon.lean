/-
  Records: the model's CanonNotes (written by tools/canon.py).
-/
import Derived.Test.YtlahjaakegdigaaNotesList
set_option linter.unusedVariables false
namespace Go.Proofs.Ytlahjaakegdigaa
open Go.RowKit

theorem box_set {w : World} {D gg s : Nat} {cs : List Value} {u : Value} (h : BoxN w D cs) (hne : gg ≠ D) : BoxN (w.setCell ⟨gg, s, none⟩ u) D cs := by
  by_cases hlt : gg < D
  · exact h.touch (Touch.setCell (lo := 0) (hi := D) (Touch.refl _ _ _) ⟨gg, s, none⟩ u (Nat.zero_le _) hlt) (Or.inr (Nat.le_refl _))
  · exact h.touch (Touch.setCell (lo := D + 1) (hi := gg + 1) (Touch.refl _ _ _) ⟨gg, s, none⟩ u (show D + 1 ≤ gg by omega) (Nat.lt_succ_self _)) (Or.inl (Nat.lt_succ_self _))
set_option maxRecDepth 100000 in
set_option maxHeartbeats 2000000 in
theorem canonNotes_spec (v : Value) (n : Nat) (g : Nat → NoteD) (w : World) (hv : NoteRow w v n g) (hn6 : n ≤ 1048576) :
    Calls Try.prog 22 #[v] w (NotesL w (canonL g n)) := by
  obtain ⟨i0, hi, hz0, hz1, hz2⟩ := info_parts Try.infoNote
  obtain ⟨aa, cap, rfl, hn, hc⟩ := hv.form
  have HV := Lib.hid hc
  clear hc hv
  have o0 : (w.alloc (.cells #[] 33)).ownsRow w.heap.size 33 7 (.slice (some ⟨w.heap.size, 0, none⟩) 0 0) 0 [] := World.ownsRow_lit w #[] 0 (Nat.le_refl _) (by decide) rfl
  go_enter Try.func22, Try.ntmps22
  go_wp2
  go_loopw [3, 11] (fun out i wr => ∃ (k : Nat) (L : List NoteD), k ≤ n ∧ i = .int .i64 k ∧ Hid (L = canonL g k) ∧ L.length ≤ k ∧ Hid (wr.ownsRow w.heap.size 33 7 out L.length (L.flatMap NoteD.cells)) ∧ Hid (Below w.heap.size w wr)) (fun _ i _ => n - (intOf i).toNat)
  case atStart => exact ⟨0, [], Nat.zero_le _, rfl, rfl, Nat.zero_le _, o0, (Below.refl _ _).alloc (Nat.le_refl _) _⟩
  case round =>
    clear o0
    obtain ⟨k, L, hk, rfl, hL, hLk, hown, hb⟩ := hrel
    obtain ⟨oa, oc, hout⟩ := owns_form hown.out
    subst hout
    by_cases hlt : k < n
    · obtain ⟨b, off, rfl, hcap, hc⟩ := HV.out (by omega)
      have hq := (hc k hlt).belowB hb.out (hc k hlt).1
      have HK : Hid (canonL g (k + 1) = insN L (g k)) := by show insN (canonL g k) (g k) = _; rw [← hL.out]
      generalize g k = x at *
      obtain ⟨c0, c1, c2, c3, c4, c5, c6⟩ := note_cells hq
      have hsz := hb.out.size
      have hg0 : Below wr.heap.size wr (wr.alloc (.cells #[.int .i64 x.serial, .int .i64 x.game, .int .i64 x.res.home, .int .i64 x.res.away, .int .i64 x.res.hg, .int .i64 x.res.ag, .int .i64 x.res.st] 33)) := (Below.refl _ _).alloc (Nat.le_refl _) _
      have bx := Lib.hid (BoxN.made (u := wr) (cs := #[.int .i64 x.serial, .int .i64 x.game, .int .i64 x.res.home, .int .i64 x.res.away, .int .i64 x.res.hg, .int .i64 x.res.ag, .int .i64 x.res.st]) (t := 33) (Below.refl _ _) rfl)
      have hown2 := Lib.hid (owns_below hown.out hg0 (Nat.le_refl _))
      have hb2 := Lib.hid (hb.out.trans (hg0.mono hsz))
      have HOD : Hid (∀ q, (Value.slice oa L.length oc).ownBlock = some q → q < wr.heap.size) := fun q hq => (hown.out.lt q hq).2
      obtain ⟨ld, hld⟩ : ∃ ld, ld = leadN x.serial L := ⟨_, rfl⟩
      have hle := lead_le x.serial L
      have HLT := Lib.hid (lead_lt x.serial L)
      have HGE := Lib.hid (lead_ge x.serial L)
      have HLD := Lib.hid hld
      rw [← hld] at hle
      clear hc HV hq hL hg0 hown hb hld
      go_wp2
      generalize hD : wr.heap.size = D at *
      clear hD c0 c1 c2 c3 c4 c5 c6
      generalize wr.alloc (.cells #[.int .i64 x.serial, .int .i64 x.game, .int .i64 x.res.home, .int .i64 x.res.away, .int .i64 x.res.hg, .int .i64 x.res.ag, .int .i64 x.res.st] 33) = wr2 at *
      obtain ⟨wo, rfl⟩ : ∃ wo : World, wo = wr2 := ⟨_, rfl⟩
      go_loopw [6] (fun at_ wr => ∃ j : Nat, j ≤ ld ∧ at_ = .int .i64 j ∧ Hid (BoxN wr D [.int .i64 x.serial, .int .i64 x.game, .int .i64 x.res.home, .int .i64 x.res.away, .int .i64 x.res.hg, .int .i64 x.res.ag, .int .i64 x.res.st]) ∧ Hid (wr.ownsRow w.heap.size 33 7 (.slice oa L.length oc) L.length (L.flatMap NoteD.cells)) ∧ Hid (Below w.heap.size w wr)) (fun at_ _ => ld - (intOf at_).toNat)
      case atStart => exact ⟨0, Nat.zero_le _, rfl, bx, hown2, hb2⟩
      case round =>
        clear bx hown2 hb2
        obtain ⟨j, hj, rfl, bx, hown, hb⟩ := hrel
        have hLl : L.length ≤ 9223372036854775807 := by omega
        have hrow := NoteRow.of_owns hown.out hLl (notes_cells L)
        obtain ⟨aa', cap', he, _, hcr⟩ := hrow.form
        have hx0 := bx.out.2 0 _ rfl
        have hsz2 := hb.out.size
        by_cases hjl : j < ld
        · have hjL : j < L.length := by omega
          obtain ⟨ob, ooff, rfl, hcap', hcc⟩ := hcr (by omega)
          simp only [Value.slice.injEq, true_and] at he
          obtain ⟨rfl, rfl⟩ := he
          obtain ⟨r0, _, _, _, _, _, _⟩ := note_cells (hcc j hjL)
          have h1 := HLT.out j (by rw [← HLD.out]; exact hjl)
          generalize getN' L j = y at *
          have g1 : decide ((j : Int) < (L.length : Int)) = true := decide_eq_true (by omega)
          have g2 : decide (j < L.length) = true := decide_eq_true hjL
          have g3 : decide (y.serial < x.serial) = true := decide_eq_true h1
          clear hcr hcc hrow h1 HLT HGE HK HLD
          go_wp2
          go_quiet (fail)
          go_wp2
          go_roundw
          case rel => exact ⟨j + 1, by omega, by go_num, bx.out.below (below_drewN (Below.refl _ _) _), owns_below hown.out (below_drewN (Below.refl _ _) _) (Nat.le_refl _), below_drewN hb.out _⟩
          case measure => simp [intOf]; omega
        · have hjd : j = ld := by omega
          subst hjd
          by_cases hdup : j < L.length ∧ (getN' L j).serial = x.serial
          · have hins : canonL g (k + 1) = L := by rw [HK.out]; unfold insN; rw [← HLD.out, if_pos hdup]
            have HINS := Lib.hid hins
            obtain ⟨hjL, h1⟩ := hdup
            obtain ⟨ob, ooff, rfl, hcap', hcc⟩ := hcr (by omega)
            simp only [Value.slice.injEq, true_and] at he
            obtain ⟨rfl, rfl⟩ := he
            obtain ⟨r0, _, _, _, _, _, _⟩ := note_cells (hcc j hjL)
            generalize getN' L j = y at *
            have g1 : decide ((j : Int) < (L.length : Int)) = true := decide_eq_true (by omega)
            have g2 : decide (j < L.length) = true := decide_eq_true hjL
            have g3 : decide (y.serial < x.serial) = false := decide_eq_false (by omega)
            have g4 : (y.serial == x.serial) = true := by simpa using h1
            clear hins hcr hcc hrow h1 HLT HGE HK HLD
            go_wp2
            go_quiet (fail)
            go_wp2
            go_quiet (fail)
            go_wp2
            go_roundw
            case rel => exact ⟨k + 1, L, by omega, by go_num, HINS.out.symm, by omega, Lib.hid (owns_below hown.out (below_drewN (Below.refl _ _) _) (Nat.le_refl _)), Lib.hid (below_drewN hb.out _)⟩
            case measure => simp [intOf]; omega
          have hins : canonL g (k + 1) = gapL L j x := by rw [HK.out]; unfold insN; rw [← HLD.out, if_neg hdup]; rfl
          have HINS := Lib.hid hins
          clear hins
          by_cases hjL : j < L.length
          · obtain ⟨ob, ooff, rfl, hcap', hcc⟩ := hcr (by omega)
            simp only [Value.slice.injEq, true_and] at he
            obtain ⟨rfl, rfl⟩ := he
            obtain ⟨r0, _, _, _, _, _, _⟩ := note_cells (hcc j hjL)
            have h3 : ¬ (getN' L j).serial < x.serial := by have := HGE.out (by rw [← HLD.out]; exact hjL); rw [← HLD.out] at this; omega
            have h4 : (getN' L j).serial ≠ x.serial := fun h => hdup ⟨hjL, h⟩
            generalize getN' L j = y at *
            have g1 : decide ((j : Int) < (L.length : Int)) = true := decide_eq_true (by omega)
            have g2 : decide (j < L.length) = true := decide_eq_true hjL
            have g3 : decide (y.serial < x.serial) = false := decide_eq_false h3
            have g4 : (y.serial == x.serial) = false := beq_eq_false_iff_ne.2 h4
            clear hcc h3 h4
            clear hdup HLT HGE HK HLD
            go_wp2
            go_quiet (fail)
            go_wp2
            go_quiet (fail)
            go_wp2_with (at_builtin; refine wpList_pushL rfl (.tmp 45) (.tmp 47) 40 rfl w.heap.size 33 Try.underlying40 hi hz0 hz1 hz2 rfl (by decide) (NoteD.cells (⟨0, 0, ⟨0, 0, 0, 0, 0⟩⟩ : NoteD)) rfl (by intro u hu; simp [NoteD.cells] at hu; subst hu; rfl) rfl (by first | rfl | (show Value.slice (some ⟨_, 0, none⟩) 1 1 = _; simp)) (owns_below hown.out (below_drewN (Below.refl _ _) _) (Nat.le_refl _)) (by unfold maxLen; omega) (by omega) hsz2 ?_; intro gg cc5 w5 o5 g5 at5 lt5; have hb5 := Lib.hid ((below_drewN hb.out _).grown g5 hsz2 (fun q hq => (hown.out.lt q hq).1)); have bx5 := Lib.hid ((bx.out.below (below_drewN (Below.refl _ _) _)).touch (Touch.grown (lo := 0) (hi := D) g5 (fun q hq => ⟨Nat.zero_le _, HOD.out q hq⟩)) (Or.inr (Nat.le_refl _))); have hgD : gg ≠ D := (by rcases at5 with h | h; (have := HOD.out gg h; omega); (have := bx.out.1; have h' : wr.heap.size ≤ gg := h; omega)); have H5 := Lib.hid o5; clear g5 at5 o5 bx hown hb hrow hx0 hsz2 hcr)
            go_loopw [7] (fun kk wr => ∃ (i : Nat) (u : NoteD), j ≤ i ∧ i ≤ L.length ∧ kk = .int .i64 i ∧ Hid (BoxN wr D [.int .i64 x.serial, .int .i64 x.game, .int .i64 x.res.home, .int .i64 x.res.away, .int .i64 x.res.hg, .int .i64 x.res.ag, .int .i64 x.res.st]) ∧ Hid (wr.ownsRow w.heap.size 33 7 (.slice (some ⟨gg, 0, none⟩) (L.length + 1) cc5) (L.length + 1) ((gapL L i u).flatMap NoteD.cells)) ∧ Hid (Below w.heap.size w wr)) (fun kk _ => (intOf kk).toNat)
            case atStart => exact ⟨L.length, (⟨0, 0, ⟨0, 0, 0, 0, 0⟩⟩ : NoteD), by omega, Nat.le_refl _, by go_num, bx5, Lib.hid (by rw [gap_end, List.flatMap_append]; simpa using H5.out), hb5⟩
            case round =>
              clear bx5 H5 hb5
              obtain ⟨i, u, hji, hiL, rfl, bx, hown, hb⟩ := hrel
              have hML := gap_len L i u hiL
              have HC := Lib.hid (notes_cells (gapL L i u))
              rw [hML] at HC
              have hrow := NoteRow.of_owns hown.out (by omega) HC.out
              obtain ⟨aa2, cap2, he2, _, hcr⟩ := hrow.form
              obtain ⟨ob2, off2, rfl, hcap2, hcc⟩ := hcr (by omega)
              simp only [Value.slice.injEq, Option.some.injEq, Addr.mk.injEq, and_true, true_and] at he2
              obtain ⟨⟨rfl, rfl⟩, rfl⟩ := he2
              have hsz3 := hb.out.size
              have hown' := hown.out
              have hgw : w.heap.size ≤ gg := (hown.out.lt gg rfl).1
              by_cases hij : j < i
              · obtain ⟨i', rfl⟩ : ∃ i', i = i' + 1 := ⟨i - 1, by omega⟩
                have hcy := hcc i' (by omega)
                simp only [gap_get L (i' + 1) u i' (by omega) hiL, Nat.zero_add] at hcy
                have HFIN : Hid (setsFrom ((gapL L (i' + 1) u).flatMap NoteD.cells) ((i' + 1) * 7) (getN' L i').cells = (gapL L i' (getN' L i')).flatMap NoteD.cells) := by
                  show _ = _
                  rw [flat_set _ _ _ (by omega), gap_set _ _ _ _ hiL, gap_step L i' (by omega)]
                generalize getN' L i' = y at *
                obtain ⟨r0, r1, r2, r3, r4, r5, r6⟩ := note_cells hcy
                obtain ⟨u0, e0⟩ := owns_cellR hown' ((i' + 1) * 7) (by omega)
                have f0 := hown'.frozenAt ((i' + 1) * 7)
                obtain ⟨u1, e1⟩ := owns_cellR hown' ((i' + 1) * 7 + 1) (by omega)
                have f1 := hown'.frozenAt ((i' + 1) * 7 + 1)
                obtain ⟨u2, e2⟩ := owns_cellR hown' ((i' + 1) * 7 + 2) (by omega)
                have f2 := hown'.frozenAt ((i' + 1) * 7 + 2)
                obtain ⟨u3, e3⟩ := owns_cellR hown' ((i' + 1) * 7 + 3) (by omega)
                have f3 := hown'.frozenAt ((i' + 1) * 7 + 3)
                obtain ⟨u4, e4⟩ := owns_cellR hown' ((i' + 1) * 7 + 4) (by omega)
                have f4 := hown'.frozenAt ((i' + 1) * 7 + 4)
                obtain ⟨u5, e5⟩ := owns_cellR hown' ((i' + 1) * 7 + 5) (by omega)
                have f5 := hown'.frozenAt ((i' + 1) * 7 + 5)
                obtain ⟨u6, e6⟩ := owns_cellR hown' ((i' + 1) * 7 + 6) (by omega)
                have f6 := hown'.frozenAt ((i' + 1) * 7 + 6)
                clear hcy hcc hcr hrow HC hML
                go_wp2
                go_roundw
                case rel => exact ⟨i', y, by omega, by omega, by go_num, Lib.hid (box_set (box_set (box_set (box_set (box_set (box_set (box_set bx.out hgD) hgD) hgD) hgD) hgD) hgD) hgD), Lib.hid (by rw [← HFIN.out]; exact (((((((hown'.stored ((i' + 1) * 7) _).1.stored ((i' + 1) * 7 + 1) _).1.stored ((i' + 1) * 7 + 2) _).1.stored ((i' + 1) * 7 + 3) _).1.stored ((i' + 1) * 7 + 4) _).1.stored ((i' + 1) * 7 + 5) _).1.stored ((i' + 1) * 7 + 6) _).1), Lib.hid ((((((((hb.out.setCell hgw _).setCell hgw _).setCell hgw _).setCell hgw _).setCell hgw _).setCell hgw _).setCell hgw _))⟩
                case measure => simp [intOf]
              · have hij' : j = i := by omega
                subst hij'
                have HFIN : Hid (setsFrom ((gapL L j u).flatMap NoteD.cells) (j * 7) x.cells = (gapL L j x).flatMap NoteD.cells) := by
                  show _ = _
                  rw [flat_set _ _ _ (by omega), gap_set _ _ _ _ hiL]
                have hGL := gap_len L j x hiL
                have x0 := bx.out.2 0 _ rfl
                have x1 := bx.out.2 1 _ rfl
                have x2 := bx.out.2 2 _ rfl
                have x3 := bx.out.2 3 _ rfl
                have x4 := bx.out.2 4 _ rfl
                have x5 := bx.out.2 5 _ rfl
                have x6 := bx.out.2 6 _ rfl
                obtain ⟨u0, e0⟩ := owns_cellR hown' (j * 7) (by omega)
                have f0 := hown'.frozenAt (j * 7)
                obtain ⟨u1, e1⟩ := owns_cellR hown' (j * 7 + 1) (by omega)
                have f1 := hown'.frozenAt (j * 7 + 1)
                obtain ⟨u2, e2⟩ := owns_cellR hown' (j * 7 + 2) (by omega)
                have f2 := hown'.frozenAt (j * 7 + 2)
                obtain ⟨u3, e3⟩ := owns_cellR hown' (j * 7 + 3) (by omega)
                have f3 := hown'.frozenAt (j * 7 + 3)
                obtain ⟨u4, e4⟩ := owns_cellR hown' (j * 7 + 4) (by omega)
                have f4 := hown'.frozenAt (j * 7 + 4)
                obtain ⟨u5, e5⟩ := owns_cellR hown' (j * 7 + 5) (by omega)
                have f5 := hown'.frozenAt (j * 7 + 5)
                obtain ⟨u6, e6⟩ := owns_cellR hown' (j * 7 + 6) (by omega)
                have f6 := hown'.frozenAt (j * 7 + 6)
                clear hcc hcr hrow HC hML
                go_wp2
                go_roundw
                case rel => exact ⟨k + 1, gapL L j x, by omega, by go_num, HINS.out.symm, by omega, Lib.hid (by rw [hGL, ← HFIN.out]; exact (((((((hown'.stored (j * 7) _).1.stored (j * 7 + 1) _).1.stored (j * 7 + 2) _).1.stored (j * 7 + 3) _).1.stored (j * 7 + 4) _).1.stored (j * 7 + 5) _).1.stored (j * 7 + 6) _).1), Lib.hid ((((((((hb.out.setCell hgw _).setCell hgw _).setCell hgw _).setCell hgw _).setCell hgw _).setCell hgw _).setCell hgw _))⟩
                case measure => simp [intOf]; omega
          · have g1 : decide ((j : Int) < (L.length : Int)) = false := decide_eq_false (by omega)
            have g2 : decide (j < L.length) = false := decide_eq_false hjL
            clear he
            clear hdup HLT HGE HK HLD
            go_wp2
            go_quiet (fail)
            go_wp2
            go_quiet (fail)
            go_wp2_with (at_builtin; refine wpList_pushL rfl (.tmp 45) (.tmp 47) 40 rfl w.heap.size 33 Try.underlying40 hi hz0 hz1 hz2 rfl (by decide) (NoteD.cells (⟨0, 0, ⟨0, 0, 0, 0, 0⟩⟩ : NoteD)) rfl (by intro u hu; simp [NoteD.cells] at hu; subst hu; rfl) rfl (by first | rfl | (show Value.slice (some ⟨_, 0, none⟩) 1 1 = _; simp)) (owns_below hown.out (below_drewN (Below.refl _ _) _) (Nat.le_refl _)) (by unfold maxLen; omega) (by omega) hsz2 ?_; intro gg cc5 w5 o5 g5 at5 lt5; have hb5 := Lib.hid ((below_drewN hb.out _).grown g5 hsz2 (fun q hq => (hown.out.lt q hq).1)); have bx5 := Lib.hid ((bx.out.below (below_drewN (Below.refl _ _) _)).touch (Touch.grown (lo := 0) (hi := D) g5 (fun q hq => ⟨Nat.zero_le _, HOD.out q hq⟩)) (Or.inr (Nat.le_refl _))); have hgD : gg ≠ D := (by rcases at5 with h | h; (have := HOD.out gg h; omega); (have := bx.out.1; have h' : wr.heap.size ≤ gg := h; omega)); have H5 := Lib.hid o5; clear g5 at5 o5 bx hown hb hrow hx0 hsz2 hcr)
            go_loopw [7] (fun kk wr => ∃ (i : Nat) (u : NoteD), j ≤ i ∧ i ≤ L.length ∧ kk = .int .i64 i ∧ Hid (BoxN wr D [.int .i64 x.serial, .int .i64 x.game, .int .i64 x.res.home, .int .i64 x.res.away, .int .i64 x.res.hg, .int .i64 x.res.ag, .int .i64 x.res.st]) ∧ Hid (wr.ownsRow w.heap.size 33 7 (.slice (some ⟨gg, 0, none⟩) (L.length + 1) cc5) (L.length + 1) ((gapL L i u).flatMap NoteD.cells)) ∧ Hid (Below w.heap.size w wr)) (fun kk _ => (intOf kk).toNat)
            case atStart => exact ⟨L.length, (⟨0, 0, ⟨0, 0, 0, 0, 0⟩⟩ : NoteD), by omega, Nat.le_refl _, by go_num, bx5, Lib.hid (by rw [gap_end, List.flatMap_append]; simpa using H5.out), hb5⟩
            case round =>
              clear bx5 H5 hb5
              obtain ⟨i, u, hji, hiL, rfl, bx, hown, hb⟩ := hrel
              have hML := gap_len L i u hiL
              have HC := Lib.hid (notes_cells (gapL L i u))
              rw [hML] at HC
              have hrow := NoteRow.of_owns hown.out (by omega) HC.out
              obtain ⟨aa2, cap2, he2, _, hcr⟩ := hrow.form
              obtain ⟨ob2, off2, rfl, hcap2, hcc⟩ := hcr (by omega)
              simp only [Value.slice.injEq, Option.some.injEq, Addr.mk.injEq, and_true, true_and] at he2
              obtain ⟨⟨rfl, rfl⟩, rfl⟩ := he2
              have hsz3 := hb.out.size
              have hown' := hown.out
              have hgw : w.heap.size ≤ gg := (hown.out.lt gg rfl).1
              by_cases hij : j < i
              · exact absurd hij (by omega)
              · have hij' : j = i := by omega
                subst hij'
                have HFIN : Hid (setsFrom ((gapL L j u).flatMap NoteD.cells) (j * 7) x.cells = (gapL L j x).flatMap NoteD.cells) := by
                  show _ = _
                  rw [flat_set _ _ _ (by omega), gap_set _ _ _ _ hiL]
                have hGL := gap_len L j x hiL
                have x0 := bx.out.2 0 _ rfl
                have x1 := bx.out.2 1 _ rfl
                have x2 := bx.out.2 2 _ rfl
                have x3 := bx.out.2 3 _ rfl
                have x4 := bx.out.2 4 _ rfl
                have x5 := bx.out.2 5 _ rfl
                have x6 := bx.out.2 6 _ rfl
                obtain ⟨u0, e0⟩ := owns_cellR hown' (j * 7) (by omega)
                have f0 := hown'.frozenAt (j * 7)
                obtain ⟨u1, e1⟩ := owns_cellR hown' (j * 7 + 1) (by omega)
                have f1 := hown'.frozenAt (j * 7 + 1)
                obtain ⟨u2, e2⟩ := owns_cellR hown' (j * 7 + 2) (by omega)
                have f2 := hown'.frozenAt (j * 7 + 2)
                obtain ⟨u3, e3⟩ := owns_cellR hown' (j * 7 + 3) (by omega)
                have f3 := hown'.frozenAt (j * 7 + 3)
                obtain ⟨u4, e4⟩ := owns_cellR hown' (j * 7 + 4) (by omega)
                have f4 := hown'.frozenAt (j * 7 + 4)
                obtain ⟨u5, e5⟩ := owns_cellR hown' (j * 7 + 5) (by omega)
                have f5 := hown'.frozenAt (j * 7 + 5)
                obtain ⟨u6, e6⟩ := owns_cellR hown' (j * 7 + 6) (by omega)
                have f6 := hown'.frozenAt (j * 7 + 6)
                clear hcc hcr hrow HC hML
                go_wp2
                go_roundw
                case rel => exact ⟨k + 1, gapL L j x, by omega, by go_num, HINS.out.symm, by omega, Lib.hid (by rw [hGL, ← HFIN.out]; exact (((((((hown'.stored (j * 7) _).1.stored (j * 7 + 1) _).1.stored (j * 7 + 2) _).1.stored (j * 7 + 3) _).1.stored (j * 7 + 4) _).1.stored (j * 7 + 5) _).1.stored (j * 7 + 6) _).1), Lib.hid ((((((((hb.out.setCell hgw _).setCell hgw _).setCell hgw _).setCell hgw _).setCell hgw _).setCell hgw _).setCell hgw _))⟩
                case measure => simp [intOf]; omega
    · obtain rfl : k = n := by omega
      go_wp2
      go_ret
      exact ⟨_, rfl, by have := hown.out; rw [← hL.out]; exact this, hb.out⟩
end Go.Proofs.Ytlahjaakegdigaa
