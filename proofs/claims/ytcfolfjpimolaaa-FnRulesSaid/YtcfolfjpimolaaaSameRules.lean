/-
  Rule books: SameRules and UsualRules of the model and of the program.
-/
import Derived.Test.YtcfolfjpimolaaaDecisive
import Derived.Deep.RegionHeld3
import Derived.Deep.RegionWith
set_option linter.unusedVariables false
namespace Go.Proofs.Ytcfolfjpimolaaa
open Go.RowKit

def sameL (n n' : Nat) (g g' : Nat → Int) : Prop := n = n' ∧ ∀ i, i < n → g i = g' i
theorem slicesEqual_int (v v' : Value) (n n' : Nat) (g g' : Nat → Int) (R : Bool) (w : World) (hR : R = true ↔ sameL n n' g g') (h : IntRow w v n g) (h' : IntRow w v' n' g') :
    Calls Try.prog 40 #[v, v'] w fun e w' => e = .returned (.bool R) ∧ Below w.heap.size w w' := by
  obtain ⟨a, cap, rfl, hn, hv⟩ := h.form
  obtain ⟨a', cap', rfl, hn', hv'⟩ := h'.form
  have HV := Lib.hid hv
  have HV' := Lib.hid hv'
  have HR := Lib.hid hR
  clear hv hv' h h' hR
  by_cases hnn : n = n'
  case neg =>
    have hf : R = false := by
      cases R with
      | false => rfl
      | true => exact absurd (HR.out.1 rfl).1 hnn
    subst hf
    have g1 : ((n : Int) != (n' : Int)) = true := by simpa using fun e : (n : Int) = n' => hnn (by omega)
    have g2 : (n != n') = true := by simpa using hnn
    have HNN := Lib.hid hnn
    clear hnn HR
    go_enter Try.func40, Try.ntmps40
    go_wp2
    go_ret
    exact ⟨rfl, Below.refl _ _⟩
  subst hnn
  have HNO : Hid (∀ k, k < n → g k ≠ g' k → R = false) := fun k hk hne => by
    cases R with
    | false => rfl
    | true => exact absurd ((HR.out.1 rfl).2 k hk) hne
  have HYES : Hid ((∀ i, i < n → g i = g' i) → R = true) := fun h => HR.out.2 ⟨rfl, h⟩
  clear HR
  go_enter Try.func40, Try.ntmps40
  go_wp2
  go_loopw [13] (fun i wr => ∃ k q : Nat, k ≤ n ∧ i = .int .i64 k ∧ Hid (∀ i, i < k → g i = g' i) ∧ wr = w.drewN q) (fun i _ => n - (intOf i).toNat)
  case atStart => exact ⟨0, 0, Nat.zero_le _, rfl, fun i hi => absurd hi (by omega), rfl⟩
  case round =>
    obtain ⟨k, q, hk, rfl, hok, rfl⟩ := hrel
    by_cases hlt : k < n
    · obtain ⟨b, off, rfl, hc⟩ := HV.out (by omega)
      obtain ⟨b', off', rfl, hc'⟩ := HV'.out (by omega)
      have c1 := hc k hlt
      have c2 := hc' k hlt
      have H1 := Lib.hid (HNO.out k hlt)
      have H2 : Hid (g k = g' k → ∀ i, i < k + 1 → g i = g' i) := fun h i hi => by
        by_cases hik : i = k
        · subst hik; exact h
        · exact hok.out i (by omega)
      clear hc hc' HV HV' HNO HYES hok
      generalize g k = x at *
      generalize g' k = y at *
      by_cases hxy : x = y
      · subst hxy
        have HN := Lib.hid (H2.out rfl)
        clear H1 H2
        go_wp2
        go_quiet (fail)
        go_wp2
        go_roundw
        case rel => exact ⟨k + 1, q + nq, by omega, by go_num, HN.out, rfl⟩
        case measure => simp [intOf]; omega
      · obtain rfl := H1.out hxy
        have g1 : (x != y) = true := bne_iff_ne.2 hxy
        have HX := Lib.hid hxy
        clear H1 H2 hxy
        go_wp2
        go_quiet (fail)
        go_wp2
        go_ret
        exact ⟨rfl, below_drewN (below_drewN (Below.refl _ _) q) nq⟩
    · obtain rfl : k = n := by omega
      obtain rfl := HYES.out hok.out
      clear HNO HYES hok
      go_wp2
      go_ret
      exact ⟨rfl, below_drewN (Below.refl _ _) q⟩
def sameP (win draw loss : Int) (ag : Bool) (n : Nat) (g : Nat → Int) (win' draw' loss' : Int) (ag' : Bool) (n' : Nat) (g' : Nat → Int) : Prop :=
  (win = win' ∧ draw = draw' ∧ loss = loss' ∧ ag = ag') ∧ sameL n n' g g'
theorem scaleOf_any (win draw loss : Int) (ag : Bool) (v : Value) (w : World) :
    Calls Try.prog 39 #[.agg #[.int .i64 win, .int .i64 draw, .int .i64 loss, v, .bool ag]] w fun e w' => e = .returned (.agg #[.int .i64 win, .int .i64 draw, .int .i64 loss, .bool ag]) ∧ Below w.heap.size w w' := by
  go_enter Try.func39, Try.ntmps39
  go_wp2
  exact bodyPost_ret (v := .agg #[.int .i64 win, .int .i64 draw, .int .i64 loss, .bool ag]) (by simp [results, Try.results39, go_sem]) rfl ⟨rfl, ((Below.refl _ _).alloc (Nat.le_refl _) _).alloc (by simp) _⟩
theorem sameRules_spec (win draw loss : Int) (ag : Bool) (v : Value) (n : Nat) (g : Nat → Int) (win' draw' loss' : Int) (ag' : Bool) (v' : Value) (n' : Nat) (g' : Nat → Int) (R : Bool) (w : World)
    (hR : R = true ↔ sameP win draw loss ag n g win' draw' loss' ag' n' g') (h : IntRow w v n g) (h' : IntRow w v' n' g') :
    Calls Try.prog 33 #[.agg #[.int .i64 win, .int .i64 draw, .int .i64 loss, v, .bool ag], .agg #[.int .i64 win', .int .i64 draw', .int .i64 loss', v', .bool ag']] w fun e w' => e = .returned (.bool R) ∧ Below w.heap.size w w' := by
  obtain ⟨a, cap, rfl, hn, hv⟩ := h.form
  obtain ⟨a', cap', rfl, hn', hv'⟩ := h'.form
  have HV := Lib.hid hv
  have HV' := Lib.hid hv'
  have HR := Lib.hid hR
  clear hv hv' h h' hR
  by_cases hd : win = win' ∧ draw = draw' ∧ loss = loss' ∧ ag = ag' ∧ n = n'
  case neg =>
    have hf : R = false := by
      cases R with
      | false => rfl
      | true => obtain ⟨⟨h1, h2, h3, h4⟩, h5, _⟩ := HR.out.1 rfl
                exact absurd ⟨h1, h2, h3, h4, h5⟩ hd
    subst hf
    have g0 : (win != win') = true ∨ ((win != win') = false ∧ (draw != draw') = true) ∨ ((win != win') = false ∧ (draw != draw') = false ∧ (loss != loss') = true) ∨
        ((win != win') = false ∧ (draw != draw') = false ∧ (loss != loss') = false ∧ ag = true ∧ ag' = false) ∨ ((win != win') = false ∧ (draw != draw') = false ∧ (loss != loss') = false ∧ ag = false ∧ ag' = true) ∨ ((win != win') = false ∧ (draw != draw') = false ∧ (loss != loss') = false ∧ ag = ag' ∧ ((n : Int) != (n' : Int)) = true ∧ (n != n') = true) := by
      by_cases h1 : win = win'
      · by_cases h2 : draw = draw'
        · by_cases h3 : loss = loss'
          · by_cases h4 : ag = ag'
            · have h5 : n ≠ n' := fun h5 => hd ⟨h1, h2, h3, h4, h5⟩
              have h6 : (n : Int) ≠ n' := by omega
              exact .inr (.inr (.inr (.inr (.inr ⟨by simp [h1], by simp [h2], by simp [h3], h4, bne_iff_ne.2 h6, bne_iff_ne.2 h5⟩))))
            · cases ag with
              | true => exact .inr (.inr (.inr (.inl ⟨by simp [h1], by simp [h2], by simp [h3], rfl, by simpa using fun e : ag' = true => h4 e.symm⟩)))
              | false => exact .inr (.inr (.inr (.inr (.inl ⟨by simp [h1], by simp [h2], by simp [h3], rfl, by simpa using fun e : ag' = false => h4 e.symm⟩))))
          · exact .inr (.inr (.inl ⟨by simp [h1], by simp [h2], bne_iff_ne.2 h3⟩))
        · exact .inr (.inl ⟨by simp [h1], bne_iff_ne.2 h2⟩)
      · exact .inl (bne_iff_ne.2 h1)
    clear hd HR HV HV'
    rcases g0 with g1 | ⟨g1, g2⟩ | ⟨g1, g2, g3⟩ | ⟨g1, g2, g3, rfl, rfl⟩ | ⟨g1, g2, g3, rfl, rfl⟩ | ⟨g1, g2, g3, rfl, g5, g6⟩
    all_goals
      go_enter Try.func33, Try.ntmps33
      go_wp2
      go_ret
      exact ⟨rfl, ((Below.refl _ _).alloc (Nat.le_refl _) _).alloc (by simp) _⟩
  obtain ⟨rfl, rfl, rfl, rfl, rfl⟩ := hd
  have HNO : Hid (∀ k, k < n → g k ≠ g' k → R = false) := fun k hk hne => by
    cases R with
    | false => rfl
    | true => exact absurd ((HR.out.1 rfl).2.2 k hk) hne
  have HYES : Hid ((∀ i, i < n → g i = g' i) → R = true) := fun h => HR.out.2 ⟨⟨rfl, rfl, rfl, rfl⟩, rfl, h⟩
  clear HR
  go_enter Try.func33, Try.ntmps33
  go_wp2
  go_loop [45] (fun i => ∃ k : Nat, k ≤ n ∧ i = .int .i64 k ∧ Hid (∀ i, i < k → g i = g' i)) (fun i => n - (intOf i).toNat)
  case atStart => exact ⟨0, Nat.zero_le _, rfl, fun i hi => absurd hi (by omega)⟩
  case round =>
    obtain ⟨k, hk, rfl, hok⟩ := hrel
    by_cases hlt : k < n
    · obtain ⟨b, off, rfl, hc⟩ := HV.out (by omega)
      obtain ⟨b', off', rfl, hc'⟩ := HV'.out (by omega)
      have c1 := hc k hlt
      have c2 := hc' k hlt
      have hblt : b < w.heap.size := World.block_lt_of_cell? w _ c1
      have hblt' : b' < w.heap.size := World.block_lt_of_cell? w _ c2
      have H1 := Lib.hid (HNO.out k hlt)
      have H2 : Hid (g k = g' k → ∀ i, i < k + 1 → g i = g' i) := fun h i hi => by
        by_cases hik : i = k
        · subst hik; exact h
        · exact hok.out i (by omega)
      clear hc hc' HV HV' HNO HYES hok
      generalize g k = x at *
      generalize g' k = y at *
      by_cases hxy : x = y
      · subst hxy
        have HN := Lib.hid (H2.out rfl)
        clear H1 H2
        go_wp2
        go_round
        case rel => exact ⟨k + 1, by omega, by go_num, HN.out⟩
        case measure => simp [intOf]; omega
      · obtain rfl := H1.out hxy
        have g1 : (x != y) = true := bne_iff_ne.2 hxy
        have HX := Lib.hid hxy
        clear H1 H2 hxy
        go_wp2
        go_ret
        exact ⟨rfl, ((Below.refl _ _).alloc (Nat.le_refl _) _).alloc (by simp) _⟩
    · obtain rfl : k = n := by omega
      obtain rfl := HYES.out hok.out
      clear HNO HYES hok
      go_wp2
      go_ret
      exact ⟨rfl, ((Below.refl _ _).alloc (Nat.le_refl _) _).alloc (by simp) _⟩
def Box5 (w : World) (B : Nat) (a b c d f : Value) : Prop := w.cell? ⟨B, 0, none⟩ = some a ∧ w.cell? ⟨B, 1, none⟩ = some b ∧ w.cell? ⟨B, 2, none⟩ = some c ∧ w.cell? ⟨B, 3, none⟩ = some d ∧ w.cell? ⟨B, 4, none⟩ = some f
theorem Box5.below {w w2 : World} {B : Nat} {a b c d f : Value} (k : Box5 w B a b c d f) (h : Below w.heap.size w w2) : Box5 w2 B a b c d f := cells5_below k h
theorem Box5.made (w : World) (t : TypeId) {a b c d f : Value} : Box5 (w.alloc (.cells #[a, b, c, d, f] t)) w.heap.size a b c d f := cells5 (Below.refl _ _)
set_option maxHeartbeats 2000000 in
theorem sameRules_impl (win draw loss : Int) (ag : Bool) (v : Value) (n : Nat) (g : Nat → Int) (win' draw' loss' : Int) (ag' : Bool) (v' : Value) (n' : Nat) (g' : Nat → Int) (R : Bool) (w : World)
    (hR : R = true ↔ sameP win draw loss ag n g win' draw' loss' ag' n' g') (h : IntRow w v n g) (h' : IntRow w v' n' g') :
    Calls Try.prog 19 #[.agg #[.int .i64 win, .int .i64 draw, .int .i64 loss, v, .bool ag], .agg #[.int .i64 win', .int .i64 draw', .int .i64 loss', v', .bool ag']] w fun e w' => e = .returned (.bool R) ∧ Below w.heap.size w w' := by
  by_cases hd : win = win' ∧ draw = draw' ∧ loss = loss' ∧ ag = ag'
  · obtain ⟨rfl, rfl, rfl, rfl⟩ := hd
    have hR' : R = true ↔ sameL n n' g g' := by rw [hR]; exact ⟨fun h => h.2, fun h => ⟨⟨rfl, rfl, rfl, rfl⟩, h⟩⟩
    have C := Lib.hid (fun w1 h1 h2 => slicesEqual_int v v' n n' g g' R w1 hR' h1 h2)
    have CS := Lib.hid (fun w1 => scaleOf_any win draw loss ag v w1)
    have CS' := Lib.hid (fun w1 => scaleOf_any win draw loss ag v' w1)
    have HW := Lib.hid h
    have HW' := Lib.hid h'
    clear h h' hR hR'
    go_enter Try.func19, Try.ntmps19
    have KS : Hid (∀ w1 w2, (fun w' => Box5 w' w.heap.size (.int .i64 win) (.int .i64 draw) (.int .i64 loss) v (.bool ag) ∧ Box5 w' (w.heap.size + 1) (.int .i64 win) (.int .i64 draw) (.int .i64 loss) v' (.bool ag) ∧ Hid (Below w.heap.size w w')) w1 → Below w1.heap.size w1 w2 → (fun w' => Box5 w' w.heap.size (.int .i64 win) (.int .i64 draw) (.int .i64 loss) v (.bool ag) ∧ Box5 w' (w.heap.size + 1) (.int .i64 win) (.int .i64 draw) (.int .i64 loss) v' (.bool ag) ∧ Hid (Below w.heap.size w w')) w2) := fun w1 w2 h b => ⟨h.1.below b, h.2.1.below b, h.2.2.out.trans (b.mono h.2.2.out.size)⟩
    have KS0 : Hid ((fun w' => Box5 w' w.heap.size (.int .i64 win) (.int .i64 draw) (.int .i64 loss) v (.bool ag) ∧ Box5 w' (w.heap.size + 1) (.int .i64 win) (.int .i64 draw) (.int .i64 loss) v' (.bool ag) ∧ Hid (Below w.heap.size w w')) (((w.alloc (Obj.cells #[.int .i64 win, .int .i64 draw, .int .i64 loss, v, .bool ag] 25)).alloc (Obj.cells #[.int .i64 win, .int .i64 draw, .int .i64 loss, v', .bool ag] 25)).drew)) :=
      ⟨(Box5.made w _).below ((Below.refl _ _).alloc (Nat.le_refl _) _).drew, by have := Box5.made (w.alloc (Obj.cells #[.int .i64 win, .int .i64 draw, .int .i64 loss, v, .bool ag] 25)) 25 (a := .int .i64 win) (b := .int .i64 draw) (c := .int .i64 loss) (d := v') (f := .bool ag); simpa using this.below (Below.refl _ _).drew, (((Below.refl _ _).alloc (Nat.le_refl _) _).alloc (by simp) _).drew⟩
    go_wp2_with fail
    refine wp_region_held_drew (S := (fun w' => Box5 w' w.heap.size (.int .i64 win) (.int .i64 draw) (.int .i64 loss) v (.bool ag) ∧ Box5 w' (w.heap.size + 1) (.int .i64 win) (.int .i64 draw) (.int .i64 loss) v' (.bool ag) ∧ Hid (Below w.heap.size w w'))) (by kernel_rfl) ?_ (fun hHeld => ?_)
    · exact KS0.out
    refine wpAnyH_take (i := 0) (v := ?_) rfl (by kernel_rfl) (by kernel_rfl) (by kernel_rfl) (fun _ _ _ h => h) (Or.inl ⟨by rfl, ?_⟩) (by assumption) ?_
    rotate_left
    · (intro w hSw; obtain ⟨⟨k0, k1, k2, k3, k4⟩, ⟨m0, m1, m2, m3, m4⟩, _⟩ := hSw; go_simp; try with_reducible rfl)
    simp only [Act.put, List.getElem_toArray, List.getElem_cons_zero, List.setIfInBounds_toArray, List.set_cons_zero, List.set_cons_succ]
    refine wpAnyH_take (i := 2) (v := ?_) rfl (by kernel_rfl) (by kernel_rfl) (by kernel_rfl) (fun _ _ _ h => h) (Or.inl ⟨by rfl, ?_⟩) (by assumption) ?_
    rotate_left
    · (intro w hSw; obtain ⟨⟨k0, k1, k2, k3, k4⟩, ⟨m0, m1, m2, m3, m4⟩, _⟩ := hSw; go_simp; try with_reducible rfl)
    simp only [Act.put, List.getElem_toArray, List.getElem_cons_zero, List.getElem_cons_succ, List.setIfInBounds_toArray, List.set_cons_zero, List.set_cons_succ]
    refine wpAnyH_ready (rs := [1]) (by kernel_rfl) (by simp) ?_
    refine AllReadyH.cons (o := _) rfl (fun K hK => ?_) AllReadyH.nil
    go_simp
    refine (CS.out _).mono ?_
    rintro e w1 ⟨rfl, b1⟩
    (try go_wp2_with fail)
    refine hK.out _ _ ?_ (fun hHeld => ?_)
    · exact KS.out _ _ (by assumption) (by assumption)
    clear hK K
    refine wpAnyH_ready (rs := [3]) (by kernel_rfl) (by simp) ?_
    refine AllReadyH.cons (o := _) rfl (fun K hK => ?_) AllReadyH.nil
    go_simp
    refine (CS'.out _).mono ?_
    rintro e w2 ⟨rfl, b2⟩
    (try go_wp2_with fail)
    refine hK.out _ _ ?_ (fun hHeld => ?_)
    · exact KS.out _ _ (by assumption) (by assumption)
    clear hK K
    refine wpAnyH_take (i := 4) (v := ?_) rfl (by kernel_rfl) (by kernel_rfl) (by kernel_rfl) (fun _ _ _ h => h) (Or.inl ⟨by rfl, ?_⟩) (by assumption) ?_
    rotate_left
    · (intro w hSw; obtain ⟨⟨k0, k1, k2, k3, k4⟩, ⟨m0, m1, m2, m3, m4⟩, _⟩ := hSw; go_simp; try with_reducible rfl)
    simp only [Act.put, List.getElem_toArray, List.getElem_cons_zero, List.getElem_cons_succ, List.setIfInBounds_toArray, List.set_cons_zero, List.set_cons_succ]
    refine wpAnyH_take (i := 5) (v := ?_) rfl (by kernel_rfl) (by kernel_rfl) (by kernel_rfl) (fun _ _ _ h => h) (Or.inl ⟨by rfl, ?_⟩) (by assumption) ?_
    rotate_left
    · (intro w hSw; obtain ⟨⟨k0, k1, k2, k3, k4⟩, ⟨m0, m1, m2, m3, m4⟩, _⟩ := hSw; go_simp; try with_reducible rfl)
    simp only [Act.put, List.getElem_toArray, List.getElem_cons_zero, List.getElem_cons_succ, List.setIfInBounds_toArray, List.set_cons_zero, List.set_cons_succ]
    refine wpAnyH_take (i := 6) (v := ?_) rfl (by kernel_rfl) (by kernel_rfl) (by kernel_rfl) (fun _ _ _ h => h) (Or.inl ⟨by rfl, ?_⟩) (by assumption) ?_
    rotate_left
    · (intro w hSw; obtain ⟨⟨k0, k1, k2, k3, k4⟩, ⟨m0, m1, m2, m3, m4⟩, _⟩ := hSw; go_simp; try with_reducible rfl)
    simp only [Act.put, List.getElem_toArray, List.getElem_cons_zero, List.getElem_cons_succ, List.setIfInBounds_toArray, List.set_cons_zero, List.set_cons_succ]
    refine wpAnyH_take (i := 7) (v := ?_) rfl (by kernel_rfl) (by kernel_rfl) (by kernel_rfl) (fun _ _ _ h => h) (Or.inl ⟨by rfl, ?_⟩) (by assumption) ?_
    rotate_left
    · (intro w hSw; obtain ⟨⟨k0, k1, k2, k3, k4⟩, ⟨m0, m1, m2, m3, m4⟩, _⟩ := hSw; go_simp; try with_reducible rfl)
    simp only [Act.put, List.getElem_toArray, List.getElem_cons_zero, List.getElem_cons_succ, List.setIfInBounds_toArray, List.set_cons_zero, List.set_cons_succ]
    refine wpAnyH_take (i := 8) (v := ?_) rfl (by kernel_rfl) (by kernel_rfl) (by kernel_rfl) (fun _ _ _ h => h) (Or.inl ⟨by rfl, ?_⟩) (by assumption) ?_
    rotate_left
    · (intro w hSw; obtain ⟨⟨k0, k1, k2, k3, k4⟩, ⟨m0, m1, m2, m3, m4⟩, _⟩ := hSw; go_simp; try with_reducible rfl)
    simp only [Act.put, List.getElem_toArray, List.getElem_cons_zero, List.getElem_cons_succ, List.setIfInBounds_toArray, List.set_cons_zero, List.set_cons_succ]
    refine wpAnyH_take (i := 9) (v := ?_) rfl (by kernel_rfl) (by kernel_rfl) (by kernel_rfl) (fun _ _ _ h => h) (Or.inl ⟨by rfl, ?_⟩) (by assumption) ?_
    rotate_left
    · (intro w hSw; obtain ⟨⟨k0, k1, k2, k3, k4⟩, ⟨m0, m1, m2, m3, m4⟩, _⟩ := hSw; go_simp; try with_reducible rfl)
    simp only [Act.put, List.getElem_toArray, List.getElem_cons_zero, List.getElem_cons_succ, List.setIfInBounds_toArray, List.set_cons_zero, List.set_cons_succ]
    refine wpAnyH_ready (rs := [10]) (by kernel_rfl) (by simp) ?_
    refine AllReadyH.cons (o := _) rfl (fun K hK => ?_) AllReadyH.nil
    go_simp
    refine (C.out _ ((by assumption : _ ∧ _ ∧ Hid (Below w.heap.size w _)) |>.2.2.out |> HW.out.below <| Nat.le_refl _) ((by assumption : _ ∧ _ ∧ Hid (Below w.heap.size w _)) |>.2.2.out |> HW'.out.below <| Nat.le_refl _)).mono ?_
    rintro e w3 ⟨rfl, b3⟩
    (try go_wp2_with fail)
    refine hK.out _ _ ?_ (fun hHeld => ?_)
    · exact KS.out _ _ (by assumption) (by assumption)
    clear hK K
    refine wpAnyH_take (i := 11) (v := ?_) rfl (by kernel_rfl) (by kernel_rfl) (by kernel_rfl) (fun _ _ _ h => h) (Or.inl ⟨by rfl, ?_⟩) (by assumption) ?_
    rotate_left
    · (intro w hSw; obtain ⟨⟨k0, k1, k2, k3, k4⟩, ⟨m0, m1, m2, m3, m4⟩, _⟩ := hSw; go_simp; try with_reducible rfl)
    simp only [Act.put, List.getElem_toArray, List.getElem_cons_zero, List.getElem_cons_succ, List.setIfInBounds_toArray, List.set_cons_zero, List.set_cons_succ]
    refine wpAnyH_take (i := 12) (v := ?_) rfl (by kernel_rfl) (by kernel_rfl) (by kernel_rfl) (fun _ _ _ h => h) (Or.inl ⟨by rfl, ?_⟩) (by assumption) ?_
    rotate_left
    · (intro w hSw; obtain ⟨⟨k0, k1, k2, k3, k4⟩, ⟨m0, m1, m2, m3, m4⟩, _⟩ := hSw; go_simp; try with_reducible rfl)
    simp only [Act.put, List.getElem_toArray, List.getElem_cons_zero, List.getElem_cons_succ, List.setIfInBounds_toArray, List.set_cons_zero, List.set_cons_succ]
    refine wpAnyH_done (by kernel_rfl) ?_ _
    go_wp2
    go_ret
    exact ⟨rfl, (by assumption : _ ∧ _ ∧ Hid (Below w.heap.size w _)).2.2.out⟩
  · have hf : R = false := by
      cases R with
      | false => rfl
      | true => exact absurd (hR.1 rfl).1 hd
    subst hf
    have CS := Lib.hid (fun w1 => scaleOf_any win draw loss ag v w1)
    have CS' := Lib.hid (fun w1 => scaleOf_any win' draw' loss' ag' v' w1)
    have g0 : (win == win') = false ∨ ((win == win') = true ∧ (draw == draw') = false) ∨ ((win == win') = true ∧ (draw == draw') = true ∧ (loss == loss') = false) ∨
        ((win == win') = true ∧ (draw == draw') = true ∧ (loss == loss') = true ∧ (ag == ag') = false) := by
      by_cases h1 : win = win'
      · by_cases h2 : draw = draw'
        · by_cases h3 : loss = loss'
          · have h4 : ag ≠ ag' := fun h4 => hd ⟨h1, h2, h3, h4⟩
            exact .inr (.inr (.inr ⟨by simp [h1], by simp [h2], by simp [h3], beq_eq_false_iff_ne.2 h4⟩))
          · exact .inr (.inr (.inl ⟨by simp [h1], by simp [h2], beq_eq_false_iff_ne.2 h3⟩))
        · exact .inr (.inl ⟨by simp [h1], beq_eq_false_iff_ne.2 h2⟩)
      · exact .inl (beq_eq_false_iff_ne.2 h1)
    clear hd hR h h'
    have KS : Hid (∀ w1 w2, (fun w' => Box5 w' w.heap.size (.int .i64 win) (.int .i64 draw) (.int .i64 loss) v (.bool ag) ∧ Box5 w' (w.heap.size + 1) (.int .i64 win') (.int .i64 draw') (.int .i64 loss') v' (.bool ag') ∧ Hid (Below w.heap.size w w')) w1 → Below w1.heap.size w1 w2 → (fun w' => Box5 w' w.heap.size (.int .i64 win) (.int .i64 draw) (.int .i64 loss) v (.bool ag) ∧ Box5 w' (w.heap.size + 1) (.int .i64 win') (.int .i64 draw') (.int .i64 loss') v' (.bool ag') ∧ Hid (Below w.heap.size w w')) w2) := fun w1 w2 h b => ⟨h.1.below b, h.2.1.below b, h.2.2.out.trans (b.mono h.2.2.out.size)⟩
    have KS0 : Hid ((fun w' => Box5 w' w.heap.size (.int .i64 win) (.int .i64 draw) (.int .i64 loss) v (.bool ag) ∧ Box5 w' (w.heap.size + 1) (.int .i64 win') (.int .i64 draw') (.int .i64 loss') v' (.bool ag') ∧ Hid (Below w.heap.size w w')) (((w.alloc (Obj.cells #[.int .i64 win, .int .i64 draw, .int .i64 loss, v, .bool ag] 25)).alloc (Obj.cells #[.int .i64 win', .int .i64 draw', .int .i64 loss', v', .bool ag'] 25)).drew)) :=
      ⟨(Box5.made w _).below ((Below.refl _ _).alloc (Nat.le_refl _) _).drew, by have := Box5.made (w.alloc (Obj.cells #[.int .i64 win, .int .i64 draw, .int .i64 loss, v, .bool ag] 25)) 25 (a := .int .i64 win') (b := .int .i64 draw') (c := .int .i64 loss') (d := v') (f := .bool ag'); simpa using this.below (Below.refl _ _).drew, (((Below.refl _ _).alloc (Nat.le_refl _) _).alloc (by simp) _).drew⟩
    rcases g0 with g1 | ⟨g1, g2⟩ | ⟨g1, g2, g3⟩ | ⟨g1, g2, g3, g4⟩
    all_goals
      go_enter Try.func19, Try.ntmps19
      go_wp2
      go_wp2_with fail
      refine wp_region_held_drew (S := (fun w' => Box5 w' w.heap.size (.int .i64 win) (.int .i64 draw) (.int .i64 loss) v (.bool ag) ∧ Box5 w' (w.heap.size + 1) (.int .i64 win') (.int .i64 draw') (.int .i64 loss') v' (.bool ag') ∧ Hid (Below w.heap.size w w'))) (by kernel_rfl) ?_ (fun hHeld => ?_)
      · exact KS0.out
      refine wpAnyH_take (i := 0) (v := ?_) rfl (by kernel_rfl) (by kernel_rfl) (by kernel_rfl) (fun _ _ _ h => h) (Or.inl ⟨by rfl, ?_⟩) (by assumption) ?_
      rotate_left
      · (intro w hSw; obtain ⟨⟨k0, k1, k2, k3, k4⟩, ⟨m0, m1, m2, m3, m4⟩, _⟩ := hSw; go_simp; try with_reducible rfl)
      simp only [Act.put, List.getElem_toArray, List.getElem_cons_zero, List.setIfInBounds_toArray, List.set_cons_zero, List.set_cons_succ]
      refine wpAnyH_take (i := 2) (v := ?_) rfl (by kernel_rfl) (by kernel_rfl) (by kernel_rfl) (fun _ _ _ h => h) (Or.inl ⟨by rfl, ?_⟩) (by assumption) ?_
      rotate_left
      · (intro w hSw; obtain ⟨⟨k0, k1, k2, k3, k4⟩, ⟨m0, m1, m2, m3, m4⟩, _⟩ := hSw; go_simp; try with_reducible rfl)
      simp only [Act.put, List.getElem_toArray, List.getElem_cons_zero, List.getElem_cons_succ, List.setIfInBounds_toArray, List.set_cons_zero, List.set_cons_succ]
      refine wpAnyH_ready (rs := [1]) (by kernel_rfl) (by simp) ?_
      refine AllReadyH.cons (o := _) rfl (fun K hK => ?_) AllReadyH.nil
      go_simp
      refine (CS.out _).mono ?_
      rintro e w1 ⟨rfl, b1⟩
      (try go_wp2_with fail)
      refine hK.out _ _ ?_ (fun hHeld => ?_)
      · exact KS.out _ _ (by assumption) (by assumption)
      clear hK K
      refine wpAnyH_ready (rs := [3]) (by kernel_rfl) (by simp) ?_
      refine AllReadyH.cons (o := _) rfl (fun K hK => ?_) AllReadyH.nil
      go_simp
      refine (CS'.out _).mono ?_
      rintro e w2 ⟨rfl, b2⟩
      (try go_wp2_with fail)
      refine hK.out _ _ ?_ (fun hHeld => ?_)
      · exact KS.out _ _ (by assumption) (by assumption)
      clear hK K
      refine wpAnyH_take (i := 4) (v := ?_) rfl (by kernel_rfl) (by kernel_rfl) (by kernel_rfl) (fun _ _ _ h => h) (Or.inl ⟨by rfl, ?_⟩) (by assumption) ?_
      rotate_left
      · (intro w hSw; obtain ⟨⟨k0, k1, k2, k3, k4⟩, ⟨m0, m1, m2, m3, m4⟩, _⟩ := hSw; go_simp; try with_reducible rfl)
      simp only [Act.put, List.getElem_toArray, List.getElem_cons_zero, List.getElem_cons_succ, List.setIfInBounds_toArray, List.set_cons_zero, List.set_cons_succ]
      refine wpAnyH_take (i := 5) (v := ?_) rfl (by kernel_rfl) (by kernel_rfl) (by kernel_rfl) (fun _ _ _ h => h) (Or.inl ⟨by rfl, ?_⟩) (by assumption) ?_
      rotate_left
      · (intro w hSw; obtain ⟨⟨k0, k1, k2, k3, k4⟩, ⟨m0, m1, m2, m3, m4⟩, _⟩ := hSw; go_simp; try with_reducible rfl)
      simp only [Act.put, List.getElem_toArray, List.getElem_cons_zero, List.getElem_cons_succ, List.setIfInBounds_toArray, List.set_cons_zero, List.set_cons_succ]
      refine wpAnyH_take (i := 6) (v := undef) rfl (by kernel_rfl) (by kernel_rfl) (by kernel_rfl) (fun _ _ _ h => h) (Or.inr ⟨by rfl, rfl⟩) (by assumption) ?_
      simp only [Act.put, List.getElem_toArray, List.getElem_cons_zero, List.getElem_cons_succ, List.setIfInBounds_toArray, List.set_cons_zero, List.set_cons_succ]
      refine wpAnyH_take (i := 7) (v := undef) rfl (by kernel_rfl) (by kernel_rfl) (by kernel_rfl) (fun _ _ _ h => h) (Or.inr ⟨by rfl, rfl⟩) (by assumption) ?_
      simp only [Act.put, List.getElem_toArray, List.getElem_cons_zero, List.getElem_cons_succ, List.setIfInBounds_toArray, List.set_cons_zero, List.set_cons_succ]
      refine wpAnyH_take (i := 8) (v := undef) rfl (by kernel_rfl) (by kernel_rfl) (by kernel_rfl) (fun _ _ _ h => h) (Or.inr ⟨by rfl, rfl⟩) (by assumption) ?_
      simp only [Act.put, List.getElem_toArray, List.getElem_cons_zero, List.getElem_cons_succ, List.setIfInBounds_toArray, List.set_cons_zero, List.set_cons_succ]
      refine wpAnyH_take (i := 9) (v := undef) rfl (by kernel_rfl) (by kernel_rfl) (by kernel_rfl) (fun _ _ _ h => h) (Or.inr ⟨by rfl, rfl⟩) (by assumption) ?_
      simp only [Act.put, List.getElem_toArray, List.getElem_cons_zero, List.getElem_cons_succ, List.setIfInBounds_toArray, List.set_cons_zero, List.set_cons_succ]
      refine wpAnyH_take (i := 10) (v := undef) rfl (by kernel_rfl) (by kernel_rfl) (by kernel_rfl) (fun _ _ _ h => h) (Or.inr ⟨by rfl, rfl⟩) (by assumption) ?_
      simp only [Act.put, List.getElem_toArray, List.getElem_cons_zero, List.getElem_cons_succ, List.setIfInBounds_toArray, List.set_cons_zero, List.set_cons_succ]
      refine wpAnyH_take (i := 11) (v := ?_) rfl (by kernel_rfl) (by kernel_rfl) (by kernel_rfl) (fun _ _ _ h => h) (Or.inl ⟨by rfl, ?_⟩) (by assumption) ?_
      rotate_left
      · (intro w hSw; obtain ⟨⟨k0, k1, k2, k3, k4⟩, ⟨m0, m1, m2, m3, m4⟩, _⟩ := hSw; go_simp; try with_reducible rfl)
      simp only [Act.put, List.getElem_toArray, List.getElem_cons_zero, List.getElem_cons_succ, List.setIfInBounds_toArray, List.set_cons_zero, List.set_cons_succ]
      refine wpAnyH_take (i := 12) (v := ?_) rfl (by kernel_rfl) (by kernel_rfl) (by kernel_rfl) (fun _ _ _ h => h) (Or.inl ⟨by rfl, ?_⟩) (by assumption) ?_
      rotate_left
      · (intro w hSw; obtain ⟨⟨k0, k1, k2, k3, k4⟩, ⟨m0, m1, m2, m3, m4⟩, _⟩ := hSw; go_simp; try with_reducible rfl)
      simp only [Act.put, List.getElem_toArray, List.getElem_cons_zero, List.getElem_cons_succ, List.setIfInBounds_toArray, List.set_cons_zero, List.set_cons_succ]
      refine wpAnyH_done (by kernel_rfl) ?_ _
      go_wp2
      go_ret
      exact ⟨rfl, (by assumption : _ ∧ _ ∧ Hid (Below w.heap.size w _)).2.2.out⟩
end Go.Proofs.Ytcfolfjpimolaaa
