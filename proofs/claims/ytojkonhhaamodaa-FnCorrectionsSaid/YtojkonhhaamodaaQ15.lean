/-
  Packed: NotesImpl, CanonFacts, ApplyFacts, RecFacts.
-/
import Derived.Deep.RegionHeld3
import Derived.Test.YtojkonhhaamodaaQ14
set_option linter.unusedVariables false
namespace Go.Proofs.Ytojkonhhaamodaa
open Go.RowKit Go.Maps

set_option maxRecDepth 100000 in
set_option maxHeartbeats 1000000 in
theorem notesOk_impl (n : Int) (v : Value) (m : Nat) (g : Nat → GameD) (v' : Value) (k : Nat) (ns : Nat → NoteD) (R : Bool) (w : World) (hf : ∀ i, (ns i).fit) (hR : R = true ↔ notesP n m g k ns) (hv : GameRow w v m g) (hv' : NoteRow w v' k ns) :
    Calls Try.prog 6 #[.int .i64 n, v, v'] w fun e w' => e = .returned (.bool R) ∧ Below w.heap.size w w' := by
  obtain ⟨aa, cap, B, O, rfl, hk63, hat⟩ := hv'.at
  have HAT := Lib.hid hat
  have HG := Lib.hid hv
  have HF := Lib.hid hf
  obtain ⟨r, hr⟩ := bool_ex (seasonP n m g)
  have C := Lib.hid (fun w1 h1 => seasonOk_impl n v m g r w1 hr h1)
  have HRR := Lib.hid hr
  have HNOT : Hid (¬ notesP n m g k ns → R = false) := fun h => bool_not hR h
  have HYES0 : Hid (notesP n m g k ns → R = true) := fun h => hR.2 h
  clear hR hr hv hv' hat hf
  go_enter Try.func6, Try.ntmps6
  go_wp2_with fail
  refine (C.out _ HG.out).mono ?_
  rintro e w2 ⟨rfl, b2⟩
  have HB2 := Lib.hid b2
  have z2 := b2.size
  have HAT2 := Lib.hid (HAT.out.below b2 (Nat.le_refl _))
  clear C b2
  cases r with
  | false =>
    obtain rfl := HNOT.out fun h => by have := HRR.out.2 h.1; cases this
    clear HNOT HYES0 HRR HAT HAT2
    go_wp2
    go_ret
    exact ⟨rfl, HB2.out⟩
  | true =>
  have HSE := Lib.hid (HRR.out.1 rfl)
  clear HRR
  by_cases h80 : 80 < k
  · have g0 : decide (80 < (k : Int)) = true := decide_eq_true (by omega)
    have g0' : decide (80 < k) = true := decide_eq_true h80
    obtain rfl := HNOT.out fun h => by have := h.2.1; omega
    clear HNOT HYES0 HAT HAT2
    go_wp2
    go_ret
    exact ⟨rfl, HB2.out⟩
  have g0 : decide (80 < (k : Int)) = false := decide_eq_false (by omega)
  have g0' : decide (80 < k) = false := decide_eq_false h80
  have HNO : Hid (∀ i, i < k → ¬ (noteP n m g (ns i) ∧ ∀ j, j < i → (ns j).serial = (ns i).serial → ns j = ns i) → R = false) := fun i hi h => HNOT.out fun e => h (e.2.2 i hi)
  have HYES : Hid ((∀ i, i < k → noteP n m g (ns i) ∧ ∀ j, j < i → (ns j).serial = (ns i).serial → ns j = ns i) → R = true) := fun h => HYES0.out ⟨HSE.out, by omega, h⟩
  have CF := Lib.hid (fun w1 h1 => firstNotes_impl aa k cap B O ns w1 HF.out h1 (by omega))
  clear HNOT HYES0
  go_wp2_with fail
  refine (CF.out _ HAT2.out).mono ?_
  rintro e w3 ⟨M, rfl, hM, hm3, b3⟩
  have HM3 := Lib.hid hm3
  have HB3 := Lib.hid (HB2.out.trans (b3.mono z2))
  clear CF b3 HAT2 hm3 HB2 z2 hM
  go_wp2
  go_loopw [23] (fun i wr => ∃ q : Nat, q ≤ k ∧ i = .int .i64 q ∧ Hid (∀ i, i < q → noteP n m g (ns i) ∧ ns i = ns (firstS ns k (ns i).serial).toNat) ∧ Hid (PtrMap Try.prog wr 3 B O M k (firstS ns k)) ∧ Hid (Below w.heap.size w wr)) (fun i _ => k - (intOf i).toNat)
  case atStart => exact ⟨0, Nat.zero_le _, rfl, fun i hi => absurd hi (by omega), HM3, HB3⟩
  case round =>
    clear HM3 HB3
    obtain ⟨q, hq, rfl, hok, hm', hb'⟩ := hrel
    by_cases hlt : q < k
    · obtain ⟨rfl, hcap, hc⟩ := HAT.out (by omega)
      have hcq := (hc q hlt).belowB hb'.out (hc q hlt).1
      obtain ⟨j, hj, hjq, hjs⟩ := firstS_at ns hlt
      have HQY := Lib.hid ((hc j (by omega)).belowB hb'.out (hc j (by omega)).1)
      have HS : Hid (noteP n m g (ns q) ∧ ns q = ns j → ∀ i, i < q + 1 → noteP n m g (ns i) ∧ ns i = ns (firstS ns k (ns i).serial).toNat) := fun h i hi => by
        by_cases hik : i = q
        · subst hik; rw [hj]; exact h
        · exact hok.out i (by omega)
      have HN : Hid (¬ (noteP n m g (ns q) ∧ ns q = ns j) → R = false) := fun h => HNO.out q hlt fun e => h ⟨e.1, by
        by_cases hjq2 : j = q
        · rw [hjq2]
        · exact (e.2 j (by omega) hjs).symm⟩
      have HWF := Lib.hid (wfI (HF.out q).1)
      have HFJ := Lib.hid hj
      clear hc hok HNO HYES hjs hj HF HAT
      generalize ns q = x at *
      generalize ns j = y at *
      obtain ⟨c0, c1, c2, c3, c4, c5, c6⟩ := note_cells hcq
      obtain ⟨r, hr⟩ := bool_ex (noteP n m g x)
      have CN := Lib.hid (fun w1 h1 => noteOk_impl n v m g x.serial x.game x.res.home x.res.away x.res.hg x.res.ag x.res.st r w1 (hr.trans ⟨fun h => ⟨HSE.out, h⟩, fun h => h.2⟩) h1)
      have HR2 := Lib.hid hr
      clear hcq hr
      have hm := hm'.out
      have hb := hb'.out
      clear hm' hb'
      cases r with
      | false =>
        obtain rfl := HN.out fun h => by have := HR2.out.2 h.1; cases this
        clear HN HS HR2
        go_wp2
        clear c0 c1 c2 c3 c4 c5 c6
        obtain ⟨S, HSd⟩ : ∃ S : World → Prop, S = fun w' => GameRow w' v m g ∧ BoxN w' wr.heap.size [.int .i64 x.serial, .int .i64 x.game, .int .i64 x.res.home, .int .i64 x.res.away, .int .i64 x.res.hg, .int .i64 x.res.ag, .int .i64 x.res.st] ∧ CellsAt w' B (O + j * 7) y.cells ∧ PtrMap Try.prog w' 3 B O M k (firstS ns k) ∧ Below w.heap.size w w' := ⟨_, rfl⟩
        have KS : Hid (∀ wa wb, S wa → Below wa.heap.size wa wb → S wb) := by subst HSd; exact fun wa wb ⟨hg, bx, hy, hm, hb⟩ b => ⟨hg.below b (Nat.le_refl _), bx.below b, hy.below b, hm.below b (Nat.le_refl _), hb.trans (b.mono hb.size)⟩
        have OS : Hid (∀ wa, S wa → GameRow wa v m g ∧ BoxN wa wr.heap.size [.int .i64 x.serial, .int .i64 x.game, .int .i64 x.res.home, .int .i64 x.res.away, .int .i64 x.res.hg, .int .i64 x.res.ag, .int .i64 x.res.st] ∧ CellsAt wa B (O + j * 7) y.cells ∧ PtrMap Try.prog wa 3 B O M k (firstS ns k) ∧ Below w.heap.size w wa) := by subst HSd; exact fun wa h => h
        have KS0 : Hid (S (wr.alloc (.cells #[.int .i64 x.serial, .int .i64 x.game, .int .i64 x.res.home, .int .i64 x.res.away, .int .i64 x.res.hg, .int .i64 x.res.ag, .int .i64 x.res.st] 39)).drew) := by subst HSd; exact (fun (b : Below wr.heap.size wr (wr.alloc (.cells #[.int .i64 x.serial, .int .i64 x.game, .int .i64 x.res.home, .int .i64 x.res.away, .int .i64 x.res.hg, .int .i64 x.res.ag, .int .i64 x.res.st] 39)).drew) => ⟨HG.out.below (hb.trans (b.mono hb.size)) (Nat.le_refl _), Lib.hid (BoxN.made (u := wr) (cs := #[.int .i64 x.serial, .int .i64 x.game, .int .i64 x.res.home, .int .i64 x.res.away, .int .i64 x.res.hg, .int .i64 x.res.ag, .int .i64 x.res.st]) (t := 39) (Below.refl _ _).drew rfl) |>.out, HQY.out.belowB b HQY.out.1, hm.below b (Nat.le_refl _), hb.trans (b.mono hb.size)⟩) ((Below.refl _ _).alloc (Nat.le_refl _) _).drew
        clear HSd
        go_wp2_with fail
        refine wp_region_held_drew (S := S) (by kernel_rfl) ?_ (fun hHeld => ?_)
        · exact KS0.out
        clear KS0 hm hb
        refine wpAnyH_take (i := 0) (v := ?_) rfl (by kernel_rfl) (by kernel_rfl) (by kernel_rfl) (fun _ _ _ h => h) (Or.inl ⟨by rfl, ?_⟩) hHeld ?_
        rotate_left
        · (intro wa hSw; obtain ⟨hg, bx, hy, hm, hb⟩ := OS.out _ hSw; have l1 := bx.1; have l2 := hy.1; have d0 := bx.2 0 _ rfl; have d1 := bx.2 1 _ rfl; have d2 := bx.2 2 _ rfl; have d3 := bx.2 3 _ rfl; have d4 := bx.2 4 _ rfl; have d5 := bx.2 5 _ rfl; have d6 := bx.2 6 _ rfl; obtain ⟨c0, c1, c2, c3, c4, c5, c6⟩ := note_cells hy; have hlk := hm.run kInt Try.underlying52 Try.underlying3 (zPtrN wa) HWF.out; rw [HFJ.out, ptrV_nat] at hlk; go_simp; try with_reducible rfl)
        simp only [Act.put, List.getElem_toArray, List.getElem_cons_zero, List.setIfInBounds_toArray, List.set_cons_zero, List.set_cons_succ]
        refine wpAnyH_take (i := 1) (v := ?_) rfl (by kernel_rfl) (by kernel_rfl) (by kernel_rfl) (fun _ _ _ h => h) (Or.inl ⟨by rfl, ?_⟩) hHeld ?_
        rotate_left
        · (intro wa hSw; obtain ⟨hg, bx, hy, hm, hb⟩ := OS.out _ hSw; have l1 := bx.1; have l2 := hy.1; have d0 := bx.2 0 _ rfl; have d1 := bx.2 1 _ rfl; have d2 := bx.2 2 _ rfl; have d3 := bx.2 3 _ rfl; have d4 := bx.2 4 _ rfl; have d5 := bx.2 5 _ rfl; have d6 := bx.2 6 _ rfl; obtain ⟨c0, c1, c2, c3, c4, c5, c6⟩ := note_cells hy; have hlk := hm.run kInt Try.underlying52 Try.underlying3 (zPtrN wa) HWF.out; rw [HFJ.out, ptrV_nat] at hlk; go_simp; try with_reducible rfl)
        simp only [Act.put, List.getElem_toArray, List.getElem_cons_zero, List.getElem_cons_succ, List.setIfInBounds_toArray, List.set_cons_zero, List.set_cons_succ]
        refine wpAnyH_take (i := 2) (v := ?_) rfl (by kernel_rfl) (by kernel_rfl) (by kernel_rfl) (fun _ _ _ h => h) (Or.inl ⟨by rfl, ?_⟩) hHeld ?_
        rotate_left
        · (intro wa hSw; obtain ⟨hg, bx, hy, hm, hb⟩ := OS.out _ hSw; have l1 := bx.1; have l2 := hy.1; have d0 := bx.2 0 _ rfl; have d1 := bx.2 1 _ rfl; have d2 := bx.2 2 _ rfl; have d3 := bx.2 3 _ rfl; have d4 := bx.2 4 _ rfl; have d5 := bx.2 5 _ rfl; have d6 := bx.2 6 _ rfl; obtain ⟨c0, c1, c2, c3, c4, c5, c6⟩ := note_cells hy; have hlk := hm.run kInt Try.underlying52 Try.underlying3 (zPtrN wa) HWF.out; rw [HFJ.out, ptrV_nat] at hlk; go_simp; try with_reducible rfl)
        simp only [Act.put, List.getElem_toArray, List.getElem_cons_zero, List.getElem_cons_succ, List.setIfInBounds_toArray, List.set_cons_zero, List.set_cons_succ]
        refine wpAnyH_ready (rs := [3]) (by kernel_rfl) (by simp) ?_
        refine AllReadyH.cons (o := _) rfl (fun K hK => ?_) AllReadyH.nil
        go_simp
        obtain ⟨hg, bx, hy, hm, hb⟩ := OS.out _ hHeld
        refine (CN.out _ hg).mono ?_
        rintro e w101 ⟨rfl, b101⟩
        clear hg bx hy hm hb
        (try go_wp2_with fail)
        refine hK.out _ _ ?_ (fun hHeld101 => ?_)
        · exact KS.out _ _ hHeld b101
        clear hK K
        refine wpAnyH_take (i := 4) (v := ?_) rfl (by kernel_rfl) (by kernel_rfl) (by kernel_rfl) (fun _ _ _ h => h) (Or.inl ⟨by rfl, ?_⟩) hHeld101 ?_
        rotate_left
        · (intro wa hSw; obtain ⟨hg, bx, hy, hm, hb⟩ := OS.out _ hSw; have l1 := bx.1; have l2 := hy.1; have d0 := bx.2 0 _ rfl; have d1 := bx.2 1 _ rfl; have d2 := bx.2 2 _ rfl; have d3 := bx.2 3 _ rfl; have d4 := bx.2 4 _ rfl; have d5 := bx.2 5 _ rfl; have d6 := bx.2 6 _ rfl; obtain ⟨c0, c1, c2, c3, c4, c5, c6⟩ := note_cells hy; have hlk := hm.run kInt Try.underlying52 Try.underlying3 (zPtrN wa) HWF.out; rw [HFJ.out, ptrV_nat] at hlk; go_simp; try with_reducible rfl)
        simp only [Act.put, List.getElem_toArray, List.getElem_cons_zero, List.getElem_cons_succ, List.setIfInBounds_toArray, List.set_cons_zero, List.set_cons_succ]
        refine wpAnyH_take (i := 5) (v := ?_) rfl (by kernel_rfl) (by kernel_rfl) (by kernel_rfl) (fun _ _ _ h => h) (Or.inl ⟨by rfl, ?_⟩) hHeld101 ?_
        rotate_left
        · (intro wa hSw; obtain ⟨hg, bx, hy, hm, hb⟩ := OS.out _ hSw; have l1 := bx.1; have l2 := hy.1; have d0 := bx.2 0 _ rfl; have d1 := bx.2 1 _ rfl; have d2 := bx.2 2 _ rfl; have d3 := bx.2 3 _ rfl; have d4 := bx.2 4 _ rfl; have d5 := bx.2 5 _ rfl; have d6 := bx.2 6 _ rfl; obtain ⟨c0, c1, c2, c3, c4, c5, c6⟩ := note_cells hy; have hlk := hm.run kInt Try.underlying52 Try.underlying3 (zPtrN wa) HWF.out; rw [HFJ.out, ptrV_nat] at hlk; go_simp; try with_reducible rfl)
        simp only [Act.put, List.getElem_toArray, List.getElem_cons_zero, List.getElem_cons_succ, List.setIfInBounds_toArray, List.set_cons_zero, List.set_cons_succ]
        refine wpAnyH_take (i := 6) (v := undef) rfl (by kernel_rfl) (by kernel_rfl) (by kernel_rfl) (fun _ _ _ h => h) (Or.inr ⟨by rfl, rfl⟩) hHeld101 ?_
        simp only [Act.put, List.getElem_toArray, List.getElem_cons_zero, List.getElem_cons_succ, List.setIfInBounds_toArray, List.set_cons_zero, List.set_cons_succ]
        refine wpAnyH_take (i := 7) (v := undef) rfl (by kernel_rfl) (by kernel_rfl) (by kernel_rfl) (fun _ _ _ h => h) (Or.inr ⟨by rfl, rfl⟩) hHeld101 ?_
        simp only [Act.put, List.getElem_toArray, List.getElem_cons_zero, List.getElem_cons_succ, List.setIfInBounds_toArray, List.set_cons_zero, List.set_cons_succ]
        refine wpAnyH_take (i := 8) (v := undef) rfl (by kernel_rfl) (by kernel_rfl) (by kernel_rfl) (fun _ _ _ h => h) (Or.inr ⟨by rfl, rfl⟩) hHeld101 ?_
        simp only [Act.put, List.getElem_toArray, List.getElem_cons_zero, List.getElem_cons_succ, List.setIfInBounds_toArray, List.set_cons_zero, List.set_cons_succ]
        refine wpAnyH_take (i := 9) (v := undef) rfl (by kernel_rfl) (by kernel_rfl) (by kernel_rfl) (fun _ _ _ h => h) (Or.inr ⟨by rfl, rfl⟩) hHeld101 ?_
        simp only [Act.put, List.getElem_toArray, List.getElem_cons_zero, List.getElem_cons_succ, List.setIfInBounds_toArray, List.set_cons_zero, List.set_cons_succ]
        refine wpAnyH_take (i := 10) (v := undef) rfl (by kernel_rfl) (by kernel_rfl) (by kernel_rfl) (fun _ _ _ h => h) (Or.inr ⟨by rfl, rfl⟩) hHeld101 ?_
        simp only [Act.put, List.getElem_toArray, List.getElem_cons_zero, List.getElem_cons_succ, List.setIfInBounds_toArray, List.set_cons_zero, List.set_cons_succ]
        refine wpAnyH_take (i := 11) (v := undef) rfl (by kernel_rfl) (by kernel_rfl) (by kernel_rfl) (fun _ _ _ h => h) (Or.inr ⟨by rfl, rfl⟩) hHeld101 ?_
        simp only [Act.put, List.getElem_toArray, List.getElem_cons_zero, List.getElem_cons_succ, List.setIfInBounds_toArray, List.set_cons_zero, List.set_cons_succ]
        refine wpAnyH_take (i := 12) (v := undef) rfl (by kernel_rfl) (by kernel_rfl) (by kernel_rfl) (fun _ _ _ h => h) (Or.inr ⟨by rfl, rfl⟩) hHeld101 ?_
        simp only [Act.put, List.getElem_toArray, List.getElem_cons_zero, List.getElem_cons_succ, List.setIfInBounds_toArray, List.set_cons_zero, List.set_cons_succ]
        refine wpAnyH_take (i := 13) (v := undef) rfl (by kernel_rfl) (by kernel_rfl) (by kernel_rfl) (fun _ _ _ h => h) (Or.inr ⟨by rfl, rfl⟩) hHeld101 ?_
        simp only [Act.put, List.getElem_toArray, List.getElem_cons_zero, List.getElem_cons_succ, List.setIfInBounds_toArray, List.set_cons_zero, List.set_cons_succ]
        refine wpAnyH_take (i := 14) (v := ?_) rfl (by kernel_rfl) (by kernel_rfl) (by kernel_rfl) (fun _ _ _ h => h) (Or.inl ⟨by rfl, ?_⟩) hHeld101 ?_
        rotate_left
        · (intro wa hSw; obtain ⟨hg, bx, hy, hm, hb⟩ := OS.out _ hSw; have l1 := bx.1; have l2 := hy.1; have d0 := bx.2 0 _ rfl; have d1 := bx.2 1 _ rfl; have d2 := bx.2 2 _ rfl; have d3 := bx.2 3 _ rfl; have d4 := bx.2 4 _ rfl; have d5 := bx.2 5 _ rfl; have d6 := bx.2 6 _ rfl; obtain ⟨c0, c1, c2, c3, c4, c5, c6⟩ := note_cells hy; have hlk := hm.run kInt Try.underlying52 Try.underlying3 (zPtrN wa) HWF.out; rw [HFJ.out, ptrV_nat] at hlk; go_simp; try with_reducible rfl)
        simp only [Act.put, List.getElem_toArray, List.getElem_cons_zero, List.getElem_cons_succ, List.setIfInBounds_toArray, List.set_cons_zero, List.set_cons_succ]
        refine wpAnyH_done (by kernel_rfl) ?_ _
        obtain ⟨hg, bx, hy, hm, hb⟩ := OS.out _ hHeld101
        clear KS OS hHeld hHeld101
        go_wp2
        go_ret
        exact ⟨rfl, hb⟩
      | true =>
        have HP := Lib.hid (HR2.out.1 rfl)
        clear HR2
        by_cases hxy : x = y
        · have HX := Lib.hid (HS.out ⟨HP.out, hxy⟩)
          subst hxy
          clear HS HN HP
          go_wp2
          clear c0 c1 c2 c3 c4 c5 c6
          obtain ⟨S, HSd⟩ : ∃ S : World → Prop, S = fun w' => GameRow w' v m g ∧ BoxN w' wr.heap.size [.int .i64 x.serial, .int .i64 x.game, .int .i64 x.res.home, .int .i64 x.res.away, .int .i64 x.res.hg, .int .i64 x.res.ag, .int .i64 x.res.st] ∧ CellsAt w' B (O + j * 7) x.cells ∧ PtrMap Try.prog w' 3 B O M k (firstS ns k) ∧ Below w.heap.size w w' := ⟨_, rfl⟩
          have KS : Hid (∀ wa wb, S wa → Below wa.heap.size wa wb → S wb) := by subst HSd; exact fun wa wb ⟨hg, bx, hy, hm, hb⟩ b => ⟨hg.below b (Nat.le_refl _), bx.below b, hy.below b, hm.below b (Nat.le_refl _), hb.trans (b.mono hb.size)⟩
          have OS : Hid (∀ wa, S wa → GameRow wa v m g ∧ BoxN wa wr.heap.size [.int .i64 x.serial, .int .i64 x.game, .int .i64 x.res.home, .int .i64 x.res.away, .int .i64 x.res.hg, .int .i64 x.res.ag, .int .i64 x.res.st] ∧ CellsAt wa B (O + j * 7) x.cells ∧ PtrMap Try.prog wa 3 B O M k (firstS ns k) ∧ Below w.heap.size w wa) := by subst HSd; exact fun wa h => h
          have KS0 : Hid (S (wr.alloc (.cells #[.int .i64 x.serial, .int .i64 x.game, .int .i64 x.res.home, .int .i64 x.res.away, .int .i64 x.res.hg, .int .i64 x.res.ag, .int .i64 x.res.st] 39)).drew) := by subst HSd; exact (fun (b : Below wr.heap.size wr (wr.alloc (.cells #[.int .i64 x.serial, .int .i64 x.game, .int .i64 x.res.home, .int .i64 x.res.away, .int .i64 x.res.hg, .int .i64 x.res.ag, .int .i64 x.res.st] 39)).drew) => ⟨HG.out.below (hb.trans (b.mono hb.size)) (Nat.le_refl _), Lib.hid (BoxN.made (u := wr) (cs := #[.int .i64 x.serial, .int .i64 x.game, .int .i64 x.res.home, .int .i64 x.res.away, .int .i64 x.res.hg, .int .i64 x.res.ag, .int .i64 x.res.st]) (t := 39) (Below.refl _ _).drew rfl) |>.out, HQY.out.belowB b HQY.out.1, hm.below b (Nat.le_refl _), hb.trans (b.mono hb.size)⟩) ((Below.refl _ _).alloc (Nat.le_refl _) _).drew
          clear HSd
          go_wp2_with fail
          refine wp_region_held_drew (S := S) (by kernel_rfl) ?_ (fun hHeld => ?_)
          · exact KS0.out
          clear KS0 hm hb
          refine wpAnyH_take (i := 0) (v := ?_) rfl (by kernel_rfl) (by kernel_rfl) (by kernel_rfl) (fun _ _ _ h => h) (Or.inl ⟨by rfl, ?_⟩) hHeld ?_
          rotate_left
          · (intro wa hSw; obtain ⟨hg, bx, hy, hm, hb⟩ := OS.out _ hSw; have l1 := bx.1; have l2 := hy.1; have d0 := bx.2 0 _ rfl; have d1 := bx.2 1 _ rfl; have d2 := bx.2 2 _ rfl; have d3 := bx.2 3 _ rfl; have d4 := bx.2 4 _ rfl; have d5 := bx.2 5 _ rfl; have d6 := bx.2 6 _ rfl; obtain ⟨c0, c1, c2, c3, c4, c5, c6⟩ := note_cells hy; have hlk := hm.run kInt Try.underlying52 Try.underlying3 (zPtrN wa) HWF.out; rw [HFJ.out, ptrV_nat] at hlk; go_simp; try with_reducible rfl)
          simp only [Act.put, List.getElem_toArray, List.getElem_cons_zero, List.setIfInBounds_toArray, List.set_cons_zero, List.set_cons_succ]
          refine wpAnyH_take (i := 1) (v := ?_) rfl (by kernel_rfl) (by kernel_rfl) (by kernel_rfl) (fun _ _ _ h => h) (Or.inl ⟨by rfl, ?_⟩) hHeld ?_
          rotate_left
          · (intro wa hSw; obtain ⟨hg, bx, hy, hm, hb⟩ := OS.out _ hSw; have l1 := bx.1; have l2 := hy.1; have d0 := bx.2 0 _ rfl; have d1 := bx.2 1 _ rfl; have d2 := bx.2 2 _ rfl; have d3 := bx.2 3 _ rfl; have d4 := bx.2 4 _ rfl; have d5 := bx.2 5 _ rfl; have d6 := bx.2 6 _ rfl; obtain ⟨c0, c1, c2, c3, c4, c5, c6⟩ := note_cells hy; have hlk := hm.run kInt Try.underlying52 Try.underlying3 (zPtrN wa) HWF.out; rw [HFJ.out, ptrV_nat] at hlk; go_simp; try with_reducible rfl)
          simp only [Act.put, List.getElem_toArray, List.getElem_cons_zero, List.getElem_cons_succ, List.setIfInBounds_toArray, List.set_cons_zero, List.set_cons_succ]
          refine wpAnyH_take (i := 2) (v := ?_) rfl (by kernel_rfl) (by kernel_rfl) (by kernel_rfl) (fun _ _ _ h => h) (Or.inl ⟨by rfl, ?_⟩) hHeld ?_
          rotate_left
          · (intro wa hSw; obtain ⟨hg, bx, hy, hm, hb⟩ := OS.out _ hSw; have l1 := bx.1; have l2 := hy.1; have d0 := bx.2 0 _ rfl; have d1 := bx.2 1 _ rfl; have d2 := bx.2 2 _ rfl; have d3 := bx.2 3 _ rfl; have d4 := bx.2 4 _ rfl; have d5 := bx.2 5 _ rfl; have d6 := bx.2 6 _ rfl; obtain ⟨c0, c1, c2, c3, c4, c5, c6⟩ := note_cells hy; have hlk := hm.run kInt Try.underlying52 Try.underlying3 (zPtrN wa) HWF.out; rw [HFJ.out, ptrV_nat] at hlk; go_simp; try with_reducible rfl)
          simp only [Act.put, List.getElem_toArray, List.getElem_cons_zero, List.getElem_cons_succ, List.setIfInBounds_toArray, List.set_cons_zero, List.set_cons_succ]
          refine wpAnyH_ready (rs := [3]) (by kernel_rfl) (by simp) ?_
          refine AllReadyH.cons (o := _) rfl (fun K hK => ?_) AllReadyH.nil
          go_simp
          obtain ⟨hg, bx, hy, hm, hb⟩ := OS.out _ hHeld
          refine (CN.out _ hg).mono ?_
          rintro e w101 ⟨rfl, b101⟩
          clear hg bx hy hm hb
          (try go_wp2_with fail)
          refine hK.out _ _ ?_ (fun hHeld101 => ?_)
          · exact KS.out _ _ hHeld b101
          clear hK K
          refine wpAnyH_take (i := 4) (v := ?_) rfl (by kernel_rfl) (by kernel_rfl) (by kernel_rfl) (fun _ _ _ h => h) (Or.inl ⟨by rfl, ?_⟩) hHeld101 ?_
          rotate_left
          · (intro wa hSw; obtain ⟨hg, bx, hy, hm, hb⟩ := OS.out _ hSw; have l1 := bx.1; have l2 := hy.1; have d0 := bx.2 0 _ rfl; have d1 := bx.2 1 _ rfl; have d2 := bx.2 2 _ rfl; have d3 := bx.2 3 _ rfl; have d4 := bx.2 4 _ rfl; have d5 := bx.2 5 _ rfl; have d6 := bx.2 6 _ rfl; obtain ⟨c0, c1, c2, c3, c4, c5, c6⟩ := note_cells hy; have hlk := hm.run kInt Try.underlying52 Try.underlying3 (zPtrN wa) HWF.out; rw [HFJ.out, ptrV_nat] at hlk; go_simp; try with_reducible rfl)
          simp only [Act.put, List.getElem_toArray, List.getElem_cons_zero, List.getElem_cons_succ, List.setIfInBounds_toArray, List.set_cons_zero, List.set_cons_succ]
          refine wpAnyH_take (i := 5) (v := ?_) rfl (by kernel_rfl) (by kernel_rfl) (by kernel_rfl) (fun _ _ _ h => h) (Or.inl ⟨by rfl, ?_⟩) hHeld101 ?_
          rotate_left
          · (intro wa hSw; obtain ⟨hg, bx, hy, hm, hb⟩ := OS.out _ hSw; have l1 := bx.1; have l2 := hy.1; have d0 := bx.2 0 _ rfl; have d1 := bx.2 1 _ rfl; have d2 := bx.2 2 _ rfl; have d3 := bx.2 3 _ rfl; have d4 := bx.2 4 _ rfl; have d5 := bx.2 5 _ rfl; have d6 := bx.2 6 _ rfl; obtain ⟨c0, c1, c2, c3, c4, c5, c6⟩ := note_cells hy; have hlk := hm.run kInt Try.underlying52 Try.underlying3 (zPtrN wa) HWF.out; rw [HFJ.out, ptrV_nat] at hlk; go_simp; try with_reducible rfl)
          simp only [Act.put, List.getElem_toArray, List.getElem_cons_zero, List.getElem_cons_succ, List.setIfInBounds_toArray, List.set_cons_zero, List.set_cons_succ]
          refine wpAnyH_take (i := 6) (v := ?_) rfl (by kernel_rfl) (by kernel_rfl) (by kernel_rfl) (fun _ _ _ h => h) (Or.inl ⟨by rfl, ?_⟩) hHeld101 ?_
          rotate_left
          · (intro wa hSw; obtain ⟨hg, bx, hy, hm, hb⟩ := OS.out _ hSw; have l1 := bx.1; have l2 := hy.1; have d0 := bx.2 0 _ rfl; have d1 := bx.2 1 _ rfl; have d2 := bx.2 2 _ rfl; have d3 := bx.2 3 _ rfl; have d4 := bx.2 4 _ rfl; have d5 := bx.2 5 _ rfl; have d6 := bx.2 6 _ rfl; obtain ⟨c0, c1, c2, c3, c4, c5, c6⟩ := note_cells hy; have hlk := hm.run kInt Try.underlying52 Try.underlying3 (zPtrN wa) HWF.out; rw [HFJ.out, ptrV_nat] at hlk; go_simp; try with_reducible rfl)
          simp only [Act.put, List.getElem_toArray, List.getElem_cons_zero, List.getElem_cons_succ, List.setIfInBounds_toArray, List.set_cons_zero, List.set_cons_succ]
          refine wpAnyH_take (i := 7) (v := ?_) rfl (by kernel_rfl) (by kernel_rfl) (by kernel_rfl) (fun _ _ _ h => h) (Or.inl ⟨by rfl, ?_⟩) hHeld101 ?_
          rotate_left
          · (intro wa hSw; obtain ⟨hg, bx, hy, hm, hb⟩ := OS.out _ hSw; have l1 := bx.1; have l2 := hy.1; have d0 := bx.2 0 _ rfl; have d1 := bx.2 1 _ rfl; have d2 := bx.2 2 _ rfl; have d3 := bx.2 3 _ rfl; have d4 := bx.2 4 _ rfl; have d5 := bx.2 5 _ rfl; have d6 := bx.2 6 _ rfl; obtain ⟨c0, c1, c2, c3, c4, c5, c6⟩ := note_cells hy; have hlk := hm.run kInt Try.underlying52 Try.underlying3 (zPtrN wa) HWF.out; rw [HFJ.out, ptrV_nat] at hlk; go_simp; try with_reducible rfl)
          simp only [Act.put, List.getElem_toArray, List.getElem_cons_zero, List.getElem_cons_succ, List.setIfInBounds_toArray, List.set_cons_zero, List.set_cons_succ]
          refine wpAnyH_take (i := 8) (v := ?_) rfl (by kernel_rfl) (by kernel_rfl) (by kernel_rfl) (fun _ _ _ h => h) (Or.inl ⟨by rfl, ?_⟩) hHeld101 ?_
          rotate_left
          · (intro wa hSw; obtain ⟨hg, bx, hy, hm, hb⟩ := OS.out _ hSw; have l1 := bx.1; have l2 := hy.1; have d0 := bx.2 0 _ rfl; have d1 := bx.2 1 _ rfl; have d2 := bx.2 2 _ rfl; have d3 := bx.2 3 _ rfl; have d4 := bx.2 4 _ rfl; have d5 := bx.2 5 _ rfl; have d6 := bx.2 6 _ rfl; obtain ⟨c0, c1, c2, c3, c4, c5, c6⟩ := note_cells hy; have hlk := hm.run kInt Try.underlying52 Try.underlying3 (zPtrN wa) HWF.out; rw [HFJ.out, ptrV_nat] at hlk; go_simp; try with_reducible rfl)
          simp only [Act.put, List.getElem_toArray, List.getElem_cons_zero, List.getElem_cons_succ, List.setIfInBounds_toArray, List.set_cons_zero, List.set_cons_succ]
          refine wpAnyH_take (i := 9) (v := ?_) rfl (by kernel_rfl) (by kernel_rfl) (by kernel_rfl) (fun _ _ _ h => h) (Or.inl ⟨by rfl, ?_⟩) hHeld101 ?_
          rotate_left
          · (intro wa hSw; obtain ⟨hg, bx, hy, hm, hb⟩ := OS.out _ hSw; have l1 := bx.1; have l2 := hy.1; have d0 := bx.2 0 _ rfl; have d1 := bx.2 1 _ rfl; have d2 := bx.2 2 _ rfl; have d3 := bx.2 3 _ rfl; have d4 := bx.2 4 _ rfl; have d5 := bx.2 5 _ rfl; have d6 := bx.2 6 _ rfl; obtain ⟨c0, c1, c2, c3, c4, c5, c6⟩ := note_cells hy; have hlk := hm.run kInt Try.underlying52 Try.underlying3 (zPtrN wa) HWF.out; rw [HFJ.out, ptrV_nat] at hlk; go_simp; try with_reducible rfl)
          simp only [Act.put, List.getElem_toArray, List.getElem_cons_zero, List.getElem_cons_succ, List.setIfInBounds_toArray, List.set_cons_zero, List.set_cons_succ]
          refine wpAnyH_take (i := 10) (v := ?_) rfl (by kernel_rfl) (by kernel_rfl) (by kernel_rfl) (fun _ _ _ h => h) (Or.inl ⟨by rfl, ?_⟩) hHeld101 ?_
          rotate_left
          · (intro wa hSw; obtain ⟨hg, bx, hy, hm, hb⟩ := OS.out _ hSw; have l1 := bx.1; have l2 := hy.1; have d0 := bx.2 0 _ rfl; have d1 := bx.2 1 _ rfl; have d2 := bx.2 2 _ rfl; have d3 := bx.2 3 _ rfl; have d4 := bx.2 4 _ rfl; have d5 := bx.2 5 _ rfl; have d6 := bx.2 6 _ rfl; obtain ⟨c0, c1, c2, c3, c4, c5, c6⟩ := note_cells hy; have hlk := hm.run kInt Try.underlying52 Try.underlying3 (zPtrN wa) HWF.out; rw [HFJ.out, ptrV_nat] at hlk; go_simp; try with_reducible rfl)
          simp only [Act.put, List.getElem_toArray, List.getElem_cons_zero, List.getElem_cons_succ, List.setIfInBounds_toArray, List.set_cons_zero, List.set_cons_succ]
          refine wpAnyH_take (i := 11) (v := ?_) rfl (by kernel_rfl) (by kernel_rfl) (by kernel_rfl) (fun _ _ _ h => h) (Or.inl ⟨by rfl, ?_⟩) hHeld101 ?_
          rotate_left
          · (intro wa hSw; obtain ⟨hg, bx, hy, hm, hb⟩ := OS.out _ hSw; have l1 := bx.1; have l2 := hy.1; have d0 := bx.2 0 _ rfl; have d1 := bx.2 1 _ rfl; have d2 := bx.2 2 _ rfl; have d3 := bx.2 3 _ rfl; have d4 := bx.2 4 _ rfl; have d5 := bx.2 5 _ rfl; have d6 := bx.2 6 _ rfl; obtain ⟨c0, c1, c2, c3, c4, c5, c6⟩ := note_cells hy; have hlk := hm.run kInt Try.underlying52 Try.underlying3 (zPtrN wa) HWF.out; rw [HFJ.out, ptrV_nat] at hlk; go_simp; try with_reducible rfl)
          simp only [Act.put, List.getElem_toArray, List.getElem_cons_zero, List.getElem_cons_succ, List.setIfInBounds_toArray, List.set_cons_zero, List.set_cons_succ]
          refine wpAnyH_take (i := 12) (v := ?_) rfl (by kernel_rfl) (by kernel_rfl) (by kernel_rfl) (fun _ _ _ h => h) (Or.inl ⟨by rfl, ?_⟩) hHeld101 ?_
          rotate_left
          · (intro wa hSw; obtain ⟨hg, bx, hy, hm, hb⟩ := OS.out _ hSw; have l1 := bx.1; have l2 := hy.1; have d0 := bx.2 0 _ rfl; have d1 := bx.2 1 _ rfl; have d2 := bx.2 2 _ rfl; have d3 := bx.2 3 _ rfl; have d4 := bx.2 4 _ rfl; have d5 := bx.2 5 _ rfl; have d6 := bx.2 6 _ rfl; obtain ⟨c0, c1, c2, c3, c4, c5, c6⟩ := note_cells hy; have hlk := hm.run kInt Try.underlying52 Try.underlying3 (zPtrN wa) HWF.out; rw [HFJ.out, ptrV_nat] at hlk; go_simp; try with_reducible rfl)
          simp only [Act.put, List.getElem_toArray, List.getElem_cons_zero, List.getElem_cons_succ, List.setIfInBounds_toArray, List.set_cons_zero, List.set_cons_succ]
          refine wpAnyH_take (i := 13) (v := ?_) rfl (by kernel_rfl) (by kernel_rfl) (by kernel_rfl) (fun _ _ _ h => h) (Or.inl ⟨by rfl, ?_⟩) hHeld101 ?_
          rotate_left
          · (intro wa hSw; obtain ⟨hg, bx, hy, hm, hb⟩ := OS.out _ hSw; have l1 := bx.1; have l2 := hy.1; have d0 := bx.2 0 _ rfl; have d1 := bx.2 1 _ rfl; have d2 := bx.2 2 _ rfl; have d3 := bx.2 3 _ rfl; have d4 := bx.2 4 _ rfl; have d5 := bx.2 5 _ rfl; have d6 := bx.2 6 _ rfl; obtain ⟨c0, c1, c2, c3, c4, c5, c6⟩ := note_cells hy; have hlk := hm.run kInt Try.underlying52 Try.underlying3 (zPtrN wa) HWF.out; rw [HFJ.out, ptrV_nat] at hlk; go_simp; try with_reducible rfl)
          simp only [Act.put, List.getElem_toArray, List.getElem_cons_zero, List.getElem_cons_succ, List.setIfInBounds_toArray, List.set_cons_zero, List.set_cons_succ]
          refine wpAnyH_take (i := 14) (v := ?_) rfl (by kernel_rfl) (by kernel_rfl) (by kernel_rfl) (fun _ _ _ h => h) (Or.inl ⟨by rfl, ?_⟩) hHeld101 ?_
          rotate_left
          · (intro wa hSw; obtain ⟨hg, bx, hy, hm, hb⟩ := OS.out _ hSw; have l1 := bx.1; have l2 := hy.1; have d0 := bx.2 0 _ rfl; have d1 := bx.2 1 _ rfl; have d2 := bx.2 2 _ rfl; have d3 := bx.2 3 _ rfl; have d4 := bx.2 4 _ rfl; have d5 := bx.2 5 _ rfl; have d6 := bx.2 6 _ rfl; obtain ⟨c0, c1, c2, c3, c4, c5, c6⟩ := note_cells hy; have hlk := hm.run kInt Try.underlying52 Try.underlying3 (zPtrN wa) HWF.out; rw [HFJ.out, ptrV_nat] at hlk; go_simp; try with_reducible rfl)
          simp only [Act.put, List.getElem_toArray, List.getElem_cons_zero, List.getElem_cons_succ, List.setIfInBounds_toArray, List.set_cons_zero, List.set_cons_succ]
          refine wpAnyH_done (by kernel_rfl) ?_ _
          obtain ⟨hg, bx, hy, hm, hb⟩ := OS.out _ hHeld101
          clear KS OS hHeld hHeld101
          go_wp2
          go_roundw
          case rel => exact ⟨q + 1, by omega, by go_num, HX.out, hm, hb⟩
          case measure => simp [intOf]; omega
        · obtain rfl := HN.out fun h => hxy h.2
          have hne := note_ne hxy
          clear HS HN HP hxy
          go_wp2
          clear c0 c1 c2 c3 c4 c5 c6
          rcases hne with f | f | f | f | f | f | f
          all_goals
            obtain ⟨S, HSd⟩ : ∃ S : World → Prop, S = fun w' => GameRow w' v m g ∧ BoxN w' wr.heap.size [.int .i64 x.serial, .int .i64 x.game, .int .i64 x.res.home, .int .i64 x.res.away, .int .i64 x.res.hg, .int .i64 x.res.ag, .int .i64 x.res.st] ∧ CellsAt w' B (O + j * 7) y.cells ∧ PtrMap Try.prog w' 3 B O M k (firstS ns k) ∧ Below w.heap.size w w' := ⟨_, rfl⟩
            have KS : Hid (∀ wa wb, S wa → Below wa.heap.size wa wb → S wb) := by subst HSd; exact fun wa wb ⟨hg, bx, hy, hm, hb⟩ b => ⟨hg.below b (Nat.le_refl _), bx.below b, hy.below b, hm.below b (Nat.le_refl _), hb.trans (b.mono hb.size)⟩
            have OS : Hid (∀ wa, S wa → GameRow wa v m g ∧ BoxN wa wr.heap.size [.int .i64 x.serial, .int .i64 x.game, .int .i64 x.res.home, .int .i64 x.res.away, .int .i64 x.res.hg, .int .i64 x.res.ag, .int .i64 x.res.st] ∧ CellsAt wa B (O + j * 7) y.cells ∧ PtrMap Try.prog wa 3 B O M k (firstS ns k) ∧ Below w.heap.size w wa) := by subst HSd; exact fun wa h => h
            have KS0 : Hid (S (wr.alloc (.cells #[.int .i64 x.serial, .int .i64 x.game, .int .i64 x.res.home, .int .i64 x.res.away, .int .i64 x.res.hg, .int .i64 x.res.ag, .int .i64 x.res.st] 39)).drew) := by subst HSd; exact (fun (b : Below wr.heap.size wr (wr.alloc (.cells #[.int .i64 x.serial, .int .i64 x.game, .int .i64 x.res.home, .int .i64 x.res.away, .int .i64 x.res.hg, .int .i64 x.res.ag, .int .i64 x.res.st] 39)).drew) => ⟨HG.out.below (hb.trans (b.mono hb.size)) (Nat.le_refl _), Lib.hid (BoxN.made (u := wr) (cs := #[.int .i64 x.serial, .int .i64 x.game, .int .i64 x.res.home, .int .i64 x.res.away, .int .i64 x.res.hg, .int .i64 x.res.ag, .int .i64 x.res.st]) (t := 39) (Below.refl _ _).drew rfl) |>.out, HQY.out.belowB b HQY.out.1, hm.below b (Nat.le_refl _), hb.trans (b.mono hb.size)⟩) ((Below.refl _ _).alloc (Nat.le_refl _) _).drew
            clear HSd
            go_wp2_with fail
            refine wp_region_held_drew (S := S) (by kernel_rfl) ?_ (fun hHeld => ?_)
            · exact KS0.out
            clear KS0 hm hb
            refine wpAnyH_take (i := 0) (v := ?_) rfl (by kernel_rfl) (by kernel_rfl) (by kernel_rfl) (fun _ _ _ h => h) (Or.inl ⟨by rfl, ?_⟩) hHeld ?_
            rotate_left
            · (intro wa hSw; obtain ⟨hg, bx, hy, hm, hb⟩ := OS.out _ hSw; have l1 := bx.1; have l2 := hy.1; have d0 := bx.2 0 _ rfl; have d1 := bx.2 1 _ rfl; have d2 := bx.2 2 _ rfl; have d3 := bx.2 3 _ rfl; have d4 := bx.2 4 _ rfl; have d5 := bx.2 5 _ rfl; have d6 := bx.2 6 _ rfl; obtain ⟨c0, c1, c2, c3, c4, c5, c6⟩ := note_cells hy; have hlk := hm.run kInt Try.underlying52 Try.underlying3 (zPtrN wa) HWF.out; rw [HFJ.out, ptrV_nat] at hlk; go_simp; try with_reducible rfl)
            simp only [Act.put, List.getElem_toArray, List.getElem_cons_zero, List.setIfInBounds_toArray, List.set_cons_zero, List.set_cons_succ]
            refine wpAnyH_take (i := 1) (v := ?_) rfl (by kernel_rfl) (by kernel_rfl) (by kernel_rfl) (fun _ _ _ h => h) (Or.inl ⟨by rfl, ?_⟩) hHeld ?_
            rotate_left
            · (intro wa hSw; obtain ⟨hg, bx, hy, hm, hb⟩ := OS.out _ hSw; have l1 := bx.1; have l2 := hy.1; have d0 := bx.2 0 _ rfl; have d1 := bx.2 1 _ rfl; have d2 := bx.2 2 _ rfl; have d3 := bx.2 3 _ rfl; have d4 := bx.2 4 _ rfl; have d5 := bx.2 5 _ rfl; have d6 := bx.2 6 _ rfl; obtain ⟨c0, c1, c2, c3, c4, c5, c6⟩ := note_cells hy; have hlk := hm.run kInt Try.underlying52 Try.underlying3 (zPtrN wa) HWF.out; rw [HFJ.out, ptrV_nat] at hlk; go_simp; try with_reducible rfl)
            simp only [Act.put, List.getElem_toArray, List.getElem_cons_zero, List.getElem_cons_succ, List.setIfInBounds_toArray, List.set_cons_zero, List.set_cons_succ]
            refine wpAnyH_take (i := 2) (v := ?_) rfl (by kernel_rfl) (by kernel_rfl) (by kernel_rfl) (fun _ _ _ h => h) (Or.inl ⟨by rfl, ?_⟩) hHeld ?_
            rotate_left
            · (intro wa hSw; obtain ⟨hg, bx, hy, hm, hb⟩ := OS.out _ hSw; have l1 := bx.1; have l2 := hy.1; have d0 := bx.2 0 _ rfl; have d1 := bx.2 1 _ rfl; have d2 := bx.2 2 _ rfl; have d3 := bx.2 3 _ rfl; have d4 := bx.2 4 _ rfl; have d5 := bx.2 5 _ rfl; have d6 := bx.2 6 _ rfl; obtain ⟨c0, c1, c2, c3, c4, c5, c6⟩ := note_cells hy; have hlk := hm.run kInt Try.underlying52 Try.underlying3 (zPtrN wa) HWF.out; rw [HFJ.out, ptrV_nat] at hlk; go_simp; try with_reducible rfl)
            simp only [Act.put, List.getElem_toArray, List.getElem_cons_zero, List.getElem_cons_succ, List.setIfInBounds_toArray, List.set_cons_zero, List.set_cons_succ]
            refine wpAnyH_ready (rs := [3]) (by kernel_rfl) (by simp) ?_
            refine AllReadyH.cons (o := _) rfl (fun K hK => ?_) AllReadyH.nil
            go_simp
            obtain ⟨hg, bx, hy, hm, hb⟩ := OS.out _ hHeld
            refine (CN.out _ hg).mono ?_
            rintro e w101 ⟨rfl, b101⟩
            clear hg bx hy hm hb
            (try go_wp2_with fail)
            refine hK.out _ _ ?_ (fun hHeld101 => ?_)
            · exact KS.out _ _ hHeld b101
            clear hK K
            refine wpAnyH_take (i := 4) (v := ?_) rfl (by kernel_rfl) (by kernel_rfl) (by kernel_rfl) (fun _ _ _ h => h) (Or.inl ⟨by rfl, ?_⟩) hHeld101 ?_
            rotate_left
            · (intro wa hSw; obtain ⟨hg, bx, hy, hm, hb⟩ := OS.out _ hSw; have l1 := bx.1; have l2 := hy.1; have d0 := bx.2 0 _ rfl; have d1 := bx.2 1 _ rfl; have d2 := bx.2 2 _ rfl; have d3 := bx.2 3 _ rfl; have d4 := bx.2 4 _ rfl; have d5 := bx.2 5 _ rfl; have d6 := bx.2 6 _ rfl; obtain ⟨c0, c1, c2, c3, c4, c5, c6⟩ := note_cells hy; have hlk := hm.run kInt Try.underlying52 Try.underlying3 (zPtrN wa) HWF.out; rw [HFJ.out, ptrV_nat] at hlk; go_simp; try with_reducible rfl)
            simp only [Act.put, List.getElem_toArray, List.getElem_cons_zero, List.getElem_cons_succ, List.setIfInBounds_toArray, List.set_cons_zero, List.set_cons_succ]
            refine wpAnyH_take (i := 5) (v := ?_) rfl (by kernel_rfl) (by kernel_rfl) (by kernel_rfl) (fun _ _ _ h => h) (Or.inl ⟨by rfl, ?_⟩) hHeld101 ?_
            rotate_left
            · (intro wa hSw; obtain ⟨hg, bx, hy, hm, hb⟩ := OS.out _ hSw; have l1 := bx.1; have l2 := hy.1; have d0 := bx.2 0 _ rfl; have d1 := bx.2 1 _ rfl; have d2 := bx.2 2 _ rfl; have d3 := bx.2 3 _ rfl; have d4 := bx.2 4 _ rfl; have d5 := bx.2 5 _ rfl; have d6 := bx.2 6 _ rfl; obtain ⟨c0, c1, c2, c3, c4, c5, c6⟩ := note_cells hy; have hlk := hm.run kInt Try.underlying52 Try.underlying3 (zPtrN wa) HWF.out; rw [HFJ.out, ptrV_nat] at hlk; go_simp; try with_reducible rfl)
            simp only [Act.put, List.getElem_toArray, List.getElem_cons_zero, List.getElem_cons_succ, List.setIfInBounds_toArray, List.set_cons_zero, List.set_cons_succ]
            refine wpAnyH_take (i := 6) (v := ?_) rfl (by kernel_rfl) (by kernel_rfl) (by kernel_rfl) (fun _ _ _ h => h) (Or.inl ⟨by rfl, ?_⟩) hHeld101 ?_
            rotate_left
            · (intro wa hSw; obtain ⟨hg, bx, hy, hm, hb⟩ := OS.out _ hSw; have l1 := bx.1; have l2 := hy.1; have d0 := bx.2 0 _ rfl; have d1 := bx.2 1 _ rfl; have d2 := bx.2 2 _ rfl; have d3 := bx.2 3 _ rfl; have d4 := bx.2 4 _ rfl; have d5 := bx.2 5 _ rfl; have d6 := bx.2 6 _ rfl; obtain ⟨c0, c1, c2, c3, c4, c5, c6⟩ := note_cells hy; have hlk := hm.run kInt Try.underlying52 Try.underlying3 (zPtrN wa) HWF.out; rw [HFJ.out, ptrV_nat] at hlk; go_simp; try with_reducible rfl)
            simp only [Act.put, List.getElem_toArray, List.getElem_cons_zero, List.getElem_cons_succ, List.setIfInBounds_toArray, List.set_cons_zero, List.set_cons_succ]
            refine wpAnyH_take (i := 7) (v := ?_) rfl (by kernel_rfl) (by kernel_rfl) (by kernel_rfl) (fun _ _ _ h => h) (Or.inl ⟨by rfl, ?_⟩) hHeld101 ?_
            rotate_left
            · (intro wa hSw; obtain ⟨hg, bx, hy, hm, hb⟩ := OS.out _ hSw; have l1 := bx.1; have l2 := hy.1; have d0 := bx.2 0 _ rfl; have d1 := bx.2 1 _ rfl; have d2 := bx.2 2 _ rfl; have d3 := bx.2 3 _ rfl; have d4 := bx.2 4 _ rfl; have d5 := bx.2 5 _ rfl; have d6 := bx.2 6 _ rfl; obtain ⟨c0, c1, c2, c3, c4, c5, c6⟩ := note_cells hy; have hlk := hm.run kInt Try.underlying52 Try.underlying3 (zPtrN wa) HWF.out; rw [HFJ.out, ptrV_nat] at hlk; go_simp; try with_reducible rfl)
            simp only [Act.put, List.getElem_toArray, List.getElem_cons_zero, List.getElem_cons_succ, List.setIfInBounds_toArray, List.set_cons_zero, List.set_cons_succ]
            refine wpAnyH_take (i := 8) (v := ?_) rfl (by kernel_rfl) (by kernel_rfl) (by kernel_rfl) (fun _ _ _ h => h) (Or.inl ⟨by rfl, ?_⟩) hHeld101 ?_
            rotate_left
            · (intro wa hSw; obtain ⟨hg, bx, hy, hm, hb⟩ := OS.out _ hSw; have l1 := bx.1; have l2 := hy.1; have d0 := bx.2 0 _ rfl; have d1 := bx.2 1 _ rfl; have d2 := bx.2 2 _ rfl; have d3 := bx.2 3 _ rfl; have d4 := bx.2 4 _ rfl; have d5 := bx.2 5 _ rfl; have d6 := bx.2 6 _ rfl; obtain ⟨c0, c1, c2, c3, c4, c5, c6⟩ := note_cells hy; have hlk := hm.run kInt Try.underlying52 Try.underlying3 (zPtrN wa) HWF.out; rw [HFJ.out, ptrV_nat] at hlk; go_simp; try with_reducible rfl)
            simp only [Act.put, List.getElem_toArray, List.getElem_cons_zero, List.getElem_cons_succ, List.setIfInBounds_toArray, List.set_cons_zero, List.set_cons_succ]
            refine wpAnyH_take (i := 9) (v := ?_) rfl (by kernel_rfl) (by kernel_rfl) (by kernel_rfl) (fun _ _ _ h => h) (Or.inl ⟨by rfl, ?_⟩) hHeld101 ?_
            rotate_left
            · (intro wa hSw; obtain ⟨hg, bx, hy, hm, hb⟩ := OS.out _ hSw; have l1 := bx.1; have l2 := hy.1; have d0 := bx.2 0 _ rfl; have d1 := bx.2 1 _ rfl; have d2 := bx.2 2 _ rfl; have d3 := bx.2 3 _ rfl; have d4 := bx.2 4 _ rfl; have d5 := bx.2 5 _ rfl; have d6 := bx.2 6 _ rfl; obtain ⟨c0, c1, c2, c3, c4, c5, c6⟩ := note_cells hy; have hlk := hm.run kInt Try.underlying52 Try.underlying3 (zPtrN wa) HWF.out; rw [HFJ.out, ptrV_nat] at hlk; go_simp; try with_reducible rfl)
            simp only [Act.put, List.getElem_toArray, List.getElem_cons_zero, List.getElem_cons_succ, List.setIfInBounds_toArray, List.set_cons_zero, List.set_cons_succ]
            refine wpAnyH_take (i := 10) (v := ?_) rfl (by kernel_rfl) (by kernel_rfl) (by kernel_rfl) (fun _ _ _ h => h) (Or.inl ⟨by rfl, ?_⟩) hHeld101 ?_
            rotate_left
            · (intro wa hSw; obtain ⟨hg, bx, hy, hm, hb⟩ := OS.out _ hSw; have l1 := bx.1; have l2 := hy.1; have d0 := bx.2 0 _ rfl; have d1 := bx.2 1 _ rfl; have d2 := bx.2 2 _ rfl; have d3 := bx.2 3 _ rfl; have d4 := bx.2 4 _ rfl; have d5 := bx.2 5 _ rfl; have d6 := bx.2 6 _ rfl; obtain ⟨c0, c1, c2, c3, c4, c5, c6⟩ := note_cells hy; have hlk := hm.run kInt Try.underlying52 Try.underlying3 (zPtrN wa) HWF.out; rw [HFJ.out, ptrV_nat] at hlk; go_simp; try with_reducible rfl)
            simp only [Act.put, List.getElem_toArray, List.getElem_cons_zero, List.getElem_cons_succ, List.setIfInBounds_toArray, List.set_cons_zero, List.set_cons_succ]
            refine wpAnyH_take (i := 11) (v := ?_) rfl (by kernel_rfl) (by kernel_rfl) (by kernel_rfl) (fun _ _ _ h => h) (Or.inl ⟨by rfl, ?_⟩) hHeld101 ?_
            rotate_left
            · (intro wa hSw; obtain ⟨hg, bx, hy, hm, hb⟩ := OS.out _ hSw; have l1 := bx.1; have l2 := hy.1; have d0 := bx.2 0 _ rfl; have d1 := bx.2 1 _ rfl; have d2 := bx.2 2 _ rfl; have d3 := bx.2 3 _ rfl; have d4 := bx.2 4 _ rfl; have d5 := bx.2 5 _ rfl; have d6 := bx.2 6 _ rfl; obtain ⟨c0, c1, c2, c3, c4, c5, c6⟩ := note_cells hy; have hlk := hm.run kInt Try.underlying52 Try.underlying3 (zPtrN wa) HWF.out; rw [HFJ.out, ptrV_nat] at hlk; go_simp; try with_reducible rfl)
            simp only [Act.put, List.getElem_toArray, List.getElem_cons_zero, List.getElem_cons_succ, List.setIfInBounds_toArray, List.set_cons_zero, List.set_cons_succ]
            refine wpAnyH_take (i := 12) (v := ?_) rfl (by kernel_rfl) (by kernel_rfl) (by kernel_rfl) (fun _ _ _ h => h) (Or.inl ⟨by rfl, ?_⟩) hHeld101 ?_
            rotate_left
            · (intro wa hSw; obtain ⟨hg, bx, hy, hm, hb⟩ := OS.out _ hSw; have l1 := bx.1; have l2 := hy.1; have d0 := bx.2 0 _ rfl; have d1 := bx.2 1 _ rfl; have d2 := bx.2 2 _ rfl; have d3 := bx.2 3 _ rfl; have d4 := bx.2 4 _ rfl; have d5 := bx.2 5 _ rfl; have d6 := bx.2 6 _ rfl; obtain ⟨c0, c1, c2, c3, c4, c5, c6⟩ := note_cells hy; have hlk := hm.run kInt Try.underlying52 Try.underlying3 (zPtrN wa) HWF.out; rw [HFJ.out, ptrV_nat] at hlk; go_simp; try with_reducible rfl)
            simp only [Act.put, List.getElem_toArray, List.getElem_cons_zero, List.getElem_cons_succ, List.setIfInBounds_toArray, List.set_cons_zero, List.set_cons_succ]
            refine wpAnyH_take (i := 13) (v := ?_) rfl (by kernel_rfl) (by kernel_rfl) (by kernel_rfl) (fun _ _ _ h => h) (Or.inl ⟨by rfl, ?_⟩) hHeld101 ?_
            rotate_left
            · (intro wa hSw; obtain ⟨hg, bx, hy, hm, hb⟩ := OS.out _ hSw; have l1 := bx.1; have l2 := hy.1; have d0 := bx.2 0 _ rfl; have d1 := bx.2 1 _ rfl; have d2 := bx.2 2 _ rfl; have d3 := bx.2 3 _ rfl; have d4 := bx.2 4 _ rfl; have d5 := bx.2 5 _ rfl; have d6 := bx.2 6 _ rfl; obtain ⟨c0, c1, c2, c3, c4, c5, c6⟩ := note_cells hy; have hlk := hm.run kInt Try.underlying52 Try.underlying3 (zPtrN wa) HWF.out; rw [HFJ.out, ptrV_nat] at hlk; go_simp; try with_reducible rfl)
            simp only [Act.put, List.getElem_toArray, List.getElem_cons_zero, List.getElem_cons_succ, List.setIfInBounds_toArray, List.set_cons_zero, List.set_cons_succ]
            refine wpAnyH_take (i := 14) (v := ?_) rfl (by kernel_rfl) (by kernel_rfl) (by kernel_rfl) (fun _ _ _ h => h) (Or.inl ⟨by rfl, ?_⟩) hHeld101 ?_
            rotate_left
            · (intro wa hSw; obtain ⟨hg, bx, hy, hm, hb⟩ := OS.out _ hSw; have l1 := bx.1; have l2 := hy.1; have d0 := bx.2 0 _ rfl; have d1 := bx.2 1 _ rfl; have d2 := bx.2 2 _ rfl; have d3 := bx.2 3 _ rfl; have d4 := bx.2 4 _ rfl; have d5 := bx.2 5 _ rfl; have d6 := bx.2 6 _ rfl; obtain ⟨c0, c1, c2, c3, c4, c5, c6⟩ := note_cells hy; have hlk := hm.run kInt Try.underlying52 Try.underlying3 (zPtrN wa) HWF.out; rw [HFJ.out, ptrV_nat] at hlk; go_simp; try with_reducible rfl)
            simp only [Act.put, List.getElem_toArray, List.getElem_cons_zero, List.getElem_cons_succ, List.setIfInBounds_toArray, List.set_cons_zero, List.set_cons_succ]
            refine wpAnyH_done (by kernel_rfl) ?_ _
            obtain ⟨hg, bx, hy, hm, hb⟩ := OS.out _ hHeld101
            clear KS OS hHeld hHeld101
  
            go_wp2
            go_ret
            exact ⟨rfl, hb⟩
    · obtain rfl : q = k := by omega
      obtain rfl := HYES.out fun i hi => ⟨(hok.out i hi).1, fun j hj e => by
        rw [(hok.out i hi).2, (hok.out j (by omega)).2, e]⟩
      have hb := hb'.out
      clear HNO HYES hok HF HAT
      go_wp2
      go_ret
      exact ⟨rfl, hb⟩
end Go.Proofs.Ytojkonhhaamodaa
set_option linter.unusedVariables false
namespace Go.Proofs.Ytojkonhhaamodaa
open Go.RowKit

theorem sorted_ext {α : Type} {f : α → Int} : ∀ (l1 l2 : List α), l1.Pairwise (fun x y => f x < f y) → l2.Pairwise (fun x y => f x < f y) → (∀ x, x ∈ l1 ↔ x ∈ l2) → l1 = l2
  | [], [], _, _, _ => rfl
  | [], b :: t, _, _, h => absurd ((h b).2 (by simp)) (by simp)
  | a :: t, [], _, _, h => absurd ((h a).1 (by simp)) (by simp)
  | a :: t, b :: s, h1, h2, h => by
    rw [List.pairwise_cons] at h1 h2
    have hab : a = b := by
      rcases List.mem_cons.1 ((h a).1 (by simp)) with e | e
      · exact e
      · rcases List.mem_cons.1 ((h b).2 (by simp)) with e2 | e2
        · exact e2.symm
        · have := h2.1 a e; have := h1.1 b e2; omega
    subst hab
    rw [sorted_ext t s h1.2 h2.2 fun x => ?_]
    constructor
    · intro hx
      rcases List.mem_cons.1 ((h x).1 (List.mem_cons_of_mem _ hx)) with e | e
      · subst e; have := h1.1 x hx; omega
      · exact e
    · intro hx
      rcases List.mem_cons.1 ((h x).2 (List.mem_cons_of_mem _ hx)) with e | e
      · subst e; have := h2.1 x hx; omega
      · exact e
/-- the list is in the order of serial numbers, no number twice -/
def RisingN (L : List NoteD) : Prop := L.Pairwise fun x y => x.serial < y.serial
theorem rising_get {L : List NoteD} (h : RisingN L) {i j : Nat} (hij : i < j) (hj : j < L.length) : (getN' L i).serial < (getN' L j).serial := by
  have h1 := (List.pairwise_iff_getElem.1 h) i j (by omega) hj hij
  simpa [getN', List.getD_eq_getElem?_getD, List.getElem?_eq_getElem hj, List.getElem?_eq_getElem (show i < L.length by omega)] using h1
theorem take_low {L : List NoteD} {s : Int} {y : NoteD} (h : y ∈ L.take (leadN s L)) : y.serial < s := by
  obtain ⟨i, hi, rfl⟩ := List.mem_iff_getElem.1 h
  have hi2 : i < leadN s L ∧ i < L.length := by rw [List.length_take] at hi; omega
  have := lead_lt s L i hi2.1
  simpa [getN', List.getD_eq_getElem?_getD, List.getElem?_eq_getElem hi2.2] using this
theorem drop_high {L : List NoteD} {s : Int} {y : NoteD} (hr : RisingN L) (hn : ¬ (leadN s L < L.length ∧ (getN' L (leadN s L)).serial = s)) (h : y ∈ L.drop (leadN s L)) : s < y.serial := by
  obtain ⟨i, hi, rfl⟩ := List.mem_iff_getElem.1 h
  have hi2 : leadN s L + i < L.length := by simp at hi; omega
  have h0 := lead_ge s L (by omega)
  have h1 : (getN' L (leadN s L)).serial ≠ s := fun e => hn ⟨by omega, e⟩
  have h2 : (getN' L (leadN s L)).serial ≤ (getN' L (leadN s L + i)).serial := by
    by_cases e : i = 0
    · subst e; exact Int.le_refl _
    · exact Int.le_of_lt (rising_get hr (by omega) hi2)
  have h3 : (getN' L (leadN s L + i)).serial = ((L.drop (leadN s L))[i]).serial := by
    simp [getN', List.getD_eq_getElem?_getD, List.getElem?_eq_getElem hi2]
  omega
theorem ins_rising {L : List NoteD} (hr : RisingN L) (x : NoteD) : RisingN (insN L x) := by
  unfold insN
  split
  · exact hr
  · rename_i hn
    unfold RisingN
    rw [List.pairwise_append, List.pairwise_cons]
    refine ⟨hr.sublist (List.take_sublist _ _), ⟨fun y hy => drop_high hr hn hy, hr.sublist (List.drop_sublist _ _)⟩, fun a ha b hb => ?_⟩
    rcases List.mem_cons.1 hb with rfl | hb
    · exact take_low ha
    · have := take_low ha; have := drop_high hr hn hb; omega
theorem canon_rising (g : Nat → NoteD) : ∀ n, RisingN (canonL g n)
  | 0 => List.Pairwise.nil
  | n + 1 => ins_rising (canon_rising g n) (g n)
theorem ins_has {L : List NoteD} (hr : RisingN L) (x y : NoteD) : y ∈ insN L x ↔ y ∈ L ∨ (y = x ∧ ∀ z ∈ L, z.serial ≠ x.serial) := by
  unfold insN
  split
  · rename_i hy
    refine ⟨.inl, ?_⟩
    rintro (h | ⟨rfl, h⟩)
    · exact h
    · refine absurd hy.2 (h _ ?_)
      unfold getN'
      rw [List.getD_eq_getElem?_getD, List.getElem?_eq_getElem hy.1]
      exact List.getElem_mem hy.1
  · rename_i hn
    have hne : ∀ z ∈ L, z.serial ≠ x.serial := fun z hz => by
      rw [← List.take_append_drop (leadN x.serial L) L] at hz
      rcases List.mem_append.1 hz with h | h
      · have := take_low h; omega
      · have := drop_high hr hn h; omega
    rw [List.mem_append, List.mem_cons]
    constructor
    · rintro (h | rfl | h)
      · exact .inl (List.mem_of_mem_take h)
      · exact .inr ⟨rfl, hne⟩
      · exact .inl (List.mem_of_mem_drop h)
    · rintro (h | ⟨rfl, _⟩)
      · rw [← List.take_append_drop (leadN x.serial L) L] at h
        rcases List.mem_append.1 h with h | h
        · exact .inl h
        · exact .inr (.inr h)
      · exact .inr (.inl rfl)
/-- the notes of the canonical list: those with a serial number that none before has -/
theorem canon_has (g : Nat → NoteD) (y : NoteD) : ∀ n, y ∈ canonL g n ↔ ∃ s, 0 ≤ firstS g n s ∧ y = g (firstS g n s).toNat := by
  intro n
  induction n generalizing y with
  | zero => exact ⟨fun h => by simp [canonL] at h, fun ⟨s, h, _⟩ => absurd (show (0 : Int) ≤ -1 from h) (by omega)⟩
  | succ n ih =>
    show y ∈ insN (canonL g n) (g n) ↔ _
    rw [ins_has (canon_rising g n), ih]
    have hser : (∀ z ∈ canonL g n, z.serial ≠ (g n).serial) ↔ firstS g n (g n).serial < 0 := by
      rcases firstS_spec g (g n).serial n with ⟨h1, h2⟩ | ⟨j, h1, h2, h3, h4⟩
      · refine ⟨fun _ => by omega, fun _ z hz => ?_⟩
        obtain ⟨i, hi, rfl⟩ := canon_mem g z n hz
        exact h2 i hi
      · refine ⟨fun h => ?_, fun h => absurd h (by omega)⟩
        refine absurd ?_ (h (g j) ((ih (g j)).2 ⟨(g n).serial, by omega, by rw [h1]; simp⟩))
        exact h3
    rw [hser]
    by_cases h0 : firstS g n (g n).serial < 0
    · constructor
      · rintro (⟨s, h1, rfl⟩ | ⟨rfl, _⟩)
        · refine ⟨s, ?_, ?_⟩
          · rw [firstS_other g s (fun e => by subst e; omega)]; exact h1
          · rw [firstS_other g s (fun e => by subst e; omega)]
        · exact ⟨(g n).serial, by rw [firstS_new g h0]; omega, by rw [firstS_new g h0]; simp⟩
      · rintro ⟨s, h1, rfl⟩
        by_cases e : s = (g n).serial
        · subst e
          rw [firstS_new g h0]
          exact .inr ⟨by simp, h0⟩
        · rw [firstS_other g s e] at h1 ⊢
          exact .inl ⟨s, h1, rfl⟩
    · constructor
      · rintro (⟨s, h1, rfl⟩ | ⟨_, h⟩)
        · exact ⟨s, by rw [firstS_keep g (by omega)]; exact h1, by rw [firstS_keep g (by omega)]⟩
        · exact absurd h h0
      · rintro ⟨s, h1, rfl⟩
        rw [firstS_keep g (by omega)] at h1 ⊢
        exact .inl ⟨s, h1, rfl⟩
theorem canon_eq (g : Nat → NoteD) (n : Nat) (L : List Int) (h1 : L.Pairwise (· < ·)) (h2 : ∀ s, s ∈ L ↔ 0 ≤ firstS g n s) : canonL g n = L.map fun s => g (firstS g n s).toNat := by
  have hs : ∀ s ∈ L, (g (firstS g n s).toNat).serial = s := fun s hs => by
    rcases firstS_spec g s n with ⟨e1, e2⟩ | ⟨j, e1, e2, e3, e4⟩
    · have := (h2 s).1 hs; omega
    · rw [e1]; simpa using e3
  refine sorted_ext (f := NoteD.serial) _ _ (canon_rising g n) ?_ fun y => ?_
  · rw [List.pairwise_map]
    exact h1.imp_of_mem fun ha hb hab => by rw [hs _ ha, hs _ hb]; exact hab
  · rw [canon_has, List.mem_map]
    constructor
    · rintro ⟨s, e1, rfl⟩; exact ⟨s, (h2 s).2 e1, rfl⟩
    · rintro ⟨s, e1, rfl⟩; exact ⟨s, (h2 s).1 e1, rfl⟩
end Go.Proofs.Ytojkonhhaamodaa
set_option linter.unusedVariables false
namespace Go.Proofs.Ytojkonhhaamodaa
open Go.RowKit

theorem serialN_ge (g : Nat → NoteD) (gm : Int) : ∀ k i, i < k → (g i).game = gm → (g i).serial ≤ serialN g gm k := by
  intro k
  induction k with
  | zero => intro i hi; exact absurd hi (by omega)
  | succ k ih =>
    intro i hi he
    show _ ≤ if (g k).game = gm ∧ serialN g gm k < (g k).serial then (g k).serial else serialN g gm k
    by_cases hik : i = k
    · subst hik
      split
      · exact Int.le_refl _
      · rename_i h; exact Int.not_lt.1 fun hlt => h ⟨he, hlt⟩
    · have := ih i (by omega) he
      split
      · rename_i h; omega
      · exact this
theorem serialN_at (g : Nat → NoteD) (gm : Int) : ∀ k, serialN g gm k = 0 ∨ ∃ i, i < k ∧ (g i).game = gm ∧ (g i).serial = serialN g gm k := by
  intro k
  induction k with
  | zero => exact .inl rfl
  | succ k ih =>
    have e : serialN g gm (k + 1) = if (g k).game = gm ∧ serialN g gm k < (g k).serial then (g k).serial else serialN g gm k := rfl
    by_cases h : (g k).game = gm ∧ serialN g gm k < (g k).serial
    · rw [if_pos h] at e
      exact .inr ⟨k, by omega, h.1, e.symm⟩
    · rw [if_neg h] at e
      rw [e]
      rcases ih with ih | ⟨i, hi, h1, h2⟩
      · exact .inl ih
      · exact .inr ⟨i, by omega, h1, h2⟩
/-- the note with the serial number s, if no later one replaces it; else -1 -/
def standS (g : Nat → NoteD) (n : Nat) (s : Int) : Int := if 0 ≤ firstS g n s ∧ ¬ s < serialN g (g (firstS g n s).toNat).game n then firstS g n s else -1
theorem standS_spec {g : Nat → NoteD} {n : Nat} {s : Int} (h : 0 ≤ standS g n s) : ∃ j : Nat, standS g n s = (j : Int) ∧ firstS g n s = (j : Int) ∧ j < n ∧ (g j).serial = s ∧ s = serialN g (g j).game n := by
  unfold standS at h ⊢
  by_cases hc : 0 ≤ firstS g n s ∧ ¬ s < serialN g (g (firstS g n s).toNat).game n
  · rw [if_pos hc]
    rcases firstS_spec g s n with ⟨h1, _⟩ | ⟨j, h1, h2, h3, _⟩
    · omega
    · rw [h1] at hc ⊢
      simp only [Int.toNat_natCast] at hc
      have := serialN_ge g (g j).game n j h2 rfl
      exact ⟨j, rfl, rfl, h2, h3, by omega⟩
  · rw [if_neg hc] at h; omega
theorem applyN_spec (g : Nat → GameD) (C : List NoteD) (i : Nat) : ∀ j, (applyN g C j i = g i ∧ ∀ t, t < j → (getN' C t).game.toNat ≠ i) ∨
    ∃ t, t < j ∧ (getN' C t).game.toNat = i ∧ applyN g C j i = (getN' C t).res ∧ ∀ t', t < t' → t' < j → (getN' C t').game.toNat ≠ i := by
  intro j
  induction j with
  | zero => exact .inl ⟨rfl, fun t ht => absurd ht (by omega)⟩
  | succ j ih =>
    have e : applyN g C (j + 1) i = if i = (getN' C j).game.toNat then (getN' C j).res else applyN g C j i := rfl
    by_cases h : i = (getN' C j).game.toNat
    · rw [if_pos h] at e
      exact .inr ⟨j, by omega, h.symm, e, fun t' h1 h2 => absurd h1 (by omega)⟩
    · rw [if_neg h] at e
      rw [e]
      rcases ih with ⟨h1, h2⟩ | ⟨t, h1, h2, h3, h4⟩
      · refine .inl ⟨h1, fun t ht => ?_⟩
        by_cases e2 : t = j
        · subst e2; exact Ne.symm h
        · exact h2 t (by omega)
      · refine .inr ⟨t, by omega, h2, h3, fun t' e1 e2 => ?_⟩
        by_cases e3 : t' = j
        · subst e3; exact Ne.symm h
        · exact h4 t' e1 (by omega)
/-- gI: the games where the notes whose keys are no longer to come have been laid in -/
def laidIn (g : Nat → GameD) (ns : Nat → NoteD) (k : Nat) (left : Int → Bool) (gI : Nat → GameD) : Prop :=
  (∀ s, 0 ≤ standS ns k s → left s = false → gI (ns (standS ns k s).toNat).game.toNat = (ns (standS ns k s).toNat).res) ∧
  ∀ i, (∀ s, 0 ≤ standS ns k s → left s = false → (ns (standS ns k s).toNat).game.toNat ≠ i) → gI i = g i
theorem stand_same {n : Int} {m k : Nat} {g : Nat → GameD} {ns : Nat → NoteD} (hp : ∀ i, i < k → noteP n m g (ns i)) {s s' : Int} (h : 0 ≤ standS ns k s) (h' : 0 ≤ standS ns k s')
    (he : (ns (standS ns k s).toNat).game.toNat = (ns (standS ns k s').toNat).game.toNat) : s = s' := by
  obtain ⟨j, e1, e2, e3, e4, e5⟩ := standS_spec h
  obtain ⟨j', f1, f2, f3, f4, f5⟩ := standS_spec h'
  rw [e1, f1] at he
  simp only [Int.toNat_natCast] at he
  have p1 := (hp j e3).2.1.1
  have p2 := (hp j' f3).2.1.1
  have : (ns j).game = (ns j').game := by omega
  rw [e5, f5, this]
theorem laidIn.step {n : Int} {m k : Nat} {g : Nat → GameD} {ns : Nat → NoteD} (hp : ∀ i, i < k → noteP n m g (ns i)) {left left' : Int → Bool} {gI gI' : Nat → GameD} {s : Int} (h : laidIn g ns k left gI) (hs : 0 ≤ standS ns k s) (hl : left s = true)
    (h1 : left' s = false) (h2 : ∀ t, t ≠ s → left' t = left t) (hg : ∀ i, gI' i = if i = (ns (standS ns k s).toNat).game.toNat then (ns (standS ns k s).toNat).res else gI i) : laidIn g ns k left' gI' := by
  refine ⟨fun t ht hlt => ?_, fun i hi => ?_⟩
  · rw [hg]
    by_cases e : t = s
    · subst e; rw [if_pos rfl]
    · have hlt2 : left t = false := by rw [← h2 t e]; exact hlt
      rw [if_neg (fun e2 => e (stand_same hp ht hs e2))]
      exact h.1 t ht hlt2
  · rw [hg, if_neg (fun e => hi s hs h1 e.symm)]
    refine h.2 i fun t ht hlt => ?_
    by_cases e : t = s
    · subst e; rw [hl] at hlt; cases hlt
    · exact hi t ht (by rw [h2 t e]; exact hlt)
theorem laidIn.done {n : Int} {m k : Nat} {g : Nat → GameD} {ns : Nat → NoteD} (hp : notesP n m g k ns) {left : Int → Bool} {gI : Nat → GameD} (h : laidIn g ns k left gI) (hl : ∀ s, left s = false) (i : Nat) :
    gI i = applyN g (canonL ns k) (canonL ns k).length i := by
  have hmem : ∀ t, t < (canonL ns k).length → ∃ q, q < k ∧ ns q = getN' (canonL ns k) t := fun t ht => canon_mem ns _ k (getN_mem _ t ht)
  rcases applyN_spec g (canonL ns k) i (canonL ns k).length with ⟨h1, h2⟩ | ⟨t, h1, h2, h3, h4⟩
  · rw [h1]
    refine h.2 i fun s hs _ e => ?_
    obtain ⟨j, e1, e2, e3, e4, e5⟩ := standS_spec hs
    rw [e1] at e
    simp only [Int.toNat_natCast] at e
    have hin : ns j ∈ canonL ns k := (canon_has ns _ k).2 ⟨s, by omega, by rw [e2]; simp⟩
    obtain ⟨t, ht, he⟩ := List.mem_iff_getElem.1 hin
    have hg : getN' (canonL ns k) t = ns j := by
      unfold getN'; rw [List.getD_eq_getElem?_getD, List.getElem?_eq_getElem ht]; exact he
    exact h2 t ht (by rw [hg]; exact e)
  · rw [h3]
    obtain ⟨q, hq, hqe⟩ := hmem t h1
    have hqp := hp.2.2 q hq
    have hge := serialN_ge ns (ns q).game k q hq rfl
    have hpos : 1 ≤ (ns q).serial := hqp.1.1.1
    rcases serialN_at ns (ns q).game k with h0 | ⟨q2, hq2, hg2, hs2⟩
    · omega
    · -- the note with the greatest number on this game stands
      obtain ⟨j, j1, j2, j3⟩ := firstS_at ns hq2
      have hsame : ns j = ns q2 := by
        by_cases e : j = q2
        · rw [e]
        · exact (hp.2.2 q2 hq2).2 j (by omega) j3
      have hst : standS ns k (ns q2).serial = (j : Int) := by
        have hc : 0 ≤ firstS ns k (ns q2).serial ∧ ¬ (ns q2).serial < serialN ns (ns (firstS ns k (ns q2).serial).toNat).game k := ⟨by rw [j1]; omega, by rw [j1]; simp only [Int.toNat_natCast]; rw [hsame, hg2]; omega⟩
        unfold standS
        rw [if_pos hc]
        exact j1
      have h6 := h.1 (ns q2).serial (by omega) (hl _)
      rw [hst] at h6
      simp only [Int.toNat_natCast] at h6
      rw [hsame, hg2] at h6
      rw [← hqe] at h2
      rw [h2] at h6
      rw [h6]
      -- its place in the list is t
      have hin : ns q2 ∈ canonL ns k := (canon_has ns _ k).2 ⟨(ns q2).serial, by omega, by rw [j1]; simp [hsame]⟩
      obtain ⟨u, hu, he⟩ := List.mem_iff_getElem.1 hin
      have hgu : getN' (canonL ns k) u = ns q2 := by
        unfold getN'; rw [List.getD_eq_getElem?_getD, List.getElem?_eq_getElem hu]; exact he
      have hut : ¬ t < u := fun hlt => h4 u hlt hu (by rw [hgu, hg2]; exact h2)
      have hut2 : ¬ u < t := fun hlt => by
        have := rising_get (canon_rising ns k) hlt h1
        rw [hgu, ← hqe] at this
        omega
      obtain rfl : u = t := by omega
      rw [hgu]
end Go.Proofs.Ytojkonhhaamodaa
set_option linter.unusedVariables false
namespace Go.Proofs.Ytojkonhhaamodaa
open Go.RowKit

theorem mem_getN {L : List NoteD} {y : NoteD} : (∃ i, i < L.length ∧ getN' L i = y) ↔ y ∈ L := by
  constructor
  · rintro ⟨i, hi, rfl⟩; exact getN_mem L i hi
  · intro h
    obtain ⟨i, hi, he⟩ := List.mem_iff_getElem.1 h
    refine ⟨i, hi, ?_⟩
    unfold getN'; rw [List.getD_eq_getElem?_getD, List.getElem?_eq_getElem hi]; exact he
/-- no two different notes have one serial number -/
def loneP (k : Nat) (ns : Nat → NoteD) : Prop := ∀ i, i < k → ∀ j, j < i → (ns j).serial = (ns i).serial → ns j = ns i
theorem loneP.two {k : Nat} {ns : Nat → NoteD} (h : loneP k ns) {i j : Nat} (hi : i < k) (hj : j < k) (e : (ns i).serial = (ns j).serial) : ns i = ns j := by
  rcases Nat.lt_trichotomy i j with h1 | h1 | h1
  · exact h j hj i h1 e
  · rw [h1]
  · exact (h i hi j h1 e.symm).symm
theorem canon_all {k : Nat} {ns : Nat → NoteD} (h : loneP k ns) (y : NoteD) : y ∈ canonL ns k ↔ ∃ i, i < k ∧ ns i = y := by
  refine ⟨canon_mem ns y k, fun ⟨i, hi, he⟩ => ?_⟩
  obtain ⟨j, j1, j2, j3⟩ := firstS_at ns hi
  refine (canon_has ns y k).2 ⟨(ns i).serial, by omega, ?_⟩
  rw [j1]
  simp only [Int.toNat_natCast]
  by_cases e : j = i
  · rw [e]; exact he.symm
  · rw [h i hi j (by omega) j3]; exact he.symm
theorem canon_same {k k' : Nat} {ns ns' : Nat → NoteD} (h : loneP k ns) (h' : loneP k' ns') (hm : ∀ y, (∃ i, i < k ∧ ns i = y) ↔ ∃ i, i < k' ∧ ns' i = y) : canonL ns k = canonL ns' k' :=
  sorted_ext (f := NoteD.serial) _ _ (canon_rising ns k) (canon_rising ns' k') fun y => by rw [canon_all h, canon_all h', hm]
theorem rising_lone {L : List NoteD} (h : RisingN L) : loneP L.length (getN' L) := fun i hi j hj e => by have := rising_get h hj hi; omega
theorem canon_canon {k : Nat} {ns : Nat → NoteD} (h : loneP k ns) : canonL (getN' (canonL ns k)) (canonL ns k).length = canonL ns k :=
  sorted_ext (f := NoteD.serial) _ _ (canon_rising _ _) (canon_rising ns k) fun y => by rw [canon_all (rising_lone (canon_rising ns k)), mem_getN]
theorem notesP.lone {n : Int} {m k : Nat} {g : Nat → GameD} {ns : Nat → NoteD} (h : notesP n m g k ns) : loneP k ns := fun i hi j hj => (h.2.2 i hi).2 j hj
theorem notesP.of {n : Int} {m k k' : Nat} {g : Nat → GameD} {ns ns' : Nat → NoteD} (hp : notesP n m g k ns) (hk : k' ≤ 80) (hs : ∀ i, i < k' → ∃ j, j < k ∧ ns j = ns' i) : notesP n m g k' ns' := by
  refine ⟨hp.1, hk, fun i hi => ⟨?_, fun j hj he => ?_⟩⟩
  · obtain ⟨j, hj, e⟩ := hs i hi
    rw [← e]; exact (hp.2.2 j hj).1
  · obtain ⟨a, ha, e1⟩ := hs i hi
    obtain ⟨b, hb, e2⟩ := hs j (by omega)
    rw [← e1, ← e2] at he ⊢
    exact hp.lone.two hb ha he
theorem canon_len_le (ns : Nat → NoteD) : ∀ k, (canonL ns k).length ≤ k
  | 0 => Nat.le_refl _
  | k + 1 => Nat.le_trans (ins_len (canonL ns k) (ns k)) (Nat.succ_le_succ (canon_len_le ns k))
/-- a game without a note stays as it is -/
theorem apply_none {n : Int} {m k : Nat} {g : Nat → GameD} {ns : Nat → NoteD} (hp : notesP n m g k ns) (i : Nat) (h0 : serialN ns i k = 0) : applyN g (canonL ns k) (canonL ns k).length i = g i := by
  rcases applyN_spec g (canonL ns k) i (canonL ns k).length with ⟨h1, _⟩ | ⟨t, h1, h2, _, _⟩
  · exact h1
  · obtain ⟨q, hq, he⟩ := canon_mem ns _ k (getN_mem _ t h1)
    have hqp := (hp.2.2 q hq).1
    rw [← he] at h2
    have hg : (ns q).game = (i : Int) := by have := hqp.2.1.1; omega
    have := serialN_ge ns i k q hq hg
    have := hqp.1.1
    omega
/-- a game reads as the note with the greatest serial number says -/
theorem apply_last {n : Int} {m k : Nat} {g : Nat → GameD} {ns : Nat → NoteD} (hp : notesP n m g k ns) (i q : Nat) (hq : q < k) (hg : (ns q).game = (i : Int)) (hs : (ns q).serial = serialN ns i k) : applyN g (canonL ns k) (canonL ns k).length i = (ns q).res := by
  obtain ⟨u, hu, he⟩ := mem_getN.2 ((canon_all hp.lone (ns q)).2 ⟨q, hq, rfl⟩)
  have hui : (getN' (canonL ns k) u).game.toNat = i := by rw [he]; omega
  rcases applyN_spec g (canonL ns k) i (canonL ns k).length with ⟨_, h2⟩ | ⟨t, h1, h2, h3, h4⟩
  · exact absurd hui (h2 u hu)
  · have h5 : ¬ t < u := fun h => h4 u h hu hui
    have h6 : ¬ u < t := fun h => by
      have hr := rising_get (canon_rising ns k) h h1
      obtain ⟨p, hp1, hp2⟩ := canon_mem ns _ k (getN_mem _ t h1)
      have hpp := (hp.2.2 p hp1).1
      rw [← hp2] at h2 hr
      have hg2 : (ns p).game = (i : Int) := by have := hpp.2.1.1; omega
      have := serialN_ge ns i k p hp1 hg2
      rw [he] at hr
      omega
    obtain rfl : u = t := by omega
    rw [h3, he]
theorem up_mem {g : Nat → NoteD} {s : Int} {y : NoteD} : ∀ {k}, y ∈ upL g s k ↔ ∃ i, i < k ∧ g i = y ∧ y.serial ≤ s := by
  intro k
  induction k with
  | zero => exact ⟨fun h => by simp [upL] at h, fun ⟨i, h, _⟩ => absurd h (by omega)⟩
  | succ k ih =>
    have e : upL g s (k + 1) = if (g k).serial ≤ s then upL g s k ++ [g k] else upL g s k := rfl
    constructor
    · intro h
      rw [e] at h
      split at h
      · rename_i hs
        rw [List.mem_append, List.mem_singleton] at h
        rcases h with h | rfl
        · obtain ⟨i, h1, h2⟩ := ih.1 h; exact ⟨i, by omega, h2⟩
        · exact ⟨k, by omega, rfl, hs⟩
      · obtain ⟨i, h1, h2⟩ := ih.1 h; exact ⟨i, by omega, h2⟩
    · rintro ⟨i, h1, rfl, h3⟩
      rw [e]
      by_cases hik : i = k
      · subst hik
        rw [if_pos h3]; simp
      · have hm := ih.2 ⟨i, by omega, rfl, h3⟩
        split
        · exact List.mem_append_left _ hm
        · exact hm
theorem up_serial {ns : Nat → NoteD} {s : Int} {k : Nat} (h0 : 0 ≤ s) (i : Int) : serialN (getN' (upL ns s k)) i (upL ns s k).length ≤ s := by
  rcases serialN_at (getN' (upL ns s k)) i (upL ns s k).length with h | ⟨j, hj, _, h⟩
  · rw [h]; exact h0
  · rw [← h]
    obtain ⟨_, _, _, h3⟩ := up_mem.1 (getN_mem _ j hj)
    exact h3
theorem seen_congr {g g' : Nat → NoteD} {gm : Int} : ∀ k, (∀ i, i < k → g i = g' i) → seenL g gm k = seenL g' gm k
  | 0, _ => rfl
  | k + 1, h => by
    unfold seenL
    rw [seen_congr k fun i hi => h i (by omega), h k (by omega)]
theorem seen_up (ns : Nat → NoteD) (s gm : Int) : ∀ k, seenL (getN' (upL ns s k)) gm (upL ns s k).length = (seenL ns gm k).filter fun x => decide (x ≤ s)
  | 0 => rfl
  | k + 1 => by
    have ih := seen_up ns s gm k
    have e : upL ns s (k + 1) = if (ns k).serial ≤ s then upL ns s k ++ [ns k] else upL ns s k := rfl
    have e2 : seenL ns gm (k + 1) = if (ns k).game = gm ∧ ¬ (ns k).serial ∈ seenL ns gm k then seenL ns gm k ++ [(ns k).serial] else seenL ns gm k := rfl
    rw [e, e2]
    by_cases hs : (ns k).serial ≤ s
    · rw [if_pos hs]
      have hl : (upL ns s k ++ [ns k]).length = (upL ns s k).length + 1 := by simp
      have hlast : getN' (upL ns s k ++ [ns k]) (upL ns s k).length = ns k := by
        unfold getN'; rw [List.getD_eq_getElem?_getD, List.getElem?_append_right (Nat.le_refl _)]; simp
      have hfst : seenL (getN' (upL ns s k ++ [ns k])) gm (upL ns s k).length = seenL (getN' (upL ns s k)) gm (upL ns s k).length := seen_congr _ fun i hi => by
        unfold getN'; rw [List.getD_eq_getElem?_getD, List.getElem?_append_left hi, List.getD_eq_getElem?_getD]
      rw [hl]
      show (if (getN' (upL ns s k ++ [ns k]) (upL ns s k).length).game = gm ∧ ¬ (getN' (upL ns s k ++ [ns k]) (upL ns s k).length).serial ∈ seenL (getN' (upL ns s k ++ [ns k])) gm (upL ns s k).length then _ else _) = _
      rw [hlast, hfst, ih]
      by_cases hc : (ns k).game = gm ∧ ¬ (ns k).serial ∈ seenL ns gm k
      · rw [if_pos hc, if_pos ⟨hc.1, fun h => hc.2 (List.mem_filter.1 h).1⟩, List.filter_append]
        simp [hs]
      · rw [if_neg hc, if_neg]
        rintro ⟨h1, h2⟩
        exact hc ⟨h1, fun h => h2 (List.mem_filter.2 ⟨h, by simpa using hs⟩)⟩
    · rw [if_neg hs, ih]
      split
      · rw [List.filter_append]; simp [hs]
      · rfl
theorem corr_up (ns : Nat → NoteD) (s gm : Int) (k : Nat) : corrN (getN' (upL ns s k)) gm (upL ns s k).length ≤ corrN ns gm k := by
  have h : (seenL (getN' (upL ns s k)) gm (upL ns s k).length).length ≤ (seenL ns gm k).length := by rw [seen_up]; exact List.length_filter_le _ _
  unfold corrN
  split <;> split <;> omega
end Go.Proofs.Ytojkonhhaamodaa
