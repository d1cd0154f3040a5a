/-
  Records: the program's NotesOk (written by tools/notesok.py).
-/
import Derived.Test.YtlahjaakegdigaaFirstNotes
import Derived.Deep.RegionHeld3
set_option linter.unusedVariables false
namespace Go.Proofs.Ytlahjaakegdigaa
open Go.RowKit Go.Maps

set_option maxRecDepth 100000 in
set_option maxHeartbeats 1000000 in
theorem notesOk_impl (n : Int) (v : Value) (m : Nat) (g : Nat → GameD) (v' : Value) (k : Nat) (ns : Nat → NoteD) (R : Bool) (w : World) (hf : ∀ i, (ns i).fit) (hR : R = true ↔ notesP n m g k ns) (hv : GameRow w v m g) (hv' : NoteRow w v' k ns) :
    Calls Try.prog 20 #[.int .i64 n, v, v'] w fun e w' => e = .returned (.bool R) ∧ Below w.heap.size w w' := by
  obtain ⟨aa, cap, B, O, rfl, hk63, hat⟩ := hv'.at
  have HAT := Lib.hid hat
  have HG := Lib.hid hv
  have HF := Lib.hid hf
  obtain ⟨r, hr⟩ := bool_ex (seasonP n m g)
  have C := Lib.hid (fun w1 h1 => seasonOk_impl n v m g r w1 hr h1)
  have HRR := Lib.hid hr
  have HNOT : Hid (¬ notesP n m g k ns → R = false) := fun h => bool_not hR h
  have HYES0 : Hid (notesP n m g k ns → R = true) := fun h => hR.2 h
  clear hR hr hv hv' hat hf
  go_enter Try.func20, Try.ntmps20
  go_wp2_with fail
  refine (C.out _ HG.out).mono ?_
  rintro e w2 ⟨rfl, b2⟩
  have HB2 := Lib.hid b2
  have z2 := b2.size
  have HAT2 := Lib.hid (HAT.out.below b2 (Nat.le_refl _))
  clear C b2
  cases r with
  | false =>
    obtain rfl := HNOT.out fun h => by have := HRR.out.2 h.1; cases this
    clear HNOT HYES0 HRR HAT HAT2
    go_wp2
    go_ret
    exact ⟨rfl, HB2.out⟩
  | true =>
  have HSE := Lib.hid (HRR.out.1 rfl)
  clear HRR
  by_cases h80 : 80 < k
  · have g0 : decide (80 < (k : Int)) = true := decide_eq_true (by omega)
    have g0' : decide (80 < k) = true := decide_eq_true h80
    obtain rfl := HNOT.out fun h => by have := h.2.1; omega
    clear HNOT HYES0 HAT HAT2
    go_wp2
    go_ret
    exact ⟨rfl, HB2.out⟩
  have g0 : decide (80 < (k : Int)) = false := decide_eq_false (by omega)
  have g0' : decide (80 < k) = false := decide_eq_false h80
  have HNO : Hid (∀ i, i < k → ¬ (noteP n m g (ns i) ∧ ∀ j, j < i → (ns j).serial = (ns i).serial → ns j = ns i) → R = false) := fun i hi h => HNOT.out fun e => h (e.2.2 i hi)
  have HYES : Hid ((∀ i, i < k → noteP n m g (ns i) ∧ ∀ j, j < i → (ns j).serial = (ns i).serial → ns j = ns i) → R = true) := fun h => HYES0.out ⟨HSE.out, by omega, h⟩
  have CF := Lib.hid (fun w1 h1 => firstNotes_impl aa k cap B O ns w1 HF.out h1 (by omega))
  clear HNOT HYES0
  go_wp2_with fail
  refine (CF.out _ HAT2.out).mono ?_
  rintro e w3 ⟨M, rfl, hM, hm3, b3⟩
  have HM3 := Lib.hid hm3
  have HB3 := Lib.hid (HB2.out.trans (b3.mono z2))
  clear CF b3 HAT2 hm3 HB2 z2 hM
  go_wp2
  go_loopw [23] (fun i wr => ∃ q : Nat, q ≤ k ∧ i = .int .i64 q ∧ Hid (∀ i, i < q → noteP n m g (ns i) ∧ ns i = ns (firstS ns k (ns i).serial).toNat) ∧ Hid (PtrMap Try.prog wr 3 B O M k (firstS ns k)) ∧ Hid (Below w.heap.size w wr)) (fun i _ => k - (intOf i).toNat)
  case atStart => exact ⟨0, Nat.zero_le _, rfl, fun i hi => absurd hi (by omega), HM3, HB3⟩
  case round =>
    clear HM3 HB3
    obtain ⟨q, hq, rfl, hok, hm', hb'⟩ := hrel
    by_cases hlt : q < k
    · obtain ⟨rfl, hcap, hc⟩ := HAT.out (by omega)
      have hcq := (hc q hlt).belowB hb'.out (hc q hlt).1
      obtain ⟨j, hj, hjq, hjs⟩ := firstS_at ns hlt
      have HQY := Lib.hid ((hc j (by omega)).belowB hb'.out (hc j (by omega)).1)
      have HS : Hid (noteP n m g (ns q) ∧ ns q = ns j → ∀ i, i < q + 1 → noteP n m g (ns i) ∧ ns i = ns (firstS ns k (ns i).serial).toNat) := fun h i hi => by
        by_cases hik : i = q
        · subst hik; rw [hj]; exact h
        · exact hok.out i (by omega)
      have HN : Hid (¬ (noteP n m g (ns q) ∧ ns q = ns j) → R = false) := fun h => HNO.out q hlt fun e => h ⟨e.1, by
        by_cases hjq2 : j = q
        · rw [hjq2]
        · exact (e.2 j (by omega) hjs).symm⟩
      have HWF := Lib.hid (wfI (HF.out q).1)
      have HFJ := Lib.hid hj
      clear hc hok HNO HYES hjs hj HF HAT
      generalize ns q = x at *
      generalize ns j = y at *
      obtain ⟨c0, c1, c2, c3, c4, c5, c6⟩ := note_cells hcq
      obtain ⟨r, hr⟩ := bool_ex (noteP n m g x)
      have CN := Lib.hid (fun w1 h1 => noteOk_impl n v m g x.serial x.game x.res.home x.res.away x.res.hg x.res.ag x.res.st r w1 (hr.trans ⟨fun h => ⟨HSE.out, h⟩, fun h => h.2⟩) h1)
      have HR2 := Lib.hid hr
      clear hcq hr
      have hm := hm'.out
      have hb := hb'.out
      clear hm' hb'
      cases r with
      | false =>
        obtain rfl := HN.out fun h => by have := HR2.out.2 h.1; cases this
        clear HN HS HR2
        go_wp2
        clear c0 c1 c2 c3 c4 c5 c6
        obtain ⟨S, HSd⟩ : ∃ S : World → Prop, S = fun w' => GameRow w' v m g ∧ BoxN w' wr.heap.size [.int .i64 x.serial, .int .i64 x.game, .int .i64 x.res.home, .int .i64 x.res.away, .int .i64 x.res.hg, .int .i64 x.res.ag, .int .i64 x.res.st] ∧ CellsAt w' B (O + j * 7) y.cells ∧ PtrMap Try.prog w' 3 B O M k (firstS ns k) ∧ Below w.heap.size w w' := ⟨_, rfl⟩
        have KS : Hid (∀ wa wb, S wa → Below wa.heap.size wa wb → S wb) := by subst HSd; exact fun wa wb ⟨hg, bx, hy, hm, hb⟩ b => ⟨hg.below b (Nat.le_refl _), bx.below b, hy.below b, hm.below b (Nat.le_refl _), hb.trans (b.mono hb.size)⟩
        have OS : Hid (∀ wa, S wa → GameRow wa v m g ∧ BoxN wa wr.heap.size [.int .i64 x.serial, .int .i64 x.game, .int .i64 x.res.home, .int .i64 x.res.away, .int .i64 x.res.hg, .int .i64 x.res.ag, .int .i64 x.res.st] ∧ CellsAt wa B (O + j * 7) y.cells ∧ PtrMap Try.prog wa 3 B O M k (firstS ns k) ∧ Below w.heap.size w wa) := by subst HSd; exact fun wa h => h
        have KS0 : Hid (S (wr.alloc (.cells #[.int .i64 x.serial, .int .i64 x.game, .int .i64 x.res.home, .int .i64 x.res.away, .int .i64 x.res.hg, .int .i64 x.res.ag, .int .i64 x.res.st] 33)).drew) := by subst HSd; exact (fun (b : Below wr.heap.size wr (wr.alloc (.cells #[.int .i64 x.serial, .int .i64 x.game, .int .i64 x.res.home, .int .i64 x.res.away, .int .i64 x.res.hg, .int .i64 x.res.ag, .int .i64 x.res.st] 33)).drew) => ⟨HG.out.below (hb.trans (b.mono hb.size)) (Nat.le_refl _), Lib.hid (BoxN.made (u := wr) (cs := #[.int .i64 x.serial, .int .i64 x.game, .int .i64 x.res.home, .int .i64 x.res.away, .int .i64 x.res.hg, .int .i64 x.res.ag, .int .i64 x.res.st]) (t := 33) (Below.refl _ _).drew rfl) |>.out, HQY.out.belowB b HQY.out.1, hm.below b (Nat.le_refl _), hb.trans (b.mono hb.size)⟩) ((Below.refl _ _).alloc (Nat.le_refl _) _).drew
        clear HSd
        go_wp2_with fail
        refine wp_region_held_drew (S := S) (by kernel_rfl) ?_ (fun hHeld => ?_)
        · exact KS0.out
        clear KS0 hm hb
        refine wpAnyH_take (i := 0) (v := ?_) rfl (by kernel_rfl) (by kernel_rfl) (by kernel_rfl) (fun _ _ _ h => h) (Or.inl ⟨by rfl, ?_⟩) hHeld ?_
        rotate_left
        · (intro wa hSw; obtain ⟨hg, bx, hy, hm, hb⟩ := OS.out _ hSw; have l1 := bx.1; have l2 := hy.1; have d0 := bx.2 0 _ rfl; have d1 := bx.2 1 _ rfl; have d2 := bx.2 2 _ rfl; have d3 := bx.2 3 _ rfl; have d4 := bx.2 4 _ rfl; have d5 := bx.2 5 _ rfl; have d6 := bx.2 6 _ rfl; obtain ⟨c0, c1, c2, c3, c4, c5, c6⟩ := note_cells hy; have hlk := hm.run kInt Try.underlying59 Try.underlying3 (zPtrN wa) HWF.out; rw [HFJ.out, ptrV_nat] at hlk; go_simp; try with_reducible rfl)
        simp only [Act.put, List.getElem_toArray, List.getElem_cons_zero, List.setIfInBounds_toArray, List.set_cons_zero, List.set_cons_succ]
        refine wpAnyH_take (i := 1) (v := ?_) rfl (by kernel_rfl) (by kernel_rfl) (by kernel_rfl) (fun _ _ _ h => h) (Or.inl ⟨by rfl, ?_⟩) hHeld ?_
        rotate_left
        · (intro wa hSw; obtain ⟨hg, bx, hy, hm, hb⟩ := OS.out _ hSw; have l1 := bx.1; have l2 := hy.1; have d0 := bx.2 0 _ rfl; have d1 := bx.2 1 _ rfl; have d2 := bx.2 2 _ rfl; have d3 := bx.2 3 _ rfl; have d4 := bx.2 4 _ rfl; have d5 := bx.2 5 _ rfl; have d6 := bx.2 6 _ rfl; obtain ⟨c0, c1, c2, c3, c4, c5, c6⟩ := note_cells hy; have hlk := hm.run kInt Try.underlying59 Try.underlying3 (zPtrN wa) HWF.out; rw [HFJ.out, ptrV_nat] at hlk; go_simp; try with_reducible rfl)
        simp only [Act.put, List.getElem_toArray, List.getElem_cons_zero, List.getElem_cons_succ, List.setIfInBounds_toArray, List.set_cons_zero, List.set_cons_succ]
        refine wpAnyH_take (i := 2) (v := ?_) rfl (by kernel_rfl) (by kernel_rfl) (by kernel_rfl) (fun _ _ _ h => h) (Or.inl ⟨by rfl, ?_⟩) hHeld ?_
        rotate_left
        · (intro wa hSw; obtain ⟨hg, bx, hy, hm, hb⟩ := OS.out _ hSw; have l1 := bx.1; have l2 := hy.1; have d0 := bx.2 0 _ rfl; have d1 := bx.2 1 _ rfl; have d2 := bx.2 2 _ rfl; have d3 := bx.2 3 _ rfl; have d4 := bx.2 4 _ rfl; have d5 := bx.2 5 _ rfl; have d6 := bx.2 6 _ rfl; obtain ⟨c0, c1, c2, c3, c4, c5, c6⟩ := note_cells hy; have hlk := hm.run kInt Try.underlying59 Try.underlying3 (zPtrN wa) HWF.out; rw [HFJ.out, ptrV_nat] at hlk; go_simp; try with_reducible rfl)
        simp only [Act.put, List.getElem_toArray, List.getElem_cons_zero, List.getElem_cons_succ, List.setIfInBounds_toArray, List.set_cons_zero, List.set_cons_succ]
        refine wpAnyH_ready (rs := [3]) (by kernel_rfl) (by simp) ?_
        refine AllReadyH.cons (o := _) rfl (fun K hK => ?_) AllReadyH.nil
        go_simp
        obtain ⟨hg, bx, hy, hm, hb⟩ := OS.out _ hHeld
        refine (CN.out _ hg).mono ?_
        rintro e w101 ⟨rfl, b101⟩
        clear hg bx hy hm hb
        (try go_wp2_with fail)
        refine hK.out _ _ ?_ (fun hHeld101 => ?_)
        · exact KS.out _ _ hHeld b101
        clear hK K
        refine wpAnyH_take (i := 4) (v := ?_) rfl (by kernel_rfl) (by kernel_rfl) (by kernel_rfl) (fun _ _ _ h => h) (Or.inl ⟨by rfl, ?_⟩) hHeld101 ?_
        rotate_left
        · (intro wa hSw; obtain ⟨hg, bx, hy, hm, hb⟩ := OS.out _ hSw; have l1 := bx.1; have l2 := hy.1; have d0 := bx.2 0 _ rfl; have d1 := bx.2 1 _ rfl; have d2 := bx.2 2 _ rfl; have d3 := bx.2 3 _ rfl; have d4 := bx.2 4 _ rfl; have d5 := bx.2 5 _ rfl; have d6 := bx.2 6 _ rfl; obtain ⟨c0, c1, c2, c3, c4, c5, c6⟩ := note_cells hy; have hlk := hm.run kInt Try.underlying59 Try.underlying3 (zPtrN wa) HWF.out; rw [HFJ.out, ptrV_nat] at hlk; go_simp; try with_reducible rfl)
        simp only [Act.put, List.getElem_toArray, List.getElem_cons_zero, List.getElem_cons_succ, List.setIfInBounds_toArray, List.set_cons_zero, List.set_cons_succ]
        refine wpAnyH_take (i := 5) (v := ?_) rfl (by kernel_rfl) (by kernel_rfl) (by kernel_rfl) (fun _ _ _ h => h) (Or.inl ⟨by rfl, ?_⟩) hHeld101 ?_
        rotate_left
        · (intro wa hSw; obtain ⟨hg, bx, hy, hm, hb⟩ := OS.out _ hSw; have l1 := bx.1; have l2 := hy.1; have d0 := bx.2 0 _ rfl; have d1 := bx.2 1 _ rfl; have d2 := bx.2 2 _ rfl; have d3 := bx.2 3 _ rfl; have d4 := bx.2 4 _ rfl; have d5 := bx.2 5 _ rfl; have d6 := bx.2 6 _ rfl; obtain ⟨c0, c1, c2, c3, c4, c5, c6⟩ := note_cells hy; have hlk := hm.run kInt Try.underlying59 Try.underlying3 (zPtrN wa) HWF.out; rw [HFJ.out, ptrV_nat] at hlk; go_simp; try with_reducible rfl)
        simp only [Act.put, List.getElem_toArray, List.getElem_cons_zero, List.getElem_cons_succ, List.setIfInBounds_toArray, List.set_cons_zero, List.set_cons_succ]
        refine wpAnyH_take (i := 6) (v := undef) rfl (by kernel_rfl) (by kernel_rfl) (by kernel_rfl) (fun _ _ _ h => h) (Or.inr ⟨by rfl, rfl⟩) hHeld101 ?_
        simp only [Act.put, List.getElem_toArray, List.getElem_cons_zero, List.getElem_cons_succ, List.setIfInBounds_toArray, List.set_cons_zero, List.set_cons_succ]
        refine wpAnyH_take (i := 7) (v := undef) rfl (by kernel_rfl) (by kernel_rfl) (by kernel_rfl) (fun _ _ _ h => h) (Or.inr ⟨by rfl, rfl⟩) hHeld101 ?_
        simp only [Act.put, List.getElem_toArray, List.getElem_cons_zero, List.getElem_cons_succ, List.setIfInBounds_toArray, List.set_cons_zero, List.set_cons_succ]
        refine wpAnyH_take (i := 8) (v := undef) rfl (by kernel_rfl) (by kernel_rfl) (by kernel_rfl) (fun _ _ _ h => h) (Or.inr ⟨by rfl, rfl⟩) hHeld101 ?_
        simp only [Act.put, List.getElem_toArray, List.getElem_cons_zero, List.getElem_cons_succ, List.setIfInBounds_toArray, List.set_cons_zero, List.set_cons_succ]
        refine wpAnyH_take (i := 9) (v := undef) rfl (by kernel_rfl) (by kernel_rfl) (by kernel_rfl) (fun _ _ _ h => h) (Or.inr ⟨by rfl, rfl⟩) hHeld101 ?_
        simp only [Act.put, List.getElem_toArray, List.getElem_cons_zero, List.getElem_cons_succ, List.setIfInBounds_toArray, List.set_cons_zero, List.set_cons_succ]
        refine wpAnyH_take (i := 10) (v := undef) rfl (by kernel_rfl) (by kernel_rfl) (by kernel_rfl) (fun _ _ _ h => h) (Or.inr ⟨by rfl, rfl⟩) hHeld101 ?_
        simp only [Act.put, List.getElem_toArray, List.getElem_cons_zero, List.getElem_cons_succ, List.setIfInBounds_toArray, List.set_cons_zero, List.set_cons_succ]
        refine wpAnyH_take (i := 11) (v := undef) rfl (by kernel_rfl) (by kernel_rfl) (by kernel_rfl) (fun _ _ _ h => h) (Or.inr ⟨by rfl, rfl⟩) hHeld101 ?_
        simp only [Act.put, List.getElem_toArray, List.getElem_cons_zero, List.getElem_cons_succ, List.setIfInBounds_toArray, List.set_cons_zero, List.set_cons_succ]
        refine wpAnyH_take (i := 12) (v := undef) rfl (by kernel_rfl) (by kernel_rfl) (by kernel_rfl) (fun _ _ _ h => h) (Or.inr ⟨by rfl, rfl⟩) hHeld101 ?_
        simp only [Act.put, List.getElem_toArray, List.getElem_cons_zero, List.getElem_cons_succ, List.setIfInBounds_toArray, List.set_cons_zero, List.set_cons_succ]
        refine wpAnyH_take (i := 13) (v := undef) rfl (by kernel_rfl) (by kernel_rfl) (by kernel_rfl) (fun _ _ _ h => h) (Or.inr ⟨by rfl, rfl⟩) hHeld101 ?_
        simp only [Act.put, List.getElem_toArray, List.getElem_cons_zero, List.getElem_cons_succ, List.setIfInBounds_toArray, List.set_cons_zero, List.set_cons_succ]
        refine wpAnyH_take (i := 14) (v := ?_) rfl (by kernel_rfl) (by kernel_rfl) (by kernel_rfl) (fun _ _ _ h => h) (Or.inl ⟨by rfl, ?_⟩) hHeld101 ?_
        rotate_left
        · (intro wa hSw; obtain ⟨hg, bx, hy, hm, hb⟩ := OS.out _ hSw; have l1 := bx.1; have l2 := hy.1; have d0 := bx.2 0 _ rfl; have d1 := bx.2 1 _ rfl; have d2 := bx.2 2 _ rfl; have d3 := bx.2 3 _ rfl; have d4 := bx.2 4 _ rfl; have d5 := bx.2 5 _ rfl; have d6 := bx.2 6 _ rfl; obtain ⟨c0, c1, c2, c3, c4, c5, c6⟩ := note_cells hy; have hlk := hm.run kInt Try.underlying59 Try.underlying3 (zPtrN wa) HWF.out; rw [HFJ.out, ptrV_nat] at hlk; go_simp; try with_reducible rfl)
        simp only [Act.put, List.getElem_toArray, List.getElem_cons_zero, List.getElem_cons_succ, List.setIfInBounds_toArray, List.set_cons_zero, List.set_cons_succ]
        refine wpAnyH_done (by kernel_rfl) ?_ _
        obtain ⟨hg, bx, hy, hm, hb⟩ := OS.out _ hHeld101
        clear KS OS hHeld hHeld101
        go_wp2
        go_ret
        exact ⟨rfl, hb⟩
      | true =>
        have HP := Lib.hid (HR2.out.1 rfl)
        clear HR2
        by_cases hxy : x = y
        · have HX := Lib.hid (HS.out ⟨HP.out, hxy⟩)
          subst hxy
          clear HS HN HP
          go_wp2
          clear c0 c1 c2 c3 c4 c5 c6
          obtain ⟨S, HSd⟩ : ∃ S : World → Prop, S = fun w' => GameRow w' v m g ∧ BoxN w' wr.heap.size [.int .i64 x.serial, .int .i64 x.game, .int .i64 x.res.home, .int .i64 x.res.away, .int .i64 x.res.hg, .int .i64 x.res.ag, .int .i64 x.res.st] ∧ CellsAt w' B (O + j * 7) x.cells ∧ PtrMap Try.prog w' 3 B O M k (firstS ns k) ∧ Below w.heap.size w w' := ⟨_, rfl⟩
          have KS : Hid (∀ wa wb, S wa → Below wa.heap.size wa wb → S wb) := by subst HSd; exact fun wa wb ⟨hg, bx, hy, hm, hb⟩ b => ⟨hg.below b (Nat.le_refl _), bx.below b, hy.below b, hm.below b (Nat.le_refl _), hb.trans (b.mono hb.size)⟩
          have OS : Hid (∀ wa, S wa → GameRow wa v m g ∧ BoxN wa wr.heap.size [.int .i64 x.serial, .int .i64 x.game, .int .i64 x.res.home, .int .i64 x.res.away, .int .i64 x.res.hg, .int .i64 x.res.ag, .int .i64 x.res.st] ∧ CellsAt wa B (O + j * 7) x.cells ∧ PtrMap Try.prog wa 3 B O M k (firstS ns k) ∧ Below w.heap.size w wa) := by subst HSd; exact fun wa h => h
          have KS0 : Hid (S (wr.alloc (.cells #[.int .i64 x.serial, .int .i64 x.game, .int .i64 x.res.home, .int .i64 x.res.away, .int .i64 x.res.hg, .int .i64 x.res.ag, .int .i64 x.res.st] 33)).drew) := by subst HSd; exact (fun (b : Below wr.heap.size wr (wr.alloc (.cells #[.int .i64 x.serial, .int .i64 x.game, .int .i64 x.res.home, .int .i64 x.res.away, .int .i64 x.res.hg, .int .i64 x.res.ag, .int .i64 x.res.st] 33)).drew) => ⟨HG.out.below (hb.trans (b.mono hb.size)) (Nat.le_refl _), Lib.hid (BoxN.made (u := wr) (cs := #[.int .i64 x.serial, .int .i64 x.game, .int .i64 x.res.home, .int .i64 x.res.away, .int .i64 x.res.hg, .int .i64 x.res.ag, .int .i64 x.res.st]) (t := 33) (Below.refl _ _).drew rfl) |>.out, HQY.out.belowB b HQY.out.1, hm.below b (Nat.le_refl _), hb.trans (b.mono hb.size)⟩) ((Below.refl _ _).alloc (Nat.le_refl _) _).drew
          clear HSd
          go_wp2_with fail
          refine wp_region_held_drew (S := S) (by kernel_rfl) ?_ (fun hHeld => ?_)
          · exact KS0.out
          clear KS0 hm hb
          refine wpAnyH_take (i := 0) (v := ?_) rfl (by kernel_rfl) (by kernel_rfl) (by kernel_rfl) (fun _ _ _ h => h) (Or.inl ⟨by rfl, ?_⟩) hHeld ?_
          rotate_left
          · (intro wa hSw; obtain ⟨hg, bx, hy, hm, hb⟩ := OS.out _ hSw; have l1 := bx.1; have l2 := hy.1; have d0 := bx.2 0 _ rfl; have d1 := bx.2 1 _ rfl; have d2 := bx.2 2 _ rfl; have d3 := bx.2 3 _ rfl; have d4 := bx.2 4 _ rfl; have d5 := bx.2 5 _ rfl; have d6 := bx.2 6 _ rfl; obtain ⟨c0, c1, c2, c3, c4, c5, c6⟩ := note_cells hy; have hlk := hm.run kInt Try.underlying59 Try.underlying3 (zPtrN wa) HWF.out; rw [HFJ.out, ptrV_nat] at hlk; go_simp; try with_reducible rfl)
          simp only [Act.put, List.getElem_toArray, List.getElem_cons_zero, List.setIfInBounds_toArray, List.set_cons_zero, List.set_cons_succ]
          refine wpAnyH_take (i := 1) (v := ?_) rfl (by kernel_rfl) (by kernel_rfl) (by kernel_rfl) (fun _ _ _ h => h) (Or.inl ⟨by rfl, ?_⟩) hHeld ?_
          rotate_left
          · (intro wa hSw; obtain ⟨hg, bx, hy, hm, hb⟩ := OS.out _ hSw; have l1 := bx.1; have l2 := hy.1; have d0 := bx.2 0 _ rfl; have d1 := bx.2 1 _ rfl; have d2 := bx.2 2 _ rfl; have d3 := bx.2 3 _ rfl; have d4 := bx.2 4 _ rfl; have d5 := bx.2 5 _ rfl; have d6 := bx.2 6 _ rfl; obtain ⟨c0, c1, c2, c3, c4, c5, c6⟩ := note_cells hy; have hlk := hm.run kInt Try.underlying59 Try.underlying3 (zPtrN wa) HWF.out; rw [HFJ.out, ptrV_nat] at hlk; go_simp; try with_reducible rfl)
          simp only [Act.put, List.getElem_toArray, List.getElem_cons_zero, List.getElem_cons_succ, List.setIfInBounds_toArray, List.set_cons_zero, List.set_cons_succ]
          refine wpAnyH_take (i := 2) (v := ?_) rfl (by kernel_rfl) (by kernel_rfl) (by kernel_rfl) (fun _ _ _ h => h) (Or.inl ⟨by rfl, ?_⟩) hHeld ?_
          rotate_left
          · (intro wa hSw; obtain ⟨hg, bx, hy, hm, hb⟩ := OS.out _ hSw; have l1 := bx.1; have l2 := hy.1; have d0 := bx.2 0 _ rfl; have d1 := bx.2 1 _ rfl; have d2 := bx.2 2 _ rfl; have d3 := bx.2 3 _ rfl; have d4 := bx.2 4 _ rfl; have d5 := bx.2 5 _ rfl; have d6 := bx.2 6 _ rfl; obtain ⟨c0, c1, c2, c3, c4, c5, c6⟩ := note_cells hy; have hlk := hm.run kInt Try.underlying59 Try.underlying3 (zPtrN wa) HWF.out; rw [HFJ.out, ptrV_nat] at hlk; go_simp; try with_reducible rfl)
          simp only [Act.put, List.getElem_toArray, List.getElem_cons_zero, List.getElem_cons_succ, List.setIfInBounds_toArray, List.set_cons_zero, List.set_cons_succ]
          refine wpAnyH_ready (rs := [3]) (by kernel_rfl) (by simp) ?_
          refine AllReadyH.cons (o := _) rfl (fun K hK => ?_) AllReadyH.nil
          go_simp
          obtain ⟨hg, bx, hy, hm, hb⟩ := OS.out _ hHeld
          refine (CN.out _ hg).mono ?_
          rintro e w101 ⟨rfl, b101⟩
          clear hg bx hy hm hb
          (try go_wp2_with fail)
          refine hK.out _ _ ?_ (fun hHeld101 => ?_)
          · exact KS.out _ _ hHeld b101
          clear hK K
          refine wpAnyH_take (i := 4) (v := ?_) rfl (by kernel_rfl) (by kernel_rfl) (by kernel_rfl) (fun _ _ _ h => h) (Or.inl ⟨by rfl, ?_⟩) hHeld101 ?_
          rotate_left
          · (intro wa hSw; obtain ⟨hg, bx, hy, hm, hb⟩ := OS.out _ hSw; have l1 := bx.1; have l2 := hy.1; have d0 := bx.2 0 _ rfl; have d1 := bx.2 1 _ rfl; have d2 := bx.2 2 _ rfl; have d3 := bx.2 3 _ rfl; have d4 := bx.2 4 _ rfl; have d5 := bx.2 5 _ rfl; have d6 := bx.2 6 _ rfl; obtain ⟨c0, c1, c2, c3, c4, c5, c6⟩ := note_cells hy; have hlk := hm.run kInt Try.underlying59 Try.underlying3 (zPtrN wa) HWF.out; rw [HFJ.out, ptrV_nat] at hlk; go_simp; try with_reducible rfl)
          simp only [Act.put, List.getElem_toArray, List.getElem_cons_zero, List.getElem_cons_succ, List.setIfInBounds_toArray, List.set_cons_zero, List.set_cons_succ]
          refine wpAnyH_take (i := 5) (v := ?_) rfl (by kernel_rfl) (by kernel_rfl) (by kernel_rfl) (fun _ _ _ h => h) (Or.inl ⟨by rfl, ?_⟩) hHeld101 ?_
          rotate_left
          · (intro wa hSw; obtain ⟨hg, bx, hy, hm, hb⟩ := OS.out _ hSw; have l1 := bx.1; have l2 := hy.1; have d0 := bx.2 0 _ rfl; have d1 := bx.2 1 _ rfl; have d2 := bx.2 2 _ rfl; have d3 := bx.2 3 _ rfl; have d4 := bx.2 4 _ rfl; have d5 := bx.2 5 _ rfl; have d6 := bx.2 6 _ rfl; obtain ⟨c0, c1, c2, c3, c4, c5, c6⟩ := note_cells hy; have hlk := hm.run kInt Try.underlying59 Try.underlying3 (zPtrN wa) HWF.out; rw [HFJ.out, ptrV_nat] at hlk; go_simp; try with_reducible rfl)
          simp only [Act.put, List.getElem_toArray, List.getElem_cons_zero, List.getElem_cons_succ, List.setIfInBounds_toArray, List.set_cons_zero, List.set_cons_succ]
          refine wpAnyH_take (i := 6) (v := ?_) rfl (by kernel_rfl) (by kernel_rfl) (by kernel_rfl) (fun _ _ _ h => h) (Or.inl ⟨by rfl, ?_⟩) hHeld101 ?_
          rotate_left
          · (intro wa hSw; obtain ⟨hg, bx, hy, hm, hb⟩ := OS.out _ hSw; have l1 := bx.1; have l2 := hy.1; have d0 := bx.2 0 _ rfl; have d1 := bx.2 1 _ rfl; have d2 := bx.2 2 _ rfl; have d3 := bx.2 3 _ rfl; have d4 := bx.2 4 _ rfl; have d5 := bx.2 5 _ rfl; have d6 := bx.2 6 _ rfl; obtain ⟨c0, c1, c2, c3, c4, c5, c6⟩ := note_cells hy; have hlk := hm.run kInt Try.underlying59 Try.underlying3 (zPtrN wa) HWF.out; rw [HFJ.out, ptrV_nat] at hlk; go_simp; try with_reducible rfl)
          simp only [Act.put, List.getElem_toArray, List.getElem_cons_zero, List.getElem_cons_succ, List.setIfInBounds_toArray, List.set_cons_zero, List.set_cons_succ]
          refine wpAnyH_take (i := 7) (v := ?_) rfl (by kernel_rfl) (by kernel_rfl) (by kernel_rfl) (fun _ _ _ h => h) (Or.inl ⟨by rfl, ?_⟩) hHeld101 ?_
          rotate_left
          · (intro wa hSw; obtain ⟨hg, bx, hy, hm, hb⟩ := OS.out _ hSw; have l1 := bx.1; have l2 := hy.1; have d0 := bx.2 0 _ rfl; have d1 := bx.2 1 _ rfl; have d2 := bx.2 2 _ rfl; have d3 := bx.2 3 _ rfl; have d4 := bx.2 4 _ rfl; have d5 := bx.2 5 _ rfl; have d6 := bx.2 6 _ rfl; obtain ⟨c0, c1, c2, c3, c4, c5, c6⟩ := note_cells hy; have hlk := hm.run kInt Try.underlying59 Try.underlying3 (zPtrN wa) HWF.out; rw [HFJ.out, ptrV_nat] at hlk; go_simp; try with_reducible rfl)
          simp only [Act.put, List.getElem_toArray, List.getElem_cons_zero, List.getElem_cons_succ, List.setIfInBounds_toArray, List.set_cons_zero, List.set_cons_succ]
          refine wpAnyH_take (i := 8) (v := ?_) rfl (by kernel_rfl) (by kernel_rfl) (by kernel_rfl) (fun _ _ _ h => h) (Or.inl ⟨by rfl, ?_⟩) hHeld101 ?_
          rotate_left
          · (intro wa hSw; obtain ⟨hg, bx, hy, hm, hb⟩ := OS.out _ hSw; have l1 := bx.1; have l2 := hy.1; have d0 := bx.2 0 _ rfl; have d1 := bx.2 1 _ rfl; have d2 := bx.2 2 _ rfl; have d3 := bx.2 3 _ rfl; have d4 := bx.2 4 _ rfl; have d5 := bx.2 5 _ rfl; have d6 := bx.2 6 _ rfl; obtain ⟨c0, c1, c2, c3, c4, c5, c6⟩ := note_cells hy; have hlk := hm.run kInt Try.underlying59 Try.underlying3 (zPtrN wa) HWF.out; rw [HFJ.out, ptrV_nat] at hlk; go_simp; try with_reducible rfl)
          simp only [Act.put, List.getElem_toArray, List.getElem_cons_zero, List.getElem_cons_succ, List.setIfInBounds_toArray, List.set_cons_zero, List.set_cons_succ]
          refine wpAnyH_take (i := 9) (v := ?_) rfl (by kernel_rfl) (by kernel_rfl) (by kernel_rfl) (fun _ _ _ h => h) (Or.inl ⟨by rfl, ?_⟩) hHeld101 ?_
          rotate_left
          · (intro wa hSw; obtain ⟨hg, bx, hy, hm, hb⟩ := OS.out _ hSw; have l1 := bx.1; have l2 := hy.1; have d0 := bx.2 0 _ rfl; have d1 := bx.2 1 _ rfl; have d2 := bx.2 2 _ rfl; have d3 := bx.2 3 _ rfl; have d4 := bx.2 4 _ rfl; have d5 := bx.2 5 _ rfl; have d6 := bx.2 6 _ rfl; obtain ⟨c0, c1, c2, c3, c4, c5, c6⟩ := note_cells hy; have hlk := hm.run kInt Try.underlying59 Try.underlying3 (zPtrN wa) HWF.out; rw [HFJ.out, ptrV_nat] at hlk; go_simp; try with_reducible rfl)
          simp only [Act.put, List.getElem_toArray, List.getElem_cons_zero, List.getElem_cons_succ, List.setIfInBounds_toArray, List.set_cons_zero, List.set_cons_succ]
          refine wpAnyH_take (i := 10) (v := ?_) rfl (by kernel_rfl) (by kernel_rfl) (by kernel_rfl) (fun _ _ _ h => h) (Or.inl ⟨by rfl, ?_⟩) hHeld101 ?_
          rotate_left
          · (intro wa hSw; obtain ⟨hg, bx, hy, hm, hb⟩ := OS.out _ hSw; have l1 := bx.1; have l2 := hy.1; have d0 := bx.2 0 _ rfl; have d1 := bx.2 1 _ rfl; have d2 := bx.2 2 _ rfl; have d3 := bx.2 3 _ rfl; have d4 := bx.2 4 _ rfl; have d5 := bx.2 5 _ rfl; have d6 := bx.2 6 _ rfl; obtain ⟨c0, c1, c2, c3, c4, c5, c6⟩ := note_cells hy; have hlk := hm.run kInt Try.underlying59 Try.underlying3 (zPtrN wa) HWF.out; rw [HFJ.out, ptrV_nat] at hlk; go_simp; try with_reducible rfl)
          simp only [Act.put, List.getElem_toArray, List.getElem_cons_zero, List.getElem_cons_succ, List.setIfInBounds_toArray, List.set_cons_zero, List.set_cons_succ]
          refine wpAnyH_take (i := 11) (v := ?_) rfl (by kernel_rfl) (by kernel_rfl) (by kernel_rfl) (fun _ _ _ h => h) (Or.inl ⟨by rfl, ?_⟩) hHeld101 ?_
          rotate_left
          · (intro wa hSw; obtain ⟨hg, bx, hy, hm, hb⟩ := OS.out _ hSw; have l1 := bx.1; have l2 := hy.1; have d0 := bx.2 0 _ rfl; have d1 := bx.2 1 _ rfl; have d2 := bx.2 2 _ rfl; have d3 := bx.2 3 _ rfl; have d4 := bx.2 4 _ rfl; have d5 := bx.2 5 _ rfl; have d6 := bx.2 6 _ rfl; obtain ⟨c0, c1, c2, c3, c4, c5, c6⟩ := note_cells hy; have hlk := hm.run kInt Try.underlying59 Try.underlying3 (zPtrN wa) HWF.out; rw [HFJ.out, ptrV_nat] at hlk; go_simp; try with_reducible rfl)
          simp only [Act.put, List.getElem_toArray, List.getElem_cons_zero, List.getElem_cons_succ, List.setIfInBounds_toArray, List.set_cons_zero, List.set_cons_succ]
          refine wpAnyH_take (i := 12) (v := ?_) rfl (by kernel_rfl) (by kernel_rfl) (by kernel_rfl) (fun _ _ _ h => h) (Or.inl ⟨by rfl, ?_⟩) hHeld101 ?_
          rotate_left
          · (intro wa hSw; obtain ⟨hg, bx, hy, hm, hb⟩ := OS.out _ hSw; have l1 := bx.1; have l2 := hy.1; have d0 := bx.2 0 _ rfl; have d1 := bx.2 1 _ rfl; have d2 := bx.2 2 _ rfl; have d3 := bx.2 3 _ rfl; have d4 := bx.2 4 _ rfl; have d5 := bx.2 5 _ rfl; have d6 := bx.2 6 _ rfl; obtain ⟨c0, c1, c2, c3, c4, c5, c6⟩ := note_cells hy; have hlk := hm.run kInt Try.underlying59 Try.underlying3 (zPtrN wa) HWF.out; rw [HFJ.out, ptrV_nat] at hlk; go_simp; try with_reducible rfl)
          simp only [Act.put, List.getElem_toArray, List.getElem_cons_zero, List.getElem_cons_succ, List.setIfInBounds_toArray, List.set_cons_zero, List.set_cons_succ]
          refine wpAnyH_take (i := 13) (v := ?_) rfl (by kernel_rfl) (by kernel_rfl) (by kernel_rfl) (fun _ _ _ h => h) (Or.inl ⟨by rfl, ?_⟩) hHeld101 ?_
          rotate_left
          · (intro wa hSw; obtain ⟨hg, bx, hy, hm, hb⟩ := OS.out _ hSw; have l1 := bx.1; have l2 := hy.1; have d0 := bx.2 0 _ rfl; have d1 := bx.2 1 _ rfl; have d2 := bx.2 2 _ rfl; have d3 := bx.2 3 _ rfl; have d4 := bx.2 4 _ rfl; have d5 := bx.2 5 _ rfl; have d6 := bx.2 6 _ rfl; obtain ⟨c0, c1, c2, c3, c4, c5, c6⟩ := note_cells hy; have hlk := hm.run kInt Try.underlying59 Try.underlying3 (zPtrN wa) HWF.out; rw [HFJ.out, ptrV_nat] at hlk; go_simp; try with_reducible rfl)
          simp only [Act.put, List.getElem_toArray, List.getElem_cons_zero, List.getElem_cons_succ, List.setIfInBounds_toArray, List.set_cons_zero, List.set_cons_succ]
          refine wpAnyH_take (i := 14) (v := ?_) rfl (by kernel_rfl) (by kernel_rfl) (by kernel_rfl) (fun _ _ _ h => h) (Or.inl ⟨by rfl, ?_⟩) hHeld101 ?_
          rotate_left
          · (intro wa hSw; obtain ⟨hg, bx, hy, hm, hb⟩ := OS.out _ hSw; have l1 := bx.1; have l2 := hy.1; have d0 := bx.2 0 _ rfl; have d1 := bx.2 1 _ rfl; have d2 := bx.2 2 _ rfl; have d3 := bx.2 3 _ rfl; have d4 := bx.2 4 _ rfl; have d5 := bx.2 5 _ rfl; have d6 := bx.2 6 _ rfl; obtain ⟨c0, c1, c2, c3, c4, c5, c6⟩ := note_cells hy; have hlk := hm.run kInt Try.underlying59 Try.underlying3 (zPtrN wa) HWF.out; rw [HFJ.out, ptrV_nat] at hlk; go_simp; try with_reducible rfl)
          simp only [Act.put, List.getElem_toArray, List.getElem_cons_zero, List.getElem_cons_succ, List.setIfInBounds_toArray, List.set_cons_zero, List.set_cons_succ]
          refine wpAnyH_done (by kernel_rfl) ?_ _
          obtain ⟨hg, bx, hy, hm, hb⟩ := OS.out _ hHeld101
          clear KS OS hHeld hHeld101
          go_wp2
          go_roundw
          case rel => exact ⟨q + 1, by omega, by go_num, HX.out, hm, hb⟩
          case measure => simp [intOf]; omega
        · obtain rfl := HN.out fun h => hxy h.2
          have hne := note_ne hxy
          clear HS HN HP hxy
          go_wp2
          clear c0 c1 c2 c3 c4 c5 c6
          rcases hne with f | f | f | f | f | f | f
          all_goals
            obtain ⟨S, HSd⟩ : ∃ S : World → Prop, S = fun w' => GameRow w' v m g ∧ BoxN w' wr.heap.size [.int .i64 x.serial, .int .i64 x.game, .int .i64 x.res.home, .int .i64 x.res.away, .int .i64 x.res.hg, .int .i64 x.res.ag, .int .i64 x.res.st] ∧ CellsAt w' B (O + j * 7) y.cells ∧ PtrMap Try.prog w' 3 B O M k (firstS ns k) ∧ Below w.heap.size w w' := ⟨_, rfl⟩
            have KS : Hid (∀ wa wb, S wa → Below wa.heap.size wa wb → S wb) := by subst HSd; exact fun wa wb ⟨hg, bx, hy, hm, hb⟩ b => ⟨hg.below b (Nat.le_refl _), bx.below b, hy.below b, hm.below b (Nat.le_refl _), hb.trans (b.mono hb.size)⟩
            have OS : Hid (∀ wa, S wa → GameRow wa v m g ∧ BoxN wa wr.heap.size [.int .i64 x.serial, .int .i64 x.game, .int .i64 x.res.home, .int .i64 x.res.away, .int .i64 x.res.hg, .int .i64 x.res.ag, .int .i64 x.res.st] ∧ CellsAt wa B (O + j * 7) y.cells ∧ PtrMap Try.prog wa 3 B O M k (firstS ns k) ∧ Below w.heap.size w wa) := by subst HSd; exact fun wa h => h
            have KS0 : Hid (S (wr.alloc (.cells #[.int .i64 x.serial, .int .i64 x.game, .int .i64 x.res.home, .int .i64 x.res.away, .int .i64 x.res.hg, .int .i64 x.res.ag, .int .i64 x.res.st] 33)).drew) := by subst HSd; exact (fun (b : Below wr.heap.size wr (wr.alloc (.cells #[.int .i64 x.serial, .int .i64 x.game, .int .i64 x.res.home, .int .i64 x.res.away, .int .i64 x.res.hg, .int .i64 x.res.ag, .int .i64 x.res.st] 33)).drew) => ⟨HG.out.below (hb.trans (b.mono hb.size)) (Nat.le_refl _), Lib.hid (BoxN.made (u := wr) (cs := #[.int .i64 x.serial, .int .i64 x.game, .int .i64 x.res.home, .int .i64 x.res.away, .int .i64 x.res.hg, .int .i64 x.res.ag, .int .i64 x.res.st]) (t := 33) (Below.refl _ _).drew rfl) |>.out, HQY.out.belowB b HQY.out.1, hm.below b (Nat.le_refl _), hb.trans (b.mono hb.size)⟩) ((Below.refl _ _).alloc (Nat.le_refl _) _).drew
            clear HSd
            go_wp2_with fail
            refine wp_region_held_drew (S := S) (by kernel_rfl) ?_ (fun hHeld => ?_)
            · exact KS0.out
            clear KS0 hm hb
            refine wpAnyH_take (i := 0) (v := ?_) rfl (by kernel_rfl) (by kernel_rfl) (by kernel_rfl) (fun _ _ _ h => h) (Or.inl ⟨by rfl, ?_⟩) hHeld ?_
            rotate_left
            · (intro wa hSw; obtain ⟨hg, bx, hy, hm, hb⟩ := OS.out _ hSw; have l1 := bx.1; have l2 := hy.1; have d0 := bx.2 0 _ rfl; have d1 := bx.2 1 _ rfl; have d2 := bx.2 2 _ rfl; have d3 := bx.2 3 _ rfl; have d4 := bx.2 4 _ rfl; have d5 := bx.2 5 _ rfl; have d6 := bx.2 6 _ rfl; obtain ⟨c0, c1, c2, c3, c4, c5, c6⟩ := note_cells hy; have hlk := hm.run kInt Try.underlying59 Try.underlying3 (zPtrN wa) HWF.out; rw [HFJ.out, ptrV_nat] at hlk; go_simp; try with_reducible rfl)
            simp only [Act.put, List.getElem_toArray, List.getElem_cons_zero, List.setIfInBounds_toArray, List.set_cons_zero, List.set_cons_succ]
            refine wpAnyH_take (i := 1) (v := ?_) rfl (by kernel_rfl) (by kernel_rfl) (by kernel_rfl) (fun _ _ _ h => h) (Or.inl ⟨by rfl, ?_⟩) hHeld ?_
            rotate_left
            · (intro wa hSw; obtain ⟨hg, bx, hy, hm, hb⟩ := OS.out _ hSw; have l1 := bx.1; have l2 := hy.1; have d0 := bx.2 0 _ rfl; have d1 := bx.2 1 _ rfl; have d2 := bx.2 2 _ rfl; have d3 := bx.2 3 _ rfl; have d4 := bx.2 4 _ rfl; have d5 := bx.2 5 _ rfl; have d6 := bx.2 6 _ rfl; obtain ⟨c0, c1, c2, c3, c4, c5, c6⟩ := note_cells hy; have hlk := hm.run kInt Try.underlying59 Try.underlying3 (zPtrN wa) HWF.out; rw [HFJ.out, ptrV_nat] at hlk; go_simp; try with_reducible rfl)
            simp only [Act.put, List.getElem_toArray, List.getElem_cons_zero, List.getElem_cons_succ, List.setIfInBounds_toArray, List.set_cons_zero, List.set_cons_succ]
            refine wpAnyH_take (i := 2) (v := ?_) rfl (by kernel_rfl) (by kernel_rfl) (by kernel_rfl) (fun _ _ _ h => h) (Or.inl ⟨by rfl, ?_⟩) hHeld ?_
            rotate_left
            · (intro wa hSw; obtain ⟨hg, bx, hy, hm, hb⟩ := OS.out _ hSw; have l1 := bx.1; have l2 := hy.1; have d0 := bx.2 0 _ rfl; have d1 := bx.2 1 _ rfl; have d2 := bx.2 2 _ rfl; have d3 := bx.2 3 _ rfl; have d4 := bx.2 4 _ rfl; have d5 := bx.2 5 _ rfl; have d6 := bx.2 6 _ rfl; obtain ⟨c0, c1, c2, c3, c4, c5, c6⟩ := note_cells hy; have hlk := hm.run kInt Try.underlying59 Try.underlying3 (zPtrN wa) HWF.out; rw [HFJ.out, ptrV_nat] at hlk; go_simp; try with_reducible rfl)
            simp only [Act.put, List.getElem_toArray, List.getElem_cons_zero, List.getElem_cons_succ, List.setIfInBounds_toArray, List.set_cons_zero, List.set_cons_succ]
            refine wpAnyH_ready (rs := [3]) (by kernel_rfl) (by simp) ?_
            refine AllReadyH.cons (o := _) rfl (fun K hK => ?_) AllReadyH.nil
            go_simp
            obtain ⟨hg, bx, hy, hm, hb⟩ := OS.out _ hHeld
            refine (CN.out _ hg).mono ?_
            rintro e w101 ⟨rfl, b101⟩
            clear hg bx hy hm hb
            (try go_wp2_with fail)
            refine hK.out _ _ ?_ (fun hHeld101 => ?_)
            · exact KS.out _ _ hHeld b101
            clear hK K
            refine wpAnyH_take (i := 4) (v := ?_) rfl (by kernel_rfl) (by kernel_rfl) (by kernel_rfl) (fun _ _ _ h => h) (Or.inl ⟨by rfl, ?_⟩) hHeld101 ?_
            rotate_left
            · (intro wa hSw; obtain ⟨hg, bx, hy, hm, hb⟩ := OS.out _ hSw; have l1 := bx.1; have l2 := hy.1; have d0 := bx.2 0 _ rfl; have d1 := bx.2 1 _ rfl; have d2 := bx.2 2 _ rfl; have d3 := bx.2 3 _ rfl; have d4 := bx.2 4 _ rfl; have d5 := bx.2 5 _ rfl; have d6 := bx.2 6 _ rfl; obtain ⟨c0, c1, c2, c3, c4, c5, c6⟩ := note_cells hy; have hlk := hm.run kInt Try.underlying59 Try.underlying3 (zPtrN wa) HWF.out; rw [HFJ.out, ptrV_nat] at hlk; go_simp; try with_reducible rfl)
            simp only [Act.put, List.getElem_toArray, List.getElem_cons_zero, List.getElem_cons_succ, List.setIfInBounds_toArray, List.set_cons_zero, List.set_cons_succ]
            refine wpAnyH_take (i := 5) (v := ?_) rfl (by kernel_rfl) (by kernel_rfl) (by kernel_rfl) (fun _ _ _ h => h) (Or.inl ⟨by rfl, ?_⟩) hHeld101 ?_
            rotate_left
            · (intro wa hSw; obtain ⟨hg, bx, hy, hm, hb⟩ := OS.out _ hSw; have l1 := bx.1; have l2 := hy.1; have d0 := bx.2 0 _ rfl; have d1 := bx.2 1 _ rfl; have d2 := bx.2 2 _ rfl; have d3 := bx.2 3 _ rfl; have d4 := bx.2 4 _ rfl; have d5 := bx.2 5 _ rfl; have d6 := bx.2 6 _ rfl; obtain ⟨c0, c1, c2, c3, c4, c5, c6⟩ := note_cells hy; have hlk := hm.run kInt Try.underlying59 Try.underlying3 (zPtrN wa) HWF.out; rw [HFJ.out, ptrV_nat] at hlk; go_simp; try with_reducible rfl)
            simp only [Act.put, List.getElem_toArray, List.getElem_cons_zero, List.getElem_cons_succ, List.setIfInBounds_toArray, List.set_cons_zero, List.set_cons_succ]
            refine wpAnyH_take (i := 6) (v := ?_) rfl (by kernel_rfl) (by kernel_rfl) (by kernel_rfl) (fun _ _ _ h => h) (Or.inl ⟨by rfl, ?_⟩) hHeld101 ?_
            rotate_left
            · (intro wa hSw; obtain ⟨hg, bx, hy, hm, hb⟩ := OS.out _ hSw; have l1 := bx.1; have l2 := hy.1; have d0 := bx.2 0 _ rfl; have d1 := bx.2 1 _ rfl; have d2 := bx.2 2 _ rfl; have d3 := bx.2 3 _ rfl; have d4 := bx.2 4 _ rfl; have d5 := bx.2 5 _ rfl; have d6 := bx.2 6 _ rfl; obtain ⟨c0, c1, c2, c3, c4, c5, c6⟩ := note_cells hy; have hlk := hm.run kInt Try.underlying59 Try.underlying3 (zPtrN wa) HWF.out; rw [HFJ.out, ptrV_nat] at hlk; go_simp; try with_reducible rfl)
            simp only [Act.put, List.getElem_toArray, List.getElem_cons_zero, List.getElem_cons_succ, List.setIfInBounds_toArray, List.set_cons_zero, List.set_cons_succ]
            refine wpAnyH_take (i := 7) (v := ?_) rfl (by kernel_rfl) (by kernel_rfl) (by kernel_rfl) (fun _ _ _ h => h) (Or.inl ⟨by rfl, ?_⟩) hHeld101 ?_
            rotate_left
            · (intro wa hSw; obtain ⟨hg, bx, hy, hm, hb⟩ := OS.out _ hSw; have l1 := bx.1; have l2 := hy.1; have d0 := bx.2 0 _ rfl; have d1 := bx.2 1 _ rfl; have d2 := bx.2 2 _ rfl; have d3 := bx.2 3 _ rfl; have d4 := bx.2 4 _ rfl; have d5 := bx.2 5 _ rfl; have d6 := bx.2 6 _ rfl; obtain ⟨c0, c1, c2, c3, c4, c5, c6⟩ := note_cells hy; have hlk := hm.run kInt Try.underlying59 Try.underlying3 (zPtrN wa) HWF.out; rw [HFJ.out, ptrV_nat] at hlk; go_simp; try with_reducible rfl)
            simp only [Act.put, List.getElem_toArray, List.getElem_cons_zero, List.getElem_cons_succ, List.setIfInBounds_toArray, List.set_cons_zero, List.set_cons_succ]
            refine wpAnyH_take (i := 8) (v := ?_) rfl (by kernel_rfl) (by kernel_rfl) (by kernel_rfl) (fun _ _ _ h => h) (Or.inl ⟨by rfl, ?_⟩) hHeld101 ?_
            rotate_left
            · (intro wa hSw; obtain ⟨hg, bx, hy, hm, hb⟩ := OS.out _ hSw; have l1 := bx.1; have l2 := hy.1; have d0 := bx.2 0 _ rfl; have d1 := bx.2 1 _ rfl; have d2 := bx.2 2 _ rfl; have d3 := bx.2 3 _ rfl; have d4 := bx.2 4 _ rfl; have d5 := bx.2 5 _ rfl; have d6 := bx.2 6 _ rfl; obtain ⟨c0, c1, c2, c3, c4, c5, c6⟩ := note_cells hy; have hlk := hm.run kInt Try.underlying59 Try.underlying3 (zPtrN wa) HWF.out; rw [HFJ.out, ptrV_nat] at hlk; go_simp; try with_reducible rfl)
            simp only [Act.put, List.getElem_toArray, List.getElem_cons_zero, List.getElem_cons_succ, List.setIfInBounds_toArray, List.set_cons_zero, List.set_cons_succ]
            refine wpAnyH_take (i := 9) (v := ?_) rfl (by kernel_rfl) (by kernel_rfl) (by kernel_rfl) (fun _ _ _ h => h) (Or.inl ⟨by rfl, ?_⟩) hHeld101 ?_
            rotate_left
            · (intro wa hSw; obtain ⟨hg, bx, hy, hm, hb⟩ := OS.out _ hSw; have l1 := bx.1; have l2 := hy.1; have d0 := bx.2 0 _ rfl; have d1 := bx.2 1 _ rfl; have d2 := bx.2 2 _ rfl; have d3 := bx.2 3 _ rfl; have d4 := bx.2 4 _ rfl; have d5 := bx.2 5 _ rfl; have d6 := bx.2 6 _ rfl; obtain ⟨c0, c1, c2, c3, c4, c5, c6⟩ := note_cells hy; have hlk := hm.run kInt Try.underlying59 Try.underlying3 (zPtrN wa) HWF.out; rw [HFJ.out, ptrV_nat] at hlk; go_simp; try with_reducible rfl)
            simp only [Act.put, List.getElem_toArray, List.getElem_cons_zero, List.getElem_cons_succ, List.setIfInBounds_toArray, List.set_cons_zero, List.set_cons_succ]
            refine wpAnyH_take (i := 10) (v := ?_) rfl (by kernel_rfl) (by kernel_rfl) (by kernel_rfl) (fun _ _ _ h => h) (Or.inl ⟨by rfl, ?_⟩) hHeld101 ?_
            rotate_left
            · (intro wa hSw; obtain ⟨hg, bx, hy, hm, hb⟩ := OS.out _ hSw; have l1 := bx.1; have l2 := hy.1; have d0 := bx.2 0 _ rfl; have d1 := bx.2 1 _ rfl; have d2 := bx.2 2 _ rfl; have d3 := bx.2 3 _ rfl; have d4 := bx.2 4 _ rfl; have d5 := bx.2 5 _ rfl; have d6 := bx.2 6 _ rfl; obtain ⟨c0, c1, c2, c3, c4, c5, c6⟩ := note_cells hy; have hlk := hm.run kInt Try.underlying59 Try.underlying3 (zPtrN wa) HWF.out; rw [HFJ.out, ptrV_nat] at hlk; go_simp; try with_reducible rfl)
            simp only [Act.put, List.getElem_toArray, List.getElem_cons_zero, List.getElem_cons_succ, List.setIfInBounds_toArray, List.set_cons_zero, List.set_cons_succ]
            refine wpAnyH_take (i := 11) (v := ?_) rfl (by kernel_rfl) (by kernel_rfl) (by kernel_rfl) (fun _ _ _ h => h) (Or.inl ⟨by rfl, ?_⟩) hHeld101 ?_
            rotate_left
            · (intro wa hSw; obtain ⟨hg, bx, hy, hm, hb⟩ := OS.out _ hSw; have l1 := bx.1; have l2 := hy.1; have d0 := bx.2 0 _ rfl; have d1 := bx.2 1 _ rfl; have d2 := bx.2 2 _ rfl; have d3 := bx.2 3 _ rfl; have d4 := bx.2 4 _ rfl; have d5 := bx.2 5 _ rfl; have d6 := bx.2 6 _ rfl; obtain ⟨c0, c1, c2, c3, c4, c5, c6⟩ := note_cells hy; have hlk := hm.run kInt Try.underlying59 Try.underlying3 (zPtrN wa) HWF.out; rw [HFJ.out, ptrV_nat] at hlk; go_simp; try with_reducible rfl)
            simp only [Act.put, List.getElem_toArray, List.getElem_cons_zero, List.getElem_cons_succ, List.setIfInBounds_toArray, List.set_cons_zero, List.set_cons_succ]
            refine wpAnyH_take (i := 12) (v := ?_) rfl (by kernel_rfl) (by kernel_rfl) (by kernel_rfl) (fun _ _ _ h => h) (Or.inl ⟨by rfl, ?_⟩) hHeld101 ?_
            rotate_left
            · (intro wa hSw; obtain ⟨hg, bx, hy, hm, hb⟩ := OS.out _ hSw; have l1 := bx.1; have l2 := hy.1; have d0 := bx.2 0 _ rfl; have d1 := bx.2 1 _ rfl; have d2 := bx.2 2 _ rfl; have d3 := bx.2 3 _ rfl; have d4 := bx.2 4 _ rfl; have d5 := bx.2 5 _ rfl; have d6 := bx.2 6 _ rfl; obtain ⟨c0, c1, c2, c3, c4, c5, c6⟩ := note_cells hy; have hlk := hm.run kInt Try.underlying59 Try.underlying3 (zPtrN wa) HWF.out; rw [HFJ.out, ptrV_nat] at hlk; go_simp; try with_reducible rfl)
            simp only [Act.put, List.getElem_toArray, List.getElem_cons_zero, List.getElem_cons_succ, List.setIfInBounds_toArray, List.set_cons_zero, List.set_cons_succ]
            refine wpAnyH_take (i := 13) (v := ?_) rfl (by kernel_rfl) (by kernel_rfl) (by kernel_rfl) (fun _ _ _ h => h) (Or.inl ⟨by rfl, ?_⟩) hHeld101 ?_
            rotate_left
            · (intro wa hSw; obtain ⟨hg, bx, hy, hm, hb⟩ := OS.out _ hSw; have l1 := bx.1; have l2 := hy.1; have d0 := bx.2 0 _ rfl; have d1 := bx.2 1 _ rfl; have d2 := bx.2 2 _ rfl; have d3 := bx.2 3 _ rfl; have d4 := bx.2 4 _ rfl; have d5 := bx.2 5 _ rfl; have d6 := bx.2 6 _ rfl; obtain ⟨c0, c1, c2, c3, c4, c5, c6⟩ := note_cells hy; have hlk := hm.run kInt Try.underlying59 Try.underlying3 (zPtrN wa) HWF.out; rw [HFJ.out, ptrV_nat] at hlk; go_simp; try with_reducible rfl)
            simp only [Act.put, List.getElem_toArray, List.getElem_cons_zero, List.getElem_cons_succ, List.setIfInBounds_toArray, List.set_cons_zero, List.set_cons_succ]
            refine wpAnyH_take (i := 14) (v := ?_) rfl (by kernel_rfl) (by kernel_rfl) (by kernel_rfl) (fun _ _ _ h => h) (Or.inl ⟨by rfl, ?_⟩) hHeld101 ?_
            rotate_left
            · (intro wa hSw; obtain ⟨hg, bx, hy, hm, hb⟩ := OS.out _ hSw; have l1 := bx.1; have l2 := hy.1; have d0 := bx.2 0 _ rfl; have d1 := bx.2 1 _ rfl; have d2 := bx.2 2 _ rfl; have d3 := bx.2 3 _ rfl; have d4 := bx.2 4 _ rfl; have d5 := bx.2 5 _ rfl; have d6 := bx.2 6 _ rfl; obtain ⟨c0, c1, c2, c3, c4, c5, c6⟩ := note_cells hy; have hlk := hm.run kInt Try.underlying59 Try.underlying3 (zPtrN wa) HWF.out; rw [HFJ.out, ptrV_nat] at hlk; go_simp; try with_reducible rfl)
            simp only [Act.put, List.getElem_toArray, List.getElem_cons_zero, List.getElem_cons_succ, List.setIfInBounds_toArray, List.set_cons_zero, List.set_cons_succ]
            refine wpAnyH_done (by kernel_rfl) ?_ _
            obtain ⟨hg, bx, hy, hm, hb⟩ := OS.out _ hHeld101
            clear KS OS hHeld hHeld101
  
            go_wp2
            go_ret
            exact ⟨rfl, hb⟩
    · obtain rfl : q = k := by omega
      obtain rfl := HYES.out fun i hi => ⟨(hok.out i hi).1, fun j hj e => by
        rw [(hok.out i hi).2, (hok.out j (by omega)).2, e]⟩
      have hb := hb'.out
      clear HNO HYES hok HF HAT
      go_wp2
      go_ret
      exact ⟨rfl, hb⟩
end Go.Proofs.Ytlahjaakegdigaa
