/-
  Packed: CalImplA, CalDoor.
-/
import Derived.Test.YtcbpgbiannpfpaaDoorQ6
import Derived.Test.YtcbpgbiannpfpaaDoorQ9
import Derived.Test.YtcbpgbiannpfpaaDoorQ10
import Derived.Test.YtcbpgbiannpfpaaDoorQ11
import Derived.Test.YtcbpgbiannpfpaaDoorQ13
set_option linter.unusedVariables false
namespace Go.Proofs.YtcbpgbiannpfpaaDoor
open Go.RowKit

set_option maxRecDepth 100000 in
set_option maxHeartbeats 4000000 in
theorem isPlannable_impl (n : Int) (vr vd : Value) (rest : Int) (vc : Value) (D : List PairL) (L : List Int) (C : ClosL) (R : Bool) (w : World) (hR : R = true ↔ seaP n D L rest C)
    (hr : RdA tPairSS w [vr] D) (hd : IntRow w vd L.length (getI L)) (hc : RdA tClosedS w [vc] C) (hw : tPairSS.wt D ≤ 1048576) :
    Calls Tryd.prog 25 #[.int .i64 n, .agg #[vr, vd, .int .i64 rest, vc]] w fun e w' => e = .returned (.bool R) ∧ Below w.heap.size w w' := by
  obtain ⟨ra, rc, rfl, hrn⟩ := schedule_form hr
  obtain ⟨da, dc, rfl, hdn, _⟩ := hd.form
  obtain ⟨ca, cc, rfl, hcn⟩ := clos_form hc
  obtain ⟨nr, hnr⟩ : ∃ nr, List.length (α := PairL) D = nr := ⟨_, rfl⟩
  obtain ⟨nd, hnd⟩ : ∃ nd, L.length = nd := ⟨_, rfl⟩
  obtain ⟨nc, hnc⟩ : ∃ nc, List.length (α := tClosed.D) C = nc := ⟨_, rfl⟩
  obtain ⟨r1, hr1⟩ := boolEx (schedP n D)
  obtain ⟨r2, hr2⟩ := boolEx (closedP n C)
  obtain ⟨r3, hr3⟩ := boolEx (L.length ≤ 30 ∧ daysP L)
  obtain ⟨U, hU⟩ : ∃ U, w.alloc (.cells #[.slice ra nr rc, .slice da nd dc, .int .i64 rest, .slice ca nc cc] 27) = U := ⟨_, rfl⟩
  have CS := Lib.hid (fun wa h => isSchedule_impl (.slice ra (List.length (α := PairL) D) rc) D n r1 wa hr1 h hw)
  have CC := Lib.hid (fun wa h => closedOk_impl n (.slice ca (List.length (α := tClosed.D) C) cc) C r2 wa hr2 h)
  have CA := Lib.hid (fun wa h => areDays_impl (.slice da L.length dc) L r3 wa hr3 h)
  have HQ : Hid (R = true ↔ r1 = true ∧ r2 = true ∧ r3 = true ∧ (1 ≤ rest ∧ rest ≤ 60)) := by
    refine hR.trans ?_
    unfold seaP
    rw [hr1, hr2, hr3]
    exact ⟨fun h => ⟨h.1, h.2.1, ⟨h.2.2.1, h.2.2.2.2⟩, h.2.2.2.1⟩, fun h => ⟨h.1, h.2.1, h.2.2.1.1, h.2.2.2, h.2.2.1.2⟩⟩
  rw [hnr] at hr CS ⊢
  rw [hnd] at hd hdn CA ⊢
  rw [hnc] at hc hcn CC ⊢
  have HS : Hid (SeaAt U w.heap.size ra nr rc da nd dc rest ca nc cc D L C) := by rw [← hU]; exact SeaAt.made hr hd hc
  have HB : Hid (Below w.heap.size w U) := by rw [← hU]; exact (Below.refl _ _).alloc (Nat.le_refl _) _
  clear hr hd hc hR hw hnr hnd hnc hrn hcn hr1 hr2 hr3
  have HF : Hid (¬ (r1 = true ∧ r2 = true ∧ r3 = true ∧ (1 ≤ rest ∧ rest ≤ 60)) → R = false) := boolF HQ.out
  have HT : Hid ((r1 = true ∧ r2 = true ∧ r3 = true ∧ (1 ≤ rest ∧ rest ≤ 60)) → R = true) := boolT HQ.out
  clear HQ
  go_enter Tryd.func25, Tryd.ntmps25
  obtain ⟨c0, c1, c2, c3⟩ := HS.out.cells
  go_wp2_with fail
  clear hU
  refine (CS.out _ HS.out.2.1).mono ?_
  rintro e w1 ⟨rfl, b⟩
  have HS1 := Lib.hid (HS.out.below b)
  have HB1 := Lib.hid (HB.out.trans (b.mono HB.out.size))
  clear b c0 c1 c2 c3 HS HB
  obtain ⟨c0, c1, c2, c3⟩ := HS1.out.cells
  cases r1 with
  | false =>
    obtain rfl := HF.out (fun h => by have := h.1; cases this)
    go_wp2
    go_ret
    exact ⟨rfl, HB1.out⟩
  | true =>
  go_wp2_with fail
  refine (CC.out _ HS1.out.2.2.2).mono ?_
  rintro e w2 ⟨rfl, b⟩
  have HS2 := Lib.hid (HS1.out.below b)
  have HB2 := Lib.hid (HB1.out.trans (b.mono HB1.out.size))
  clear b c0 c1 c2 c3 HS1 HB1
  obtain ⟨c0, c1, c2, c3⟩ := HS2.out.cells
  cases r2 with
  | false =>
    obtain rfl := HF.out (fun h => by have := h.2.1; cases this)
    go_wp2
    go_ret
    exact ⟨rfl, HB2.out⟩
  | true =>
  go_wp2_with fail
  refine (CA.out _ HS2.out.2.2.1).mono ?_
  rintro e w3 ⟨rfl, b⟩
  have HS3 := Lib.hid (HS2.out.below b)
  have HB3 := Lib.hid (HB2.out.trans (b.mono HB2.out.size))
  clear b c0 c1 c2 c3 HS2 HB2
  obtain ⟨c0, c1, c2, c3⟩ := HS3.out.cells
  cases r3 with
  | false =>
    obtain rfl := HF.out (fun h => by have := h.2.2.1; cases this)
    go_wp2
    go_ret
    exact ⟨rfl, HB3.out⟩
  | true =>
  by_cases h1 : 1 ≤ rest
  case neg =>
    obtain rfl := HF.out (fun h => h1 h.2.2.2.1)
    have g1 : decide (1 ≤ rest) = false := decide_eq_false h1
    clear HT HF
    go_wp2
    go_ret
    exact ⟨rfl, HB3.out⟩
  have g1 : decide (1 ≤ rest) = true := decide_eq_true h1
  by_cases h2 : rest ≤ 60
  case neg =>
    obtain rfl := HF.out (fun h => h2 h.2.2.2.2)
    have g2 : decide (rest ≤ 60) = false := decide_eq_false h2
    clear HT HF
    go_wp2
    go_ret
    exact ⟨rfl, HB3.out⟩
  have g2 : decide (rest ≤ 60) = true := decide_eq_true h2
  obtain rfl := HT.out (by refine ⟨?_, ?_, ?_, h1, h2⟩ <;> first | rfl | trivial)
  clear HT HF
  go_wp2
  go_ret
  exact ⟨rfl, HB3.out⟩

set_option maxRecDepth 100000 in
set_option maxHeartbeats 4000000 in
theorem isCalendar_impl (n : Int) (vr vd : Value) (rest : Int) (vc : Value) (D : List PairL) (L : List Int) (C : ClosL) (vt : Value) (T : List Int) (R : Bool) (w : World) (hR : R = true ↔ calP n D L rest C T)
    (hr : RdA tPairSS w [vr] D) (hd : IntRow w vd L.length (getI L)) (hc : RdA tClosedS w [vc] C) (ht : IntRow w vt T.length (getI T)) (hw : tPairSS.wt D ≤ 1048576) :
    Calls Tryd.prog 12 #[.int .i64 n, .agg #[vr, vd, .int .i64 rest, vc], vt] w fun e w' => e = .returned (.bool R) ∧ Below w.heap.size w w' := by
  obtain ⟨ra, rc, rfl, hrn⟩ := schedule_form hr
  obtain ⟨da, dc, rfl, hdn, _⟩ := hd.form
  obtain ⟨ca, cc, rfl, hcn⟩ := clos_form hc
  obtain ⟨nr, hnr⟩ : ∃ nr, List.length (α := PairL) D = nr := ⟨_, rfl⟩
  obtain ⟨nd, hnd⟩ : ∃ nd, L.length = nd := ⟨_, rfl⟩
  obtain ⟨nc, hnc⟩ : ∃ nc, List.length (α := tClosed.D) C = nc := ⟨_, rfl⟩
  obtain ⟨ta, tc, rfl, htn, _⟩ := ht.form
  obtain ⟨nt, hnt⟩ : ∃ nt, T.length = nt := ⟨_, rfl⟩
  obtain ⟨r1, hr1⟩ := boolEx (seaP n D L rest C)
  obtain ⟨U, hU⟩ : ∃ U, w.alloc (.cells #[.slice ra nr rc, .slice da nd dc, .int .i64 rest, .slice ca nc cc] 27) = U := ⟨_, rfl⟩
  have bU : Below w.heap.size w U := by rw [← hU]; exact (Below.refl _ _).alloc (Nat.le_refl _) _
  have CS := Lib.hid (isPlannable_impl n _ _ rest _ D L C r1 U hr1 (hr.below bU) (hd.below bU (Nat.le_refl _)) (hc.below bU) hw)
  have HN := Lib.hid (boolF hR)
  have HY := Lib.hid (boolT hR)
  have HNR := Lib.hid hnr
  have HNT := Lib.hid hnt
  have HND := Lib.hid hnd
  rw [hnr] at hr CS ⊢
  rw [hnd] at hd hdn CS ⊢
  rw [hnc] at hc hcn CS ⊢
  rw [hnt] at ht htn ⊢
  have HS : Hid (SeaAt U w.heap.size ra nr rc da nd dc rest ca nc cc D L C) := by rw [← hU]; exact SeaAt.made hr hd hc
  have HB := Lib.hid bU
  have HT := Lib.hid (ht.below bU (Nat.le_refl _))
  have HR1 := Lib.hid hr1
  clear hr hd hc hR hw hnr hnd hnc ht hnt hrn hcn bU hr1
  obtain ⟨c0, c1, c2, c3⟩ := HS.out.cells
  go_enter Tryd.func12, Tryd.ntmps12
  go_wp2_with fail
  clear hU
  refine CS.out.mono ?_
  rintro e w1 ⟨rfl, b⟩
  have HS1 := Lib.hid (HS.out.below b)
  have HT1 := Lib.hid (HT.out.below b (Nat.le_refl _))
  have HB1 := Lib.hid (HB.out.trans (b.mono HB.out.size))
  clear b c0 c1 c2 c3 HS HB HT CS
  obtain ⟨c0, c1, c2, c3⟩ := HS1.out.cells
  cases r1 with
  | false =>
    obtain rfl := HN.out (fun h => by have := HR1.out.2 h.1; cases this)
    go_wp2
    go_ret
    exact ⟨rfl, HB1.out⟩
  | true =>
  by_cases hne : nt = nr
  case neg =>
    obtain rfl := HN.out (fun h => hne (by have := h.2.1; rw [HNT.out, HNR.out] at this; exact this))
    have g1 : ((nt : Int) != (nr : Int)) = true := by simp; omega
    go_wp2
    go_ret
    exact ⟨rfl, HB1.out⟩
  subst hne
  have HSea : Hid (seaP n D L rest C) := HR1.out.1 (by first | rfl | trivial)
  have HRS : Hid (1 ≤ rest ∧ rest ≤ 60) := HSea.out.2.2.2.1
  have HDY : Hid (∀ x ∈ L, 0 ≤ x ∧ x ≤ 60) := fun x hx => by
    obtain ⟨i, hi⟩ := List.mem_iff_getElem?.1 hx
    have hil := (List.getElem?_eq_some_iff.1 hi).1
    have h9 := (HSea.out.2.2.2.2 i hil).1
    have e : getI L i = x := by unfold getI; rw [List.getD_eq_getElem?_getD, hi]; rfl
    rw [e] at h9
    exact h9
  have HAS : Hid (AscL L) := days_asc HSea.out.2.2.2.2
  have HNo : Hid (¬ datesP D L rest C T nt → R = false) := fun h => HN.out fun hp => h (by have := hp.2.2; rw [HNT.out] at this; exact this)
  have HYes : Hid (datesP D L rest C T nt → R = true) := fun h => HY.out ⟨HSea.out, by rw [HNT.out, HNR.out], by rw [HNT.out]; exact h⟩
  have HD1 : Hid (IntRow w1 (.slice da nd dc) L.length (getI L)) := by rw [HND.out]; exact HS1.out.2.2.1
  have hd30 : L.length ≤ 30 := HSea.out.2.2.1
  have HD30 := Lib.hid hd30
  clear HN HY HR1 hd30
  go_wp2
  clear c0 c1 c2 c3
  go_loopw [7, 26] (fun sv iv wr => ∃ (k : Nat) (vd' : Value) (Ld : List Int), k ≤ nt ∧ vd' = sv ∧ iv = .int .i64 k ∧ Hid (AscL Ld ∧ Ld.length ≤ 30 ∧ ∀ x, x ∈ Ld ↔ x ∈ L ∧ (0 < k → getI T (k - 1) + rest ≤ x)) ∧ Hid (IntRow wr vd' Ld.length (getI Ld)) ∧ Hid (datesP D L rest C T k) ∧ Hid (SeaAt wr w.heap.size ra nt rc da nd dc rest ca nc cc D L C) ∧ Hid (IntRow wr (.slice ta nt tc) nt (getI T)) ∧ Hid (Below w.heap.size w wr)) (fun _ iv _ => nt - (RowKit.intOf iv).toNat)
  case atStart => exact ⟨0, _, L, Nat.zero_le _, rfl, rfl, ⟨HAS.out, HD30.out, fun x => ⟨fun h => ⟨h, fun h0 => absurd h0 (Nat.lt_irrefl _)⟩, fun h => h.1⟩⟩, HD1, fun i hi => absurd hi (Nat.not_lt_zero _), HS1, HT1, HB1⟩
  case round =>
    clear HS1 HT1 HB1 HD1 HAS
    obtain ⟨k, vd', Ld, hk9, rfl, rfl, HLD, HD, HV, HS, HT, HB⟩ := hrel
    by_cases hlt : k < nt
    · obtain ⟨tb, to, hta, hcap, q0⟩ := int_at HT.out hlt
      subst hta
      obtain ⟨rr, hrr⟩ : ∃ rr : PairL, D[k]? = some rr := ⟨_, List.getElem?_eq_getElem (by rw [HNR.out]; exact hlt)⟩
      obtain ⟨rb, ro, xa, xc, hra, hcap2, hq, hrd, hx63⟩ := round_cells (by rw [HNR.out]; exact HS.out.2.1) hrr
      subst hra
      rw [HNR.out] at hcap2
      have hat : atR D k = rr := by unfold atR; rw [hrr]; rfl
      have hj1 : (k : Int) < (nt : Int) := by omega
      have HVN : Hid ((getI T k ∈ Ld ∧ playB rr (getI T k) C = true) → datesP D L rest C T (k + 1)) := fun h i hi => by
        by_cases e : i = k
        · subst e; rw [hat]; exact ⟨((HLD.out.2.2 _).1 h.1).1, ((HLD.out.2.2 _).1 h.1).2, h.2⟩
        · exact HV.out i (by omega)
      have HF : Hid (¬ (getI T k ∈ Ld ∧ playB rr (getI T k) C = true) → R = false) := fun h => HNo.out fun hp => h (by have := hp k hlt; rw [hat] at this; exact ⟨(HLD.out.2.2 _).2 ⟨this.1, this.2.1⟩, this.2.2⟩)
      have CP : Hid (∀ wa, RdA tPairS wa [.slice xa (List.length (α := tPair.D) rr) xc] rr → RdA tClosedS wa [.slice ca nc cc] C → Calls Tryd.prog 35 #[.slice xa (List.length (α := tPair.D) rr) xc, .int .i64 (getI T k), .slice ca nc cc] wa fun e w' => e = .returned (.bool (playB rr (getI T k) C)) ∧ Below wa.heap.size wa w') := fun wa h1 h2 => canPlayOn_impl _ rr (getI T k) _ C wa h1 h2
      have CF : Hid (∀ wa, IntRow wa vd' Ld.length (getI Ld) → Calls Tryd.prog 28 #[vd', .int .i64 (getI T k + rest)] wa fun e w' => (∃ v2, e = .returned v2 ∧ IntRow w' v2 (fromL (getI T k + rest) Ld).length (getI (fromL (getI T k + rest) Ld))) ∧ Below wa.heap.size wa w') := fun wa h => (daysFrom_impl vd' Ld (getI T k + rest) wa h HLD.out.1 (by have := HLD.out.2.1; omega)).mono fun e w' h9 => ⟨⟨_, h9.1, (subV_from h HLD.out.1 _).below h9.2 (Nat.le_refl _)⟩, h9.2⟩
      have HLN : Hid (getI T k ∈ Ld → (AscL (fromL (getI T k + rest) Ld) ∧ (fromL (getI T k + rest) Ld).length ≤ 30 ∧ ∀ x, x ∈ fromL (getI T k + rest) Ld ↔ x ∈ L ∧ (0 < k + 1 → getI T (k + 1 - 1) + rest ≤ x))) := fun hm => ⟨asc_from _ HLD.out.1, Nat.le_trans (List.length_filter_le _ _) HLD.out.2.1, fun x => by
        unfold fromL
        rw [List.mem_filter, decide_eq_true_eq, HLD.out.2.2, Nat.add_sub_cancel]
        have h9 := (HLD.out.2.2 _).1 hm
        have h8 := HRS.out
        constructor
        · rintro ⟨⟨h1, _⟩, h3⟩; exact ⟨h1, fun _ => h3⟩
        · rintro ⟨h1, h3⟩
          have h3 := h3 (Nat.succ_pos _)
          exact ⟨⟨h1, fun h0 => by have := h9.2 h0; omega⟩, h3⟩⟩
      obtain ⟨xn, hxn⟩ : ∃ xn, List.length (α := tPair.D) rr = xn := ⟨_, rfl⟩
      rw [hxn] at hq hrd hx63 CP
      have HC2 := Lib.hid hq
      have HRR := Lib.hid hrd
      obtain ⟨rh, hrh⟩ := boolEx (getI T k ∈ Ld)
      have CH : Hid (∀ wa, IntRow wa vd' Ld.length (getI Ld) → Calls Tryd.prog 34 #[vd', .int .i64 (getI T k)] wa fun e w' => e = .returned (.bool rh) ∧ Below wa.heap.size wa w') := fun wa h => (slicesContains_int vd' _ _ _ rh wa (hrh.trans (hasP_mem Ld _).symm) h).mono fun e w' h => ⟨h.1, by rw [← h.2]; exact Below.refl _ _⟩
      have HRH := Lib.hid hrh
      have HMD : Hid (getI T k ∈ Ld → 0 ≤ getI T k ∧ getI T k ≤ 60) := fun h => HDY.out _ ((HLD.out.2.2 _).1 h).1
      clear hrr hat hxn hq hrd hrh HV HLD
      cases rh with
      | false =>
        obtain rfl := HF.out (fun h => by have := HRH.out.2 h.1; cases this)
        clear HF HVN HRH HLN CF CP HMD
        generalize getI T k = x at *
        obtain ⟨S, HSd⟩ : ∃ S : World → Prop, S = fun w' => (SeaAt w' w.heap.size (some ⟨rb, ro, none⟩) nt rc da nd dc rest ca nc cc D L C ∧ IntRow w' vd' Ld.length (getI Ld) ∧ w'.cell? ⟨rb, ro + k, none⟩ = some (.slice xa xn xc) ∧ RdA tPairS w' [.slice xa xn xc] rr ∧ IntRow w' (.slice (some ⟨tb, to, none⟩) nt tc) nt (getI T) ∧ Below w.heap.size w w') := ⟨_, rfl⟩
        have KS : Hid (∀ wa wb, S wa → Below wa.heap.size wa wb → S wb) := by subst HSd; exact fun wa wb h b => ⟨h.1.below b, h.2.1.below b (Nat.le_refl _), (b.cell (p := ⟨rb, ro + k, none⟩) (World.block_lt_of_cell? wa _ h.2.2.1)).trans h.2.2.1, h.2.2.2.1.below b, h.2.2.2.2.1.below b (Nat.le_refl _), h.2.2.2.2.2.trans (b.mono h.2.2.2.2.2.size)⟩
        have OS : Hid (∀ wa, S wa → (SeaAt wa w.heap.size (some ⟨rb, ro, none⟩) nt rc da nd dc rest ca nc cc D L C ∧ IntRow wa vd' Ld.length (getI Ld) ∧ wa.cell? ⟨rb, ro + k, none⟩ = some (.slice xa xn xc) ∧ RdA tPairS wa [.slice xa xn xc] rr ∧ IntRow wa (.slice (some ⟨tb, to, none⟩) nt tc) nt (getI T) ∧ Below w.heap.size w wa)) := by subst HSd; exact fun wa h => h
        have IS : Hid (∀ wa, (SeaAt wa w.heap.size (some ⟨rb, ro, none⟩) nt rc da nd dc rest ca nc cc D L C ∧ IntRow wa vd' Ld.length (getI Ld) ∧ wa.cell? ⟨rb, ro + k, none⟩ = some (.slice xa xn xc) ∧ RdA tPairS wa [.slice xa xn xc] rr ∧ IntRow wa (.slice (some ⟨tb, to, none⟩) nt tc) nt (getI T) ∧ Below w.heap.size w wa) → S wa) := by subst HSd; exact fun wa h => h
        clear HSd
        go_wp2_with fail
        refine wp_region_held_drew (S := S) (by kernel_rfl) ?_ (fun hHeld => ?_)
        · exact IS.out _ ((fun (b : Below wr.heap.size wr wr.drew) => ⟨HS.out.below b, HD.out.below b (Nat.le_refl _), (b.cell (p := ⟨rb, ro + k, none⟩) (World.block_lt_of_cell? wr _ HC2.out)).trans HC2.out, HRR.out.below b, HT.out.below b (Nat.le_refl _), HB.out.trans (b.mono HB.out.size)⟩) (Below.refl _ _).drew)
        refine wpAnyH_take (i := 0) (v := ?_) rfl (by kernel_rfl) (by kernel_rfl) (by kernel_rfl) (fun _ _ _ h => h) (Or.inl ⟨by rfl, ?_⟩) hHeld ?_
        rotate_left
        · (intro wa hSw; go_simp; try with_reducible rfl)
        simp only [Act.put, List.getElem_toArray, List.getElem_cons_zero, List.setIfInBounds_toArray, List.set_cons_zero, List.set_cons_succ]
        refine wpAnyH_take (i := 1) (v := ?_) rfl (by kernel_rfl) (by kernel_rfl) (by kernel_rfl) (fun _ _ _ h => h) (Or.inl ⟨by rfl, ?_⟩) hHeld ?_
        rotate_left
        · (intro wa hSw; go_simp; try with_reducible rfl)
        simp only [Act.put, List.getElem_toArray, List.getElem_cons_zero, List.getElem_cons_succ, List.setIfInBounds_toArray, List.set_cons_zero, List.set_cons_succ]
        refine wpAnyH_ready (rs := [2]) (by kernel_rfl) (by simp) ?_
        refine AllReadyH.cons (o := _) rfl (fun K hK => ?_) AllReadyH.nil
        go_simp
        have KK := OS.out _ hHeld
        refine (CH.out _ KK.2.1).mono ?_
        rintro e w101 ⟨rfl, b101⟩
        clear KK
        (try go_wp2_with fail)
        refine hK.out _ _ ?_ (fun hHeld101 => ?_)
        · exact KS.out _ _ hHeld b101
        clear hK K
        refine wpAnyH_take (i := 3) (v := ?_) rfl (by kernel_rfl) (by kernel_rfl) (by kernel_rfl) (fun _ _ _ h => h) (Or.inl ⟨by rfl, ?_⟩) hHeld101 ?_
        rotate_left
        · (intro wa hSw; go_simp; try with_reducible rfl)
        simp only [Act.put, List.getElem_toArray, List.getElem_cons_zero, List.getElem_cons_succ, List.setIfInBounds_toArray, List.set_cons_zero, List.set_cons_succ]
        refine wpAnyH_take (i := 4) (v := ?_) rfl (by kernel_rfl) (by kernel_rfl) (by kernel_rfl) (fun _ _ _ h => h) (Or.inl ⟨by rfl, ?_⟩) hHeld101 ?_
        rotate_left
        · (intro wa hSw; go_simp; try with_reducible rfl)
        simp only [Act.put, List.getElem_toArray, List.getElem_cons_zero, List.getElem_cons_succ, List.setIfInBounds_toArray, List.set_cons_zero, List.set_cons_succ]
        refine wpAnyH_take (i := 5) (v := undef) rfl (by kernel_rfl) (by kernel_rfl) (by kernel_rfl) (fun _ _ _ h => h) (Or.inr ⟨by rfl, rfl⟩) hHeld101 ?_
        simp only [Act.put, List.getElem_toArray, List.getElem_cons_zero, List.getElem_cons_succ, List.setIfInBounds_toArray, List.set_cons_zero, List.set_cons_succ]
        refine wpAnyH_take (i := 6) (v := undef) rfl (by kernel_rfl) (by kernel_rfl) (by kernel_rfl) (fun _ _ _ h => h) (Or.inr ⟨by rfl, rfl⟩) hHeld101 ?_
        simp only [Act.put, List.getElem_toArray, List.getElem_cons_zero, List.getElem_cons_succ, List.setIfInBounds_toArray, List.set_cons_zero, List.set_cons_succ]
        refine wpAnyH_take (i := 7) (v := undef) rfl (by kernel_rfl) (by kernel_rfl) (by kernel_rfl) (fun _ _ _ h => h) (Or.inr ⟨by rfl, rfl⟩) hHeld101 ?_
        simp only [Act.put, List.getElem_toArray, List.getElem_cons_zero, List.getElem_cons_succ, List.setIfInBounds_toArray, List.set_cons_zero, List.set_cons_succ]
        refine wpAnyH_take (i := 8) (v := undef) rfl (by kernel_rfl) (by kernel_rfl) (by kernel_rfl) (fun _ _ _ h => h) (Or.inr ⟨by rfl, rfl⟩) hHeld101 ?_
        simp only [Act.put, List.getElem_toArray, List.getElem_cons_zero, List.getElem_cons_succ, List.setIfInBounds_toArray, List.set_cons_zero, List.set_cons_succ]
        refine wpAnyH_take (i := 9) (v := undef) rfl (by kernel_rfl) (by kernel_rfl) (by kernel_rfl) (fun _ _ _ h => h) (Or.inr ⟨by rfl, rfl⟩) hHeld101 ?_
        simp only [Act.put, List.getElem_toArray, List.getElem_cons_zero, List.getElem_cons_succ, List.setIfInBounds_toArray, List.set_cons_zero, List.set_cons_succ]
        refine wpAnyH_take (i := 10) (v := undef) rfl (by kernel_rfl) (by kernel_rfl) (by kernel_rfl) (fun _ _ _ h => h) (Or.inr ⟨by rfl, rfl⟩) hHeld101 ?_
        simp only [Act.put, List.getElem_toArray, List.getElem_cons_zero, List.getElem_cons_succ, List.setIfInBounds_toArray, List.set_cons_zero, List.set_cons_succ]
        refine wpAnyH_take (i := 11) (v := undef) rfl (by kernel_rfl) (by kernel_rfl) (by kernel_rfl) (fun _ _ _ h => h) (Or.inr ⟨by rfl, rfl⟩) hHeld101 ?_
        simp only [Act.put, List.getElem_toArray, List.getElem_cons_zero, List.getElem_cons_succ, List.setIfInBounds_toArray, List.set_cons_zero, List.set_cons_succ]
        refine wpAnyH_take (i := 12) (v := undef) rfl (by kernel_rfl) (by kernel_rfl) (by kernel_rfl) (fun _ _ _ h => h) (Or.inr ⟨by rfl, rfl⟩) hHeld101 ?_
        simp only [Act.put, List.getElem_toArray, List.getElem_cons_zero, List.getElem_cons_succ, List.setIfInBounds_toArray, List.set_cons_zero, List.set_cons_succ]
        refine wpAnyH_take (i := 13) (v := undef) rfl (by kernel_rfl) (by kernel_rfl) (by kernel_rfl) (fun _ _ _ h => h) (Or.inr ⟨by rfl, rfl⟩) hHeld101 ?_
        simp only [Act.put, List.getElem_toArray, List.getElem_cons_zero, List.getElem_cons_succ, List.setIfInBounds_toArray, List.set_cons_zero, List.set_cons_succ]
        refine wpAnyH_take (i := 14) (v := undef) rfl (by kernel_rfl) (by kernel_rfl) (by kernel_rfl) (fun _ _ _ h => h) (Or.inr ⟨by rfl, rfl⟩) hHeld101 ?_
        simp only [Act.put, List.getElem_toArray, List.getElem_cons_zero, List.getElem_cons_succ, List.setIfInBounds_toArray, List.set_cons_zero, List.set_cons_succ]
        refine wpAnyH_take (i := 15) (v := ?_) rfl (by kernel_rfl) (by kernel_rfl) (by kernel_rfl) (fun _ _ _ h => h) (Or.inl ⟨by rfl, ?_⟩) hHeld101 ?_
        rotate_left
        · (intro wa hSw; go_simp; try with_reducible rfl)
        simp only [Act.put, List.getElem_toArray, List.getElem_cons_zero, List.getElem_cons_succ, List.setIfInBounds_toArray, List.set_cons_zero, List.set_cons_succ]
        refine wpAnyH_done (by kernel_rfl) ?_ _
        have KE := Lib.hid (OS.out _ hHeld101)
        clear KS OS IS hHeld hHeld101
        have HE := Lib.hid KE.out
        go_wp2
        go_ret
        exact ⟨rfl, HE.out.2.2.2.2.2⟩
      | true =>
      have HM := Lib.hid (HRH.out.1 rfl)
      have hxr := HMD.out HM.out
      have HLX := Lib.hid (HLN.out HM.out)
      obtain ⟨pl, hpl⟩ : ∃ pl, playB rr (getI T k) C = pl := ⟨_, rfl⟩
      rw [hpl] at CP HVN HF
      clear hpl HRH HLN HMD
      cases pl with
      | false =>
        obtain rfl := HF.out (fun h => by have := h.2; cases this)
        clear HF HVN HM HLX CF
        generalize getI T k = x at *
        obtain ⟨S, HSd⟩ : ∃ S : World → Prop, S = fun w' => (SeaAt w' w.heap.size (some ⟨rb, ro, none⟩) nt rc da nd dc rest ca nc cc D L C ∧ IntRow w' vd' Ld.length (getI Ld) ∧ w'.cell? ⟨rb, ro + k, none⟩ = some (.slice xa xn xc) ∧ RdA tPairS w' [.slice xa xn xc] rr ∧ IntRow w' (.slice (some ⟨tb, to, none⟩) nt tc) nt (getI T) ∧ Below w.heap.size w w') := ⟨_, rfl⟩
        have KS : Hid (∀ wa wb, S wa → Below wa.heap.size wa wb → S wb) := by subst HSd; exact fun wa wb h b => ⟨h.1.below b, h.2.1.below b (Nat.le_refl _), (b.cell (p := ⟨rb, ro + k, none⟩) (World.block_lt_of_cell? wa _ h.2.2.1)).trans h.2.2.1, h.2.2.2.1.below b, h.2.2.2.2.1.below b (Nat.le_refl _), h.2.2.2.2.2.trans (b.mono h.2.2.2.2.2.size)⟩
        have OS : Hid (∀ wa, S wa → (SeaAt wa w.heap.size (some ⟨rb, ro, none⟩) nt rc da nd dc rest ca nc cc D L C ∧ IntRow wa vd' Ld.length (getI Ld) ∧ wa.cell? ⟨rb, ro + k, none⟩ = some (.slice xa xn xc) ∧ RdA tPairS wa [.slice xa xn xc] rr ∧ IntRow wa (.slice (some ⟨tb, to, none⟩) nt tc) nt (getI T) ∧ Below w.heap.size w wa)) := by subst HSd; exact fun wa h => h
        have IS : Hid (∀ wa, (SeaAt wa w.heap.size (some ⟨rb, ro, none⟩) nt rc da nd dc rest ca nc cc D L C ∧ IntRow wa vd' Ld.length (getI Ld) ∧ wa.cell? ⟨rb, ro + k, none⟩ = some (.slice xa xn xc) ∧ RdA tPairS wa [.slice xa xn xc] rr ∧ IntRow wa (.slice (some ⟨tb, to, none⟩) nt tc) nt (getI T) ∧ Below w.heap.size w wa) → S wa) := by subst HSd; exact fun wa h => h
        clear HSd
        go_wp2_with fail
        refine wp_region_held_drew (S := S) (by kernel_rfl) ?_ (fun hHeld => ?_)
        · exact IS.out _ ((fun (b : Below wr.heap.size wr wr.drew) => ⟨HS.out.below b, HD.out.below b (Nat.le_refl _), (b.cell (p := ⟨rb, ro + k, none⟩) (World.block_lt_of_cell? wr _ HC2.out)).trans HC2.out, HRR.out.below b, HT.out.below b (Nat.le_refl _), HB.out.trans (b.mono HB.out.size)⟩) (Below.refl _ _).drew)
        refine wpAnyH_take (i := 0) (v := ?_) rfl (by kernel_rfl) (by kernel_rfl) (by kernel_rfl) (fun _ _ _ h => h) (Or.inl ⟨by rfl, ?_⟩) hHeld ?_
        rotate_left
        · (intro wa hSw; go_simp; try with_reducible rfl)
        simp only [Act.put, List.getElem_toArray, List.getElem_cons_zero, List.setIfInBounds_toArray, List.set_cons_zero, List.set_cons_succ]
        refine wpAnyH_take (i := 1) (v := ?_) rfl (by kernel_rfl) (by kernel_rfl) (by kernel_rfl) (fun _ _ _ h => h) (Or.inl ⟨by rfl, ?_⟩) hHeld ?_
        rotate_left
        · (intro wa hSw; go_simp; try with_reducible rfl)
        simp only [Act.put, List.getElem_toArray, List.getElem_cons_zero, List.getElem_cons_succ, List.setIfInBounds_toArray, List.set_cons_zero, List.set_cons_succ]
        refine wpAnyH_ready (rs := [2]) (by kernel_rfl) (by simp) ?_
        refine AllReadyH.cons (o := _) rfl (fun K hK => ?_) AllReadyH.nil
        go_simp
        have KK := OS.out _ hHeld
        refine (CH.out _ KK.2.1).mono ?_
        rintro e w101 ⟨rfl, b101⟩
        clear KK
        (try go_wp2_with fail)
        refine hK.out _ _ ?_ (fun hHeld101 => ?_)
        · exact KS.out _ _ hHeld b101
        clear hK K
        refine wpAnyH_take (i := 3) (v := ?_) rfl (by kernel_rfl) (by kernel_rfl) (by kernel_rfl) (fun _ _ _ h => h) (Or.inl ⟨by rfl, ?_⟩) hHeld101 ?_
        rotate_left
        · (intro wa hSw; go_simp; try with_reducible rfl)
        simp only [Act.put, List.getElem_toArray, List.getElem_cons_zero, List.getElem_cons_succ, List.setIfInBounds_toArray, List.set_cons_zero, List.set_cons_succ]
        refine wpAnyH_take (i := 4) (v := ?_) rfl (by kernel_rfl) (by kernel_rfl) (by kernel_rfl) (fun _ _ _ h => h) (Or.inl ⟨by rfl, ?_⟩) hHeld101 ?_
        rotate_left
        · (intro wa hSw; go_simp; try with_reducible rfl)
        simp only [Act.put, List.getElem_toArray, List.getElem_cons_zero, List.getElem_cons_succ, List.setIfInBounds_toArray, List.set_cons_zero, List.set_cons_succ]
        refine wpAnyH_take (i := 5) (v := ?_) rfl (by kernel_rfl) (by kernel_rfl) (by kernel_rfl) (fun _ _ _ h => h) (Or.inl ⟨by rfl, ?_⟩) hHeld101 ?_
        rotate_left
        · (intro wa hSw; go_simp; try with_reducible rfl)
        simp only [Act.put, List.getElem_toArray, List.getElem_cons_zero, List.getElem_cons_succ, List.setIfInBounds_toArray, List.set_cons_zero, List.set_cons_succ]
        refine wpAnyH_take (i := 6) (v := ?_) rfl (by kernel_rfl) (by kernel_rfl) (by kernel_rfl) (fun _ _ _ h => h) (Or.inl ⟨by rfl, ?_⟩) hHeld101 ?_
        rotate_left
        · (intro wa hSw; have K := OS.out _ hSw; obtain ⟨cb0, cb1, cb2, cb3⟩ := K.1.cells; have cr := K.2.2.1; go_simp; try with_reducible rfl)
        simp only [Act.put, List.getElem_toArray, List.getElem_cons_zero, List.getElem_cons_succ, List.setIfInBounds_toArray, List.set_cons_zero, List.set_cons_succ]
        refine wpAnyH_take (i := 7) (v := ?_) rfl (by kernel_rfl) (by kernel_rfl) (by kernel_rfl) (fun _ _ _ h => h) (Or.inl ⟨by rfl, ?_⟩) hHeld101 ?_
        rotate_left
        · (intro wa hSw; go_simp; try with_reducible rfl)
        simp only [Act.put, List.getElem_toArray, List.getElem_cons_zero, List.getElem_cons_succ, List.setIfInBounds_toArray, List.set_cons_zero, List.set_cons_succ]
        refine wpAnyH_take (i := 8) (v := ?_) rfl (by kernel_rfl) (by kernel_rfl) (by kernel_rfl) (fun _ _ _ h => h) (Or.inl ⟨by rfl, ?_⟩) hHeld101 ?_
        rotate_left
        · (intro wa hSw; go_simp; try with_reducible rfl)
        simp only [Act.put, List.getElem_toArray, List.getElem_cons_zero, List.getElem_cons_succ, List.setIfInBounds_toArray, List.set_cons_zero, List.set_cons_succ]
        refine wpAnyH_take (i := 9) (v := ?_) rfl (by kernel_rfl) (by kernel_rfl) (by kernel_rfl) (fun _ _ _ h => h) (Or.inl ⟨by rfl, ?_⟩) hHeld101 ?_
        rotate_left
        · (intro wa hSw; have K := OS.out _ hSw; obtain ⟨cb0, cb1, cb2, cb3⟩ := K.1.cells; have cr := K.2.2.1; go_simp; try with_reducible rfl)
        simp only [Act.put, List.getElem_toArray, List.getElem_cons_zero, List.getElem_cons_succ, List.setIfInBounds_toArray, List.set_cons_zero, List.set_cons_succ]
        refine wpAnyH_take (i := 10) (v := ?_) rfl (by kernel_rfl) (by kernel_rfl) (by kernel_rfl) (fun _ _ _ h => h) (Or.inl ⟨by rfl, ?_⟩) hHeld101 ?_
        rotate_left
        · (intro wa hSw; go_simp; try with_reducible rfl)
        simp only [Act.put, List.getElem_toArray, List.getElem_cons_zero, List.getElem_cons_succ, List.setIfInBounds_toArray, List.set_cons_zero, List.set_cons_succ]
        refine wpAnyH_take (i := 11) (v := ?_) rfl (by kernel_rfl) (by kernel_rfl) (by kernel_rfl) (fun _ _ _ h => h) (Or.inl ⟨by rfl, ?_⟩) hHeld101 ?_
        rotate_left
        · (intro wa hSw; go_simp; try with_reducible rfl)
        simp only [Act.put, List.getElem_toArray, List.getElem_cons_zero, List.getElem_cons_succ, List.setIfInBounds_toArray, List.set_cons_zero, List.set_cons_succ]
        refine wpAnyH_take (i := 12) (v := ?_) rfl (by kernel_rfl) (by kernel_rfl) (by kernel_rfl) (fun _ _ _ h => h) (Or.inl ⟨by rfl, ?_⟩) hHeld101 ?_
        rotate_left
        · (intro wa hSw; have K := OS.out _ hSw; obtain ⟨cb0, cb1, cb2, cb3⟩ := K.1.cells; have cr := K.2.2.1; go_simp; try with_reducible rfl)
        simp only [Act.put, List.getElem_toArray, List.getElem_cons_zero, List.getElem_cons_succ, List.setIfInBounds_toArray, List.set_cons_zero, List.set_cons_succ]
        refine wpAnyH_ready (rs := [13]) (by kernel_rfl) (by simp) ?_
        refine AllReadyH.cons (o := _) rfl (fun K hK => ?_) AllReadyH.nil
        go_simp
        have KK := OS.out _ hHeld101
        refine (CP.out _ KK.2.2.2.1 KK.1.2.2.2).mono ?_
        rintro e w102 ⟨rfl, b102⟩
        clear KK
        (try go_wp2_with fail)
        refine hK.out _ _ ?_ (fun hHeld102 => ?_)
        · exact KS.out _ _ hHeld101 b102
        clear hK K
        clear hHeld101
        refine wpAnyH_take (i := 14) (v := ?_) rfl (by kernel_rfl) (by kernel_rfl) (by kernel_rfl) (fun _ _ _ h => h) (Or.inl ⟨by rfl, ?_⟩) hHeld102 ?_
        rotate_left
        · (intro wa hSw; go_simp; try with_reducible rfl)
        simp only [Act.put, List.getElem_toArray, List.getElem_cons_zero, List.getElem_cons_succ, List.setIfInBounds_toArray, List.set_cons_zero, List.set_cons_succ]
        refine wpAnyH_take (i := 15) (v := ?_) rfl (by kernel_rfl) (by kernel_rfl) (by kernel_rfl) (fun _ _ _ h => h) (Or.inl ⟨by rfl, ?_⟩) hHeld102 ?_
        rotate_left
        · (intro wa hSw; go_simp; try with_reducible rfl)
        simp only [Act.put, List.getElem_toArray, List.getElem_cons_zero, List.getElem_cons_succ, List.setIfInBounds_toArray, List.set_cons_zero, List.set_cons_succ]
        refine wpAnyH_done (by kernel_rfl) ?_ _
        have KE := Lib.hid (OS.out _ hHeld102)
        clear KS OS IS hHeld hHeld102
        have HE := Lib.hid KE.out
        go_wp2
        go_ret
        exact ⟨rfl, HE.out.2.2.2.2.2⟩
      | true =>
        have HVx := Lib.hid (HVN.out ⟨HM.out, rfl⟩)
        clear HF HVN HM
        generalize hxe : getI T k = x at *
        clear hxe
        obtain ⟨S, HSd⟩ : ∃ S : World → Prop, S = fun w' => (SeaAt w' w.heap.size (some ⟨rb, ro, none⟩) nt rc da nd dc rest ca nc cc D L C ∧ IntRow w' vd' Ld.length (getI Ld) ∧ w'.cell? ⟨rb, ro + k, none⟩ = some (.slice xa xn xc) ∧ RdA tPairS w' [.slice xa xn xc] rr ∧ IntRow w' (.slice (some ⟨tb, to, none⟩) nt tc) nt (getI T) ∧ Below w.heap.size w w') := ⟨_, rfl⟩
        have KS : Hid (∀ wa wb, S wa → Below wa.heap.size wa wb → S wb) := by subst HSd; exact fun wa wb h b => ⟨h.1.below b, h.2.1.below b (Nat.le_refl _), (b.cell (p := ⟨rb, ro + k, none⟩) (World.block_lt_of_cell? wa _ h.2.2.1)).trans h.2.2.1, h.2.2.2.1.below b, h.2.2.2.2.1.below b (Nat.le_refl _), h.2.2.2.2.2.trans (b.mono h.2.2.2.2.2.size)⟩
        have OS : Hid (∀ wa, S wa → (SeaAt wa w.heap.size (some ⟨rb, ro, none⟩) nt rc da nd dc rest ca nc cc D L C ∧ IntRow wa vd' Ld.length (getI Ld) ∧ wa.cell? ⟨rb, ro + k, none⟩ = some (.slice xa xn xc) ∧ RdA tPairS wa [.slice xa xn xc] rr ∧ IntRow wa (.slice (some ⟨tb, to, none⟩) nt tc) nt (getI T) ∧ Below w.heap.size w wa)) := by subst HSd; exact fun wa h => h
        have IS : Hid (∀ wa, (SeaAt wa w.heap.size (some ⟨rb, ro, none⟩) nt rc da nd dc rest ca nc cc D L C ∧ IntRow wa vd' Ld.length (getI Ld) ∧ wa.cell? ⟨rb, ro + k, none⟩ = some (.slice xa xn xc) ∧ RdA tPairS wa [.slice xa xn xc] rr ∧ IntRow wa (.slice (some ⟨tb, to, none⟩) nt tc) nt (getI T) ∧ Below w.heap.size w wa) → S wa) := by subst HSd; exact fun wa h => h
        clear HSd
        go_wp2_with fail
        refine wp_region_held_drew (S := S) (by kernel_rfl) ?_ (fun hHeld => ?_)
        · exact IS.out _ ((fun (b : Below wr.heap.size wr wr.drew) => ⟨HS.out.below b, HD.out.below b (Nat.le_refl _), (b.cell (p := ⟨rb, ro + k, none⟩) (World.block_lt_of_cell? wr _ HC2.out)).trans HC2.out, HRR.out.below b, HT.out.below b (Nat.le_refl _), HB.out.trans (b.mono HB.out.size)⟩) (Below.refl _ _).drew)
        refine wpAnyH_take (i := 0) (v := ?_) rfl (by kernel_rfl) (by kernel_rfl) (by kernel_rfl) (fun _ _ _ h => h) (Or.inl ⟨by rfl, ?_⟩) hHeld ?_
        rotate_left
        · (intro wa hSw; go_simp; try with_reducible rfl)
        simp only [Act.put, List.getElem_toArray, List.getElem_cons_zero, List.setIfInBounds_toArray, List.set_cons_zero, List.set_cons_succ]
        refine wpAnyH_take (i := 1) (v := ?_) rfl (by kernel_rfl) (by kernel_rfl) (by kernel_rfl) (fun _ _ _ h => h) (Or.inl ⟨by rfl, ?_⟩) hHeld ?_
        rotate_left
        · (intro wa hSw; go_simp; try with_reducible rfl)
        simp only [Act.put, List.getElem_toArray, List.getElem_cons_zero, List.getElem_cons_succ, List.setIfInBounds_toArray, List.set_cons_zero, List.set_cons_succ]
        refine wpAnyH_ready (rs := [2]) (by kernel_rfl) (by simp) ?_
        refine AllReadyH.cons (o := _) rfl (fun K hK => ?_) AllReadyH.nil
        go_simp
        have KK := OS.out _ hHeld
        refine (CH.out _ KK.2.1).mono ?_
        rintro e w101 ⟨rfl, b101⟩
        clear KK
        (try go_wp2_with fail)
        refine hK.out _ _ ?_ (fun hHeld101 => ?_)
        · exact KS.out _ _ hHeld b101
        clear hK K
        refine wpAnyH_take (i := 3) (v := ?_) rfl (by kernel_rfl) (by kernel_rfl) (by kernel_rfl) (fun _ _ _ h => h) (Or.inl ⟨by rfl, ?_⟩) hHeld101 ?_
        rotate_left
        · (intro wa hSw; go_simp; try with_reducible rfl)
        simp only [Act.put, List.getElem_toArray, List.getElem_cons_zero, List.getElem_cons_succ, List.setIfInBounds_toArray, List.set_cons_zero, List.set_cons_succ]
        refine wpAnyH_take (i := 4) (v := ?_) rfl (by kernel_rfl) (by kernel_rfl) (by kernel_rfl) (fun _ _ _ h => h) (Or.inl ⟨by rfl, ?_⟩) hHeld101 ?_
        rotate_left
        · (intro wa hSw; go_simp; try with_reducible rfl)
        simp only [Act.put, List.getElem_toArray, List.getElem_cons_zero, List.getElem_cons_succ, List.setIfInBounds_toArray, List.set_cons_zero, List.set_cons_succ]
        refine wpAnyH_take (i := 5) (v := ?_) rfl (by kernel_rfl) (by kernel_rfl) (by kernel_rfl) (fun _ _ _ h => h) (Or.inl ⟨by rfl, ?_⟩) hHeld101 ?_
        rotate_left
        · (intro wa hSw; go_simp; try with_reducible rfl)
        simp only [Act.put, List.getElem_toArray, List.getElem_cons_zero, List.getElem_cons_succ, List.setIfInBounds_toArray, List.set_cons_zero, List.set_cons_succ]
        refine wpAnyH_take (i := 6) (v := ?_) rfl (by kernel_rfl) (by kernel_rfl) (by kernel_rfl) (fun _ _ _ h => h) (Or.inl ⟨by rfl, ?_⟩) hHeld101 ?_
        rotate_left
        · (intro wa hSw; have K := OS.out _ hSw; obtain ⟨cb0, cb1, cb2, cb3⟩ := K.1.cells; have cr := K.2.2.1; go_simp; try with_reducible rfl)
        simp only [Act.put, List.getElem_toArray, List.getElem_cons_zero, List.getElem_cons_succ, List.setIfInBounds_toArray, List.set_cons_zero, List.set_cons_succ]
        refine wpAnyH_take (i := 7) (v := ?_) rfl (by kernel_rfl) (by kernel_rfl) (by kernel_rfl) (fun _ _ _ h => h) (Or.inl ⟨by rfl, ?_⟩) hHeld101 ?_
        rotate_left
        · (intro wa hSw; go_simp; try with_reducible rfl)
        simp only [Act.put, List.getElem_toArray, List.getElem_cons_zero, List.getElem_cons_succ, List.setIfInBounds_toArray, List.set_cons_zero, List.set_cons_succ]
        refine wpAnyH_take (i := 8) (v := ?_) rfl (by kernel_rfl) (by kernel_rfl) (by kernel_rfl) (fun _ _ _ h => h) (Or.inl ⟨by rfl, ?_⟩) hHeld101 ?_
        rotate_left
        · (intro wa hSw; go_simp; try with_reducible rfl)
        simp only [Act.put, List.getElem_toArray, List.getElem_cons_zero, List.getElem_cons_succ, List.setIfInBounds_toArray, List.set_cons_zero, List.set_cons_succ]
        refine wpAnyH_take (i := 9) (v := ?_) rfl (by kernel_rfl) (by kernel_rfl) (by kernel_rfl) (fun _ _ _ h => h) (Or.inl ⟨by rfl, ?_⟩) hHeld101 ?_
        rotate_left
        · (intro wa hSw; have K := OS.out _ hSw; obtain ⟨cb0, cb1, cb2, cb3⟩ := K.1.cells; have cr := K.2.2.1; go_simp; try with_reducible rfl)
        simp only [Act.put, List.getElem_toArray, List.getElem_cons_zero, List.getElem_cons_succ, List.setIfInBounds_toArray, List.set_cons_zero, List.set_cons_succ]
        refine wpAnyH_take (i := 10) (v := ?_) rfl (by kernel_rfl) (by kernel_rfl) (by kernel_rfl) (fun _ _ _ h => h) (Or.inl ⟨by rfl, ?_⟩) hHeld101 ?_
        rotate_left
        · (intro wa hSw; go_simp; try with_reducible rfl)
        simp only [Act.put, List.getElem_toArray, List.getElem_cons_zero, List.getElem_cons_succ, List.setIfInBounds_toArray, List.set_cons_zero, List.set_cons_succ]
        refine wpAnyH_take (i := 11) (v := ?_) rfl (by kernel_rfl) (by kernel_rfl) (by kernel_rfl) (fun _ _ _ h => h) (Or.inl ⟨by rfl, ?_⟩) hHeld101 ?_
        rotate_left
        · (intro wa hSw; go_simp; try with_reducible rfl)
        simp only [Act.put, List.getElem_toArray, List.getElem_cons_zero, List.getElem_cons_succ, List.setIfInBounds_toArray, List.set_cons_zero, List.set_cons_succ]
        refine wpAnyH_take (i := 12) (v := ?_) rfl (by kernel_rfl) (by kernel_rfl) (by kernel_rfl) (fun _ _ _ h => h) (Or.inl ⟨by rfl, ?_⟩) hHeld101 ?_
        rotate_left
        · (intro wa hSw; have K := OS.out _ hSw; obtain ⟨cb0, cb1, cb2, cb3⟩ := K.1.cells; have cr := K.2.2.1; go_simp; try with_reducible rfl)
        simp only [Act.put, List.getElem_toArray, List.getElem_cons_zero, List.getElem_cons_succ, List.setIfInBounds_toArray, List.set_cons_zero, List.set_cons_succ]
        refine wpAnyH_ready (rs := [13]) (by kernel_rfl) (by simp) ?_
        refine AllReadyH.cons (o := _) rfl (fun K hK => ?_) AllReadyH.nil
        go_simp
        have KK := OS.out _ hHeld101
        refine (CP.out _ KK.2.2.2.1 KK.1.2.2.2).mono ?_
        rintro e w102 ⟨rfl, b102⟩
        clear KK
        (try go_wp2_with fail)
        refine hK.out _ _ ?_ (fun hHeld102 => ?_)
        · exact KS.out _ _ hHeld101 b102
        clear hK K
        clear hHeld101
        refine wpAnyH_take (i := 14) (v := ?_) rfl (by kernel_rfl) (by kernel_rfl) (by kernel_rfl) (fun _ _ _ h => h) (Or.inl ⟨by rfl, ?_⟩) hHeld102 ?_
        rotate_left
        · (intro wa hSw; go_simp; try with_reducible rfl)
        simp only [Act.put, List.getElem_toArray, List.getElem_cons_zero, List.getElem_cons_succ, List.setIfInBounds_toArray, List.set_cons_zero, List.set_cons_succ]
        refine wpAnyH_take (i := 15) (v := ?_) rfl (by kernel_rfl) (by kernel_rfl) (by kernel_rfl) (fun _ _ _ h => h) (Or.inl ⟨by rfl, ?_⟩) hHeld102 ?_
        rotate_left
        · (intro wa hSw; go_simp; try with_reducible rfl)
        simp only [Act.put, List.getElem_toArray, List.getElem_cons_zero, List.getElem_cons_succ, List.setIfInBounds_toArray, List.set_cons_zero, List.set_cons_succ]
        refine wpAnyH_done (by kernel_rfl) ?_ _
        have KE := Lib.hid (OS.out _ hHeld102)
        clear KS OS IS hHeld hHeld102
        have HE := Lib.hid KE.out
        clear KE CP CH HB HT HS HD
        have hrs := HRS.out
        obtain ⟨c0, c1, c2, c3⟩ := HE.out.1.cells
        go_wp2_with fail
        refine (CF.out _ HE.out.2.1).mono ?_
        rintro e w5 ⟨⟨v2, rfl, h2⟩, b⟩
        have HD5 := Lib.hid h2
        have HS5 := Lib.hid (HE.out.1.below b)
        have HT5 := Lib.hid (HE.out.2.2.2.2.1.below b (Nat.le_refl _))
        have HB5 := Lib.hid (HE.out.2.2.2.2.2.trans (b.mono HE.out.2.2.2.2.2.size))
        clear h2 b c0 c1 c2 c3 HE CF
        go_wp2
        go_roundw
        case rel => exact ⟨k + 1, _, _, by omega, rfl, by go_num, HLX, HD5, HVx, HS5, HT5, HB5⟩
        case measure => simp [RowKit.intOf]; omega
    obtain rfl : k = nt := by omega
    obtain rfl := HYes.out HV.out
    go_wp2
    go_ret
    exact ⟨rfl, HB.out⟩
end Go.Proofs.YtcbpgbiannpfpaaDoor
set_option linter.unusedVariables false
namespace Go.Proofs.YtcbpgbiannpfpaaDoor
open Go.RowKit

def dayV (a : Addr) : Option Int → Value
  | some d => .tuple #[.int .i64 d, .nilIface]
  | none => .tuple #[.int .i64 0, .iface 133 (.pointer (some a))]
theorem find_filter (p q : Int → Bool) : ∀ L : List Int, (L.filter p).find? q = L.find? fun d => p d && q d
  | [] => rfl
  | x :: L => by
    have ih := find_filter p q L
    cases hp : p x with
    | true =>
      rw [List.filter_cons_of_pos hp, List.find?_cons, List.find?_cons, hp, Bool.true_and, ih]
    | false =>
      rw [List.filter_cons_of_neg (by simp [hp]), List.find?_cons, hp, Bool.false_and, ih]
def leftD (rest : Int) (L out : List Int) : List Int := L.filter fun d => decide (out.length = 0) || decide (getI out (out.length - 1) + rest ≤ d)
theorem leftD_nil (rest : Int) (L : List Int) : leftD rest L [] = L := List.filter_eq_self.2 fun x _ => rfl
theorem find_left (rest : Int) (C : ClosL) (L out : List Int) (r : PairL) : (leftD rest L out).find? (fun d => playB r d C) = L.find? (okD rest C out r) := by
  unfold leftD okD
  exact find_filter _ _ L
theorem left_next {rest d : Int} (h1 : 1 ≤ rest) {L out : List Int} (hd : d ∈ leftD rest L out) : fromL (d + rest) (leftD rest L out) = leftD rest L (out ++ [d]) := by
  unfold leftD at hd
  rw [List.mem_filter] at hd
  unfold fromL leftD
  rw [List.filter_filter]
  apply List.filter_congr
  intro x _
  have e1 : (out ++ [d]).length = out.length + 1 := by simp
  have e2 : getI (out ++ [d]) ((out ++ [d]).length - 1) = d := by rw [e1, Nat.add_sub_cancel]; unfold getI; simp
  rw [e2, e1]
  have h2 := hd.2
  simp only [Bool.or_eq_true, decide_eq_true_eq] at h2
  rw [Bool.eq_iff_iff]
  simp only [Bool.and_eq_true, Bool.or_eq_true, decide_eq_true_eq]
  constructor
  · rintro ⟨h3, _⟩; exact .inr h3
  · rintro (h3 | h3)
    · omega
    · refine ⟨h3, ?_⟩
      rcases h2 with h2 | h2
      · exact .inl h2
      · exact .inr (by omega)
theorem asc_left (rest : Int) {L : List Int} (h : AscL L) (out : List Int) : AscL (leftD rest L out) := List.Pairwise.filter _ h
theorem left_mem {rest : Int} {L out : List Int} {d : Int} (h : d ∈ leftD rest L out) : d ∈ L := (List.mem_filter.1 h).1
set_option maxRecDepth 100000 in
set_option maxHeartbeats 4000000 in
theorem firstDay_impl (vr : Value) (r : PairL) (vd : Value) (L : List Int) (vc : Value) (C : ClosL) (a : Addr) (w : World) (h : RdA tPairS w [vr] r) (hd : IntRow w vd L.length (getI L)) (hc : RdA tClosedS w [vc] C) (he : ErrAt w a) :
    Calls Tryd.prog 26 #[vr, vd, vc] w fun e w' => e = .returned (dayV a (L.find? fun d => playB r d C)) ∧ Below w.heap.size w w' := by
  obtain ⟨da, dc, rfl, hdn, _⟩ := hd.form
  have HR := Lib.hid h
  have HD := Lib.hid hd
  have HC := Lib.hid hc
  have HE := Lib.hid he
  clear h hd hc he
  obtain ⟨n, hn⟩ : ∃ n, L.length = n := ⟨_, rfl⟩
  have HN := Lib.hid hn
  rw [hn] at hdn HD ⊢
  clear hn
  obtain ⟨o, ho⟩ : ∃ o, L.find? (fun d => playB r d C) = o := ⟨_, rfl⟩
  have HO : Hid ((∀ i, i < n → playB r (getI L i) C = false) → o = none) := fun h => by
    rw [← ho, List.find?_eq_none]
    intro x hx
    obtain ⟨i, hi, rfl⟩ := List.mem_iff_getElem.1 hx
    have := h i (by rw [← HN.out]; exact hi)
    unfold getI at this
    rw [List.getD_eq_getElem?_getD, List.getElem?_eq_getElem hi] at this
    simp only [Option.getD_some] at this
    rw [this]; simp
  have HS : Hid (∀ k, k < n → (∀ i, i < k → playB r (getI L i) C = false) → playB r (getI L k) C = true → o = some (getI L k)) := fun k hk h1 h2 => by
    have hk2 : k < L.length := by rw [HN.out]; exact hk
    have e : ∀ i (hi : i < L.length), getI L i = L[i] := fun i hi => by unfold getI; rw [List.getD_eq_getElem?_getD, List.getElem?_eq_getElem hi]; rfl
    rw [← ho, List.find?_eq_some_iff_getElem]
    exact ⟨h2, k, hk2, (e k hk2).symm, fun j hj => by have := h1 j hj; rw [e j (by omega)] at this; rw [this]; rfl⟩
  rw [ho]
  clear ho HN
  have CP := Lib.hid (fun x wa h1 h2 => canPlayOn_impl vr r x vc C wa h1 h2)
  go_enter Tryd.func26, Tryd.ntmps26
  go_wp2
  go_loopw [12] (fun iv wr => ∃ k : Nat, k ≤ n ∧ iv = .int .i64 k ∧ Hid (∀ i, i < k → playB r (getI L i) C = false) ∧ Hid (Below w.heap.size w wr)) (fun iv _ => n - (RowKit.intOf iv).toNat)
  case atStart => exact ⟨0, Nat.zero_le _, rfl, fun i hi => absurd hi (Nat.not_lt_zero _), Below.refl _ _⟩
  case round =>
    obtain ⟨k, hk9, rfl, HV, HB⟩ := hrel
    by_cases hlt : k < n
    · obtain ⟨b, off, rfl, hcap, q0⟩ := int_at (HD.out.below HB.out (Nat.le_refl _)) hlt
      have hj1 : (k : Int) < (n : Int) := by omega
      have HY := Lib.hid (HS.out k hlt HV.out)
      have HVN : Hid (playB r (getI L k) C = false → ∀ i, i < k + 1 → playB r (getI L i) C = false) := fun h i hi => by
        by_cases e : i = k
        · subst e; exact h
        · exact HV.out i (by omega)
      have CPk := Lib.hid (CP.out (getI L k) _ (HR.out.below HB.out) (HC.out.below HB.out))
      clear HV HS HO
      generalize playB r (getI L k) C = p at *
      generalize getI L k = x at *
      go_wp2_with fail
      refine CPk.out.mono ?_
      rintro e w1 ⟨rfl, b1⟩
      have HB1 := Lib.hid (HB.out.trans (b1.mono HB.out.size))
      clear b1 CPk HB
      cases p with
      | true =>
        obtain rfl := HY.out rfl
        clear HY HVN
        go_wp2
        go_ret2
        exact ⟨rfl, HB1.out⟩
      | false =>
        have HVx := Lib.hid (HVN.out rfl)
        clear HY HVN
        go_wp2
        go_roundw
        case rel => exact ⟨k + 1, by omega, by go_num, HVx, HB1⟩
        case measure => simp [RowKit.intOf]; omega
    obtain rfl : k = n := by omega
    obtain rfl := HO.out HV.out
    have hcell := (HE.out.below HB.out).cell
    clear HO HS HV
    go_wp2_with (go_quiet (fail))
    go_ret2
    exact ⟨rfl, below_drewN HB.out _⟩
set_option maxRecDepth 100000 in
set_option maxHeartbeats 4000000 in
theorem firstCalendar_impl (n : Int) (vr vd : Value) (rest : Int) (vc : Value) (D : List PairL) (L : List Int) (C : ClosL) (R : Bool) (a : Addr) (w : World) (hR : R = true ↔ seaP n D L rest C)
    (hr : RdA tPairSS w [vr] D) (hd : IntRow w vd L.length (getI L)) (hc : RdA tClosedS w [vc] C) (hw : tPairSS.wt D ≤ 1048576) (he : ErrAt w a) :
    Calls Tryd.prog 7 #[.int .i64 n, .agg #[vr, vd, .int .i64 rest, vc]] w (DatesM w (calF R D L rest C)) := by
  obtain ⟨i0, hi, hz0, hz1, hz2⟩ := info_parts Tryd.infoI
  obtain ⟨ra, rc, rfl, hrn⟩ := schedule_form hr
  obtain ⟨da, dc, rfl, hdn, _⟩ := hd.form
  obtain ⟨ca, cc, rfl, hcn⟩ := clos_form hc
  obtain ⟨nr, hnr⟩ : ∃ nr, List.length (α := PairL) D = nr := ⟨_, rfl⟩
  obtain ⟨nd, hnd⟩ : ∃ nd, L.length = nd := ⟨_, rfl⟩
  obtain ⟨nc, hnc⟩ : ∃ nc, List.length (α := tClosed.D) C = nc := ⟨_, rfl⟩
  obtain ⟨U, hU⟩ : ∃ U, w.alloc (.cells #[.slice ra nr rc, .slice da nd dc, .int .i64 rest, .slice ca nc cc] 27) = U := ⟨_, rfl⟩
  have bU : Below w.heap.size w U := by rw [← hU]; exact (Below.refl _ _).alloc (Nat.le_refl _) _
  have CS := Lib.hid (isPlannable_impl n _ _ rest _ D L C R U hR (hr.below bU) (hd.below bU (Nat.le_refl _)) (hc.below bU) hw)
  have HNR := Lib.hid hnr
  have HND := Lib.hid hnd
  have HSea : Hid (R = true → seaP n D L rest C) := hR.1
  rw [hnr] at hr CS ⊢
  rw [hnd] at hd hdn CS ⊢
  rw [hnc] at hc hcn CS ⊢
  have HS : Hid (SeaAt U w.heap.size ra nr rc da nd dc rest ca nc cc D L C) := by rw [← hU]; exact SeaAt.made hr hd hc
  have HB := Lib.hid bU
  have HE := Lib.hid (he.below bU)
  clear hr hd hc hR hw hnr hnd hnc hrn hcn bU he
  obtain ⟨c0, c1, c2, c3⟩ := HS.out.cells
  go_enter Tryd.func7, Tryd.ntmps7
  go_wp2_with fail
  clear hU
  refine CS.out.mono ?_
  rintro e w1 ⟨rfl, b⟩
  have HS1 := Lib.hid (HS.out.below b)
  have HE1 := Lib.hid (HE.out.below b)
  have HB1 := Lib.hid (HB.out.trans (b.mono HB.out.size))
  clear b c0 c1 c2 c3 HS HB CS HE
  obtain ⟨c0, c1, c2, c3⟩ := HS1.out.cells
  cases R with
  | false =>
    have HN0 : Hid (w1.ownsRow w.heap.size 3 1 (.slice none 0 0) 0 []) := World.ownsRow_nil _ _ _ _
    go_wp2
    go_ret2
    exact ⟨_, rfl, HN0.out, HB1.out⟩
  | true =>
  have HSX : Hid (seaP n D L rest C) := HSea.out (by first | rfl | trivial)
  have HAS : Hid (AscL L) := days_asc HSX.out.2.2.2.2
  have hrs := HSX.out.2.2.2.1
  have h14 : nr ≤ 14 := by rw [← HNR.out]; exact HSX.out.1.2.1
  have h30 : nd ≤ 30 := by rw [← HND.out]; exact HSX.out.2.2.1
  have HDY : Hid (∀ x ∈ L, 0 ≤ x ∧ x ≤ 60) := fun x hx => by
    obtain ⟨i, hi⟩ := List.mem_iff_getElem?.1 hx
    have hil := (List.getElem?_eq_some_iff.1 hi).1
    have h9 := (HSX.out.2.2.2.2 i hil).1
    have e : getI L i = x := by unfold getI; rw [List.getD_eq_getElem?_getD, hi]; rfl
    rw [e] at h9
    exact h9
  have HF0 : Hid (firstF rest C L (D.drop 0) [] = calF true D L rest C) := rfl
  obtain ⟨FR, hFR⟩ : ∃ FR, calF true D L rest C = FR := ⟨_, rfl⟩
  rw [hFR] at HF0
  have HFQ := Lib.hid hFR
  clear hFR HSX HSea
  have hsz1 := HB1.out.size
  go_wp2_with (at_make; refine wpList_make_full _ rfl _ _ 24 rfl w1.heap.size 3 i0 (.int .i64 0) 1 Tryd.underlying24 hi hz0 hz1 .i64 .i64 nr nr nr rfl rfl rfl rfl (by rw [hz2]; omega) (by unfold maxLen; omega) (Nat.le_refl _) ?_; intro w2 hown hg1; have HO1 := Lib.hid hown; have HB2 : Hid (Below w1.heap.size w1 w2) := (Below.refl _ _).grown hg1 (Nat.le_refl _) (fun k hk => by cases hk); clear hown hg1; clear c0 c1 c2 c3; obtain ⟨c0, c1, c2, c3⟩ := (HS1.out.below HB2.out).cells)
  clear c0 c1 c2 c3
  have HDL : Hid (IntRow w1 (.slice da nd dc) (leftD rest L []).length (getI (leftD rest L []))) := by rw [leftD_nil, HND.out]; exact HS1.out.2.2.1
  go_loopw [7, 25] (fun sv iv wr => ∃ (k : Nat) (vd' : Value) (out : List Int) (ys : List Value), k ≤ nr ∧ vd' = sv ∧ iv = .int .i64 k ∧ Hid (out.length = k) ∧ Hid (firstF rest C L (D.drop k) out = FR) ∧ Hid (IntRow w1 vd' (leftD rest L out).length (getI (leftD rest L out))) ∧ Hid (wr.ownsRow w1.heap.size 3 1 (.slice (some ⟨w1.heap.size, 0, none⟩) nr nr) nr ys) ∧ Hid (∀ t, t < k → ys[t]? = some (.int .i64 (getI out t))) ∧ Hid (Below w1.heap.size w1 wr)) (fun _ iv _ => nr - (RowKit.intOf iv).toNat)
  case atStart => exact ⟨0, _, [], _, Nat.zero_le _, rfl, rfl, rfl, HF0, HDL, HO1, fun t ht => absurd ht (by omega), HB2⟩
  case round =>
    clear HF0 HDL HO1 HB2
    obtain ⟨k, vd', out, ys, hk9, rfl, rfl, HLN, HV, HDL, HO, HY, HB⟩ := hrel
    by_cases hlt : k < nr
    · obtain ⟨rr, hrr⟩ : ∃ rr : PairL, D[k]? = some rr := ⟨_, List.getElem?_eq_getElem (by rw [HNR.out]; exact hlt)⟩
      have HSr := Lib.hid (HS1.out.below HB.out)
      obtain ⟨rb, ro, xa, xc, hra, hcap2, hq, hrd, hx63⟩ := round_cells (by rw [HNR.out]; exact HS1.out.2.1) hrr
      subst hra
      rw [HNR.out] at hcap2
      have hj1 : (k : Int) < (nr : Int) := by omega
      have HV2 : Hid ((match L.find? (okD rest C out rr) with | none => none | some d => firstF rest C L (D.drop (k + 1)) (out ++ [d])) = FR) := by show _ = _; rw [← HV.out, drop_at hrr]; rfl
      obtain ⟨o, ho⟩ : ∃ o, (leftD rest L out).find? (fun d => playB rr d C) = o := ⟨_, rfl⟩
      have HFI : Hid (L.find? (okD rest C out rr) = o) := by show _ = _; rw [← ho, find_left]
      have HMM : Hid (∀ d, o = some d → d ∈ leftD rest L out) := fun d e => List.mem_of_find?_eq_some (ho.trans e)
      have CF : Hid (∀ wa, RdA tPairS wa [.slice xa (List.length (α := tPair.D) rr) xc] rr → IntRow wa vd' (leftD rest L out).length (getI (leftD rest L out)) → RdA tClosedS wa [.slice ca nc cc] C → ErrAt wa a → Calls Tryd.prog 26 #[.slice xa (List.length (α := tPair.D) rr) xc, vd', .slice ca nc cc] wa fun e w' => e = .returned (dayV a o) ∧ Below wa.heap.size wa w') := fun wa h1 h2 h3 h4 => by rw [← ho]; exact firstDay_impl _ rr _ _ _ C a wa h1 h2 h3 h4
      have hq2 := (HB.out.cell (p := ⟨rb, ro + k, none⟩) (World.block_lt_of_cell? w1 _ hq)).trans hq
      have HRR : Hid (RdA tPairS w1 [.slice xa (List.length (α := tPair.D) rr) xc] rr) := hrd
      obtain ⟨xn, hxn⟩ : ∃ xn, List.length (α := tPair.D) rr = xn := ⟨_, rfl⟩
      rw [hxn] at hq hq2 hx63 HRR CF
      clear hrr hxn hrd ho HV
      obtain ⟨c0, c1, c2, c3⟩ := HSr.out.cells
      go_wp2_with fail
      refine (CF.out _ (HRR.out.below HB.out) (HDL.out.below HB.out (Nat.le_refl _)) HSr.out.2.2.2 (HE1.out.below HB.out)).mono ?_
      rintro e w5 ⟨rfl, b⟩
      have HB5 := Lib.hid (HB.out.trans (b.mono HB.out.size))
      have HO5 := Lib.hid (owns_below HO.out b (Nat.le_refl _))
      clear b c0 c1 c2 c3 hq hq2 HSr HO HB CF
      have HS5 := Lib.hid (HS1.out.below HB5.out)
      have hcell := (HE1.out.below HB5.out).cell
      obtain ⟨c0, c1, c2, c3⟩ := HS5.out.cells
      cases o with
      | none =>
        have HFN : Hid (FR = none) := by show _ = _; rw [← HV2.out, HFI.out]
        unfold dayV
        go_wp2_with fail
        refine (is_same a _).mono ?_
        rintro e w6 ⟨rfl, rfl⟩
        have HN0 : Hid (w6.ownsRow w.heap.size 3 1 (.slice none 0 0) 0 []) := World.ownsRow_nil _ _ _ _
        have HBW : Hid (Below w.heap.size w w6) := HB1.out.trans (HB5.out.mono HB1.out.size)
        go_wp2
        go_ret2
        rw [HFQ.out, HFN.out]
        exact ⟨_, rfl, HN0.out, HBW.out⟩
      | some d =>
        have HMd := Lib.hid (HMM.out d rfl)
        have hdr := HDY.out d (left_mem HMd.out)
        have HVN : Hid (firstF rest C L (D.drop (k + 1)) (out ++ [d]) = FR) := by show _ = _; rw [← HV2.out, HFI.out]
        have CD := Lib.hid (fun wa h => daysFrom_impl vd' (leftD rest L out) (d + rest) wa h (asc_left rest HAS.out out) (by have h9 := List.length_filter_le (fun d => decide (out.length = 0) || decide (getI out (out.length - 1) + rest ≤ d)) L; have := HND.out; unfold leftD; omega))
        have HDN : Hid (IntRow w1 (subV (cutN (d + rest) (leftD rest L out)) vd') (leftD rest L (out ++ [d])).length (getI (leftD rest L (out ++ [d])))) := by
          rw [← left_next hrs.1 HMd.out]
          exact subV_from HDL.out (asc_left rest HAS.out out) _
        generalize subV (cutN (d + rest) (leftD rest L out)) vd' = vn at *
        unfold dayV
        clear HV2 HFI HMM HMd
        go_wp2_with fail
        refine (is_nil a _).mono ?_
        rintro e w6 ⟨rfl, rfl⟩
        obtain ⟨u, hu⟩ := owns_some HO5.out k hlt
        have HU := Lib.hid hu
        have hcl := owns_cell HO5.out k hlt HU
        have hfr := HO5.out.frozenAt k
        have hs6 := HB5.out.size
        clear hu
        have HB7 : Hid (Below w1.heap.size w1 (w6.setCell ⟨w1.heap.size, 0 + k, none⟩ (.int .i64 d))) := HB5.out.setCell (Nat.le_refl _) _
        have HB7' : Hid (Below w1.heap.size w1 (w6.setCell ⟨w1.heap.size, k, none⟩ (.int .i64 d))) := HB5.out.setCell (Nat.le_refl _) _
        obtain ⟨e0, e1, e2, e3⟩ := (HS1.out.below HB7'.out).cells
        have hne : ¬ w.heap.size = w1.heap.size := by have h9 := World.block_lt_of_cell? _ _ HS1.out.cells.1; exact Nat.ne_of_lt h9
        go_wp2_with fail
        refine (CD.out _ ?_).mono ?_
        · exact HDL.out.below HB7'.out (Nat.le_refl _)
        rintro e w8 ⟨rfl, b⟩
        have HB8 := Lib.hid (HB7'.out.trans (b.mono HB7'.out.size))
        have HO8 : Hid (w8.ownsRow w1.heap.size 3 1 (.slice (some ⟨w1.heap.size, 0, none⟩) nr nr) nr (ys.set k (.int .i64 d))) := owns_below (HO5.out.stored k _).1 b (Nat.le_refl _)
        have HLN8 : Hid ((out ++ [d]).length = k + 1) := by show _ = _; rw [List.length_append, HLN.out]; rfl
        have HY8 : Hid (∀ t, t < k + 1 → (ys.set k (.int .i64 d))[t]? = some (.int .i64 (getI (out ++ [d]) t))) := fun t ht => by
          have hlen := HO5.out.1
          by_cases htk : t = k
          · subst htk
            rw [List.getElem?_set_self (by omega)]
            have : getI (out ++ [d]) t = d := by have h9 := HLN.out; subst h9; unfold getI; simp
            rw [this]
          · rw [List.getElem?_set_ne (by omega), HY.out t (by omega)]
            have : getI (out ++ [d]) t = getI out t := by unfold getI; rw [List.getD_eq_getElem?_getD, List.getD_eq_getElem?_getD, List.getElem?_append_left (by have := HLN.out; omega)]
            rw [this]
        clear b HB7 HB7' hcl hfr CD
        go_wp2
        go_roundw
        case rel => exact ⟨k + 1, _, out ++ [d], _, by omega, rfl, by go_num, HLN8, HVN, HDN, HO8, HY8, HB8⟩
        case measure => simp [RowKit.intOf]; omega
    obtain rfl : k = nr := by omega
    have HFR : Hid (FR = some out) := by show _ = _; rw [← HV.out, List.drop_of_length_le (by have := HNR.out; omega)]; rfl
    have HE9 : Hid (ys = out.map (Value.int .i64)) := by
      show _ = _
      have hlen := HO.out.1
      apply List.ext_getElem?
      intro t
      by_cases ht : t < k
      · rw [HY.out t ht, List.getElem?_map, List.getElem?_eq_getElem (by have := HLN.out; omega)]
        unfold getI
        rw [List.getD_eq_getElem?_getD, List.getElem?_eq_getElem (by have := HLN.out; omega)]
        rfl
      · rw [List.getElem?_eq_none (by omega), List.getElem?_eq_none (by rw [List.length_map]; have := HLN.out; omega)]
    have HON : Hid (wr.ownsRow w.heap.size 3 1 (.slice (some ⟨w1.heap.size, 0, none⟩) k k) out.length (out.map (Value.int .i64))) := by
      rw [← HE9.out, HLN.out]; exact owns_mono HO.out hsz1
    have HBW : Hid (Below w.heap.size w wr) := HB1.out.trans (HB.out.mono hsz1)
    clear HY HE9 HO
    go_wp2
    go_ret2
    rw [HFQ.out, HFR.out]
    exact ⟨_, rfl, HON.out, HBW.out⟩
theorem find_none (D : List PairL) (L : List Int) (C : ClosL) (k : Nat) (rr : PairL) (h : atR D k = rr) : blkB D L C k = (L.find? fun d => playB rr d C).isNone := by
  unfold blkB
  rw [h]
  cases e : L.find? fun d => playB rr d C with
  | none =>
    rw [List.find?_eq_none] at e
    have : (L.any fun d => playB rr d C) = false := by rw [List.any_eq_false]; exact e
    rw [this]; rfl
  | some d =>
    have h1 := List.find?_some e
    have h2 := List.mem_of_find?_eq_some e
    have : (L.any fun d => playB rr d C) = true := List.any_eq_true.2 ⟨d, h2, h1⟩
    rw [this]; rfl
set_option maxRecDepth 100000 in
set_option maxHeartbeats 4000000 in
theorem blockedRounds_impl (n : Int) (vr vd : Value) (rest : Int) (vc : Value) (D : List PairL) (L : List Int) (C : ClosL) (R : Bool) (a : Addr) (w : World) (hR : R = true ↔ schedP n D ∧ closedP n C)
    (hr : RdA tPairSS w [vr] D) (hd : IntRow w vd L.length (getI L)) (hc : RdA tClosedS w [vc] C) (hw : tPairSS.wt D ≤ 1048576) (he : ErrAt w a) :
    Calls Tryd.prog 10 #[.int .i64 n, .agg #[vr, vd, .int .i64 rest, vc]] w (IntsL w (blkL R D L C)) := by
  obtain ⟨i0, hi, hz0, hz1, hz2⟩ := info_parts Tryd.infoI
  obtain ⟨ra, rc, rfl, hrn⟩ := schedule_form hr
  obtain ⟨da, dc, rfl, hdn, _⟩ := hd.form
  obtain ⟨ca, cc, rfl, hcn⟩ := clos_form hc
  obtain ⟨nr, hnr⟩ : ∃ nr, List.length (α := PairL) D = nr := ⟨_, rfl⟩
  obtain ⟨nd, hnd⟩ : ∃ nd, L.length = nd := ⟨_, rfl⟩
  obtain ⟨nc, hnc⟩ : ∃ nc, List.length (α := tClosed.D) C = nc := ⟨_, rfl⟩
  obtain ⟨r1, hr1⟩ := boolEx (schedP n D)
  obtain ⟨r2, hr2⟩ := boolEx (closedP n C)
  obtain ⟨U, hU⟩ : ∃ U, w.alloc (.cells #[.slice ra (List.length (α := PairL) D) rc, .slice da L.length dc, .int .i64 rest, .slice ca (List.length (α := tClosed.D) C) cc] 27) = U := ⟨_, rfl⟩
  have bU : Below w.heap.size w U := by rw [← hU]; exact (Below.refl _ _).alloc (Nat.le_refl _) _
  have CS := Lib.hid (fun wa h => isSchedule_impl (.slice ra (List.length (α := PairL) D) rc) D n r1 wa hr1 h hw)
  have CC := Lib.hid (fun wa h => closedOk_impl n (.slice ca (List.length (α := tClosed.D) C) cc) C r2 wa hr2 h)
  have hnr6 : nr ≤ 1048576 := by have e : tPairSS.wt D = List.length (α := PairL) D + (D.map tPairS.wt).sum := rfl; rw [hnr] at e; omega
  have HNR := Lib.hid hnr
  have HND := Lib.hid hnd
  have HR1 := Lib.hid hr1
  have HR2 := Lib.hid hr2
  have HRR := Lib.hid hR
  have HS : Hid (SeaAt U w.heap.size ra nr rc da nd dc rest ca nc cc D L C) := by rw [← hU, ← hnr, ← hnd, ← hnc]; exact SeaAt.made hr hd hc
  rw [hnr] at CS hU ⊢
  rw [hnd] at hdn hU ⊢
  rw [hnc] at hcn CC hU ⊢
  have HB := Lib.hid bU
  have HE := Lib.hid (he.below bU)
  clear hr hd hc hR hr1 hr2 hw hnr hnd hnc hrn hcn bU he
  obtain ⟨c0, c1, c2, c3⟩ := HS.out.cells
  have HN0 : Hid (∀ wa, World.ownsRow wa w.heap.size 3 1 (.slice none 0 0) 0 []) := fun wa => World.ownsRow_nil _ _ _ _
  go_enter Tryd.func10, Tryd.ntmps10
  go_wp2_with fail
  clear hU
  refine (CS.out _ HS.out.2.1).mono ?_
  rintro e w1 ⟨rfl, b⟩
  have HS1 := Lib.hid (HS.out.below b)
  have HE1 := Lib.hid (HE.out.below b)
  have HB1 := Lib.hid (HB.out.trans (b.mono HB.out.size))
  clear b c0 c1 c2 c3 HS HB CS HE
  obtain ⟨c0, c1, c2, c3⟩ := HS1.out.cells
  cases r1 with
  | false =>
    have hf : R = false := by cases R with | false => rfl | true => have := HR1.out.2 (HRR.out.1 rfl).1; cases this
    subst hf
    go_wp2
    go_ret
    exact ⟨_, rfl, HN0.out _, HB1.out⟩
  | true =>
  go_wp2_with fail
  refine (CC.out _ HS1.out.2.2.2).mono ?_
  rintro e w2 ⟨rfl, b⟩
  have HS2 := Lib.hid (HS1.out.below b)
  have HE2 := Lib.hid (HE1.out.below b)
  have HB2 := Lib.hid (HB1.out.trans (b.mono HB1.out.size))
  clear b c0 c1 c2 c3 HS1 HB1 CC HE1
  obtain ⟨c0, c1, c2, c3⟩ := HS2.out.cells
  cases r2 with
  | false =>
    have hf : R = false := by cases R with | false => rfl | true => have := HR2.out.2 (HRR.out.1 rfl).2; cases this
    subst hf
    go_wp2
    go_ret
    exact ⟨_, rfl, HN0.out _, HB2.out⟩
  | true =>
  have hf : R = true := HRR.out.2 ⟨HR1.out.1 (by first | rfl | trivial), HR2.out.1 (by first | rfl | trivial)⟩
  subst hf
  clear HR1 HR2 HRR
  go_wp2
  clear c0 c1 c2 c3
  go_loopw [5, 25] (fun ov iv wr => ∃ (k : Nat) (out : List Int), k ≤ nr ∧ iv = .int .i64 k ∧ Hid (out = idxL (blkB D L C) k) ∧ out.length ≤ k ∧ Hid (wr.ownsRow w2.heap.size 3 1 ov out.length (out.map (Value.int .i64))) ∧ Hid (Below w2.heap.size w2 wr)) (fun _ iv _ => nr - (RowKit.intOf iv).toNat)
  case atStart => exact ⟨0, [], Nat.zero_le _, rfl, rfl, Nat.le_refl _, World.ownsRow_nil _ _ _ _, Below.refl _ _⟩
  case round =>
    clear HN0
    obtain ⟨k, out, hk9, rfl, HOO, hol, HO, HB⟩ := hrel
    obtain ⟨oa, oc, hof⟩ := owns_form HO.out
    subst hof
    by_cases hlt : k < nr
    · obtain ⟨rr, hrr⟩ : ∃ rr : PairL, D[k]? = some rr := ⟨_, List.getElem?_eq_getElem (by rw [HNR.out]; exact hlt)⟩
      have HSr := Lib.hid (HS2.out.below HB.out)
      obtain ⟨rb, ro, xa, xc, hra, hcap2, hq, hrd, hx63⟩ := round_cells (by rw [HNR.out]; exact HS2.out.2.1) hrr
      subst hra
      rw [HNR.out] at hcap2
      have hj1 : (k : Int) < (nr : Int) := by omega
      have hat : atR D k = rr := by unfold atR; rw [hrr]; rfl
      obtain ⟨o, ho⟩ : ∃ o, L.find? (fun d => playB rr d C) = o := ⟨_, rfl⟩
      have HBK : Hid (blkB D L C k = o.isNone) := by show _ = _; rw [← ho]; exact find_none D L C k rr hat
      have CF : Hid (∀ wa, RdA tPairS wa [.slice xa (List.length (α := tPair.D) rr) xc] rr → IntRow wa (.slice da nd dc) nd (getI L) → RdA tClosedS wa [.slice ca nc cc] C → ErrAt wa a → Calls Tryd.prog 26 #[.slice xa (List.length (α := tPair.D) rr) xc, .slice da nd dc, .slice ca nc cc] wa fun e w' => e = .returned (dayV a o) ∧ Below wa.heap.size wa w') := fun wa h1 h2 h3 h4 => by rw [← ho]; exact firstDay_impl _ rr _ L _ C a wa h1 (by rw [HND.out]; exact h2) h3 h4
      have hq2 := (HB.out.cell (p := ⟨rb, ro + k, none⟩) (World.block_lt_of_cell? w2 _ hq)).trans hq
      have HRR1 : Hid (RdA tPairS w2 [.slice xa (List.length (α := tPair.D) rr) xc] rr) := hrd
      obtain ⟨xn, hxn⟩ : ∃ xn, List.length (α := tPair.D) rr = xn := ⟨_, rfl⟩
      rw [hxn] at hq hq2 hx63 HRR1 CF
      clear hrr hxn hrd hat ho
      obtain ⟨c0, c1, c2, c3⟩ := HSr.out.cells
      go_wp2_with fail
      refine (CF.out _ (HRR1.out.below HB.out) HSr.out.2.2.1 HSr.out.2.2.2 (HE2.out.below HB.out)).mono ?_
      rintro e w5 ⟨rfl, b⟩
      have HB5 := Lib.hid (HB.out.trans (b.mono HB.out.size))
      have HO5 := Lib.hid (owns_below HO.out b (Nat.le_refl _))
      clear b c0 c1 c2 c3 hq hq2 HSr HO HB CF
      have hcell := (HE2.out.below HB5.out).cell
      cases o with
      | none =>
        have HON : Hid (out ++ [(k : Int)] = idxL (blkB D L C) (k + 1)) := (congrArg (· ++ [(k : Int)]) HOO.out).trans (idxL_yes (by rw [HBK.out]; rfl)).symm
        have hs3 := HB5.out.size
        unfold dayV
        go_wp2_with fail
        refine (is_same a _).mono ?_
        rintro e w6 ⟨rfl, rfl⟩
        go_wp2_with (at_builtin; refine wpList_pushL rfl (.tmp 42) (.tmp 44) 24 rfl w2.heap.size 3 Tryd.underlying24 hi hz0 hz1 hz2 rfl (by decide) [.int .i64 k] rfl (by intro u hu; simp at hu; subst hu; rfl) rfl (by show Value.slice (some ⟨_, 0, none⟩) 1 1 = _; simp) HO5.out (by unfold maxLen; omega) (by omega) hs3 ?_; intro gg5 cc5 w7 o5 g5 at5 lt5; have O7 := Lib.hid o5; have HB7 := Lib.hid (HB5.out.grown g5 hs3 (fun q hq => (HO5.out.lt q hq).1)); clear o5 g5 at5 lt5)
        go_roundw
        case rel => exact ⟨k + 1, out ++ [(k : Int)], by omega, by go_num, HON, by rw [List.length_append, List.length_singleton]; omega, by rw [List.length_append, List.map_append]; exact O7, HB7⟩
        case measure => simp [RowKit.intOf]; omega
      | some d =>
        have HON : Hid (out = idxL (blkB D L C) (k + 1)) := HOO.out.trans (idxL_no (by rw [HBK.out]; rfl)).symm
        unfold dayV
        go_wp2_with fail
        refine (is_nil a _).mono ?_
        rintro e w6 ⟨rfl, rfl⟩
        go_wp2
        go_roundw
        case rel => exact ⟨k + 1, out, by omega, by go_num, HON, by omega, HO5, HB5⟩
        case measure => simp [RowKit.intOf]; omega
    obtain rfl : k = nr := by omega
    have HON := Lib.hid (owns_mono HO.out HB2.out.size)
    have HBW : Hid (Below w.heap.size w wr) := HB2.out.trans (HB.out.mono HB2.out.size)
    go_wp2
    go_ret
    have HE9 : Hid (blkL true D L C = out) := by show idxL (blkB D L C) (List.length (α := PairL) D) = out; rw [HNR.out]; exact HOO.out.symm
    rw [HE9.out]
    exact ⟨_, rfl, HON.out, HBW.out⟩
end Go.Proofs.YtcbpgbiannpfpaaDoor
