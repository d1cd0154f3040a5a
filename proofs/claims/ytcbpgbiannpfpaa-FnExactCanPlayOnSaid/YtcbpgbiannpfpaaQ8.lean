/-
  Packed: Cal2.
-/
import Derived.Test.YtcbpgbiannpfpaaQ1
import Derived.Test.YtcbpgbiannpfpaaQ7
set_option linter.unusedVariables false
namespace Go.Proofs.Ytcbpgbiannpfpaa
open Go.RowKit

def atR (D : List PairL) (i : Nat) : PairL := (D[i]?).getD []
def daysP (L : List Int) : Prop := ∀ i, i < L.length → (0 ≤ getI L i ∧ getI L i ≤ 60) ∧ (0 < i → getI L (i - 1) < getI L i)
def seaP (n : Int) (D : List PairL) (L : List Int) (rest : Int) (C : ClosL) : Prop := schedP n D ∧ closedP n C ∧ L.length ≤ 30 ∧ (1 ≤ rest ∧ rest ≤ 60) ∧ daysP L
def datesP (D : List PairL) (L : List Int) (rest : Int) (C : ClosL) (T : List Int) (k : Nat) : Prop := ∀ i, i < k → getI T i ∈ L ∧ (0 < i → getI T (i - 1) + rest ≤ getI T i) ∧ playB (atR D i) (getI T i) C = true
def calP (n : Int) (D : List PairL) (L : List Int) (rest : Int) (C : ClosL) (T : List Int) : Prop := seaP n D L rest C ∧ T.length = List.length (α := PairL) D ∧ datesP D L rest C T T.length
def SeaAt (w : World) (X : Nat) (ra : Option Addr) (nr rc : Nat) (da : Option Addr) (nd dc : Nat) (rest : Int) (ca : Option Addr) (nc cc : Nat) (D : List PairL) (L : List Int) (C : ClosL) : Prop :=
  BoxN w X [.slice ra nr rc, .slice da nd dc, .int .i64 rest, .slice ca nc cc] ∧ RdA tPairSS w [.slice ra nr rc] D ∧ IntRow w (.slice da nd dc) nd (getI L) ∧ RdA tClosedS w [.slice ca nc cc] C
theorem SeaAt.below {w w' : World} {X : Nat} {ra : Option Addr} {nr rc : Nat} {da : Option Addr} {nd dc : Nat} {rest : Int} {ca : Option Addr} {nc cc : Nat} {D : List PairL} {L : List Int} {C : ClosL} (h : SeaAt w X ra nr rc da nd dc rest ca nc cc D L C) (hb : Below w.heap.size w w') : SeaAt w' X ra nr rc da nd dc rest ca nc cc D L C :=
  ⟨h.1.below hb, h.2.1.below hb, h.2.2.1.below hb (Nat.le_refl _), h.2.2.2.below hb⟩
theorem SeaAt.cells {w : World} {X : Nat} {ra : Option Addr} {nr rc : Nat} {da : Option Addr} {nd dc : Nat} {rest : Int} {ca : Option Addr} {nc cc : Nat} {D : List PairL} {L : List Int} {C : ClosL} (h : SeaAt w X ra nr rc da nd dc rest ca nc cc D L C) :
    w.cell? ⟨X, 0, none⟩ = some (.slice ra nr rc) ∧ w.cell? ⟨X, 1, none⟩ = some (.slice da nd dc) ∧ w.cell? ⟨X, 2, none⟩ = some (.int .i64 rest) ∧ w.cell? ⟨X, 3, none⟩ = some (.slice ca nc cc) := ⟨h.1.2 0 _ rfl, h.1.2 1 _ rfl, h.1.2 2 _ rfl, h.1.2 3 _ rfl⟩
theorem SeaAt.made {w : World} {ra : Option Addr} {nr rc : Nat} {da : Option Addr} {nd dc : Nat} {rest : Int} {ca : Option Addr} {nc cc : Nat} {D : List PairL} {L : List Int} {C : ClosL} {t : TypeId} (h1 : RdA tPairSS w [.slice ra nr rc] D) (h2 : IntRow w (.slice da nd dc) nd (getI L)) (h3 : RdA tClosedS w [.slice ca nc cc] C) :
    SeaAt (w.alloc (.cells #[.slice ra nr rc, .slice da nd dc, .int .i64 rest, .slice ca nc cc] t)) w.heap.size ra nr rc da nd dc rest ca nc cc D L C :=
  have b : Below w.heap.size w (w.alloc (.cells #[.slice ra nr rc, .slice da nd dc, .int .i64 rest, .slice ca nc cc] t)) := (Below.refl _ _).alloc (Nat.le_refl _) _
  ⟨BoxN.made (Below.refl _ _) rfl, h1.below b, h2.below b (Nat.le_refl _), h3.below b⟩
theorem l01In_is (x lo hi : Int) (R : Bool) (hR : R = true ↔ lo ≤ x ∧ x ≤ hi) (w : World) : Calls Try.prog 29 #[.int .i64 x, .int .i64 lo, .int .i64 hi] w fun e w' => e = .returned (.bool R) ∧ w = w' := by
  cases R with
  | true => exact (l01In_yes _ _ _ _ (hR.1 rfl)).mono fun e w' h => h
  | false => exact (l01In_no _ _ _ _ (fun h => by have := hR.2 h; cases this)).mono fun e w' h => h
set_option maxRecDepth 100000 in
set_option maxHeartbeats 4000000 in
theorem l10Season_spec (n : Int) (vr vd : Value) (rest : Int) (vc : Value) (D : List PairL) (L : List Int) (C : ClosL) (R : Bool) (w : World) (hR : R = true ↔ seaP n D L rest C)
    (hr : RdA tPairSS w [vr] D) (hd : IntRow w vd L.length (getI L)) (hc : RdA tClosedS w [vc] C) (hw : tPairSS.wt D ≤ 1048576) :
    Calls Try.prog 41 #[.int .i64 n, .agg #[vr, vd, .int .i64 rest, vc]] w fun e w' => e = .returned (.bool R) ∧ Below w.heap.size w w' := by
  obtain ⟨ra, rc, rfl, hrn⟩ := schedule_form hr
  obtain ⟨da, dc, rfl, hdn, _⟩ := hd.form
  obtain ⟨ca, cc, rfl, hcn⟩ := clos_form hc
  obtain ⟨nr, hnr⟩ : ∃ nr, List.length (α := PairL) D = nr := ⟨_, rfl⟩
  obtain ⟨nd, hnd⟩ : ∃ nd, L.length = nd := ⟨_, rfl⟩
  obtain ⟨nc, hnc⟩ : ∃ nc, List.length (α := tClosed.D) C = nc := ⟨_, rfl⟩
  obtain ⟨r1, hr1⟩ := boolEx (schedP n D)
  obtain ⟨r2, hr2⟩ := boolEx (closedP n C)
  obtain ⟨r3, hr3⟩ := boolEx (1 ≤ rest ∧ rest ≤ 60)
  obtain ⟨U, hU⟩ : ∃ U, w.alloc (.cells #[.slice ra nr rc, .slice da nd dc, .int .i64 rest, .slice ca nc cc] 44) = U := ⟨_, rfl⟩
  have CS := Lib.hid (fun wa h => isSchedule_spec (.slice ra (List.length (α := PairL) D) rc) D n r1 wa hr1 h hw)
  have CC := Lib.hid (fun wa h => closedOk_spec n (.slice ca (List.length (α := tClosed.D) C) cc) C r2 wa hr2 h)
  have HN := Lib.hid (boolF hR)
  have HY := Lib.hid (boolT hR)
  have HND := Lib.hid hnd
  rw [hnr] at hr CS ⊢
  rw [hnd] at hd hdn ⊢
  rw [hnc] at hc hcn CC ⊢
  have HS : Hid (SeaAt U w.heap.size ra nr rc da nd dc rest ca nc cc D L C) := by rw [← hU]; exact SeaAt.made hr hd hc
  have HB : Hid (Below w.heap.size w U) := by rw [← hU]; exact (Below.refl _ _).alloc (Nat.le_refl _) _
  have HR1 := Lib.hid hr1
  have HR2 := Lib.hid hr2
  have HR3 := Lib.hid hr3
  clear hr hd hc hR hw hnr hnd hnc hrn hcn hr1 hr2 hr3
  go_enter Try.func41, Try.ntmps41
  obtain ⟨c0, c1, c2, c3⟩ := HS.out.cells
  go_wp2_with fail
  clear hU
  refine (CS.out _ HS.out.2.1).mono ?_
  rintro e w1 ⟨rfl, b⟩
  have HS1 := Lib.hid (HS.out.below b)
  have HB1 := Lib.hid (HB.out.trans (b.mono HB.out.size))
  clear b c0 c1 c2 c3 HS HB
  obtain ⟨c0, c1, c2, c3⟩ := HS1.out.cells
  cases r1 with
  | false =>
    obtain rfl := HN.out (fun h => by have := HR1.out.2 h.1; cases this)
    go_wp2
    go_ret
    exact ⟨rfl, HB1.out⟩
  | true =>
  go_wp2_with fail
  refine (CC.out _ HS1.out.2.2.2).mono ?_
  rintro e w2 ⟨rfl, b⟩
  have HS2 := Lib.hid (HS1.out.below b)
  have HB2 := Lib.hid (HB1.out.trans (b.mono HB1.out.size))
  clear b c0 c1 c2 c3 HS1 HB1
  obtain ⟨c0, c1, c2, c3⟩ := HS2.out.cells
  cases r2 with
  | false =>
    obtain rfl := HN.out (fun h => by have := HR2.out.2 h.2.1; cases this)
    go_wp2
    go_ret
    exact ⟨rfl, HB2.out⟩
  | true =>
  by_cases h30 : nd ≤ 30
  case neg =>
    obtain rfl := HN.out (fun h => h30 (by have := h.2.2.1; rw [HND.out] at this; exact this))
    have g1 : decide ((30 : Int) < (nd : Int)) = true := decide_eq_true (by omega)
    have g1' : decide (30 < nd) = true := decide_eq_true (by omega)
    go_wp2
    go_ret
    exact ⟨rfl, HB2.out⟩
  have g1 : decide ((30 : Int) < (nd : Int)) = false := decide_eq_false (by omega)
  have g1' : decide (30 < nd) = false := decide_eq_false (by omega)
  go_wp2_with fail
  refine (l01In_is _ _ _ r3 HR3.out _).mono ?_
  rintro e wx ⟨rfl, rfl⟩
  cases r3 with
  | false =>
    obtain rfl := HN.out (fun h => by have := HR3.out.2 h.2.2.2.1; cases this)
    go_wp2
    go_ret
    exact ⟨rfl, HB2.out⟩
  | true =>
  have HNo : Hid (¬ daysP L → R = false) := fun h => HN.out fun hp => h hp.2.2.2.2
  have HYes : Hid (daysP L → R = true) := fun h => HY.out ⟨HR1.out.1 (by first | rfl | trivial), HR2.out.1 (by first | rfl | trivial), by rw [HND.out]; exact h30, HR3.out.1 (by first | rfl | trivial), h⟩
  clear HN HY HR1 HR2 HR3 g1 g1' CS CC
  go_wp2
  go_loop [34] (fun iv => ∃ k : Nat, k ≤ nd ∧ iv = .int .i64 k ∧ Hid (∀ i, i < k → (0 ≤ getI L i ∧ getI L i ≤ 60) ∧ (0 < i → getI L (i - 1) < getI L i))) (fun iv => nd - (RowKit.intOf iv).toNat)
  case atStart => exact ⟨0, Nat.zero_le _, rfl, fun i hi => absurd hi (Nat.not_lt_zero _)⟩
  case round =>
    obtain ⟨k, hk9, rfl, HV⟩ := hrel
    by_cases hlt : k < nd
    · obtain ⟨bo, oo, hao, hcap, q0⟩ := int_at HS2.out.2.2.1 hlt
      subst hao
      have hj1 : (k : Int) < (nd : Int) := by omega
      have HVN : Hid (((0 ≤ getI L k ∧ getI L k ≤ 60) ∧ (0 < k → getI L (k - 1) < getI L k)) → ∀ i, i < k + 1 → (0 ≤ getI L i ∧ getI L i ≤ 60) ∧ (0 < i → getI L (i - 1) < getI L i)) := fun h i hi => by
        by_cases e : i = k
        · subst e; exact h
        · exact HV.out i (by omega)
      have HF : Hid (¬ ((0 ≤ getI L k ∧ getI L k ≤ 60) ∧ (0 < k → getI L (k - 1) < getI L k)) → R = false) := fun h => HNo.out fun hp => h (hp k (by rw [HND.out]; exact hlt))
      obtain ⟨r4, hr4⟩ := boolEx (0 ≤ getI L k ∧ getI L k ≤ 60)
      have C4 := Lib.hid (fun wa => l01In_is (getI L k) 0 60 r4 hr4 wa)
      cases r4 with
      | false =>
        obtain rfl := HF.out (fun h => by have := hr4.2 h.1; cases this)
        clear HF HVN HV hr4
        generalize getI L k = x at *
        go_wp2_with fail
        refine (C4.out _).mono ?_
        rintro e wx ⟨rfl, rfl⟩
        go_wp2
        go_ret
        exact ⟨rfl, HB2.out⟩
      | true =>
      have hr4b := Lib.hid (hr4.1 rfl)
      clear hr4
      cases k with
      | zero =>
        have HVx := Lib.hid (HVN.out ⟨hr4b.out, fun h => absurd h (Nat.lt_irrefl _)⟩)
        clear HVN HF HV
        generalize getI L 0 = x at *
        simp only [Nat.add_zero] at q0
        go_wp2_with fail
        refine (C4.out _).mono ?_
        rintro e wx ⟨rfl, rfl⟩
        go_wp2
        go_round
        case rel => exact ⟨1, by omega, by go_num, HVx⟩
        case measure => simp [RowKit.intOf]; omega
      | succ j =>
        obtain ⟨_, _, he, _, q1⟩ := int_at HS2.out.2.2.1 (show j < nd by omega)
        simp only [Option.some.injEq, Addr.mk.injEq, and_true] at he
        obtain ⟨rfl, rfl⟩ := he
        have g0 : decide ((0 : Int) < ((j + 1 : Nat) : Int)) = true := decide_eq_true (by omega)
        have s3 : ((j + 1 : Nat) : Int) - 1 = (j : Int) := by omega
        have HVx : Hid (getI L j < getI L (j + 1) → ∀ i, i < j + 1 + 1 → (0 ≤ getI L i ∧ getI L i ≤ 60) ∧ (0 < i → getI L (i - 1) < getI L i)) := fun h => HVN.out ⟨hr4b.out, fun _ => h⟩
        have HFx : Hid (¬ getI L j < getI L (j + 1) → R = false) := fun h => HF.out fun hp => h (hp.2 (Nat.succ_pos _))
        clear HVN HF HV hr4b
        generalize hxe : getI L (j + 1) = x at *
        generalize hye : getI L j = y at *
        clear hxe hye
        by_cases h1 : y < x
        · have g2 : decide (x ≤ y) = false := decide_eq_false (by omega)
          have HVy := Lib.hid (HVx.out h1)
          clear HVx HFx
          go_wp2_with fail
          refine (C4.out _).mono ?_
          rintro e wx ⟨rfl, rfl⟩
          go_wp2
          go_round
          case rel => exact ⟨j + 1 + 1, by omega, by go_num, HVy⟩
          case measure => simp [RowKit.intOf]; omega
        · have g2 : decide (x ≤ y) = true := decide_eq_true (by omega)
          obtain rfl := HFx.out h1
          clear HVx HFx
          go_wp2_with fail
          refine (C4.out _).mono ?_
          rintro e wx ⟨rfl, rfl⟩
          go_wp2
          go_ret
          exact ⟨rfl, HB2.out⟩
    obtain rfl : k = nd := by omega
    obtain rfl := HYes.out (fun i hi => HV.out i (by rw [← HND.out]; exact hi))
    go_wp2
    go_ret
    exact ⟨rfl, HB2.out⟩
set_option maxRecDepth 100000 in
set_option maxHeartbeats 4000000 in
theorem isCalendar_spec (n : Int) (vr vd : Value) (rest : Int) (vc : Value) (D : List PairL) (L : List Int) (C : ClosL) (vt : Value) (T : List Int) (R : Bool) (w : World) (hR : R = true ↔ calP n D L rest C T)
    (hr : RdA tPairSS w [vr] D) (hd : IntRow w vd L.length (getI L)) (hc : RdA tClosedS w [vc] C) (ht : IntRow w vt T.length (getI T)) (hw : tPairSS.wt D ≤ 1048576) :
    Calls Try.prog 19 #[.int .i64 n, .agg #[vr, vd, .int .i64 rest, vc], vt] w fun e w' => e = .returned (.bool R) ∧ Below w.heap.size w w' := by
  obtain ⟨ra, rc, rfl, hrn⟩ := schedule_form hr
  obtain ⟨da, dc, rfl, hdn, _⟩ := hd.form
  obtain ⟨ca, cc, rfl, hcn⟩ := clos_form hc
  obtain ⟨nr, hnr⟩ : ∃ nr, List.length (α := PairL) D = nr := ⟨_, rfl⟩
  obtain ⟨nd, hnd⟩ : ∃ nd, L.length = nd := ⟨_, rfl⟩
  obtain ⟨nc, hnc⟩ : ∃ nc, List.length (α := tClosed.D) C = nc := ⟨_, rfl⟩
  obtain ⟨ta, tc, rfl, htn, _⟩ := ht.form
  obtain ⟨nt, hnt⟩ : ∃ nt, T.length = nt := ⟨_, rfl⟩
  obtain ⟨r1, hr1⟩ := boolEx (seaP n D L rest C)
  obtain ⟨U, hU⟩ : ∃ U, w.alloc (.cells #[.slice ra nr rc, .slice da nd dc, .int .i64 rest, .slice ca nc cc] 44) = U := ⟨_, rfl⟩
  have bU : Below w.heap.size w U := by rw [← hU]; exact (Below.refl _ _).alloc (Nat.le_refl _) _
  have CS := Lib.hid (l10Season_spec n _ _ rest _ D L C r1 U hr1 (hr.below bU) (hd.below bU (Nat.le_refl _)) (hc.below bU) hw)
  have HN := Lib.hid (boolF hR)
  have HY := Lib.hid (boolT hR)
  have HNR := Lib.hid hnr
  have HNT := Lib.hid hnt
  have HLL : Hid (∀ wa, IntRow wa (.slice da nd dc) nd (getI L) → ∀ x r, (r = true ↔ x ∈ L) → Calls Try.prog 42 #[.slice da nd dc, .int .i64 x] wa fun e w' => e = .returned (.bool r) ∧ Below wa.heap.size wa w') := fun wa h x r hx => (l02Has_mem (.slice da nd dc) L x r wa hx (by rw [hnd]; exact h)).mono fun e w' h => ⟨h.1, by rw [← h.2]; exact Below.refl _ _⟩
  rw [hnr] at hr CS ⊢
  rw [hnd] at hd hdn CS ⊢
  rw [hnc] at hc hcn CS ⊢
  rw [hnt] at ht htn ⊢
  have HS : Hid (SeaAt U w.heap.size ra nr rc da nd dc rest ca nc cc D L C) := by rw [← hU]; exact SeaAt.made hr hd hc
  have HB := Lib.hid bU
  have HT := Lib.hid (ht.below bU (Nat.le_refl _))
  have HR1 := Lib.hid hr1
  clear hr hd hc hR hw hnr hnd hnc ht hnt hrn hcn bU hr1
  obtain ⟨c0, c1, c2, c3⟩ := HS.out.cells
  go_enter Try.func19, Try.ntmps19
  go_wp2_with fail
  clear hU
  refine CS.out.mono ?_
  rintro e w1 ⟨rfl, b⟩
  have HS1 := Lib.hid (HS.out.below b)
  have HT1 := Lib.hid (HT.out.below b (Nat.le_refl _))
  have HB1 := Lib.hid (HB.out.trans (b.mono HB.out.size))
  clear b c0 c1 c2 c3 HS HB HT CS
  obtain ⟨c0, c1, c2, c3⟩ := HS1.out.cells
  cases r1 with
  | false =>
    obtain rfl := HN.out (fun h => by have := HR1.out.2 h.1; cases this)
    go_wp2
    go_ret
    exact ⟨rfl, HB1.out⟩
  | true =>
  by_cases hne : nt = nr
  case neg =>
    obtain rfl := HN.out (fun h => hne (by have := h.2.1; rw [HNT.out, HNR.out] at this; exact this))
    have g1 : ((nt : Int) != (nr : Int)) = true := by simp; omega
    go_wp2
    go_ret
    exact ⟨rfl, HB1.out⟩
  subst hne
  have HRS : Hid (1 ≤ rest ∧ rest ≤ 60) := (HR1.out.1 (by first | rfl | trivial)).2.2.2.1
  have HDY : Hid (∀ x ∈ L, 0 ≤ x ∧ x ≤ 60) := fun x hx => by
    obtain ⟨i, hi⟩ := List.mem_iff_getElem?.1 hx
    have hil := (List.getElem?_eq_some_iff.1 hi).1
    have h9 := ((HR1.out.1 (by first | rfl | trivial)).2.2.2.2 i hil).1
    have e : getI L i = x := by unfold getI; rw [List.getD_eq_getElem?_getD, hi]; rfl
    rw [e] at h9
    exact h9
  have HNo : Hid (¬ datesP D L rest C T nt → R = false) := fun h => HN.out fun hp => h (by have := hp.2.2; rw [HNT.out] at this; exact this)
  have HYes : Hid (datesP D L rest C T nt → R = true) := fun h => HY.out ⟨HR1.out.1 (by first | rfl | trivial), by rw [HNT.out, HNR.out], by rw [HNT.out]; exact h⟩
  clear HN HY HR1
  go_wp2
  clear c0 c1 c2 c3
  go_loopw [23] (fun iv wr => ∃ k : Nat, k ≤ nt ∧ iv = .int .i64 k ∧ Hid (datesP D L rest C T k) ∧ Hid (SeaAt wr w.heap.size ra nt rc da nd dc rest ca nc cc D L C) ∧ Hid (IntRow wr (.slice ta nt tc) nt (getI T)) ∧ Hid (Below w.heap.size w wr)) (fun iv _ => nt - (RowKit.intOf iv).toNat)
  case atStart => exact ⟨0, Nat.zero_le _, rfl, fun i hi => absurd hi (Nat.not_lt_zero _), HS1, HT1, HB1⟩
  case round =>
    clear HS1 HT1 HB1
    obtain ⟨k, hk9, rfl, HV, HS, HT, HB⟩ := hrel
    by_cases hlt : k < nt
    · obtain ⟨tb, to, hta, hcap, q0⟩ := int_at HT.out hlt
      subst hta
      obtain ⟨rr, hrr⟩ : ∃ rr : PairL, D[k]? = some rr := ⟨_, List.getElem?_eq_getElem (by rw [HNR.out]; exact hlt)⟩
      obtain ⟨rb, ro, xa, xc, hra, hcap2, hq, hrd, hx63⟩ := round_cells (by rw [HNR.out]; exact HS.out.2.1) hrr
      subst hra
      rw [HNR.out] at hcap2
      have hat : atR D k = rr := by unfold atR; rw [hrr]; rfl
      have hj1 : (k : Int) < (nt : Int) := by omega
      have HVN : Hid ((getI T k ∈ L ∧ (0 < k → getI T (k - 1) + rest ≤ getI T k) ∧ playB rr (getI T k) C = true) → datesP D L rest C T (k + 1)) := fun h i hi => by
        by_cases e : i = k
        · subst e; rw [hat]; exact h
        · exact HV.out i (by omega)
      have HF : Hid (¬ (getI T k ∈ L ∧ (0 < k → getI T (k - 1) + rest ≤ getI T k) ∧ playB rr (getI T k) C = true) → R = false) := fun h => HNo.out fun hp => h (by have := hp k hlt; rw [hat] at this; exact this)
      have CP : Hid (∀ wa, RdA tPairS wa [.slice xa (List.length (α := tPair.D) rr) xc] rr → RdA tClosedS wa [.slice ca nc cc] C → Calls Try.prog 14 #[.slice xa (List.length (α := tPair.D) rr) xc, .int .i64 (getI T k), .slice ca nc cc] wa fun e w' => e = .returned (.bool (playB rr (getI T k) C)) ∧ Below wa.heap.size wa w') := fun wa h1 h2 => canPlayOn_spec _ rr (getI T k) _ C wa h1 h2
      have HPV : Hid (0 < k → getI T (k - 1) ∈ L) := fun h => (HV.out (k - 1) (by omega)).1
      obtain ⟨xn, hxn⟩ : ∃ xn, List.length (α := tPair.D) rr = xn := ⟨_, rfl⟩
      rw [hxn] at hq hrd hx63 CP
      have HC2 := Lib.hid hq
      have HRR := Lib.hid hrd
      obtain ⟨rh, hrh⟩ := boolEx (getI T k ∈ L)
      have CH := Lib.hid (fun wa h => HLL.out wa h (getI T k) rh hrh)
      have HRH := Lib.hid hrh
      clear hrr hat hxn hq hrd hrh HV
      cases rh with
      | false =>
        obtain rfl := HF.out (fun h => by have := HRH.out.2 h.1; cases this)
        clear HF HVN HRH HPV
        generalize getI T k = x at *
        obtain ⟨S, HSd⟩ : ∃ S : World → Prop, S = fun w' => (SeaAt w' w.heap.size (some ⟨rb, ro, none⟩) nt rc da nd dc rest ca nc cc D L C ∧ IntRow w' (.slice (some ⟨tb, to, none⟩) nt tc) nt (getI T) ∧ w'.cell? ⟨rb, ro + k, none⟩ = some (.slice xa xn xc) ∧ RdA tPairS w' [.slice xa xn xc] rr ∧ Below w.heap.size w w') := ⟨_, rfl⟩
        have KS : Hid (∀ wa wb, S wa → Below wa.heap.size wa wb → S wb) := by subst HSd; exact fun wa wb h b => ⟨h.1.below b, h.2.1.below b (Nat.le_refl _), (b.cell (p := ⟨rb, ro + k, none⟩) (World.block_lt_of_cell? wa _ h.2.2.1)).trans h.2.2.1, h.2.2.2.1.below b, h.2.2.2.2.trans (b.mono h.2.2.2.2.size)⟩
        have OS : Hid (∀ wa, S wa → (SeaAt wa w.heap.size (some ⟨rb, ro, none⟩) nt rc da nd dc rest ca nc cc D L C ∧ IntRow wa (.slice (some ⟨tb, to, none⟩) nt tc) nt (getI T) ∧ wa.cell? ⟨rb, ro + k, none⟩ = some (.slice xa xn xc) ∧ RdA tPairS wa [.slice xa xn xc] rr ∧ Below w.heap.size w wa)) := by subst HSd; exact fun wa h => h
        have IS : Hid (∀ wa, (SeaAt wa w.heap.size (some ⟨rb, ro, none⟩) nt rc da nd dc rest ca nc cc D L C ∧ IntRow wa (.slice (some ⟨tb, to, none⟩) nt tc) nt (getI T) ∧ wa.cell? ⟨rb, ro + k, none⟩ = some (.slice xa xn xc) ∧ RdA tPairS wa [.slice xa xn xc] rr ∧ Below w.heap.size w wa) → S wa) := by subst HSd; exact fun wa h => h
        clear HSd
        go_wp2_with fail
        refine wp_region_held_drew (S := S) (by kernel_rfl) ?_ (fun hHeld => ?_)
        · exact IS.out _ ((fun (b : Below wr.heap.size wr wr.drew) => ⟨HS.out.below b, HT.out.below b (Nat.le_refl _), (b.cell (p := ⟨rb, ro + k, none⟩) (World.block_lt_of_cell? wr _ HC2.out)).trans HC2.out, HRR.out.below b, HB.out.trans (b.mono HB.out.size)⟩) (Below.refl _ _).drew)
        refine wpAnyH_take (i := 0) (v := ?_) rfl (by kernel_rfl) (by kernel_rfl) (by kernel_rfl) (fun _ _ _ h => h) (Or.inl ⟨by rfl, ?_⟩) hHeld ?_
        rotate_left
        · (intro wa hSw; go_simp; try with_reducible rfl)
        simp only [Act.put, List.getElem_toArray, List.getElem_cons_zero, List.setIfInBounds_toArray, List.set_cons_zero, List.set_cons_succ]
        refine wpAnyH_take (i := 1) (v := ?_) rfl (by kernel_rfl) (by kernel_rfl) (by kernel_rfl) (fun _ _ _ h => h) (Or.inl ⟨by rfl, ?_⟩) hHeld ?_
        rotate_left
        · (intro wa hSw; have K := OS.out _ hSw; obtain ⟨cb0, cb1, cb2, cb3⟩ := K.1.cells; have cr := K.2.2.1; go_simp; try with_reducible rfl)
        simp only [Act.put, List.getElem_toArray, List.getElem_cons_zero, List.getElem_cons_succ, List.setIfInBounds_toArray, List.set_cons_zero, List.set_cons_succ]
        refine wpAnyH_take (i := 2) (v := ?_) rfl (by kernel_rfl) (by kernel_rfl) (by kernel_rfl) (fun _ _ _ h => h) (Or.inl ⟨by rfl, ?_⟩) hHeld ?_
        rotate_left
        · (intro wa hSw; go_simp; try with_reducible rfl)
        simp only [Act.put, List.getElem_toArray, List.getElem_cons_zero, List.getElem_cons_succ, List.setIfInBounds_toArray, List.set_cons_zero, List.set_cons_succ]
        refine wpAnyH_ready (rs := [3]) (by kernel_rfl) (by simp) ?_
        refine AllReadyH.cons (o := _) rfl (fun K hK => ?_) AllReadyH.nil
        go_simp
        have KK := OS.out _ hHeld
        refine (CH.out _ KK.1.2.2.1).mono ?_
        rintro e w101 ⟨rfl, b101⟩
        clear KK
        (try go_wp2_with fail)
        refine hK.out _ _ ?_ (fun hHeld101 => ?_)
        · exact KS.out _ _ hHeld b101
        clear hK K
        refine wpAnyH_take (i := 4) (v := ?_) rfl (by kernel_rfl) (by kernel_rfl) (by kernel_rfl) (fun _ _ _ h => h) (Or.inl ⟨by rfl, ?_⟩) hHeld101 ?_
        rotate_left
        · (intro wa hSw; go_simp; try with_reducible rfl)
        simp only [Act.put, List.getElem_toArray, List.getElem_cons_zero, List.getElem_cons_succ, List.setIfInBounds_toArray, List.set_cons_zero, List.set_cons_succ]
        refine wpAnyH_take (i := 5) (v := ?_) rfl (by kernel_rfl) (by kernel_rfl) (by kernel_rfl) (fun _ _ _ h => h) (Or.inl ⟨by rfl, ?_⟩) hHeld101 ?_
        rotate_left
        · (intro wa hSw; go_simp; try with_reducible rfl)
        simp only [Act.put, List.getElem_toArray, List.getElem_cons_zero, List.getElem_cons_succ, List.setIfInBounds_toArray, List.set_cons_zero, List.set_cons_succ]
        refine wpAnyH_take (i := 6) (v := undef) rfl (by kernel_rfl) (by kernel_rfl) (by kernel_rfl) (fun _ _ _ h => h) (Or.inr ⟨by rfl, rfl⟩) hHeld101 ?_
        simp only [Act.put, List.getElem_toArray, List.getElem_cons_zero, List.getElem_cons_succ, List.setIfInBounds_toArray, List.set_cons_zero, List.set_cons_succ]
        refine wpAnyH_take (i := 7) (v := undef) rfl (by kernel_rfl) (by kernel_rfl) (by kernel_rfl) (fun _ _ _ h => h) (Or.inr ⟨by rfl, rfl⟩) hHeld101 ?_
        simp only [Act.put, List.getElem_toArray, List.getElem_cons_zero, List.getElem_cons_succ, List.setIfInBounds_toArray, List.set_cons_zero, List.set_cons_succ]
        refine wpAnyH_take (i := 8) (v := undef) rfl (by kernel_rfl) (by kernel_rfl) (by kernel_rfl) (fun _ _ _ h => h) (Or.inr ⟨by rfl, rfl⟩) hHeld101 ?_
        simp only [Act.put, List.getElem_toArray, List.getElem_cons_zero, List.getElem_cons_succ, List.setIfInBounds_toArray, List.set_cons_zero, List.set_cons_succ]
        refine wpAnyH_take (i := 9) (v := undef) rfl (by kernel_rfl) (by kernel_rfl) (by kernel_rfl) (fun _ _ _ h => h) (Or.inr ⟨by rfl, rfl⟩) hHeld101 ?_
        simp only [Act.put, List.getElem_toArray, List.getElem_cons_zero, List.getElem_cons_succ, List.setIfInBounds_toArray, List.set_cons_zero, List.set_cons_succ]
        refine wpAnyH_take (i := 10) (v := undef) rfl (by kernel_rfl) (by kernel_rfl) (by kernel_rfl) (fun _ _ _ h => h) (Or.inr ⟨by rfl, rfl⟩) hHeld101 ?_
        simp only [Act.put, List.getElem_toArray, List.getElem_cons_zero, List.getElem_cons_succ, List.setIfInBounds_toArray, List.set_cons_zero, List.set_cons_succ]
        refine wpAnyH_take (i := 11) (v := undef) rfl (by kernel_rfl) (by kernel_rfl) (by kernel_rfl) (fun _ _ _ h => h) (Or.inr ⟨by rfl, rfl⟩) hHeld101 ?_
        simp only [Act.put, List.getElem_toArray, List.getElem_cons_zero, List.getElem_cons_succ, List.setIfInBounds_toArray, List.set_cons_zero, List.set_cons_succ]
        refine wpAnyH_take (i := 12) (v := undef) rfl (by kernel_rfl) (by kernel_rfl) (by kernel_rfl) (fun _ _ _ h => h) (Or.inr ⟨by rfl, rfl⟩) hHeld101 ?_
        simp only [Act.put, List.getElem_toArray, List.getElem_cons_zero, List.getElem_cons_succ, List.setIfInBounds_toArray, List.set_cons_zero, List.set_cons_succ]
        refine wpAnyH_take (i := 13) (v := undef) rfl (by kernel_rfl) (by kernel_rfl) (by kernel_rfl) (fun _ _ _ h => h) (Or.inr ⟨by rfl, rfl⟩) hHeld101 ?_
        simp only [Act.put, List.getElem_toArray, List.getElem_cons_zero, List.getElem_cons_succ, List.setIfInBounds_toArray, List.set_cons_zero, List.set_cons_succ]
        refine wpAnyH_take (i := 14) (v := undef) rfl (by kernel_rfl) (by kernel_rfl) (by kernel_rfl) (fun _ _ _ h => h) (Or.inr ⟨by rfl, rfl⟩) hHeld101 ?_
        simp only [Act.put, List.getElem_toArray, List.getElem_cons_zero, List.getElem_cons_succ, List.setIfInBounds_toArray, List.set_cons_zero, List.set_cons_succ]
        refine wpAnyH_take (i := 15) (v := undef) rfl (by kernel_rfl) (by kernel_rfl) (by kernel_rfl) (fun _ _ _ h => h) (Or.inr ⟨by rfl, rfl⟩) hHeld101 ?_
        simp only [Act.put, List.getElem_toArray, List.getElem_cons_zero, List.getElem_cons_succ, List.setIfInBounds_toArray, List.set_cons_zero, List.set_cons_succ]
        refine wpAnyH_take (i := 16) (v := undef) rfl (by kernel_rfl) (by kernel_rfl) (by kernel_rfl) (fun _ _ _ h => h) (Or.inr ⟨by rfl, rfl⟩) hHeld101 ?_
        simp only [Act.put, List.getElem_toArray, List.getElem_cons_zero, List.getElem_cons_succ, List.setIfInBounds_toArray, List.set_cons_zero, List.set_cons_succ]
        refine wpAnyH_take (i := 17) (v := undef) rfl (by kernel_rfl) (by kernel_rfl) (by kernel_rfl) (fun _ _ _ h => h) (Or.inr ⟨by rfl, rfl⟩) hHeld101 ?_
        simp only [Act.put, List.getElem_toArray, List.getElem_cons_zero, List.getElem_cons_succ, List.setIfInBounds_toArray, List.set_cons_zero, List.set_cons_succ]
        refine wpAnyH_take (i := 18) (v := undef) rfl (by kernel_rfl) (by kernel_rfl) (by kernel_rfl) (fun _ _ _ h => h) (Or.inr ⟨by rfl, rfl⟩) hHeld101 ?_
        simp only [Act.put, List.getElem_toArray, List.getElem_cons_zero, List.getElem_cons_succ, List.setIfInBounds_toArray, List.set_cons_zero, List.set_cons_succ]
        refine wpAnyH_take (i := 19) (v := undef) rfl (by kernel_rfl) (by kernel_rfl) (by kernel_rfl) (fun _ _ _ h => h) (Or.inr ⟨by rfl, rfl⟩) hHeld101 ?_
        simp only [Act.put, List.getElem_toArray, List.getElem_cons_zero, List.getElem_cons_succ, List.setIfInBounds_toArray, List.set_cons_zero, List.set_cons_succ]
        refine wpAnyH_take (i := 20) (v := ?_) rfl (by kernel_rfl) (by kernel_rfl) (by kernel_rfl) (fun _ _ _ h => h) (Or.inl ⟨by rfl, ?_⟩) hHeld101 ?_
        rotate_left
        · (intro wa hSw; go_simp; try with_reducible rfl)
        simp only [Act.put, List.getElem_toArray, List.getElem_cons_zero, List.getElem_cons_succ, List.setIfInBounds_toArray, List.set_cons_zero, List.set_cons_succ]
        refine wpAnyH_take (i := 21) (v := ?_) rfl (by kernel_rfl) (by kernel_rfl) (by kernel_rfl) (fun _ _ _ h => h) (Or.inl ⟨by rfl, ?_⟩) hHeld101 ?_
        rotate_left
        · (intro wa hSw; go_simp; try with_reducible rfl)
        simp only [Act.put, List.getElem_toArray, List.getElem_cons_zero, List.getElem_cons_succ, List.setIfInBounds_toArray, List.set_cons_zero, List.set_cons_succ]
        refine wpAnyH_take (i := 22) (v := undef) rfl (by kernel_rfl) (by kernel_rfl) (by kernel_rfl) (fun _ _ _ h => h) (Or.inr ⟨by rfl, rfl⟩) hHeld101 ?_
        simp only [Act.put, List.getElem_toArray, List.getElem_cons_zero, List.getElem_cons_succ, List.setIfInBounds_toArray, List.set_cons_zero, List.set_cons_succ]
        refine wpAnyH_take (i := 23) (v := undef) rfl (by kernel_rfl) (by kernel_rfl) (by kernel_rfl) (fun _ _ _ h => h) (Or.inr ⟨by rfl, rfl⟩) hHeld101 ?_
        simp only [Act.put, List.getElem_toArray, List.getElem_cons_zero, List.getElem_cons_succ, List.setIfInBounds_toArray, List.set_cons_zero, List.set_cons_succ]
        refine wpAnyH_take (i := 24) (v := undef) rfl (by kernel_rfl) (by kernel_rfl) (by kernel_rfl) (fun _ _ _ h => h) (Or.inr ⟨by rfl, rfl⟩) hHeld101 ?_
        simp only [Act.put, List.getElem_toArray, List.getElem_cons_zero, List.getElem_cons_succ, List.setIfInBounds_toArray, List.set_cons_zero, List.set_cons_succ]
        refine wpAnyH_take (i := 25) (v := undef) rfl (by kernel_rfl) (by kernel_rfl) (by kernel_rfl) (fun _ _ _ h => h) (Or.inr ⟨by rfl, rfl⟩) hHeld101 ?_
        simp only [Act.put, List.getElem_toArray, List.getElem_cons_zero, List.getElem_cons_succ, List.setIfInBounds_toArray, List.set_cons_zero, List.set_cons_succ]
        refine wpAnyH_take (i := 26) (v := undef) rfl (by kernel_rfl) (by kernel_rfl) (by kernel_rfl) (fun _ _ _ h => h) (Or.inr ⟨by rfl, rfl⟩) hHeld101 ?_
        simp only [Act.put, List.getElem_toArray, List.getElem_cons_zero, List.getElem_cons_succ, List.setIfInBounds_toArray, List.set_cons_zero, List.set_cons_succ]
        refine wpAnyH_take (i := 27) (v := undef) rfl (by kernel_rfl) (by kernel_rfl) (by kernel_rfl) (fun _ _ _ h => h) (Or.inr ⟨by rfl, rfl⟩) hHeld101 ?_
        simp only [Act.put, List.getElem_toArray, List.getElem_cons_zero, List.getElem_cons_succ, List.setIfInBounds_toArray, List.set_cons_zero, List.set_cons_succ]
        refine wpAnyH_take (i := 28) (v := undef) rfl (by kernel_rfl) (by kernel_rfl) (by kernel_rfl) (fun _ _ _ h => h) (Or.inr ⟨by rfl, rfl⟩) hHeld101 ?_
        simp only [Act.put, List.getElem_toArray, List.getElem_cons_zero, List.getElem_cons_succ, List.setIfInBounds_toArray, List.set_cons_zero, List.set_cons_succ]
        refine wpAnyH_take (i := 29) (v := undef) rfl (by kernel_rfl) (by kernel_rfl) (by kernel_rfl) (fun _ _ _ h => h) (Or.inr ⟨by rfl, rfl⟩) hHeld101 ?_
        simp only [Act.put, List.getElem_toArray, List.getElem_cons_zero, List.getElem_cons_succ, List.setIfInBounds_toArray, List.set_cons_zero, List.set_cons_succ]
        refine wpAnyH_take (i := 30) (v := undef) rfl (by kernel_rfl) (by kernel_rfl) (by kernel_rfl) (fun _ _ _ h => h) (Or.inr ⟨by rfl, rfl⟩) hHeld101 ?_
        simp only [Act.put, List.getElem_toArray, List.getElem_cons_zero, List.getElem_cons_succ, List.setIfInBounds_toArray, List.set_cons_zero, List.set_cons_succ]
        refine wpAnyH_take (i := 31) (v := undef) rfl (by kernel_rfl) (by kernel_rfl) (by kernel_rfl) (fun _ _ _ h => h) (Or.inr ⟨by rfl, rfl⟩) hHeld101 ?_
        simp only [Act.put, List.getElem_toArray, List.getElem_cons_zero, List.getElem_cons_succ, List.setIfInBounds_toArray, List.set_cons_zero, List.set_cons_succ]
        refine wpAnyH_take (i := 32) (v := ?_) rfl (by kernel_rfl) (by kernel_rfl) (by kernel_rfl) (fun _ _ _ h => h) (Or.inl ⟨by rfl, ?_⟩) hHeld101 ?_
        rotate_left
        · (intro wa hSw; go_simp; try with_reducible rfl)
        simp only [Act.put, List.getElem_toArray, List.getElem_cons_zero, List.getElem_cons_succ, List.setIfInBounds_toArray, List.set_cons_zero, List.set_cons_succ]
        refine wpAnyH_done (by kernel_rfl) ?_ _
        have KE := Lib.hid (OS.out _ hHeld101)
        clear KS OS IS hHeld hHeld101
        have HE := Lib.hid KE.out
        clear KE
        go_wp2
        go_ret
        exact ⟨rfl, HE.out.2.2.2.2⟩
      | true =>
      have HM := Lib.hid (HRH.out.1 rfl)
      have hxr := HDY.out _ HM.out
      obtain ⟨pl, hpl⟩ : ∃ pl, playB rr (getI T k) C = pl := ⟨_, rfl⟩
      rw [hpl] at CP HVN HF
      clear hpl HRH
      rcases Nat.eq_zero_or_pos k with hk0 | hk0
      · have g0 : decide ((0 : Int) < (k : Int)) = false := decide_eq_false (by omega)
        have g0' : decide (0 < k) = false := decide_eq_false (by omega)
        have HK0 := Lib.hid hk0
        clear hk0
        cases pl with
        | false =>
          obtain rfl := HF.out (fun h => by have := h.2.2; cases this)
          clear HF HVN HPV HM
          generalize getI T k = x at *
          obtain ⟨S, HSd⟩ : ∃ S : World → Prop, S = fun w' => (SeaAt w' w.heap.size (some ⟨rb, ro, none⟩) nt rc da nd dc rest ca nc cc D L C ∧ IntRow w' (.slice (some ⟨tb, to, none⟩) nt tc) nt (getI T) ∧ w'.cell? ⟨rb, ro + k, none⟩ = some (.slice xa xn xc) ∧ RdA tPairS w' [.slice xa xn xc] rr ∧ Below w.heap.size w w') := ⟨_, rfl⟩
          have KS : Hid (∀ wa wb, S wa → Below wa.heap.size wa wb → S wb) := by subst HSd; exact fun wa wb h b => ⟨h.1.below b, h.2.1.below b (Nat.le_refl _), (b.cell (p := ⟨rb, ro + k, none⟩) (World.block_lt_of_cell? wa _ h.2.2.1)).trans h.2.2.1, h.2.2.2.1.below b, h.2.2.2.2.trans (b.mono h.2.2.2.2.size)⟩
          have OS : Hid (∀ wa, S wa → (SeaAt wa w.heap.size (some ⟨rb, ro, none⟩) nt rc da nd dc rest ca nc cc D L C ∧ IntRow wa (.slice (some ⟨tb, to, none⟩) nt tc) nt (getI T) ∧ wa.cell? ⟨rb, ro + k, none⟩ = some (.slice xa xn xc) ∧ RdA tPairS wa [.slice xa xn xc] rr ∧ Below w.heap.size w wa)) := by subst HSd; exact fun wa h => h
          have IS : Hid (∀ wa, (SeaAt wa w.heap.size (some ⟨rb, ro, none⟩) nt rc da nd dc rest ca nc cc D L C ∧ IntRow wa (.slice (some ⟨tb, to, none⟩) nt tc) nt (getI T) ∧ wa.cell? ⟨rb, ro + k, none⟩ = some (.slice xa xn xc) ∧ RdA tPairS wa [.slice xa xn xc] rr ∧ Below w.heap.size w wa) → S wa) := by subst HSd; exact fun wa h => h
          clear HSd
          go_wp2_with fail
          refine wp_region_held_drew (S := S) (by kernel_rfl) ?_ (fun hHeld => ?_)
          · exact IS.out _ ((fun (b : Below wr.heap.size wr wr.drew) => ⟨HS.out.below b, HT.out.below b (Nat.le_refl _), (b.cell (p := ⟨rb, ro + k, none⟩) (World.block_lt_of_cell? wr _ HC2.out)).trans HC2.out, HRR.out.below b, HB.out.trans (b.mono HB.out.size)⟩) (Below.refl _ _).drew)
          refine wpAnyH_take (i := 0) (v := ?_) rfl (by kernel_rfl) (by kernel_rfl) (by kernel_rfl) (fun _ _ _ h => h) (Or.inl ⟨by rfl, ?_⟩) hHeld ?_
          rotate_left
          · (intro wa hSw; go_simp; try with_reducible rfl)
          simp only [Act.put, List.getElem_toArray, List.getElem_cons_zero, List.setIfInBounds_toArray, List.set_cons_zero, List.set_cons_succ]
          refine wpAnyH_take (i := 1) (v := ?_) rfl (by kernel_rfl) (by kernel_rfl) (by kernel_rfl) (fun _ _ _ h => h) (Or.inl ⟨by rfl, ?_⟩) hHeld ?_
          rotate_left
          · (intro wa hSw; have K := OS.out _ hSw; obtain ⟨cb0, cb1, cb2, cb3⟩ := K.1.cells; have cr := K.2.2.1; go_simp; try with_reducible rfl)
          simp only [Act.put, List.getElem_toArray, List.getElem_cons_zero, List.getElem_cons_succ, List.setIfInBounds_toArray, List.set_cons_zero, List.set_cons_succ]
          refine wpAnyH_take (i := 2) (v := ?_) rfl (by kernel_rfl) (by kernel_rfl) (by kernel_rfl) (fun _ _ _ h => h) (Or.inl ⟨by rfl, ?_⟩) hHeld ?_
          rotate_left
          · (intro wa hSw; go_simp; try with_reducible rfl)
          simp only [Act.put, List.getElem_toArray, List.getElem_cons_zero, List.getElem_cons_succ, List.setIfInBounds_toArray, List.set_cons_zero, List.set_cons_succ]
          refine wpAnyH_ready (rs := [3]) (by kernel_rfl) (by simp) ?_
          refine AllReadyH.cons (o := _) rfl (fun K hK => ?_) AllReadyH.nil
          go_simp
          have KK := OS.out _ hHeld
          refine (CH.out _ KK.1.2.2.1).mono ?_
          rintro e w101 ⟨rfl, b101⟩
          clear KK
          (try go_wp2_with fail)
          refine hK.out _ _ ?_ (fun hHeld101 => ?_)
          · exact KS.out _ _ hHeld b101
          clear hK K
          refine wpAnyH_take (i := 4) (v := ?_) rfl (by kernel_rfl) (by kernel_rfl) (by kernel_rfl) (fun _ _ _ h => h) (Or.inl ⟨by rfl, ?_⟩) hHeld101 ?_
          rotate_left
          · (intro wa hSw; go_simp; try with_reducible rfl)
          simp only [Act.put, List.getElem_toArray, List.getElem_cons_zero, List.getElem_cons_succ, List.setIfInBounds_toArray, List.set_cons_zero, List.set_cons_succ]
          refine wpAnyH_take (i := 5) (v := ?_) rfl (by kernel_rfl) (by kernel_rfl) (by kernel_rfl) (fun _ _ _ h => h) (Or.inl ⟨by rfl, ?_⟩) hHeld101 ?_
          rotate_left
          · (intro wa hSw; go_simp; try with_reducible rfl)
          simp only [Act.put, List.getElem_toArray, List.getElem_cons_zero, List.getElem_cons_succ, List.setIfInBounds_toArray, List.set_cons_zero, List.set_cons_succ]
          refine wpAnyH_take (i := 6) (v := ?_) rfl (by kernel_rfl) (by kernel_rfl) (by kernel_rfl) (fun _ _ _ h => h) (Or.inl ⟨by rfl, ?_⟩) hHeld101 ?_
          rotate_left
          · (intro wa hSw; go_simp; try with_reducible rfl)
          simp only [Act.put, List.getElem_toArray, List.getElem_cons_zero, List.getElem_cons_succ, List.setIfInBounds_toArray, List.set_cons_zero, List.set_cons_succ]
          refine wpAnyH_take (i := 7) (v := ?_) rfl (by kernel_rfl) (by kernel_rfl) (by kernel_rfl) (fun _ _ _ h => h) (Or.inl ⟨by rfl, ?_⟩) hHeld101 ?_
          rotate_left
          · (intro wa hSw; go_simp; try with_reducible rfl)
          simp only [Act.put, List.getElem_toArray, List.getElem_cons_zero, List.getElem_cons_succ, List.setIfInBounds_toArray, List.set_cons_zero, List.set_cons_succ]
          refine wpAnyH_take (i := 8) (v := ?_) rfl (by kernel_rfl) (by kernel_rfl) (by kernel_rfl) (fun _ _ _ h => h) (Or.inl ⟨by rfl, ?_⟩) hHeld101 ?_
          rotate_left
          · (intro wa hSw; go_simp; try with_reducible rfl)
          simp only [Act.put, List.getElem_toArray, List.getElem_cons_zero, List.getElem_cons_succ, List.setIfInBounds_toArray, List.set_cons_zero, List.set_cons_succ]
          refine wpAnyH_take (i := 9) (v := undef) rfl (by kernel_rfl) (by kernel_rfl) (by kernel_rfl) (fun _ _ _ h => h) (Or.inr ⟨by rfl, rfl⟩) hHeld101 ?_
          simp only [Act.put, List.getElem_toArray, List.getElem_cons_zero, List.getElem_cons_succ, List.setIfInBounds_toArray, List.set_cons_zero, List.set_cons_succ]
          refine wpAnyH_take (i := 10) (v := undef) rfl (by kernel_rfl) (by kernel_rfl) (by kernel_rfl) (fun _ _ _ h => h) (Or.inr ⟨by rfl, rfl⟩) hHeld101 ?_
          simp only [Act.put, List.getElem_toArray, List.getElem_cons_zero, List.getElem_cons_succ, List.setIfInBounds_toArray, List.set_cons_zero, List.set_cons_succ]
          refine wpAnyH_take (i := 11) (v := undef) rfl (by kernel_rfl) (by kernel_rfl) (by kernel_rfl) (fun _ _ _ h => h) (Or.inr ⟨by rfl, rfl⟩) hHeld101 ?_
          simp only [Act.put, List.getElem_toArray, List.getElem_cons_zero, List.getElem_cons_succ, List.setIfInBounds_toArray, List.set_cons_zero, List.set_cons_succ]
          refine wpAnyH_take (i := 12) (v := undef) rfl (by kernel_rfl) (by kernel_rfl) (by kernel_rfl) (fun _ _ _ h => h) (Or.inr ⟨by rfl, rfl⟩) hHeld101 ?_
          simp only [Act.put, List.getElem_toArray, List.getElem_cons_zero, List.getElem_cons_succ, List.setIfInBounds_toArray, List.set_cons_zero, List.set_cons_succ]
          refine wpAnyH_take (i := 13) (v := undef) rfl (by kernel_rfl) (by kernel_rfl) (by kernel_rfl) (fun _ _ _ h => h) (Or.inr ⟨by rfl, rfl⟩) hHeld101 ?_
          simp only [Act.put, List.getElem_toArray, List.getElem_cons_zero, List.getElem_cons_succ, List.setIfInBounds_toArray, List.set_cons_zero, List.set_cons_succ]
          refine wpAnyH_take (i := 14) (v := undef) rfl (by kernel_rfl) (by kernel_rfl) (by kernel_rfl) (fun _ _ _ h => h) (Or.inr ⟨by rfl, rfl⟩) hHeld101 ?_
          simp only [Act.put, List.getElem_toArray, List.getElem_cons_zero, List.getElem_cons_succ, List.setIfInBounds_toArray, List.set_cons_zero, List.set_cons_succ]
          refine wpAnyH_take (i := 15) (v := undef) rfl (by kernel_rfl) (by kernel_rfl) (by kernel_rfl) (fun _ _ _ h => h) (Or.inr ⟨by rfl, rfl⟩) hHeld101 ?_
          simp only [Act.put, List.getElem_toArray, List.getElem_cons_zero, List.getElem_cons_succ, List.setIfInBounds_toArray, List.set_cons_zero, List.set_cons_succ]
          refine wpAnyH_take (i := 16) (v := undef) rfl (by kernel_rfl) (by kernel_rfl) (by kernel_rfl) (fun _ _ _ h => h) (Or.inr ⟨by rfl, rfl⟩) hHeld101 ?_
          simp only [Act.put, List.getElem_toArray, List.getElem_cons_zero, List.getElem_cons_succ, List.setIfInBounds_toArray, List.set_cons_zero, List.set_cons_succ]
          refine wpAnyH_take (i := 17) (v := undef) rfl (by kernel_rfl) (by kernel_rfl) (by kernel_rfl) (fun _ _ _ h => h) (Or.inr ⟨by rfl, rfl⟩) hHeld101 ?_
          simp only [Act.put, List.getElem_toArray, List.getElem_cons_zero, List.getElem_cons_succ, List.setIfInBounds_toArray, List.set_cons_zero, List.set_cons_succ]
          refine wpAnyH_take (i := 18) (v := undef) rfl (by kernel_rfl) (by kernel_rfl) (by kernel_rfl) (fun _ _ _ h => h) (Or.inr ⟨by rfl, rfl⟩) hHeld101 ?_
          simp only [Act.put, List.getElem_toArray, List.getElem_cons_zero, List.getElem_cons_succ, List.setIfInBounds_toArray, List.set_cons_zero, List.set_cons_succ]
          refine wpAnyH_take (i := 19) (v := ?_) rfl (by kernel_rfl) (by kernel_rfl) (by kernel_rfl) (fun _ _ _ h => h) (Or.inl ⟨by rfl, ?_⟩) hHeld101 ?_
          rotate_left
          · (intro wa hSw; go_simp; try with_reducible rfl)
          simp only [Act.put, List.getElem_toArray, List.getElem_cons_zero, List.getElem_cons_succ, List.setIfInBounds_toArray, List.set_cons_zero, List.set_cons_succ]
          refine wpAnyH_take (i := 20) (v := ?_) rfl (by kernel_rfl) (by kernel_rfl) (by kernel_rfl) (fun _ _ _ h => h) (Or.inl ⟨by rfl, ?_⟩) hHeld101 ?_
          rotate_left
          · (intro wa hSw; go_simp; try with_reducible rfl)
          simp only [Act.put, List.getElem_toArray, List.getElem_cons_zero, List.getElem_cons_succ, List.setIfInBounds_toArray, List.set_cons_zero, List.set_cons_succ]
          refine wpAnyH_take (i := 21) (v := ?_) rfl (by kernel_rfl) (by kernel_rfl) (by kernel_rfl) (fun _ _ _ h => h) (Or.inl ⟨by rfl, ?_⟩) hHeld101 ?_
          rotate_left
          · (intro wa hSw; go_simp; try with_reducible rfl)
          simp only [Act.put, List.getElem_toArray, List.getElem_cons_zero, List.getElem_cons_succ, List.setIfInBounds_toArray, List.set_cons_zero, List.set_cons_succ]
          refine wpAnyH_take (i := 22) (v := ?_) rfl (by kernel_rfl) (by kernel_rfl) (by kernel_rfl) (fun _ _ _ h => h) (Or.inl ⟨by rfl, ?_⟩) hHeld101 ?_
          rotate_left
          · (intro wa hSw; go_simp; try with_reducible rfl)
          simp only [Act.put, List.getElem_toArray, List.getElem_cons_zero, List.getElem_cons_succ, List.setIfInBounds_toArray, List.set_cons_zero, List.set_cons_succ]
          refine wpAnyH_take (i := 23) (v := ?_) rfl (by kernel_rfl) (by kernel_rfl) (by kernel_rfl) (fun _ _ _ h => h) (Or.inl ⟨by rfl, ?_⟩) hHeld101 ?_
          rotate_left
          · (intro wa hSw; have K := OS.out _ hSw; obtain ⟨cb0, cb1, cb2, cb3⟩ := K.1.cells; have cr := K.2.2.1; go_simp; try with_reducible rfl)
          simp only [Act.put, List.getElem_toArray, List.getElem_cons_zero, List.getElem_cons_succ, List.setIfInBounds_toArray, List.set_cons_zero, List.set_cons_succ]
          refine wpAnyH_take (i := 24) (v := ?_) rfl (by kernel_rfl) (by kernel_rfl) (by kernel_rfl) (fun _ _ _ h => h) (Or.inl ⟨by rfl, ?_⟩) hHeld101 ?_
          rotate_left
          · (intro wa hSw; go_simp; try with_reducible rfl)
          simp only [Act.put, List.getElem_toArray, List.getElem_cons_zero, List.getElem_cons_succ, List.setIfInBounds_toArray, List.set_cons_zero, List.set_cons_succ]
          refine wpAnyH_take (i := 25) (v := ?_) rfl (by kernel_rfl) (by kernel_rfl) (by kernel_rfl) (fun _ _ _ h => h) (Or.inl ⟨by rfl, ?_⟩) hHeld101 ?_
          rotate_left
          · (intro wa hSw; go_simp; try with_reducible rfl)
          simp only [Act.put, List.getElem_toArray, List.getElem_cons_zero, List.getElem_cons_succ, List.setIfInBounds_toArray, List.set_cons_zero, List.set_cons_succ]
          refine wpAnyH_take (i := 26) (v := ?_) rfl (by kernel_rfl) (by kernel_rfl) (by kernel_rfl) (fun _ _ _ h => h) (Or.inl ⟨by rfl, ?_⟩) hHeld101 ?_
          rotate_left
          · (intro wa hSw; have K := OS.out _ hSw; obtain ⟨cb0, cb1, cb2, cb3⟩ := K.1.cells; have cr := K.2.2.1; go_simp; try with_reducible rfl)
          simp only [Act.put, List.getElem_toArray, List.getElem_cons_zero, List.getElem_cons_succ, List.setIfInBounds_toArray, List.set_cons_zero, List.set_cons_succ]
          refine wpAnyH_take (i := 27) (v := ?_) rfl (by kernel_rfl) (by kernel_rfl) (by kernel_rfl) (fun _ _ _ h => h) (Or.inl ⟨by rfl, ?_⟩) hHeld101 ?_
          rotate_left
          · (intro wa hSw; go_simp; try with_reducible rfl)
          simp only [Act.put, List.getElem_toArray, List.getElem_cons_zero, List.getElem_cons_succ, List.setIfInBounds_toArray, List.set_cons_zero, List.set_cons_succ]
          refine wpAnyH_take (i := 28) (v := ?_) rfl (by kernel_rfl) (by kernel_rfl) (by kernel_rfl) (fun _ _ _ h => h) (Or.inl ⟨by rfl, ?_⟩) hHeld101 ?_
          rotate_left
          · (intro wa hSw; go_simp; try with_reducible rfl)
          simp only [Act.put, List.getElem_toArray, List.getElem_cons_zero, List.getElem_cons_succ, List.setIfInBounds_toArray, List.set_cons_zero, List.set_cons_succ]
          refine wpAnyH_take (i := 29) (v := ?_) rfl (by kernel_rfl) (by kernel_rfl) (by kernel_rfl) (fun _ _ _ h => h) (Or.inl ⟨by rfl, ?_⟩) hHeld101 ?_
          rotate_left
          · (intro wa hSw; have K := OS.out _ hSw; obtain ⟨cb0, cb1, cb2, cb3⟩ := K.1.cells; have cr := K.2.2.1; go_simp; try with_reducible rfl)
          simp only [Act.put, List.getElem_toArray, List.getElem_cons_zero, List.getElem_cons_succ, List.setIfInBounds_toArray, List.set_cons_zero, List.set_cons_succ]
          refine wpAnyH_ready (rs := [30]) (by kernel_rfl) (by simp) ?_
          refine AllReadyH.cons (o := _) rfl (fun K hK => ?_) AllReadyH.nil
          go_simp
          have KK := OS.out _ hHeld101
          refine (CP.out _ KK.2.2.2.1 KK.1.2.2.2).mono ?_
          rintro e w102 ⟨rfl, b102⟩
          clear KK
          (try go_wp2_with fail)
          refine hK.out _ _ ?_ (fun hHeld102 => ?_)
          · exact KS.out _ _ hHeld101 b102
          clear hK K
          clear hHeld101
          refine wpAnyH_take (i := 31) (v := ?_) rfl (by kernel_rfl) (by kernel_rfl) (by kernel_rfl) (fun _ _ _ h => h) (Or.inl ⟨by rfl, ?_⟩) hHeld102 ?_
          rotate_left
          · (intro wa hSw; go_simp; try with_reducible rfl)
          simp only [Act.put, List.getElem_toArray, List.getElem_cons_zero, List.getElem_cons_succ, List.setIfInBounds_toArray, List.set_cons_zero, List.set_cons_succ]
          refine wpAnyH_take (i := 32) (v := ?_) rfl (by kernel_rfl) (by kernel_rfl) (by kernel_rfl) (fun _ _ _ h => h) (Or.inl ⟨by rfl, ?_⟩) hHeld102 ?_
          rotate_left
          · (intro wa hSw; go_simp; try with_reducible rfl)
          simp only [Act.put, List.getElem_toArray, List.getElem_cons_zero, List.getElem_cons_succ, List.setIfInBounds_toArray, List.set_cons_zero, List.set_cons_succ]
          refine wpAnyH_done (by kernel_rfl) ?_ _
          have KE := Lib.hid (OS.out _ hHeld102)
          clear KS OS IS hHeld hHeld102
          have HE := Lib.hid KE.out
          clear KE
          go_wp2
          go_ret
          exact ⟨rfl, HE.out.2.2.2.2⟩
        | true =>
          have HVx := Lib.hid (HVN.out ⟨HM.out, fun h => absurd h (by have := HK0.out; omega), rfl⟩)
          clear HF HVN HPV HM
          generalize getI T k = x at *
          obtain ⟨S, HSd⟩ : ∃ S : World → Prop, S = fun w' => (SeaAt w' w.heap.size (some ⟨rb, ro, none⟩) nt rc da nd dc rest ca nc cc D L C ∧ IntRow w' (.slice (some ⟨tb, to, none⟩) nt tc) nt (getI T) ∧ w'.cell? ⟨rb, ro + k, none⟩ = some (.slice xa xn xc) ∧ RdA tPairS w' [.slice xa xn xc] rr ∧ Below w.heap.size w w') := ⟨_, rfl⟩
          have KS : Hid (∀ wa wb, S wa → Below wa.heap.size wa wb → S wb) := by subst HSd; exact fun wa wb h b => ⟨h.1.below b, h.2.1.below b (Nat.le_refl _), (b.cell (p := ⟨rb, ro + k, none⟩) (World.block_lt_of_cell? wa _ h.2.2.1)).trans h.2.2.1, h.2.2.2.1.below b, h.2.2.2.2.trans (b.mono h.2.2.2.2.size)⟩
          have OS : Hid (∀ wa, S wa → (SeaAt wa w.heap.size (some ⟨rb, ro, none⟩) nt rc da nd dc rest ca nc cc D L C ∧ IntRow wa (.slice (some ⟨tb, to, none⟩) nt tc) nt (getI T) ∧ wa.cell? ⟨rb, ro + k, none⟩ = some (.slice xa xn xc) ∧ RdA tPairS wa [.slice xa xn xc] rr ∧ Below w.heap.size w wa)) := by subst HSd; exact fun wa h => h
          have IS : Hid (∀ wa, (SeaAt wa w.heap.size (some ⟨rb, ro, none⟩) nt rc da nd dc rest ca nc cc D L C ∧ IntRow wa (.slice (some ⟨tb, to, none⟩) nt tc) nt (getI T) ∧ wa.cell? ⟨rb, ro + k, none⟩ = some (.slice xa xn xc) ∧ RdA tPairS wa [.slice xa xn xc] rr ∧ Below w.heap.size w wa) → S wa) := by subst HSd; exact fun wa h => h
          clear HSd
          go_wp2_with fail
          refine wp_region_held_drew (S := S) (by kernel_rfl) ?_ (fun hHeld => ?_)
          · exact IS.out _ ((fun (b : Below wr.heap.size wr wr.drew) => ⟨HS.out.below b, HT.out.below b (Nat.le_refl _), (b.cell (p := ⟨rb, ro + k, none⟩) (World.block_lt_of_cell? wr _ HC2.out)).trans HC2.out, HRR.out.below b, HB.out.trans (b.mono HB.out.size)⟩) (Below.refl _ _).drew)
          refine wpAnyH_take (i := 0) (v := ?_) rfl (by kernel_rfl) (by kernel_rfl) (by kernel_rfl) (fun _ _ _ h => h) (Or.inl ⟨by rfl, ?_⟩) hHeld ?_
          rotate_left
          · (intro wa hSw; go_simp; try with_reducible rfl)
          simp only [Act.put, List.getElem_toArray, List.getElem_cons_zero, List.setIfInBounds_toArray, List.set_cons_zero, List.set_cons_succ]
          refine wpAnyH_take (i := 1) (v := ?_) rfl (by kernel_rfl) (by kernel_rfl) (by kernel_rfl) (fun _ _ _ h => h) (Or.inl ⟨by rfl, ?_⟩) hHeld ?_
          rotate_left
          · (intro wa hSw; have K := OS.out _ hSw; obtain ⟨cb0, cb1, cb2, cb3⟩ := K.1.cells; have cr := K.2.2.1; go_simp; try with_reducible rfl)
          simp only [Act.put, List.getElem_toArray, List.getElem_cons_zero, List.getElem_cons_succ, List.setIfInBounds_toArray, List.set_cons_zero, List.set_cons_succ]
          refine wpAnyH_take (i := 2) (v := ?_) rfl (by kernel_rfl) (by kernel_rfl) (by kernel_rfl) (fun _ _ _ h => h) (Or.inl ⟨by rfl, ?_⟩) hHeld ?_
          rotate_left
          · (intro wa hSw; go_simp; try with_reducible rfl)
          simp only [Act.put, List.getElem_toArray, List.getElem_cons_zero, List.getElem_cons_succ, List.setIfInBounds_toArray, List.set_cons_zero, List.set_cons_succ]
          refine wpAnyH_ready (rs := [3]) (by kernel_rfl) (by simp) ?_
          refine AllReadyH.cons (o := _) rfl (fun K hK => ?_) AllReadyH.nil
          go_simp
          have KK := OS.out _ hHeld
          refine (CH.out _ KK.1.2.2.1).mono ?_
          rintro e w101 ⟨rfl, b101⟩
          clear KK
          (try go_wp2_with fail)
          refine hK.out _ _ ?_ (fun hHeld101 => ?_)
          · exact KS.out _ _ hHeld b101
          clear hK K
          refine wpAnyH_take (i := 4) (v := ?_) rfl (by kernel_rfl) (by kernel_rfl) (by kernel_rfl) (fun _ _ _ h => h) (Or.inl ⟨by rfl, ?_⟩) hHeld101 ?_
          rotate_left
          · (intro wa hSw; go_simp; try with_reducible rfl)
          simp only [Act.put, List.getElem_toArray, List.getElem_cons_zero, List.getElem_cons_succ, List.setIfInBounds_toArray, List.set_cons_zero, List.set_cons_succ]
          refine wpAnyH_take (i := 5) (v := ?_) rfl (by kernel_rfl) (by kernel_rfl) (by kernel_rfl) (fun _ _ _ h => h) (Or.inl ⟨by rfl, ?_⟩) hHeld101 ?_
          rotate_left
          · (intro wa hSw; go_simp; try with_reducible rfl)
          simp only [Act.put, List.getElem_toArray, List.getElem_cons_zero, List.getElem_cons_succ, List.setIfInBounds_toArray, List.set_cons_zero, List.set_cons_succ]
          refine wpAnyH_take (i := 6) (v := ?_) rfl (by kernel_rfl) (by kernel_rfl) (by kernel_rfl) (fun _ _ _ h => h) (Or.inl ⟨by rfl, ?_⟩) hHeld101 ?_
          rotate_left
          · (intro wa hSw; go_simp; try with_reducible rfl)
          simp only [Act.put, List.getElem_toArray, List.getElem_cons_zero, List.getElem_cons_succ, List.setIfInBounds_toArray, List.set_cons_zero, List.set_cons_succ]
          refine wpAnyH_take (i := 7) (v := ?_) rfl (by kernel_rfl) (by kernel_rfl) (by kernel_rfl) (fun _ _ _ h => h) (Or.inl ⟨by rfl, ?_⟩) hHeld101 ?_
          rotate_left
          · (intro wa hSw; go_simp; try with_reducible rfl)
          simp only [Act.put, List.getElem_toArray, List.getElem_cons_zero, List.getElem_cons_succ, List.setIfInBounds_toArray, List.set_cons_zero, List.set_cons_succ]
          refine wpAnyH_take (i := 8) (v := ?_) rfl (by kernel_rfl) (by kernel_rfl) (by kernel_rfl) (fun _ _ _ h => h) (Or.inl ⟨by rfl, ?_⟩) hHeld101 ?_
          rotate_left
          · (intro wa hSw; go_simp; try with_reducible rfl)
          simp only [Act.put, List.getElem_toArray, List.getElem_cons_zero, List.getElem_cons_succ, List.setIfInBounds_toArray, List.set_cons_zero, List.set_cons_succ]
          refine wpAnyH_take (i := 9) (v := undef) rfl (by kernel_rfl) (by kernel_rfl) (by kernel_rfl) (fun _ _ _ h => h) (Or.inr ⟨by rfl, rfl⟩) hHeld101 ?_
          simp only [Act.put, List.getElem_toArray, List.getElem_cons_zero, List.getElem_cons_succ, List.setIfInBounds_toArray, List.set_cons_zero, List.set_cons_succ]
          refine wpAnyH_take (i := 10) (v := undef) rfl (by kernel_rfl) (by kernel_rfl) (by kernel_rfl) (fun _ _ _ h => h) (Or.inr ⟨by rfl, rfl⟩) hHeld101 ?_
          simp only [Act.put, List.getElem_toArray, List.getElem_cons_zero, List.getElem_cons_succ, List.setIfInBounds_toArray, List.set_cons_zero, List.set_cons_succ]
          refine wpAnyH_take (i := 11) (v := undef) rfl (by kernel_rfl) (by kernel_rfl) (by kernel_rfl) (fun _ _ _ h => h) (Or.inr ⟨by rfl, rfl⟩) hHeld101 ?_
          simp only [Act.put, List.getElem_toArray, List.getElem_cons_zero, List.getElem_cons_succ, List.setIfInBounds_toArray, List.set_cons_zero, List.set_cons_succ]
          refine wpAnyH_take (i := 12) (v := undef) rfl (by kernel_rfl) (by kernel_rfl) (by kernel_rfl) (fun _ _ _ h => h) (Or.inr ⟨by rfl, rfl⟩) hHeld101 ?_
          simp only [Act.put, List.getElem_toArray, List.getElem_cons_zero, List.getElem_cons_succ, List.setIfInBounds_toArray, List.set_cons_zero, List.set_cons_succ]
          refine wpAnyH_take (i := 13) (v := undef) rfl (by kernel_rfl) (by kernel_rfl) (by kernel_rfl) (fun _ _ _ h => h) (Or.inr ⟨by rfl, rfl⟩) hHeld101 ?_
          simp only [Act.put, List.getElem_toArray, List.getElem_cons_zero, List.getElem_cons_succ, List.setIfInBounds_toArray, List.set_cons_zero, List.set_cons_succ]
          refine wpAnyH_take (i := 14) (v := undef) rfl (by kernel_rfl) (by kernel_rfl) (by kernel_rfl) (fun _ _ _ h => h) (Or.inr ⟨by rfl, rfl⟩) hHeld101 ?_
          simp only [Act.put, List.getElem_toArray, List.getElem_cons_zero, List.getElem_cons_succ, List.setIfInBounds_toArray, List.set_cons_zero, List.set_cons_succ]
          refine wpAnyH_take (i := 15) (v := undef) rfl (by kernel_rfl) (by kernel_rfl) (by kernel_rfl) (fun _ _ _ h => h) (Or.inr ⟨by rfl, rfl⟩) hHeld101 ?_
          simp only [Act.put, List.getElem_toArray, List.getElem_cons_zero, List.getElem_cons_succ, List.setIfInBounds_toArray, List.set_cons_zero, List.set_cons_succ]
          refine wpAnyH_take (i := 16) (v := undef) rfl (by kernel_rfl) (by kernel_rfl) (by kernel_rfl) (fun _ _ _ h => h) (Or.inr ⟨by rfl, rfl⟩) hHeld101 ?_
          simp only [Act.put, List.getElem_toArray, List.getElem_cons_zero, List.getElem_cons_succ, List.setIfInBounds_toArray, List.set_cons_zero, List.set_cons_succ]
          refine wpAnyH_take (i := 17) (v := undef) rfl (by kernel_rfl) (by kernel_rfl) (by kernel_rfl) (fun _ _ _ h => h) (Or.inr ⟨by rfl, rfl⟩) hHeld101 ?_
          simp only [Act.put, List.getElem_toArray, List.getElem_cons_zero, List.getElem_cons_succ, List.setIfInBounds_toArray, List.set_cons_zero, List.set_cons_succ]
          refine wpAnyH_take (i := 18) (v := undef) rfl (by kernel_rfl) (by kernel_rfl) (by kernel_rfl) (fun _ _ _ h => h) (Or.inr ⟨by rfl, rfl⟩) hHeld101 ?_
          simp only [Act.put, List.getElem_toArray, List.getElem_cons_zero, List.getElem_cons_succ, List.setIfInBounds_toArray, List.set_cons_zero, List.set_cons_succ]
          refine wpAnyH_take (i := 19) (v := ?_) rfl (by kernel_rfl) (by kernel_rfl) (by kernel_rfl) (fun _ _ _ h => h) (Or.inl ⟨by rfl, ?_⟩) hHeld101 ?_
          rotate_left
          · (intro wa hSw; go_simp; try with_reducible rfl)
          simp only [Act.put, List.getElem_toArray, List.getElem_cons_zero, List.getElem_cons_succ, List.setIfInBounds_toArray, List.set_cons_zero, List.set_cons_succ]
          refine wpAnyH_take (i := 20) (v := ?_) rfl (by kernel_rfl) (by kernel_rfl) (by kernel_rfl) (fun _ _ _ h => h) (Or.inl ⟨by rfl, ?_⟩) hHeld101 ?_
          rotate_left
          · (intro wa hSw; go_simp; try with_reducible rfl)
          simp only [Act.put, List.getElem_toArray, List.getElem_cons_zero, List.getElem_cons_succ, List.setIfInBounds_toArray, List.set_cons_zero, List.set_cons_succ]
          refine wpAnyH_take (i := 21) (v := ?_) rfl (by kernel_rfl) (by kernel_rfl) (by kernel_rfl) (fun _ _ _ h => h) (Or.inl ⟨by rfl, ?_⟩) hHeld101 ?_
          rotate_left
          · (intro wa hSw; go_simp; try with_reducible rfl)
          simp only [Act.put, List.getElem_toArray, List.getElem_cons_zero, List.getElem_cons_succ, List.setIfInBounds_toArray, List.set_cons_zero, List.set_cons_succ]
          refine wpAnyH_take (i := 22) (v := ?_) rfl (by kernel_rfl) (by kernel_rfl) (by kernel_rfl) (fun _ _ _ h => h) (Or.inl ⟨by rfl, ?_⟩) hHeld101 ?_
          rotate_left
          · (intro wa hSw; go_simp; try with_reducible rfl)
          simp only [Act.put, List.getElem_toArray, List.getElem_cons_zero, List.getElem_cons_succ, List.setIfInBounds_toArray, List.set_cons_zero, List.set_cons_succ]
          refine wpAnyH_take (i := 23) (v := ?_) rfl (by kernel_rfl) (by kernel_rfl) (by kernel_rfl) (fun _ _ _ h => h) (Or.inl ⟨by rfl, ?_⟩) hHeld101 ?_
          rotate_left
          · (intro wa hSw; have K := OS.out _ hSw; obtain ⟨cb0, cb1, cb2, cb3⟩ := K.1.cells; have cr := K.2.2.1; go_simp; try with_reducible rfl)
          simp only [Act.put, List.getElem_toArray, List.getElem_cons_zero, List.getElem_cons_succ, List.setIfInBounds_toArray, List.set_cons_zero, List.set_cons_succ]
          refine wpAnyH_take (i := 24) (v := ?_) rfl (by kernel_rfl) (by kernel_rfl) (by kernel_rfl) (fun _ _ _ h => h) (Or.inl ⟨by rfl, ?_⟩) hHeld101 ?_
          rotate_left
          · (intro wa hSw; go_simp; try with_reducible rfl)
          simp only [Act.put, List.getElem_toArray, List.getElem_cons_zero, List.getElem_cons_succ, List.setIfInBounds_toArray, List.set_cons_zero, List.set_cons_succ]
          refine wpAnyH_take (i := 25) (v := ?_) rfl (by kernel_rfl) (by kernel_rfl) (by kernel_rfl) (fun _ _ _ h => h) (Or.inl ⟨by rfl, ?_⟩) hHeld101 ?_
          rotate_left
          · (intro wa hSw; go_simp; try with_reducible rfl)
          simp only [Act.put, List.getElem_toArray, List.getElem_cons_zero, List.getElem_cons_succ, List.setIfInBounds_toArray, List.set_cons_zero, List.set_cons_succ]
          refine wpAnyH_take (i := 26) (v := ?_) rfl (by kernel_rfl) (by kernel_rfl) (by kernel_rfl) (fun _ _ _ h => h) (Or.inl ⟨by rfl, ?_⟩) hHeld101 ?_
          rotate_left
          · (intro wa hSw; have K := OS.out _ hSw; obtain ⟨cb0, cb1, cb2, cb3⟩ := K.1.cells; have cr := K.2.2.1; go_simp; try with_reducible rfl)
          simp only [Act.put, List.getElem_toArray, List.getElem_cons_zero, List.getElem_cons_succ, List.setIfInBounds_toArray, List.set_cons_zero, List.set_cons_succ]
          refine wpAnyH_take (i := 27) (v := ?_) rfl (by kernel_rfl) (by kernel_rfl) (by kernel_rfl) (fun _ _ _ h => h) (Or.inl ⟨by rfl, ?_⟩) hHeld101 ?_
          rotate_left
          · (intro wa hSw; go_simp; try with_reducible rfl)
          simp only [Act.put, List.getElem_toArray, List.getElem_cons_zero, List.getElem_cons_succ, List.setIfInBounds_toArray, List.set_cons_zero, List.set_cons_succ]
          refine wpAnyH_take (i := 28) (v := ?_) rfl (by kernel_rfl) (by kernel_rfl) (by kernel_rfl) (fun _ _ _ h => h) (Or.inl ⟨by rfl, ?_⟩) hHeld101 ?_
          rotate_left
          · (intro wa hSw; go_simp; try with_reducible rfl)
          simp only [Act.put, List.getElem_toArray, List.getElem_cons_zero, List.getElem_cons_succ, List.setIfInBounds_toArray, List.set_cons_zero, List.set_cons_succ]
          refine wpAnyH_take (i := 29) (v := ?_) rfl (by kernel_rfl) (by kernel_rfl) (by kernel_rfl) (fun _ _ _ h => h) (Or.inl ⟨by rfl, ?_⟩) hHeld101 ?_
          rotate_left
          · (intro wa hSw; have K := OS.out _ hSw; obtain ⟨cb0, cb1, cb2, cb3⟩ := K.1.cells; have cr := K.2.2.1; go_simp; try with_reducible rfl)
          simp only [Act.put, List.getElem_toArray, List.getElem_cons_zero, List.getElem_cons_succ, List.setIfInBounds_toArray, List.set_cons_zero, List.set_cons_succ]
          refine wpAnyH_ready (rs := [30]) (by kernel_rfl) (by simp) ?_
          refine AllReadyH.cons (o := _) rfl (fun K hK => ?_) AllReadyH.nil
          go_simp
          have KK := OS.out _ hHeld101
          refine (CP.out _ KK.2.2.2.1 KK.1.2.2.2).mono ?_
          rintro e w102 ⟨rfl, b102⟩
          clear KK
          (try go_wp2_with fail)
          refine hK.out _ _ ?_ (fun hHeld102 => ?_)
          · exact KS.out _ _ hHeld101 b102
          clear hK K
          clear hHeld101
          refine wpAnyH_take (i := 31) (v := ?_) rfl (by kernel_rfl) (by kernel_rfl) (by kernel_rfl) (fun _ _ _ h => h) (Or.inl ⟨by rfl, ?_⟩) hHeld102 ?_
          rotate_left
          · (intro wa hSw; go_simp; try with_reducible rfl)
          simp only [Act.put, List.getElem_toArray, List.getElem_cons_zero, List.getElem_cons_succ, List.setIfInBounds_toArray, List.set_cons_zero, List.set_cons_succ]
          refine wpAnyH_take (i := 32) (v := ?_) rfl (by kernel_rfl) (by kernel_rfl) (by kernel_rfl) (fun _ _ _ h => h) (Or.inl ⟨by rfl, ?_⟩) hHeld102 ?_
          rotate_left
          · (intro wa hSw; go_simp; try with_reducible rfl)
          simp only [Act.put, List.getElem_toArray, List.getElem_cons_zero, List.getElem_cons_succ, List.setIfInBounds_toArray, List.set_cons_zero, List.set_cons_succ]
          refine wpAnyH_done (by kernel_rfl) ?_ _
          have KE := Lib.hid (OS.out _ hHeld102)
          clear KS OS IS hHeld hHeld102
          have HE := Lib.hid KE.out
          clear KE
          go_wp2
          go_roundw
          case rel => exact ⟨k + 1, by omega, by go_num, HVx, HE.out.1, HE.out.2.1, HE.out.2.2.2.2⟩
          case measure => simp [RowKit.intOf]; omega
      · have g0 : decide ((0 : Int) < (k : Int)) = true := decide_eq_true (by omega)
        have g0' : decide (0 < k) = true := decide_eq_true hk0
        have hpr := HDY.out _ (HPV.out hk0)
        have hj : k - 1 < nt := by omega
        have tk : ((k : Int) - 1).toNat = k - 1 := by omega
        have hk1 : (0 : Int) ≤ (k : Int) - 1 := by omega
        have hk2 : (k : Int) - 1 < (nt : Int) := by omega
        have hk3 : (1 : Int) ≤ (k : Int) := by omega
        have hrs := HRS.out
        have s1 : IntKind.i64.wrap (getI T (k - 1) + rest) = getI T (k - 1) + rest := IntWalk.i64_in _ (by omega)
        have s2 : IntKind.i64.wrap ((k : Int) - 1) = (k : Int) - 1 := IntWalk.i64_in _ (by omega)
        by_cases hd : getI T (k - 1) + rest ≤ getI T k
        case neg =>
          obtain rfl := HF.out (fun h => hd (h.2.1 hk0))
          have g2 : decide (getI T k < getI T (k - 1) + rest) = true := decide_eq_true (by omega)
          clear HF HVN HPV HM hd
          generalize getI T k = x at *
          obtain ⟨S, HSd⟩ : ∃ S : World → Prop, S = fun w' => (SeaAt w' w.heap.size (some ⟨rb, ro, none⟩) nt rc da nd dc rest ca nc cc D L C ∧ IntRow w' (.slice (some ⟨tb, to, none⟩) nt tc) nt (getI T) ∧ w'.cell? ⟨rb, ro + k, none⟩ = some (.slice xa xn xc) ∧ RdA tPairS w' [.slice xa xn xc] rr ∧ Below w.heap.size w w') := ⟨_, rfl⟩
          have KS : Hid (∀ wa wb, S wa → Below wa.heap.size wa wb → S wb) := by subst HSd; exact fun wa wb h b => ⟨h.1.below b, h.2.1.below b (Nat.le_refl _), (b.cell (p := ⟨rb, ro + k, none⟩) (World.block_lt_of_cell? wa _ h.2.2.1)).trans h.2.2.1, h.2.2.2.1.below b, h.2.2.2.2.trans (b.mono h.2.2.2.2.size)⟩
          have OS : Hid (∀ wa, S wa → (SeaAt wa w.heap.size (some ⟨rb, ro, none⟩) nt rc da nd dc rest ca nc cc D L C ∧ IntRow wa (.slice (some ⟨tb, to, none⟩) nt tc) nt (getI T) ∧ wa.cell? ⟨rb, ro + k, none⟩ = some (.slice xa xn xc) ∧ RdA tPairS wa [.slice xa xn xc] rr ∧ Below w.heap.size w wa)) := by subst HSd; exact fun wa h => h
          have IS : Hid (∀ wa, (SeaAt wa w.heap.size (some ⟨rb, ro, none⟩) nt rc da nd dc rest ca nc cc D L C ∧ IntRow wa (.slice (some ⟨tb, to, none⟩) nt tc) nt (getI T) ∧ wa.cell? ⟨rb, ro + k, none⟩ = some (.slice xa xn xc) ∧ RdA tPairS wa [.slice xa xn xc] rr ∧ Below w.heap.size w wa) → S wa) := by subst HSd; exact fun wa h => h
          clear HSd
          go_wp2_with fail
          refine wp_region_held_drew (S := S) (by kernel_rfl) ?_ (fun hHeld => ?_)
          · exact IS.out _ ((fun (b : Below wr.heap.size wr wr.drew) => ⟨HS.out.below b, HT.out.below b (Nat.le_refl _), (b.cell (p := ⟨rb, ro + k, none⟩) (World.block_lt_of_cell? wr _ HC2.out)).trans HC2.out, HRR.out.below b, HB.out.trans (b.mono HB.out.size)⟩) (Below.refl _ _).drew)
          refine wpAnyH_take (i := 0) (v := ?_) rfl (by kernel_rfl) (by kernel_rfl) (by kernel_rfl) (fun _ _ _ h => h) (Or.inl ⟨by rfl, ?_⟩) hHeld ?_
          rotate_left
          · (intro wa hSw; go_simp; try with_reducible rfl)
          simp only [Act.put, List.getElem_toArray, List.getElem_cons_zero, List.setIfInBounds_toArray, List.set_cons_zero, List.set_cons_succ]
          refine wpAnyH_take (i := 1) (v := ?_) rfl (by kernel_rfl) (by kernel_rfl) (by kernel_rfl) (fun _ _ _ h => h) (Or.inl ⟨by rfl, ?_⟩) hHeld ?_
          rotate_left
          · (intro wa hSw; have K := OS.out _ hSw; obtain ⟨cb0, cb1, cb2, cb3⟩ := K.1.cells; have cr := K.2.2.1; go_simp; try with_reducible rfl)
          simp only [Act.put, List.getElem_toArray, List.getElem_cons_zero, List.getElem_cons_succ, List.setIfInBounds_toArray, List.set_cons_zero, List.set_cons_succ]
          refine wpAnyH_take (i := 2) (v := ?_) rfl (by kernel_rfl) (by kernel_rfl) (by kernel_rfl) (fun _ _ _ h => h) (Or.inl ⟨by rfl, ?_⟩) hHeld ?_
          rotate_left
          · (intro wa hSw; go_simp; try with_reducible rfl)
          simp only [Act.put, List.getElem_toArray, List.getElem_cons_zero, List.getElem_cons_succ, List.setIfInBounds_toArray, List.set_cons_zero, List.set_cons_succ]
          refine wpAnyH_ready (rs := [3]) (by kernel_rfl) (by simp) ?_
          refine AllReadyH.cons (o := _) rfl (fun K hK => ?_) AllReadyH.nil
          go_simp
          have KK := OS.out _ hHeld
          refine (CH.out _ KK.1.2.2.1).mono ?_
          rintro e w101 ⟨rfl, b101⟩
          clear KK
          (try go_wp2_with fail)
          refine hK.out _ _ ?_ (fun hHeld101 => ?_)
          · exact KS.out _ _ hHeld b101
          clear hK K
          refine wpAnyH_take (i := 4) (v := ?_) rfl (by kernel_rfl) (by kernel_rfl) (by kernel_rfl) (fun _ _ _ h => h) (Or.inl ⟨by rfl, ?_⟩) hHeld101 ?_
          rotate_left
          · (intro wa hSw; go_simp; try with_reducible rfl)
          simp only [Act.put, List.getElem_toArray, List.getElem_cons_zero, List.getElem_cons_succ, List.setIfInBounds_toArray, List.set_cons_zero, List.set_cons_succ]
          refine wpAnyH_take (i := 5) (v := ?_) rfl (by kernel_rfl) (by kernel_rfl) (by kernel_rfl) (fun _ _ _ h => h) (Or.inl ⟨by rfl, ?_⟩) hHeld101 ?_
          rotate_left
          · (intro wa hSw; go_simp; try with_reducible rfl)
          simp only [Act.put, List.getElem_toArray, List.getElem_cons_zero, List.getElem_cons_succ, List.setIfInBounds_toArray, List.set_cons_zero, List.set_cons_succ]
          refine wpAnyH_take (i := 6) (v := ?_) rfl (by kernel_rfl) (by kernel_rfl) (by kernel_rfl) (fun _ _ _ h => h) (Or.inl ⟨by rfl, ?_⟩) hHeld101 ?_
          rotate_left
          · (intro wa hSw; go_simp; try with_reducible rfl)
          simp only [Act.put, List.getElem_toArray, List.getElem_cons_zero, List.getElem_cons_succ, List.setIfInBounds_toArray, List.set_cons_zero, List.set_cons_succ]
          refine wpAnyH_take (i := 7) (v := ?_) rfl (by kernel_rfl) (by kernel_rfl) (by kernel_rfl) (fun _ _ _ h => h) (Or.inl ⟨by rfl, ?_⟩) hHeld101 ?_
          rotate_left
          · (intro wa hSw; go_simp; try with_reducible rfl)
          simp only [Act.put, List.getElem_toArray, List.getElem_cons_zero, List.getElem_cons_succ, List.setIfInBounds_toArray, List.set_cons_zero, List.set_cons_succ]
          refine wpAnyH_take (i := 8) (v := ?_) rfl (by kernel_rfl) (by kernel_rfl) (by kernel_rfl) (fun _ _ _ h => h) (Or.inl ⟨by rfl, ?_⟩) hHeld101 ?_
          rotate_left
          · (intro wa hSw; go_simp; try with_reducible rfl)
          simp only [Act.put, List.getElem_toArray, List.getElem_cons_zero, List.getElem_cons_succ, List.setIfInBounds_toArray, List.set_cons_zero, List.set_cons_succ]
          refine wpAnyH_take (i := 9) (v := ?_) rfl (by kernel_rfl) (by kernel_rfl) (by kernel_rfl) (fun _ _ _ h => h) (Or.inl ⟨by rfl, ?_⟩) hHeld101 ?_
          rotate_left
          · (intro wa hSw; go_simp; try with_reducible rfl)
          simp only [Act.put, List.getElem_toArray, List.getElem_cons_zero, List.getElem_cons_succ, List.setIfInBounds_toArray, List.set_cons_zero, List.set_cons_succ]
          refine wpAnyH_take (i := 10) (v := ?_) rfl (by kernel_rfl) (by kernel_rfl) (by kernel_rfl) (fun _ _ _ h => h) (Or.inl ⟨by rfl, ?_⟩) hHeld101 ?_
          rotate_left
          · (intro wa hSw; go_simp; try with_reducible rfl)
          simp only [Act.put, List.getElem_toArray, List.getElem_cons_zero, List.getElem_cons_succ, List.setIfInBounds_toArray, List.set_cons_zero, List.set_cons_succ]
          refine wpAnyH_take (i := 11) (v := ?_) rfl (by kernel_rfl) (by kernel_rfl) (by kernel_rfl) (fun _ _ _ h => h) (Or.inl ⟨by rfl, ?_⟩) hHeld101 ?_
          rotate_left
          · (intro wa hSw; go_simp; try with_reducible rfl)
          simp only [Act.put, List.getElem_toArray, List.getElem_cons_zero, List.getElem_cons_succ, List.setIfInBounds_toArray, List.set_cons_zero, List.set_cons_succ]
          refine wpAnyH_take (i := 12) (v := ?_) rfl (by kernel_rfl) (by kernel_rfl) (by kernel_rfl) (fun _ _ _ h => h) (Or.inl ⟨by rfl, ?_⟩) hHeld101 ?_
          rotate_left
          · (intro wa hSw; go_simp; try with_reducible rfl)
          simp only [Act.put, List.getElem_toArray, List.getElem_cons_zero, List.getElem_cons_succ, List.setIfInBounds_toArray, List.set_cons_zero, List.set_cons_succ]
          refine wpAnyH_take (i := 13) (v := ?_) rfl (by kernel_rfl) (by kernel_rfl) (by kernel_rfl) (fun _ _ _ h => h) (Or.inl ⟨by rfl, ?_⟩) hHeld101 ?_
          rotate_left
          · (intro wa hSw; go_simp; try with_reducible rfl)
          simp only [Act.put, List.getElem_toArray, List.getElem_cons_zero, List.getElem_cons_succ, List.setIfInBounds_toArray, List.set_cons_zero, List.set_cons_succ]
          refine wpAnyH_take (i := 14) (v := ?_) rfl (by kernel_rfl) (by kernel_rfl) (by kernel_rfl) (fun _ _ _ h => h) (Or.inl ⟨by rfl, ?_⟩) hHeld101 ?_
          rotate_left
          · (intro wa hSw; have K := OS.out _ hSw; obtain ⟨cb0, cb1, cb2, cb3⟩ := K.1.cells; have cr := K.2.2.1; obtain ⟨_, _, hee, _, cq⟩ := int_at K.2.1 hj; simp only [Option.some.injEq, Addr.mk.injEq, and_true] at hee; obtain ⟨rfl, rfl⟩ := hee; go_simp; try with_reducible rfl)
          simp only [Act.put, List.getElem_toArray, List.getElem_cons_zero, List.getElem_cons_succ, List.setIfInBounds_toArray, List.set_cons_zero, List.set_cons_succ]
          refine wpAnyH_take (i := 15) (v := ?_) rfl (by kernel_rfl) (by kernel_rfl) (by kernel_rfl) (fun _ _ _ h => h) (Or.inl ⟨by rfl, ?_⟩) hHeld101 ?_
          rotate_left
          · (intro wa hSw; go_simp; try with_reducible rfl)
          simp only [Act.put, List.getElem_toArray, List.getElem_cons_zero, List.getElem_cons_succ, List.setIfInBounds_toArray, List.set_cons_zero, List.set_cons_succ]
          refine wpAnyH_take (i := 16) (v := ?_) rfl (by kernel_rfl) (by kernel_rfl) (by kernel_rfl) (fun _ _ _ h => h) (Or.inl ⟨by rfl, ?_⟩) hHeld101 ?_
          rotate_left
          · (intro wa hSw; have K := OS.out _ hSw; obtain ⟨cb0, cb1, cb2, cb3⟩ := K.1.cells; have cr := K.2.2.1; go_simp; try with_reducible rfl)
          simp only [Act.put, List.getElem_toArray, List.getElem_cons_zero, List.getElem_cons_succ, List.setIfInBounds_toArray, List.set_cons_zero, List.set_cons_succ]
          refine wpAnyH_take (i := 17) (v := ?_) rfl (by kernel_rfl) (by kernel_rfl) (by kernel_rfl) (fun _ _ _ h => h) (Or.inl ⟨by rfl, ?_⟩) hHeld101 ?_
          rotate_left
          · (intro wa hSw; go_simp; try with_reducible rfl)
          simp only [Act.put, List.getElem_toArray, List.getElem_cons_zero, List.getElem_cons_succ, List.setIfInBounds_toArray, List.set_cons_zero, List.set_cons_succ]
          refine wpAnyH_take (i := 18) (v := ?_) rfl (by kernel_rfl) (by kernel_rfl) (by kernel_rfl) (fun _ _ _ h => h) (Or.inl ⟨by rfl, ?_⟩) hHeld101 ?_
          rotate_left
          · (intro wa hSw; go_simp; try with_reducible rfl)
          simp only [Act.put, List.getElem_toArray, List.getElem_cons_zero, List.getElem_cons_succ, List.setIfInBounds_toArray, List.set_cons_zero, List.set_cons_succ]
          refine wpAnyH_take (i := 19) (v := ?_) rfl (by kernel_rfl) (by kernel_rfl) (by kernel_rfl) (fun _ _ _ h => h) (Or.inl ⟨by rfl, ?_⟩) hHeld101 ?_
          rotate_left
          · (intro wa hSw; go_simp; try with_reducible rfl)
          simp only [Act.put, List.getElem_toArray, List.getElem_cons_zero, List.getElem_cons_succ, List.setIfInBounds_toArray, List.set_cons_zero, List.set_cons_succ]
          refine wpAnyH_take (i := 20) (v := ?_) rfl (by kernel_rfl) (by kernel_rfl) (by kernel_rfl) (fun _ _ _ h => h) (Or.inl ⟨by rfl, ?_⟩) hHeld101 ?_
          rotate_left
          · (intro wa hSw; go_simp; try with_reducible rfl)
          simp only [Act.put, List.getElem_toArray, List.getElem_cons_zero, List.getElem_cons_succ, List.setIfInBounds_toArray, List.set_cons_zero, List.set_cons_succ]
          refine wpAnyH_take (i := 21) (v := ?_) rfl (by kernel_rfl) (by kernel_rfl) (by kernel_rfl) (fun _ _ _ h => h) (Or.inl ⟨by rfl, ?_⟩) hHeld101 ?_
          rotate_left
          · (intro wa hSw; go_simp; try with_reducible rfl)
          simp only [Act.put, List.getElem_toArray, List.getElem_cons_zero, List.getElem_cons_succ, List.setIfInBounds_toArray, List.set_cons_zero, List.set_cons_succ]
          refine wpAnyH_take (i := 22) (v := undef) rfl (by kernel_rfl) (by kernel_rfl) (by kernel_rfl) (fun _ _ _ h => h) (Or.inr ⟨by rfl, rfl⟩) hHeld101 ?_
          simp only [Act.put, List.getElem_toArray, List.getElem_cons_zero, List.getElem_cons_succ, List.setIfInBounds_toArray, List.set_cons_zero, List.set_cons_succ]
          refine wpAnyH_take (i := 23) (v := undef) rfl (by kernel_rfl) (by kernel_rfl) (by kernel_rfl) (fun _ _ _ h => h) (Or.inr ⟨by rfl, rfl⟩) hHeld101 ?_
          simp only [Act.put, List.getElem_toArray, List.getElem_cons_zero, List.getElem_cons_succ, List.setIfInBounds_toArray, List.set_cons_zero, List.set_cons_succ]
          refine wpAnyH_take (i := 24) (v := undef) rfl (by kernel_rfl) (by kernel_rfl) (by kernel_rfl) (fun _ _ _ h => h) (Or.inr ⟨by rfl, rfl⟩) hHeld101 ?_
          simp only [Act.put, List.getElem_toArray, List.getElem_cons_zero, List.getElem_cons_succ, List.setIfInBounds_toArray, List.set_cons_zero, List.set_cons_succ]
          refine wpAnyH_take (i := 25) (v := undef) rfl (by kernel_rfl) (by kernel_rfl) (by kernel_rfl) (fun _ _ _ h => h) (Or.inr ⟨by rfl, rfl⟩) hHeld101 ?_
          simp only [Act.put, List.getElem_toArray, List.getElem_cons_zero, List.getElem_cons_succ, List.setIfInBounds_toArray, List.set_cons_zero, List.set_cons_succ]
          refine wpAnyH_take (i := 26) (v := undef) rfl (by kernel_rfl) (by kernel_rfl) (by kernel_rfl) (fun _ _ _ h => h) (Or.inr ⟨by rfl, rfl⟩) hHeld101 ?_
          simp only [Act.put, List.getElem_toArray, List.getElem_cons_zero, List.getElem_cons_succ, List.setIfInBounds_toArray, List.set_cons_zero, List.set_cons_succ]
          refine wpAnyH_take (i := 27) (v := undef) rfl (by kernel_rfl) (by kernel_rfl) (by kernel_rfl) (fun _ _ _ h => h) (Or.inr ⟨by rfl, rfl⟩) hHeld101 ?_
          simp only [Act.put, List.getElem_toArray, List.getElem_cons_zero, List.getElem_cons_succ, List.setIfInBounds_toArray, List.set_cons_zero, List.set_cons_succ]
          refine wpAnyH_take (i := 28) (v := undef) rfl (by kernel_rfl) (by kernel_rfl) (by kernel_rfl) (fun _ _ _ h => h) (Or.inr ⟨by rfl, rfl⟩) hHeld101 ?_
          simp only [Act.put, List.getElem_toArray, List.getElem_cons_zero, List.getElem_cons_succ, List.setIfInBounds_toArray, List.set_cons_zero, List.set_cons_succ]
          refine wpAnyH_take (i := 29) (v := undef) rfl (by kernel_rfl) (by kernel_rfl) (by kernel_rfl) (fun _ _ _ h => h) (Or.inr ⟨by rfl, rfl⟩) hHeld101 ?_
          simp only [Act.put, List.getElem_toArray, List.getElem_cons_zero, List.getElem_cons_succ, List.setIfInBounds_toArray, List.set_cons_zero, List.set_cons_succ]
          refine wpAnyH_take (i := 30) (v := undef) rfl (by kernel_rfl) (by kernel_rfl) (by kernel_rfl) (fun _ _ _ h => h) (Or.inr ⟨by rfl, rfl⟩) hHeld101 ?_
          simp only [Act.put, List.getElem_toArray, List.getElem_cons_zero, List.getElem_cons_succ, List.setIfInBounds_toArray, List.set_cons_zero, List.set_cons_succ]
          refine wpAnyH_take (i := 31) (v := undef) rfl (by kernel_rfl) (by kernel_rfl) (by kernel_rfl) (fun _ _ _ h => h) (Or.inr ⟨by rfl, rfl⟩) hHeld101 ?_
          simp only [Act.put, List.getElem_toArray, List.getElem_cons_zero, List.getElem_cons_succ, List.setIfInBounds_toArray, List.set_cons_zero, List.set_cons_succ]
          refine wpAnyH_take (i := 32) (v := ?_) rfl (by kernel_rfl) (by kernel_rfl) (by kernel_rfl) (fun _ _ _ h => h) (Or.inl ⟨by rfl, ?_⟩) hHeld101 ?_
          rotate_left
          · (intro wa hSw; go_simp; try with_reducible rfl)
          simp only [Act.put, List.getElem_toArray, List.getElem_cons_zero, List.getElem_cons_succ, List.setIfInBounds_toArray, List.set_cons_zero, List.set_cons_succ]
          refine wpAnyH_done (by kernel_rfl) ?_ _
          have KE := Lib.hid (OS.out _ hHeld101)
          clear KS OS IS hHeld hHeld101
          have HE := Lib.hid KE.out
          clear KE
          go_wp2
          go_ret
          exact ⟨rfl, HE.out.2.2.2.2⟩
        have g2 : decide (getI T k < getI T (k - 1) + rest) = false := decide_eq_false (by omega)
        cases pl with
        | false =>
          obtain rfl := HF.out (fun h => by have := h.2.2; cases this)
          clear HF HVN HPV HM hd
          generalize getI T k = x at *
          obtain ⟨S, HSd⟩ : ∃ S : World → Prop, S = fun w' => (SeaAt w' w.heap.size (some ⟨rb, ro, none⟩) nt rc da nd dc rest ca nc cc D L C ∧ IntRow w' (.slice (some ⟨tb, to, none⟩) nt tc) nt (getI T) ∧ w'.cell? ⟨rb, ro + k, none⟩ = some (.slice xa xn xc) ∧ RdA tPairS w' [.slice xa xn xc] rr ∧ Below w.heap.size w w') := ⟨_, rfl⟩
          have KS : Hid (∀ wa wb, S wa → Below wa.heap.size wa wb → S wb) := by subst HSd; exact fun wa wb h b => ⟨h.1.below b, h.2.1.below b (Nat.le_refl _), (b.cell (p := ⟨rb, ro + k, none⟩) (World.block_lt_of_cell? wa _ h.2.2.1)).trans h.2.2.1, h.2.2.2.1.below b, h.2.2.2.2.trans (b.mono h.2.2.2.2.size)⟩
          have OS : Hid (∀ wa, S wa → (SeaAt wa w.heap.size (some ⟨rb, ro, none⟩) nt rc da nd dc rest ca nc cc D L C ∧ IntRow wa (.slice (some ⟨tb, to, none⟩) nt tc) nt (getI T) ∧ wa.cell? ⟨rb, ro + k, none⟩ = some (.slice xa xn xc) ∧ RdA tPairS wa [.slice xa xn xc] rr ∧ Below w.heap.size w wa)) := by subst HSd; exact fun wa h => h
          have IS : Hid (∀ wa, (SeaAt wa w.heap.size (some ⟨rb, ro, none⟩) nt rc da nd dc rest ca nc cc D L C ∧ IntRow wa (.slice (some ⟨tb, to, none⟩) nt tc) nt (getI T) ∧ wa.cell? ⟨rb, ro + k, none⟩ = some (.slice xa xn xc) ∧ RdA tPairS wa [.slice xa xn xc] rr ∧ Below w.heap.size w wa) → S wa) := by subst HSd; exact fun wa h => h
          clear HSd
          go_wp2_with fail
          refine wp_region_held_drew (S := S) (by kernel_rfl) ?_ (fun hHeld => ?_)
          · exact IS.out _ ((fun (b : Below wr.heap.size wr wr.drew) => ⟨HS.out.below b, HT.out.below b (Nat.le_refl _), (b.cell (p := ⟨rb, ro + k, none⟩) (World.block_lt_of_cell? wr _ HC2.out)).trans HC2.out, HRR.out.below b, HB.out.trans (b.mono HB.out.size)⟩) (Below.refl _ _).drew)
          refine wpAnyH_take (i := 0) (v := ?_) rfl (by kernel_rfl) (by kernel_rfl) (by kernel_rfl) (fun _ _ _ h => h) (Or.inl ⟨by rfl, ?_⟩) hHeld ?_
          rotate_left
          · (intro wa hSw; go_simp; try with_reducible rfl)
          simp only [Act.put, List.getElem_toArray, List.getElem_cons_zero, List.setIfInBounds_toArray, List.set_cons_zero, List.set_cons_succ]
          refine wpAnyH_take (i := 1) (v := ?_) rfl (by kernel_rfl) (by kernel_rfl) (by kernel_rfl) (fun _ _ _ h => h) (Or.inl ⟨by rfl, ?_⟩) hHeld ?_
          rotate_left
          · (intro wa hSw; have K := OS.out _ hSw; obtain ⟨cb0, cb1, cb2, cb3⟩ := K.1.cells; have cr := K.2.2.1; go_simp; try with_reducible rfl)
          simp only [Act.put, List.getElem_toArray, List.getElem_cons_zero, List.getElem_cons_succ, List.setIfInBounds_toArray, List.set_cons_zero, List.set_cons_succ]
          refine wpAnyH_take (i := 2) (v := ?_) rfl (by kernel_rfl) (by kernel_rfl) (by kernel_rfl) (fun _ _ _ h => h) (Or.inl ⟨by rfl, ?_⟩) hHeld ?_
          rotate_left
          · (intro wa hSw; go_simp; try with_reducible rfl)
          simp only [Act.put, List.getElem_toArray, List.getElem_cons_zero, List.getElem_cons_succ, List.setIfInBounds_toArray, List.set_cons_zero, List.set_cons_succ]
          refine wpAnyH_ready (rs := [3]) (by kernel_rfl) (by simp) ?_
          refine AllReadyH.cons (o := _) rfl (fun K hK => ?_) AllReadyH.nil
          go_simp
          have KK := OS.out _ hHeld
          refine (CH.out _ KK.1.2.2.1).mono ?_
          rintro e w101 ⟨rfl, b101⟩
          clear KK
          (try go_wp2_with fail)
          refine hK.out _ _ ?_ (fun hHeld101 => ?_)
          · exact KS.out _ _ hHeld b101
          clear hK K
          refine wpAnyH_take (i := 4) (v := ?_) rfl (by kernel_rfl) (by kernel_rfl) (by kernel_rfl) (fun _ _ _ h => h) (Or.inl ⟨by rfl, ?_⟩) hHeld101 ?_
          rotate_left
          · (intro wa hSw; go_simp; try with_reducible rfl)
          simp only [Act.put, List.getElem_toArray, List.getElem_cons_zero, List.getElem_cons_succ, List.setIfInBounds_toArray, List.set_cons_zero, List.set_cons_succ]
          refine wpAnyH_take (i := 5) (v := ?_) rfl (by kernel_rfl) (by kernel_rfl) (by kernel_rfl) (fun _ _ _ h => h) (Or.inl ⟨by rfl, ?_⟩) hHeld101 ?_
          rotate_left
          · (intro wa hSw; go_simp; try with_reducible rfl)
          simp only [Act.put, List.getElem_toArray, List.getElem_cons_zero, List.getElem_cons_succ, List.setIfInBounds_toArray, List.set_cons_zero, List.set_cons_succ]
          refine wpAnyH_take (i := 6) (v := ?_) rfl (by kernel_rfl) (by kernel_rfl) (by kernel_rfl) (fun _ _ _ h => h) (Or.inl ⟨by rfl, ?_⟩) hHeld101 ?_
          rotate_left
          · (intro wa hSw; go_simp; try with_reducible rfl)
          simp only [Act.put, List.getElem_toArray, List.getElem_cons_zero, List.getElem_cons_succ, List.setIfInBounds_toArray, List.set_cons_zero, List.set_cons_succ]
          refine wpAnyH_take (i := 7) (v := ?_) rfl (by kernel_rfl) (by kernel_rfl) (by kernel_rfl) (fun _ _ _ h => h) (Or.inl ⟨by rfl, ?_⟩) hHeld101 ?_
          rotate_left
          · (intro wa hSw; go_simp; try with_reducible rfl)
          simp only [Act.put, List.getElem_toArray, List.getElem_cons_zero, List.getElem_cons_succ, List.setIfInBounds_toArray, List.set_cons_zero, List.set_cons_succ]
          refine wpAnyH_take (i := 8) (v := ?_) rfl (by kernel_rfl) (by kernel_rfl) (by kernel_rfl) (fun _ _ _ h => h) (Or.inl ⟨by rfl, ?_⟩) hHeld101 ?_
          rotate_left
          · (intro wa hSw; go_simp; try with_reducible rfl)
          simp only [Act.put, List.getElem_toArray, List.getElem_cons_zero, List.getElem_cons_succ, List.setIfInBounds_toArray, List.set_cons_zero, List.set_cons_succ]
          refine wpAnyH_take (i := 9) (v := ?_) rfl (by kernel_rfl) (by kernel_rfl) (by kernel_rfl) (fun _ _ _ h => h) (Or.inl ⟨by rfl, ?_⟩) hHeld101 ?_
          rotate_left
          · (intro wa hSw; go_simp; try with_reducible rfl)
          simp only [Act.put, List.getElem_toArray, List.getElem_cons_zero, List.getElem_cons_succ, List.setIfInBounds_toArray, List.set_cons_zero, List.set_cons_succ]
          refine wpAnyH_take (i := 10) (v := ?_) rfl (by kernel_rfl) (by kernel_rfl) (by kernel_rfl) (fun _ _ _ h => h) (Or.inl ⟨by rfl, ?_⟩) hHeld101 ?_
          rotate_left
          · (intro wa hSw; go_simp; try with_reducible rfl)
          simp only [Act.put, List.getElem_toArray, List.getElem_cons_zero, List.getElem_cons_succ, List.setIfInBounds_toArray, List.set_cons_zero, List.set_cons_succ]
          refine wpAnyH_take (i := 11) (v := ?_) rfl (by kernel_rfl) (by kernel_rfl) (by kernel_rfl) (fun _ _ _ h => h) (Or.inl ⟨by rfl, ?_⟩) hHeld101 ?_
          rotate_left
          · (intro wa hSw; go_simp; try with_reducible rfl)
          simp only [Act.put, List.getElem_toArray, List.getElem_cons_zero, List.getElem_cons_succ, List.setIfInBounds_toArray, List.set_cons_zero, List.set_cons_succ]
          refine wpAnyH_take (i := 12) (v := ?_) rfl (by kernel_rfl) (by kernel_rfl) (by kernel_rfl) (fun _ _ _ h => h) (Or.inl ⟨by rfl, ?_⟩) hHeld101 ?_
          rotate_left
          · (intro wa hSw; go_simp; try with_reducible rfl)
          simp only [Act.put, List.getElem_toArray, List.getElem_cons_zero, List.getElem_cons_succ, List.setIfInBounds_toArray, List.set_cons_zero, List.set_cons_succ]
          refine wpAnyH_take (i := 13) (v := ?_) rfl (by kernel_rfl) (by kernel_rfl) (by kernel_rfl) (fun _ _ _ h => h) (Or.inl ⟨by rfl, ?_⟩) hHeld101 ?_
          rotate_left
          · (intro wa hSw; go_simp; try with_reducible rfl)
          simp only [Act.put, List.getElem_toArray, List.getElem_cons_zero, List.getElem_cons_succ, List.setIfInBounds_toArray, List.set_cons_zero, List.set_cons_succ]
          refine wpAnyH_take (i := 14) (v := ?_) rfl (by kernel_rfl) (by kernel_rfl) (by kernel_rfl) (fun _ _ _ h => h) (Or.inl ⟨by rfl, ?_⟩) hHeld101 ?_
          rotate_left
          · (intro wa hSw; have K := OS.out _ hSw; obtain ⟨cb0, cb1, cb2, cb3⟩ := K.1.cells; have cr := K.2.2.1; obtain ⟨_, _, hee, _, cq⟩ := int_at K.2.1 hj; simp only [Option.some.injEq, Addr.mk.injEq, and_true] at hee; obtain ⟨rfl, rfl⟩ := hee; go_simp; try with_reducible rfl)
          simp only [Act.put, List.getElem_toArray, List.getElem_cons_zero, List.getElem_cons_succ, List.setIfInBounds_toArray, List.set_cons_zero, List.set_cons_succ]
          refine wpAnyH_take (i := 15) (v := ?_) rfl (by kernel_rfl) (by kernel_rfl) (by kernel_rfl) (fun _ _ _ h => h) (Or.inl ⟨by rfl, ?_⟩) hHeld101 ?_
          rotate_left
          · (intro wa hSw; go_simp; try with_reducible rfl)
          simp only [Act.put, List.getElem_toArray, List.getElem_cons_zero, List.getElem_cons_succ, List.setIfInBounds_toArray, List.set_cons_zero, List.set_cons_succ]
          refine wpAnyH_take (i := 16) (v := ?_) rfl (by kernel_rfl) (by kernel_rfl) (by kernel_rfl) (fun _ _ _ h => h) (Or.inl ⟨by rfl, ?_⟩) hHeld101 ?_
          rotate_left
          · (intro wa hSw; have K := OS.out _ hSw; obtain ⟨cb0, cb1, cb2, cb3⟩ := K.1.cells; have cr := K.2.2.1; go_simp; try with_reducible rfl)
          simp only [Act.put, List.getElem_toArray, List.getElem_cons_zero, List.getElem_cons_succ, List.setIfInBounds_toArray, List.set_cons_zero, List.set_cons_succ]
          refine wpAnyH_take (i := 17) (v := ?_) rfl (by kernel_rfl) (by kernel_rfl) (by kernel_rfl) (fun _ _ _ h => h) (Or.inl ⟨by rfl, ?_⟩) hHeld101 ?_
          rotate_left
          · (intro wa hSw; go_simp; try with_reducible rfl)
          simp only [Act.put, List.getElem_toArray, List.getElem_cons_zero, List.getElem_cons_succ, List.setIfInBounds_toArray, List.set_cons_zero, List.set_cons_succ]
          refine wpAnyH_take (i := 18) (v := ?_) rfl (by kernel_rfl) (by kernel_rfl) (by kernel_rfl) (fun _ _ _ h => h) (Or.inl ⟨by rfl, ?_⟩) hHeld101 ?_
          rotate_left
          · (intro wa hSw; go_simp; try with_reducible rfl)
          simp only [Act.put, List.getElem_toArray, List.getElem_cons_zero, List.getElem_cons_succ, List.setIfInBounds_toArray, List.set_cons_zero, List.set_cons_succ]
          refine wpAnyH_take (i := 19) (v := ?_) rfl (by kernel_rfl) (by kernel_rfl) (by kernel_rfl) (fun _ _ _ h => h) (Or.inl ⟨by rfl, ?_⟩) hHeld101 ?_
          rotate_left
          · (intro wa hSw; go_simp; try with_reducible rfl)
          simp only [Act.put, List.getElem_toArray, List.getElem_cons_zero, List.getElem_cons_succ, List.setIfInBounds_toArray, List.set_cons_zero, List.set_cons_succ]
          refine wpAnyH_take (i := 20) (v := ?_) rfl (by kernel_rfl) (by kernel_rfl) (by kernel_rfl) (fun _ _ _ h => h) (Or.inl ⟨by rfl, ?_⟩) hHeld101 ?_
          rotate_left
          · (intro wa hSw; go_simp; try with_reducible rfl)
          simp only [Act.put, List.getElem_toArray, List.getElem_cons_zero, List.getElem_cons_succ, List.setIfInBounds_toArray, List.set_cons_zero, List.set_cons_succ]
          refine wpAnyH_take (i := 21) (v := ?_) rfl (by kernel_rfl) (by kernel_rfl) (by kernel_rfl) (fun _ _ _ h => h) (Or.inl ⟨by rfl, ?_⟩) hHeld101 ?_
          rotate_left
          · (intro wa hSw; go_simp; try with_reducible rfl)
          simp only [Act.put, List.getElem_toArray, List.getElem_cons_zero, List.getElem_cons_succ, List.setIfInBounds_toArray, List.set_cons_zero, List.set_cons_succ]
          refine wpAnyH_take (i := 22) (v := ?_) rfl (by kernel_rfl) (by kernel_rfl) (by kernel_rfl) (fun _ _ _ h => h) (Or.inl ⟨by rfl, ?_⟩) hHeld101 ?_
          rotate_left
          · (intro wa hSw; go_simp; try with_reducible rfl)
          simp only [Act.put, List.getElem_toArray, List.getElem_cons_zero, List.getElem_cons_succ, List.setIfInBounds_toArray, List.set_cons_zero, List.set_cons_succ]
          refine wpAnyH_take (i := 23) (v := ?_) rfl (by kernel_rfl) (by kernel_rfl) (by kernel_rfl) (fun _ _ _ h => h) (Or.inl ⟨by rfl, ?_⟩) hHeld101 ?_
          rotate_left
          · (intro wa hSw; have K := OS.out _ hSw; obtain ⟨cb0, cb1, cb2, cb3⟩ := K.1.cells; have cr := K.2.2.1; go_simp; try with_reducible rfl)
          simp only [Act.put, List.getElem_toArray, List.getElem_cons_zero, List.getElem_cons_succ, List.setIfInBounds_toArray, List.set_cons_zero, List.set_cons_succ]
          refine wpAnyH_take (i := 24) (v := ?_) rfl (by kernel_rfl) (by kernel_rfl) (by kernel_rfl) (fun _ _ _ h => h) (Or.inl ⟨by rfl, ?_⟩) hHeld101 ?_
          rotate_left
          · (intro wa hSw; go_simp; try with_reducible rfl)
          simp only [Act.put, List.getElem_toArray, List.getElem_cons_zero, List.getElem_cons_succ, List.setIfInBounds_toArray, List.set_cons_zero, List.set_cons_succ]
          refine wpAnyH_take (i := 25) (v := ?_) rfl (by kernel_rfl) (by kernel_rfl) (by kernel_rfl) (fun _ _ _ h => h) (Or.inl ⟨by rfl, ?_⟩) hHeld101 ?_
          rotate_left
          · (intro wa hSw; go_simp; try with_reducible rfl)
          simp only [Act.put, List.getElem_toArray, List.getElem_cons_zero, List.getElem_cons_succ, List.setIfInBounds_toArray, List.set_cons_zero, List.set_cons_succ]
          refine wpAnyH_take (i := 26) (v := ?_) rfl (by kernel_rfl) (by kernel_rfl) (by kernel_rfl) (fun _ _ _ h => h) (Or.inl ⟨by rfl, ?_⟩) hHeld101 ?_
          rotate_left
          · (intro wa hSw; have K := OS.out _ hSw; obtain ⟨cb0, cb1, cb2, cb3⟩ := K.1.cells; have cr := K.2.2.1; go_simp; try with_reducible rfl)
          simp only [Act.put, List.getElem_toArray, List.getElem_cons_zero, List.getElem_cons_succ, List.setIfInBounds_toArray, List.set_cons_zero, List.set_cons_succ]
          refine wpAnyH_take (i := 27) (v := ?_) rfl (by kernel_rfl) (by kernel_rfl) (by kernel_rfl) (fun _ _ _ h => h) (Or.inl ⟨by rfl, ?_⟩) hHeld101 ?_
          rotate_left
          · (intro wa hSw; go_simp; try with_reducible rfl)
          simp only [Act.put, List.getElem_toArray, List.getElem_cons_zero, List.getElem_cons_succ, List.setIfInBounds_toArray, List.set_cons_zero, List.set_cons_succ]
          refine wpAnyH_take (i := 28) (v := ?_) rfl (by kernel_rfl) (by kernel_rfl) (by kernel_rfl) (fun _ _ _ h => h) (Or.inl ⟨by rfl, ?_⟩) hHeld101 ?_
          rotate_left
          · (intro wa hSw; go_simp; try with_reducible rfl)
          simp only [Act.put, List.getElem_toArray, List.getElem_cons_zero, List.getElem_cons_succ, List.setIfInBounds_toArray, List.set_cons_zero, List.set_cons_succ]
          refine wpAnyH_take (i := 29) (v := ?_) rfl (by kernel_rfl) (by kernel_rfl) (by kernel_rfl) (fun _ _ _ h => h) (Or.inl ⟨by rfl, ?_⟩) hHeld101 ?_
          rotate_left
          · (intro wa hSw; have K := OS.out _ hSw; obtain ⟨cb0, cb1, cb2, cb3⟩ := K.1.cells; have cr := K.2.2.1; go_simp; try with_reducible rfl)
          simp only [Act.put, List.getElem_toArray, List.getElem_cons_zero, List.getElem_cons_succ, List.setIfInBounds_toArray, List.set_cons_zero, List.set_cons_succ]
          refine wpAnyH_ready (rs := [30]) (by kernel_rfl) (by simp) ?_
          refine AllReadyH.cons (o := _) rfl (fun K hK => ?_) AllReadyH.nil
          go_simp
          have KK := OS.out _ hHeld101
          refine (CP.out _ KK.2.2.2.1 KK.1.2.2.2).mono ?_
          rintro e w102 ⟨rfl, b102⟩
          clear KK
          (try go_wp2_with fail)
          refine hK.out _ _ ?_ (fun hHeld102 => ?_)
          · exact KS.out _ _ hHeld101 b102
          clear hK K
          clear hHeld101
          refine wpAnyH_take (i := 31) (v := ?_) rfl (by kernel_rfl) (by kernel_rfl) (by kernel_rfl) (fun _ _ _ h => h) (Or.inl ⟨by rfl, ?_⟩) hHeld102 ?_
          rotate_left
          · (intro wa hSw; go_simp; try with_reducible rfl)
          simp only [Act.put, List.getElem_toArray, List.getElem_cons_zero, List.getElem_cons_succ, List.setIfInBounds_toArray, List.set_cons_zero, List.set_cons_succ]
          refine wpAnyH_take (i := 32) (v := ?_) rfl (by kernel_rfl) (by kernel_rfl) (by kernel_rfl) (fun _ _ _ h => h) (Or.inl ⟨by rfl, ?_⟩) hHeld102 ?_
          rotate_left
          · (intro wa hSw; go_simp; try with_reducible rfl)
          simp only [Act.put, List.getElem_toArray, List.getElem_cons_zero, List.getElem_cons_succ, List.setIfInBounds_toArray, List.set_cons_zero, List.set_cons_succ]
          refine wpAnyH_done (by kernel_rfl) ?_ _
          have KE := Lib.hid (OS.out _ hHeld102)
          clear KS OS IS hHeld hHeld102
          have HE := Lib.hid KE.out
          clear KE
          go_wp2
          go_ret
          exact ⟨rfl, HE.out.2.2.2.2⟩
        | true =>
          have HVx := Lib.hid (HVN.out ⟨HM.out, fun _ => hd, rfl⟩)
          clear HF HVN HPV HM hd
          generalize getI T k = x at *
          obtain ⟨S, HSd⟩ : ∃ S : World → Prop, S = fun w' => (SeaAt w' w.heap.size (some ⟨rb, ro, none⟩) nt rc da nd dc rest ca nc cc D L C ∧ IntRow w' (.slice (some ⟨tb, to, none⟩) nt tc) nt (getI T) ∧ w'.cell? ⟨rb, ro + k, none⟩ = some (.slice xa xn xc) ∧ RdA tPairS w' [.slice xa xn xc] rr ∧ Below w.heap.size w w') := ⟨_, rfl⟩
          have KS : Hid (∀ wa wb, S wa → Below wa.heap.size wa wb → S wb) := by subst HSd; exact fun wa wb h b => ⟨h.1.below b, h.2.1.below b (Nat.le_refl _), (b.cell (p := ⟨rb, ro + k, none⟩) (World.block_lt_of_cell? wa _ h.2.2.1)).trans h.2.2.1, h.2.2.2.1.below b, h.2.2.2.2.trans (b.mono h.2.2.2.2.size)⟩
          have OS : Hid (∀ wa, S wa → (SeaAt wa w.heap.size (some ⟨rb, ro, none⟩) nt rc da nd dc rest ca nc cc D L C ∧ IntRow wa (.slice (some ⟨tb, to, none⟩) nt tc) nt (getI T) ∧ wa.cell? ⟨rb, ro + k, none⟩ = some (.slice xa xn xc) ∧ RdA tPairS wa [.slice xa xn xc] rr ∧ Below w.heap.size w wa)) := by subst HSd; exact fun wa h => h
          have IS : Hid (∀ wa, (SeaAt wa w.heap.size (some ⟨rb, ro, none⟩) nt rc da nd dc rest ca nc cc D L C ∧ IntRow wa (.slice (some ⟨tb, to, none⟩) nt tc) nt (getI T) ∧ wa.cell? ⟨rb, ro + k, none⟩ = some (.slice xa xn xc) ∧ RdA tPairS wa [.slice xa xn xc] rr ∧ Below w.heap.size w wa) → S wa) := by subst HSd; exact fun wa h => h
          clear HSd
          go_wp2_with fail
          refine wp_region_held_drew (S := S) (by kernel_rfl) ?_ (fun hHeld => ?_)
          · exact IS.out _ ((fun (b : Below wr.heap.size wr wr.drew) => ⟨HS.out.below b, HT.out.below b (Nat.le_refl _), (b.cell (p := ⟨rb, ro + k, none⟩) (World.block_lt_of_cell? wr _ HC2.out)).trans HC2.out, HRR.out.below b, HB.out.trans (b.mono HB.out.size)⟩) (Below.refl _ _).drew)
          refine wpAnyH_take (i := 0) (v := ?_) rfl (by kernel_rfl) (by kernel_rfl) (by kernel_rfl) (fun _ _ _ h => h) (Or.inl ⟨by rfl, ?_⟩) hHeld ?_
          rotate_left
          · (intro wa hSw; go_simp; try with_reducible rfl)
          simp only [Act.put, List.getElem_toArray, List.getElem_cons_zero, List.setIfInBounds_toArray, List.set_cons_zero, List.set_cons_succ]
          refine wpAnyH_take (i := 1) (v := ?_) rfl (by kernel_rfl) (by kernel_rfl) (by kernel_rfl) (fun _ _ _ h => h) (Or.inl ⟨by rfl, ?_⟩) hHeld ?_
          rotate_left
          · (intro wa hSw; have K := OS.out _ hSw; obtain ⟨cb0, cb1, cb2, cb3⟩ := K.1.cells; have cr := K.2.2.1; go_simp; try with_reducible rfl)
          simp only [Act.put, List.getElem_toArray, List.getElem_cons_zero, List.getElem_cons_succ, List.setIfInBounds_toArray, List.set_cons_zero, List.set_cons_succ]
          refine wpAnyH_take (i := 2) (v := ?_) rfl (by kernel_rfl) (by kernel_rfl) (by kernel_rfl) (fun _ _ _ h => h) (Or.inl ⟨by rfl, ?_⟩) hHeld ?_
          rotate_left
          · (intro wa hSw; go_simp; try with_reducible rfl)
          simp only [Act.put, List.getElem_toArray, List.getElem_cons_zero, List.getElem_cons_succ, List.setIfInBounds_toArray, List.set_cons_zero, List.set_cons_succ]
          refine wpAnyH_ready (rs := [3]) (by kernel_rfl) (by simp) ?_
          refine AllReadyH.cons (o := _) rfl (fun K hK => ?_) AllReadyH.nil
          go_simp
          have KK := OS.out _ hHeld
          refine (CH.out _ KK.1.2.2.1).mono ?_
          rintro e w101 ⟨rfl, b101⟩
          clear KK
          (try go_wp2_with fail)
          refine hK.out _ _ ?_ (fun hHeld101 => ?_)
          · exact KS.out _ _ hHeld b101
          clear hK K
          refine wpAnyH_take (i := 4) (v := ?_) rfl (by kernel_rfl) (by kernel_rfl) (by kernel_rfl) (fun _ _ _ h => h) (Or.inl ⟨by rfl, ?_⟩) hHeld101 ?_
          rotate_left
          · (intro wa hSw; go_simp; try with_reducible rfl)
          simp only [Act.put, List.getElem_toArray, List.getElem_cons_zero, List.getElem_cons_succ, List.setIfInBounds_toArray, List.set_cons_zero, List.set_cons_succ]
          refine wpAnyH_take (i := 5) (v := ?_) rfl (by kernel_rfl) (by kernel_rfl) (by kernel_rfl) (fun _ _ _ h => h) (Or.inl ⟨by rfl, ?_⟩) hHeld101 ?_
          rotate_left
          · (intro wa hSw; go_simp; try with_reducible rfl)
          simp only [Act.put, List.getElem_toArray, List.getElem_cons_zero, List.getElem_cons_succ, List.setIfInBounds_toArray, List.set_cons_zero, List.set_cons_succ]
          refine wpAnyH_take (i := 6) (v := ?_) rfl (by kernel_rfl) (by kernel_rfl) (by kernel_rfl) (fun _ _ _ h => h) (Or.inl ⟨by rfl, ?_⟩) hHeld101 ?_
          rotate_left
          · (intro wa hSw; go_simp; try with_reducible rfl)
          simp only [Act.put, List.getElem_toArray, List.getElem_cons_zero, List.getElem_cons_succ, List.setIfInBounds_toArray, List.set_cons_zero, List.set_cons_succ]
          refine wpAnyH_take (i := 7) (v := ?_) rfl (by kernel_rfl) (by kernel_rfl) (by kernel_rfl) (fun _ _ _ h => h) (Or.inl ⟨by rfl, ?_⟩) hHeld101 ?_
          rotate_left
          · (intro wa hSw; go_simp; try with_reducible rfl)
          simp only [Act.put, List.getElem_toArray, List.getElem_cons_zero, List.getElem_cons_succ, List.setIfInBounds_toArray, List.set_cons_zero, List.set_cons_succ]
          refine wpAnyH_take (i := 8) (v := ?_) rfl (by kernel_rfl) (by kernel_rfl) (by kernel_rfl) (fun _ _ _ h => h) (Or.inl ⟨by rfl, ?_⟩) hHeld101 ?_
          rotate_left
          · (intro wa hSw; go_simp; try with_reducible rfl)
          simp only [Act.put, List.getElem_toArray, List.getElem_cons_zero, List.getElem_cons_succ, List.setIfInBounds_toArray, List.set_cons_zero, List.set_cons_succ]
          refine wpAnyH_take (i := 9) (v := ?_) rfl (by kernel_rfl) (by kernel_rfl) (by kernel_rfl) (fun _ _ _ h => h) (Or.inl ⟨by rfl, ?_⟩) hHeld101 ?_
          rotate_left
          · (intro wa hSw; go_simp; try with_reducible rfl)
          simp only [Act.put, List.getElem_toArray, List.getElem_cons_zero, List.getElem_cons_succ, List.setIfInBounds_toArray, List.set_cons_zero, List.set_cons_succ]
          refine wpAnyH_take (i := 10) (v := ?_) rfl (by kernel_rfl) (by kernel_rfl) (by kernel_rfl) (fun _ _ _ h => h) (Or.inl ⟨by rfl, ?_⟩) hHeld101 ?_
          rotate_left
          · (intro wa hSw; go_simp; try with_reducible rfl)
          simp only [Act.put, List.getElem_toArray, List.getElem_cons_zero, List.getElem_cons_succ, List.setIfInBounds_toArray, List.set_cons_zero, List.set_cons_succ]
          refine wpAnyH_take (i := 11) (v := ?_) rfl (by kernel_rfl) (by kernel_rfl) (by kernel_rfl) (fun _ _ _ h => h) (Or.inl ⟨by rfl, ?_⟩) hHeld101 ?_
          rotate_left
          · (intro wa hSw; go_simp; try with_reducible rfl)
          simp only [Act.put, List.getElem_toArray, List.getElem_cons_zero, List.getElem_cons_succ, List.setIfInBounds_toArray, List.set_cons_zero, List.set_cons_succ]
          refine wpAnyH_take (i := 12) (v := ?_) rfl (by kernel_rfl) (by kernel_rfl) (by kernel_rfl) (fun _ _ _ h => h) (Or.inl ⟨by rfl, ?_⟩) hHeld101 ?_
          rotate_left
          · (intro wa hSw; go_simp; try with_reducible rfl)
          simp only [Act.put, List.getElem_toArray, List.getElem_cons_zero, List.getElem_cons_succ, List.setIfInBounds_toArray, List.set_cons_zero, List.set_cons_succ]
          refine wpAnyH_take (i := 13) (v := ?_) rfl (by kernel_rfl) (by kernel_rfl) (by kernel_rfl) (fun _ _ _ h => h) (Or.inl ⟨by rfl, ?_⟩) hHeld101 ?_
          rotate_left
          · (intro wa hSw; go_simp; try with_reducible rfl)
          simp only [Act.put, List.getElem_toArray, List.getElem_cons_zero, List.getElem_cons_succ, List.setIfInBounds_toArray, List.set_cons_zero, List.set_cons_succ]
          refine wpAnyH_take (i := 14) (v := ?_) rfl (by kernel_rfl) (by kernel_rfl) (by kernel_rfl) (fun _ _ _ h => h) (Or.inl ⟨by rfl, ?_⟩) hHeld101 ?_
          rotate_left
          · (intro wa hSw; have K := OS.out _ hSw; obtain ⟨cb0, cb1, cb2, cb3⟩ := K.1.cells; have cr := K.2.2.1; obtain ⟨_, _, hee, _, cq⟩ := int_at K.2.1 hj; simp only [Option.some.injEq, Addr.mk.injEq, and_true] at hee; obtain ⟨rfl, rfl⟩ := hee; go_simp; try with_reducible rfl)
          simp only [Act.put, List.getElem_toArray, List.getElem_cons_zero, List.getElem_cons_succ, List.setIfInBounds_toArray, List.set_cons_zero, List.set_cons_succ]
          refine wpAnyH_take (i := 15) (v := ?_) rfl (by kernel_rfl) (by kernel_rfl) (by kernel_rfl) (fun _ _ _ h => h) (Or.inl ⟨by rfl, ?_⟩) hHeld101 ?_
          rotate_left
          · (intro wa hSw; go_simp; try with_reducible rfl)
          simp only [Act.put, List.getElem_toArray, List.getElem_cons_zero, List.getElem_cons_succ, List.setIfInBounds_toArray, List.set_cons_zero, List.set_cons_succ]
          refine wpAnyH_take (i := 16) (v := ?_) rfl (by kernel_rfl) (by kernel_rfl) (by kernel_rfl) (fun _ _ _ h => h) (Or.inl ⟨by rfl, ?_⟩) hHeld101 ?_
          rotate_left
          · (intro wa hSw; have K := OS.out _ hSw; obtain ⟨cb0, cb1, cb2, cb3⟩ := K.1.cells; have cr := K.2.2.1; go_simp; try with_reducible rfl)
          simp only [Act.put, List.getElem_toArray, List.getElem_cons_zero, List.getElem_cons_succ, List.setIfInBounds_toArray, List.set_cons_zero, List.set_cons_succ]
          refine wpAnyH_take (i := 17) (v := ?_) rfl (by kernel_rfl) (by kernel_rfl) (by kernel_rfl) (fun _ _ _ h => h) (Or.inl ⟨by rfl, ?_⟩) hHeld101 ?_
          rotate_left
          · (intro wa hSw; go_simp; try with_reducible rfl)
          simp only [Act.put, List.getElem_toArray, List.getElem_cons_zero, List.getElem_cons_succ, List.setIfInBounds_toArray, List.set_cons_zero, List.set_cons_succ]
          refine wpAnyH_take (i := 18) (v := ?_) rfl (by kernel_rfl) (by kernel_rfl) (by kernel_rfl) (fun _ _ _ h => h) (Or.inl ⟨by rfl, ?_⟩) hHeld101 ?_
          rotate_left
          · (intro wa hSw; go_simp; try with_reducible rfl)
          simp only [Act.put, List.getElem_toArray, List.getElem_cons_zero, List.getElem_cons_succ, List.setIfInBounds_toArray, List.set_cons_zero, List.set_cons_succ]
          refine wpAnyH_take (i := 19) (v := ?_) rfl (by kernel_rfl) (by kernel_rfl) (by kernel_rfl) (fun _ _ _ h => h) (Or.inl ⟨by rfl, ?_⟩) hHeld101 ?_
          rotate_left
          · (intro wa hSw; go_simp; try with_reducible rfl)
          simp only [Act.put, List.getElem_toArray, List.getElem_cons_zero, List.getElem_cons_succ, List.setIfInBounds_toArray, List.set_cons_zero, List.set_cons_succ]
          refine wpAnyH_take (i := 20) (v := ?_) rfl (by kernel_rfl) (by kernel_rfl) (by kernel_rfl) (fun _ _ _ h => h) (Or.inl ⟨by rfl, ?_⟩) hHeld101 ?_
          rotate_left
          · (intro wa hSw; go_simp; try with_reducible rfl)
          simp only [Act.put, List.getElem_toArray, List.getElem_cons_zero, List.getElem_cons_succ, List.setIfInBounds_toArray, List.set_cons_zero, List.set_cons_succ]
          refine wpAnyH_take (i := 21) (v := ?_) rfl (by kernel_rfl) (by kernel_rfl) (by kernel_rfl) (fun _ _ _ h => h) (Or.inl ⟨by rfl, ?_⟩) hHeld101 ?_
          rotate_left
          · (intro wa hSw; go_simp; try with_reducible rfl)
          simp only [Act.put, List.getElem_toArray, List.getElem_cons_zero, List.getElem_cons_succ, List.setIfInBounds_toArray, List.set_cons_zero, List.set_cons_succ]
          refine wpAnyH_take (i := 22) (v := ?_) rfl (by kernel_rfl) (by kernel_rfl) (by kernel_rfl) (fun _ _ _ h => h) (Or.inl ⟨by rfl, ?_⟩) hHeld101 ?_
          rotate_left
          · (intro wa hSw; go_simp; try with_reducible rfl)
          simp only [Act.put, List.getElem_toArray, List.getElem_cons_zero, List.getElem_cons_succ, List.setIfInBounds_toArray, List.set_cons_zero, List.set_cons_succ]
          refine wpAnyH_take (i := 23) (v := ?_) rfl (by kernel_rfl) (by kernel_rfl) (by kernel_rfl) (fun _ _ _ h => h) (Or.inl ⟨by rfl, ?_⟩) hHeld101 ?_
          rotate_left
          · (intro wa hSw; have K := OS.out _ hSw; obtain ⟨cb0, cb1, cb2, cb3⟩ := K.1.cells; have cr := K.2.2.1; go_simp; try with_reducible rfl)
          simp only [Act.put, List.getElem_toArray, List.getElem_cons_zero, List.getElem_cons_succ, List.setIfInBounds_toArray, List.set_cons_zero, List.set_cons_succ]
          refine wpAnyH_take (i := 24) (v := ?_) rfl (by kernel_rfl) (by kernel_rfl) (by kernel_rfl) (fun _ _ _ h => h) (Or.inl ⟨by rfl, ?_⟩) hHeld101 ?_
          rotate_left
          · (intro wa hSw; go_simp; try with_reducible rfl)
          simp only [Act.put, List.getElem_toArray, List.getElem_cons_zero, List.getElem_cons_succ, List.setIfInBounds_toArray, List.set_cons_zero, List.set_cons_succ]
          refine wpAnyH_take (i := 25) (v := ?_) rfl (by kernel_rfl) (by kernel_rfl) (by kernel_rfl) (fun _ _ _ h => h) (Or.inl ⟨by rfl, ?_⟩) hHeld101 ?_
          rotate_left
          · (intro wa hSw; go_simp; try with_reducible rfl)
          simp only [Act.put, List.getElem_toArray, List.getElem_cons_zero, List.getElem_cons_succ, List.setIfInBounds_toArray, List.set_cons_zero, List.set_cons_succ]
          refine wpAnyH_take (i := 26) (v := ?_) rfl (by kernel_rfl) (by kernel_rfl) (by kernel_rfl) (fun _ _ _ h => h) (Or.inl ⟨by rfl, ?_⟩) hHeld101 ?_
          rotate_left
          · (intro wa hSw; have K := OS.out _ hSw; obtain ⟨cb0, cb1, cb2, cb3⟩ := K.1.cells; have cr := K.2.2.1; go_simp; try with_reducible rfl)
          simp only [Act.put, List.getElem_toArray, List.getElem_cons_zero, List.getElem_cons_succ, List.setIfInBounds_toArray, List.set_cons_zero, List.set_cons_succ]
          refine wpAnyH_take (i := 27) (v := ?_) rfl (by kernel_rfl) (by kernel_rfl) (by kernel_rfl) (fun _ _ _ h => h) (Or.inl ⟨by rfl, ?_⟩) hHeld101 ?_
          rotate_left
          · (intro wa hSw; go_simp; try with_reducible rfl)
          simp only [Act.put, List.getElem_toArray, List.getElem_cons_zero, List.getElem_cons_succ, List.setIfInBounds_toArray, List.set_cons_zero, List.set_cons_succ]
          refine wpAnyH_take (i := 28) (v := ?_) rfl (by kernel_rfl) (by kernel_rfl) (by kernel_rfl) (fun _ _ _ h => h) (Or.inl ⟨by rfl, ?_⟩) hHeld101 ?_
          rotate_left
          · (intro wa hSw; go_simp; try with_reducible rfl)
          simp only [Act.put, List.getElem_toArray, List.getElem_cons_zero, List.getElem_cons_succ, List.setIfInBounds_toArray, List.set_cons_zero, List.set_cons_succ]
          refine wpAnyH_take (i := 29) (v := ?_) rfl (by kernel_rfl) (by kernel_rfl) (by kernel_rfl) (fun _ _ _ h => h) (Or.inl ⟨by rfl, ?_⟩) hHeld101 ?_
          rotate_left
          · (intro wa hSw; have K := OS.out _ hSw; obtain ⟨cb0, cb1, cb2, cb3⟩ := K.1.cells; have cr := K.2.2.1; go_simp; try with_reducible rfl)
          simp only [Act.put, List.getElem_toArray, List.getElem_cons_zero, List.getElem_cons_succ, List.setIfInBounds_toArray, List.set_cons_zero, List.set_cons_succ]
          refine wpAnyH_ready (rs := [30]) (by kernel_rfl) (by simp) ?_
          refine AllReadyH.cons (o := _) rfl (fun K hK => ?_) AllReadyH.nil
          go_simp
          have KK := OS.out _ hHeld101
          refine (CP.out _ KK.2.2.2.1 KK.1.2.2.2).mono ?_
          rintro e w102 ⟨rfl, b102⟩
          clear KK
          (try go_wp2_with fail)
          refine hK.out _ _ ?_ (fun hHeld102 => ?_)
          · exact KS.out _ _ hHeld101 b102
          clear hK K
          clear hHeld101
          refine wpAnyH_take (i := 31) (v := ?_) rfl (by kernel_rfl) (by kernel_rfl) (by kernel_rfl) (fun _ _ _ h => h) (Or.inl ⟨by rfl, ?_⟩) hHeld102 ?_
          rotate_left
          · (intro wa hSw; go_simp; try with_reducible rfl)
          simp only [Act.put, List.getElem_toArray, List.getElem_cons_zero, List.getElem_cons_succ, List.setIfInBounds_toArray, List.set_cons_zero, List.set_cons_succ]
          refine wpAnyH_take (i := 32) (v := ?_) rfl (by kernel_rfl) (by kernel_rfl) (by kernel_rfl) (fun _ _ _ h => h) (Or.inl ⟨by rfl, ?_⟩) hHeld102 ?_
          rotate_left
          · (intro wa hSw; go_simp; try with_reducible rfl)
          simp only [Act.put, List.getElem_toArray, List.getElem_cons_zero, List.getElem_cons_succ, List.setIfInBounds_toArray, List.set_cons_zero, List.set_cons_succ]
          refine wpAnyH_done (by kernel_rfl) ?_ _
          have KE := Lib.hid (OS.out _ hHeld102)
          clear KS OS IS hHeld hHeld102
          have HE := Lib.hid KE.out
          clear KE
          go_wp2
          go_roundw
          case rel => exact ⟨k + 1, by omega, by go_num, HVx, HE.out.1, HE.out.2.1, HE.out.2.2.2.2⟩
          case measure => simp [RowKit.intOf]; omega
    obtain rfl : k = nt := by omega
    obtain rfl := HYes.out HV.out
    go_wp2
    go_ret
    exact ⟨rfl, HB.out⟩
end Go.Proofs.Ytcbpgbiannpfpaa
