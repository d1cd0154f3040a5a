/-
  Packed: Cal2.
-/
import Derived.Test.YtcbpgbiannpfpaaDoorQ1
import Derived.Test.YtcbpgbiannpfpaaDoorQ7
set_option linter.unusedVariables false
namespace Go.Proofs.YtcbpgbiannpfpaaDoor
open Go.RowKit

def atR (D : List PairL) (i : Nat) : PairL := (D[i]?).getD []
def daysP (L : List Int) : Prop := ∀ i, i < L.length → (0 ≤ getI L i ∧ getI L i ≤ 60) ∧ (0 < i → getI L (i - 1) < getI L i)
def seaP (n : Int) (D : List PairL) (L : List Int) (rest : Int) (C : ClosL) : Prop := schedP n D ∧ closedP n C ∧ L.length ≤ 30 ∧ (1 ≤ rest ∧ rest ≤ 60) ∧ daysP L
def datesP (D : List PairL) (L : List Int) (rest : Int) (C : ClosL) (T : List Int) (k : Nat) : Prop := ∀ i, i < k → getI T i ∈ L ∧ (0 < i → getI T (i - 1) + rest ≤ getI T i) ∧ playB (atR D i) (getI T i) C = true
def calP (n : Int) (D : List PairL) (L : List Int) (rest : Int) (C : ClosL) (T : List Int) : Prop := seaP n D L rest C ∧ T.length = List.length (α := PairL) D ∧ datesP D L rest C T T.length
def SeaAt (w : World) (X : Nat) (ra : Option Addr) (nr rc : Nat) (da : Option Addr) (nd dc : Nat) (rest : Int) (ca : Option Addr) (nc cc : Nat) (D : List PairL) (L : List Int) (C : ClosL) : Prop :=
  BoxN w X [.slice ra nr rc, .slice da nd dc, .int .i64 rest, .slice ca nc cc] ∧ RdA tPairSS w [.slice ra nr rc] D ∧ IntRow w (.slice da nd dc) nd (getI L) ∧ RdA tClosedS w [.slice ca nc cc] C
theorem SeaAt.below {w w' : World} {X : Nat} {ra : Option Addr} {nr rc : Nat} {da : Option Addr} {nd dc : Nat} {rest : Int} {ca : Option Addr} {nc cc : Nat} {D : List PairL} {L : List Int} {C : ClosL} (h : SeaAt w X ra nr rc da nd dc rest ca nc cc D L C) (hb : Below w.heap.size w w') : SeaAt w' X ra nr rc da nd dc rest ca nc cc D L C :=
  ⟨h.1.below hb, h.2.1.below hb, h.2.2.1.below hb (Nat.le_refl _), h.2.2.2.below hb⟩
theorem SeaAt.cells {w : World} {X : Nat} {ra : Option Addr} {nr rc : Nat} {da : Option Addr} {nd dc : Nat} {rest : Int} {ca : Option Addr} {nc cc : Nat} {D : List PairL} {L : List Int} {C : ClosL} (h : SeaAt w X ra nr rc da nd dc rest ca nc cc D L C) :
    w.cell? ⟨X, 0, none⟩ = some (.slice ra nr rc) ∧ w.cell? ⟨X, 1, none⟩ = some (.slice da nd dc) ∧ w.cell? ⟨X, 2, none⟩ = some (.int .i64 rest) ∧ w.cell? ⟨X, 3, none⟩ = some (.slice ca nc cc) := ⟨h.1.2 0 _ rfl, h.1.2 1 _ rfl, h.1.2 2 _ rfl, h.1.2 3 _ rfl⟩
theorem SeaAt.made {w : World} {ra : Option Addr} {nr rc : Nat} {da : Option Addr} {nd dc : Nat} {rest : Int} {ca : Option Addr} {nc cc : Nat} {D : List PairL} {L : List Int} {C : ClosL} {t : TypeId} (h1 : RdA tPairSS w [.slice ra nr rc] D) (h2 : IntRow w (.slice da nd dc) nd (getI L)) (h3 : RdA tClosedS w [.slice ca nc cc] C) :
    SeaAt (w.alloc (.cells #[.slice ra nr rc, .slice da nd dc, .int .i64 rest, .slice ca nc cc] t)) w.heap.size ra nr rc da nd dc rest ca nc cc D L C :=
  have b : Below w.heap.size w (w.alloc (.cells #[.slice ra nr rc, .slice da nd dc, .int .i64 rest, .slice ca nc cc] t)) := (Below.refl _ _).alloc (Nat.le_refl _) _
  ⟨BoxN.made (Below.refl _ _) rfl, h1.below b, h2.below b (Nat.le_refl _), h3.below b⟩
theorem l01In_is (x lo hi : Int) (R : Bool) (hR : R = true ↔ lo ≤ x ∧ x ≤ hi) (w : World) : Calls Tryd.prog 70 #[.int .i64 x, .int .i64 lo, .int .i64 hi] w fun e w' => e = .returned (.bool R) ∧ w = w' := by
  cases R with
  | true => exact (l01In_yes _ _ _ _ (hR.1 rfl)).mono fun e w' h => h
  | false => exact (l01In_no _ _ _ _ (fun h => by have := hR.2 h; cases this)).mono fun e w' h => h
set_option maxRecDepth 100000 in
set_option maxHeartbeats 4000000 in
theorem l10Season_spec (n : Int) (vr vd : Value) (rest : Int) (vc : Value) (D : List PairL) (L : List Int) (C : ClosL) (R : Bool) (w : World) (hR : R = true ↔ seaP n D L rest C)
    (hr : RdA tPairSS w [vr] D) (hd : IntRow w vd L.length (getI L)) (hc : RdA tClosedS w [vc] C) (hw : tPairSS.wt D ≤ 1048576) :
    Calls Tryd.prog 43 #[.int .i64 n, .agg #[vr, vd, .int .i64 rest, vc]] w fun e w' => e = .returned (.bool R) ∧ Below w.heap.size w w' := by
  obtain ⟨ra, rc, rfl, hrn⟩ := schedule_form hr
  obtain ⟨da, dc, rfl, hdn, _⟩ := hd.form
  obtain ⟨ca, cc, rfl, hcn⟩ := clos_form hc
  obtain ⟨nr, hnr⟩ : ∃ nr, List.length (α := PairL) D = nr := ⟨_, rfl⟩
  obtain ⟨nd, hnd⟩ : ∃ nd, L.length = nd := ⟨_, rfl⟩
  obtain ⟨nc, hnc⟩ : ∃ nc, List.length (α := tClosed.D) C = nc := ⟨_, rfl⟩
  obtain ⟨r1, hr1⟩ := boolEx (schedP n D)
  obtain ⟨r2, hr2⟩ := boolEx (closedP n C)
  obtain ⟨r3, hr3⟩ := boolEx (1 ≤ rest ∧ rest ≤ 60)
  obtain ⟨U, hU⟩ : ∃ U, w.alloc (.cells #[.slice ra nr rc, .slice da nd dc, .int .i64 rest, .slice ca nc cc] 27) = U := ⟨_, rfl⟩
  have CS := Lib.hid (fun wa h => isSchedule_spec (.slice ra (List.length (α := PairL) D) rc) D n r1 wa hr1 h hw)
  have CC := Lib.hid (fun wa h => closedOk_spec n (.slice ca (List.length (α := tClosed.D) C) cc) C r2 wa hr2 h)
  have HN := Lib.hid (boolF hR)
  have HY := Lib.hid (boolT hR)
  have HND := Lib.hid hnd
  rw [hnr] at hr CS ⊢
  rw [hnd] at hd hdn ⊢
  rw [hnc] at hc hcn CC ⊢
  have HS : Hid (SeaAt U w.heap.size ra nr rc da nd dc rest ca nc cc D L C) := by rw [← hU]; exact SeaAt.made hr hd hc
  have HB : Hid (Below w.heap.size w U) := by rw [← hU]; exact (Below.refl _ _).alloc (Nat.le_refl _) _
  have HR1 := Lib.hid hr1
  have HR2 := Lib.hid hr2
  have HR3 := Lib.hid hr3
  clear hr hd hc hR hw hnr hnd hnc hrn hcn hr1 hr2 hr3
  go_enter Tryd.func43, Tryd.ntmps43
  obtain ⟨c0, c1, c2, c3⟩ := HS.out.cells
  go_wp2_with fail
  clear hU
  refine (CS.out _ HS.out.2.1).mono ?_
  rintro e w1 ⟨rfl, b⟩
  have HS1 := Lib.hid (HS.out.below b)
  have HB1 := Lib.hid (HB.out.trans (b.mono HB.out.size))
  clear b c0 c1 c2 c3 HS HB
  obtain ⟨c0, c1, c2, c3⟩ := HS1.out.cells
  cases r1 with
  | false =>
    obtain rfl := HN.out (fun h => by have := HR1.out.2 h.1; cases this)
    go_wp2
    go_ret
    exact ⟨rfl, HB1.out⟩
  | true =>
  go_wp2_with fail
  refine (CC.out _ HS1.out.2.2.2).mono ?_
  rintro e w2 ⟨rfl, b⟩
  have HS2 := Lib.hid (HS1.out.below b)
  have HB2 := Lib.hid (HB1.out.trans (b.mono HB1.out.size))
  clear b c0 c1 c2 c3 HS1 HB1
  obtain ⟨c0, c1, c2, c3⟩ := HS2.out.cells
  cases r2 with
  | false =>
    obtain rfl := HN.out (fun h => by have := HR2.out.2 h.2.1; cases this)
    go_wp2
    go_ret
    exact ⟨rfl, HB2.out⟩
  | true =>
  by_cases h30 : nd ≤ 30
  case neg =>
    obtain rfl := HN.out (fun h => h30 (by have := h.2.2.1; rw [HND.out] at this; exact this))
    have g1 : decide ((30 : Int) < (nd : Int)) = true := decide_eq_true (by omega)
    have g1' : decide (30 < nd) = true := decide_eq_true (by omega)
    go_wp2
    go_ret
    exact ⟨rfl, HB2.out⟩
  have g1 : decide ((30 : Int) < (nd : Int)) = false := decide_eq_false (by omega)
  have g1' : decide (30 < nd) = false := decide_eq_false (by omega)
  go_wp2_with fail
  refine (l01In_is _ _ _ r3 HR3.out _).mono ?_
  rintro e wx ⟨rfl, rfl⟩
  cases r3 with
  | false =>
    obtain rfl := HN.out (fun h => by have := HR3.out.2 h.2.2.2.1; cases this)
    go_wp2
    go_ret
    exact ⟨rfl, HB2.out⟩
  | true =>
  have HNo : Hid (¬ daysP L → R = false) := fun h => HN.out fun hp => h hp.2.2.2.2
  have HYes : Hid (daysP L → R = true) := fun h => HY.out ⟨HR1.out.1 (by first | rfl | trivial), HR2.out.1 (by first | rfl | trivial), by rw [HND.out]; exact h30, HR3.out.1 (by first | rfl | trivial), h⟩
  clear HN HY HR1 HR2 HR3 g1 g1' CS CC
  go_wp2
  go_loop [34] (fun iv => ∃ k : Nat, k ≤ nd ∧ iv = .int .i64 k ∧ Hid (∀ i, i < k → (0 ≤ getI L i ∧ getI L i ≤ 60) ∧ (0 < i → getI L (i - 1) < getI L i))) (fun iv => nd - (RowKit.intOf iv).toNat)
  case atStart => exact ⟨0, Nat.zero_le _, rfl, fun i hi => absurd hi (Nat.not_lt_zero _)⟩
  case round =>
    obtain ⟨k, hk9, rfl, HV⟩ := hrel
    by_cases hlt : k < nd
    · obtain ⟨bo, oo, hao, hcap, q0⟩ := int_at HS2.out.2.2.1 hlt
      subst hao
      have hj1 : (k : Int) < (nd : Int) := by omega
      have HVN : Hid (((0 ≤ getI L k ∧ getI L k ≤ 60) ∧ (0 < k → getI L (k - 1) < getI L k)) → ∀ i, i < k + 1 → (0 ≤ getI L i ∧ getI L i ≤ 60) ∧ (0 < i → getI L (i - 1) < getI L i)) := fun h i hi => by
        by_cases e : i = k
        · subst e; exact h
        · exact HV.out i (by omega)
      have HF : Hid (¬ ((0 ≤ getI L k ∧ getI L k ≤ 60) ∧ (0 < k → getI L (k - 1) < getI L k)) → R = false) := fun h => HNo.out fun hp => h (hp k (by rw [HND.out]; exact hlt))
      obtain ⟨r4, hr4⟩ := boolEx (0 ≤ getI L k ∧ getI L k ≤ 60)
      have C4 := Lib.hid (fun wa => l01In_is (getI L k) 0 60 r4 hr4 wa)
      cases r4 with
      | false =>
        obtain rfl := HF.out (fun h => by have := hr4.2 h.1; cases this)
        clear HF HVN HV hr4
        generalize getI L k = x at *
        go_wp2_with fail
        refine (C4.out _).mono ?_
        rintro e wx ⟨rfl, rfl⟩
        go_wp2
        go_ret
        exact ⟨rfl, HB2.out⟩
      | true =>
      have hr4b := Lib.hid (hr4.1 rfl)
      clear hr4
      cases k with
      | zero =>
        have HVx := Lib.hid (HVN.out ⟨hr4b.out, fun h => absurd h (Nat.lt_irrefl _)⟩)
        clear HVN HF HV
        generalize getI L 0 = x at *
        simp only [Nat.add_zero] at q0
        go_wp2_with fail
        refine (C4.out _).mono ?_
        rintro e wx ⟨rfl, rfl⟩
        go_wp2
        go_round
        case rel => exact ⟨1, by omega, by go_num, HVx⟩
        case measure => simp [RowKit.intOf]; omega
      | succ j =>
        obtain ⟨_, _, he, _, q1⟩ := int_at HS2.out.2.2.1 (show j < nd by omega)
        simp only [Option.some.injEq, Addr.mk.injEq, and_true] at he
        obtain ⟨rfl, rfl⟩ := he
        have g0 : decide ((0 : Int) < ((j + 1 : Nat) : Int)) = true := decide_eq_true (by omega)
        have s3 : ((j + 1 : Nat) : Int) - 1 = (j : Int) := by omega
        have HVx : Hid (getI L j < getI L (j + 1) → ∀ i, i < j + 1 + 1 → (0 ≤ getI L i ∧ getI L i ≤ 60) ∧ (0 < i → getI L (i - 1) < getI L i)) := fun h => HVN.out ⟨hr4b.out, fun _ => h⟩
        have HFx : Hid (¬ getI L j < getI L (j + 1) → R = false) := fun h => HF.out fun hp => h (hp.2 (Nat.succ_pos _))
        clear HVN HF HV hr4b
        generalize hxe : getI L (j + 1) = x at *
        generalize hye : getI L j = y at *
        clear hxe hye
        by_cases h1 : y < x
        · have g2 : decide (x ≤ y) = false := decide_eq_false (by omega)
          have HVy := Lib.hid (HVx.out h1)
          clear HVx HFx
          go_wp2_with fail
          refine (C4.out _).mono ?_
          rintro e wx ⟨rfl, rfl⟩
          go_wp2
          go_round
          case rel => exact ⟨j + 1 + 1, by omega, by go_num, HVy⟩
          case measure => simp [RowKit.intOf]; omega
        · have g2 : decide (x ≤ y) = true := decide_eq_true (by omega)
          obtain rfl := HFx.out h1
          clear HVx HFx
          go_wp2_with fail
          refine (C4.out _).mono ?_
          rintro e wx ⟨rfl, rfl⟩
          go_wp2
          go_ret
          exact ⟨rfl, HB2.out⟩
    obtain rfl : k = nd := by omega
    obtain rfl := HYes.out (fun i hi => HV.out i (by rw [← HND.out]; exact hi))
    go_wp2
    go_ret
    exact ⟨rfl, HB2.out⟩
end Go.Proofs.YtcbpgbiannpfpaaDoor
