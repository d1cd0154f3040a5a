/-
  Packed: CalLaw, LaidKit, CalPred.
-/
import Derived.WalkKit
import Derived.LaidLaws
import Derived.LaidSub
import Derived.Lib.LaidTab
import Derived.Test.YtcbpgbiannpfpaaDoorQ4
import Derived.Test.YtcbpgbiannpfpaaDoorQ7
import Derived.Test.YtcbpgbiannpfpaaDoorQ10
import Derived.Test.YtcbpgbiannpfpaaDoorQ11
set_option linter.unusedVariables false
namespace Go.Proofs.YtcbpgbiannpfpaaDoor
open Go.RowKit

theorem IntRow.put {w : World} {b n cap k : Nat} {g : Nat → Int} {z : Int} (h : IntRow w (.slice (some ⟨b, 0, none⟩) n cap) n g) (hk : k < n) : IntRow (w.setCell ⟨b, k, none⟩ (.int .i64 z)) (.slice (some ⟨b, 0, none⟩) n cap) n (fun i => if i = k then z else g i) := by
  rcases h with ⟨_, _, _, h1⟩ | ⟨b', off, c', he, h0, h3, hc, h4⟩
  · omega
  · simp only [Value.slice.injEq, Option.some.injEq, Addr.mk.injEq, and_true, true_and] at he
    obtain ⟨⟨rfl, rfl⟩, rfl⟩ := he
    refine .inr ⟨b, 0, cap, rfl, h0, h3, fun i hi => ?_, h4⟩
    show _ = some (Value.int .i64 (if i = k then z else g i))
    by_cases e : i = k
    · subst e
      rw [if_pos rfl, Nat.zero_add]
      have h9 := hc i hi
      rw [Nat.zero_add] at h9
      exact World.cell?_setCell_same' w ⟨b, i, none⟩ _ (by rw [h9]; rfl)
    · rw [if_neg e, ← hc i hi]
      exact World.cell?_setCell_other _ _ _ _ (by intro e2; simp only [Addr.mk.injEq] at e2; omega)
structure CalImpl (ea : Addr) : Prop where
  first : ∀ (n : Int) (vr vd : Value) (rest : Int) (vc : Value) (D : List PairL) (L : List Int) (C : ClosL) (R : Bool) (w : World), (R = true ↔ seaP n D L rest C) → RdA tPairSS w [vr] D → IntRow w vd L.length (getI L) → RdA tClosedS w [vc] C → tPairSS.wt D ≤ 1048576 → ErrAt w ea →
    Calls Tryd.prog 7 #[.int .i64 n, .agg #[vr, vd, .int .i64 rest, vc]] w (DatesM w (calF R D L rest C))
  sched : ∀ (v : Value) (D : List PairL) (n : Int) (R : Bool) (w : World), (R = true ↔ schedP n D) → RdA tPairSS w [v] D → tPairSS.wt D ≤ 1048576 → Calls Tryd.prog 8 #[.int .i64 n, v] w fun e w' => e = .returned (.bool R) ∧ Below w.heap.size w w'
  closed : ∀ (n : Int) (v : Value) (C : ClosL) (R : Bool) (w : World), (R = true ↔ closedP n C) → RdA tClosedS w [v] C → Calls Tryd.prog 9 #[.int .i64 n, v] w fun e w' => e = .returned (.bool R) ∧ Below w.heap.size w w'
  blocked : ∀ (n : Int) (vr vd : Value) (rest : Int) (vc : Value) (D : List PairL) (L : List Int) (C : ClosL) (R : Bool) (w : World), (R = true ↔ schedP n D ∧ closedP n C) → RdA tPairSS w [vr] D → IntRow w vd L.length (getI L) → RdA tClosedS w [vc] C → tPairSS.wt D ≤ 1048576 → ErrAt w ea →
    Calls Tryd.prog 10 #[.int .i64 n, .agg #[vr, vd, .int .i64 rest, vc]] w (IntsL w (blkL R D L C))
  last : ∀ (v : Value) (L : List Int) (w : World), IntRow w v L.length (getI L) → Calls Tryd.prog 11 #[v] w fun e w' => e = .returned (.int .i64 (lastD L)) ∧ Below w.heap.size w w'
  isCal : ∀ (n : Int) (vr vd : Value) (rest : Int) (vc : Value) (D : List PairL) (L : List Int) (C : ClosL) (vt : Value) (T : List Int) (R : Bool) (w : World), (R = true ↔ calP n D L rest C T) → RdA tPairSS w [vr] D → IntRow w vd L.length (getI L) → RdA tClosedS w [vc] C → IntRow w vt T.length (getI T) → tPairSS.wt D ≤ 1048576 →
    Calls Tryd.prog 12 #[.int .i64 n, .agg #[vr, vd, .int .i64 rest, vc], vt] w fun e w' => e = .returned (.bool R) ∧ Below w.heap.size w w'
  rest : ∀ (vr vd : Value) (rest : Int) (vc : Value) (D : List PairL) (L : List Int) (C : ClosL) (vt : Value) (T : List Int) (tm : Int) (R : Bool) (w : World), (R = true ↔ datesOk D T) → RdA tPairSS w [vr] D → IntRow w vd L.length (getI L) → RdA tClosedS w [vc] C → IntRow w vt T.length (getI T) → tPairSS.wt D ≤ 1048576 →
    Calls Tryd.prog 13 #[.agg #[vr, vd, .int .i64 rest, vc], vt, .int .i64 tm] w fun e w' => e = .returned (.int .i64 (restV R D T tm)) ∧ Below w.heap.size w w'
set_option maxRecDepth 100000 in
set_option maxHeartbeats 4000000 in
theorem calendars_walk (a : Option Addr) (len cap : Nat) (zs : List Int) (ea : Addr) (CI : CalImpl ea) (w : World) (hr : IsRow .u8 w a len cap zs) (he : ErrAt w ea) :
    Calls Tryd.prog 3 #[.slice a len cap] w fun e w' => e = .returned (.bool true) ∧ Below w.heap.size w w' := by
  obtain ⟨hrow, hsm, hfit⟩ := hr.bytes
  clear hr
  generalize getN zs = g at *
  by_cases hl : 1048576 < len
  · have g0 : decide ((1048576 : Int) < (len : Int)) = true := decide_eq_true (by omega)
    clear hrow hsm
    go_enter Tryd.func3, Tryd.ntmps3
    go_wp2
    go_ret
    exact ⟨rfl, Below.refl _ _⟩
  have g0 : decide ((1048576 : Int) < (len : Int)) = false := decide_eq_false (by omega)
  have hle : len ≤ 1048576 := by omega
  have CM := Lib.hid (makeSeason_any a len cap g w hrow hsm hle)
  clear hrow hsm
  go_enter Tryd.func3, Tryd.ntmps3
  go_wp2_with fail
  refine CM.out.mono ?_
  rintro e w1 ⟨n, vr, vd, vc, rest, L, C, rfl, hgood, hrr, hrd, hrc, b1⟩
  obtain ⟨ra, rc, rfl, _⟩ := schedule_form hrr
  obtain ⟨da, dc, rfl, _, _⟩ := hrd.form
  obtain ⟨ca, cc, rfl, _⟩ := clos_form hrc
  obtain ⟨⟨hn2, hn6⟩, ⟨hr1, hr3⟩, hdays, hL17, hcl⟩ := hgood
  obtain ⟨D, hD⟩ : ∃ D, circL n = D := ⟨_, rfl⟩
  have HSC : Hid (schedP (n : Int) D) := by rw [← hD]; exact (rounds_are hn2 (by omega)).one.1
  have HD0 : Hid (0 < List.length (α := PairL) D) := by rw [← hD]; exact (rounds_are hn2 (by omega)).some
  have HWD : Hid (tPairSS.wt D ≤ 1048576) := by rw [← hD]; exact Nat.le_trans (wt_circ (by omega)) (by decide)
  have HLD : Hid (List.length (α := PairL) D ≤ 9) := by rw [← hD]; exact len_circL (by omega)
  rw [hD] at hrr ⊢
  clear hD
  have HL17 := Lib.hid hL17
  have HSP : Hid (seaP (n : Int) D L rest C) := ⟨HSC.out, hcl, Nat.le_trans hL17 (by decide), ⟨by omega, by omega⟩, hdays⟩
  obtain ⟨nr, hnr⟩ : ∃ nr, List.length (α := PairL) D = nr := ⟨_, rfl⟩
  obtain ⟨nd, hnd⟩ : ∃ nd, L.length = nd := ⟨_, rfl⟩
  obtain ⟨nc, hnc⟩ : ∃ nc, List.length (α := tClosed.D) C = nc := ⟨_, rfl⟩
  have HNR := Lib.hid hnr
  have HND := Lib.hid hnd
  have HNC := Lib.hid hnc
  obtain ⟨U, hU⟩ : ∃ U, w1.alloc (.cells #[.slice ra (List.length (α := PairL) D) rc, .slice da L.length dc, .int .i64 rest, .slice ca (List.length (α := tClosed.D) C) cc] 27) = U := ⟨_, rfl⟩
  obtain ⟨X, hX⟩ : ∃ X, w1.heap.size = X := ⟨_, rfl⟩
  have HS : Hid (SeaAt U X ra nr rc da nd dc rest ca nc cc D L C) := by rw [← hU, ← hX, ← hnr, ← hnd, ← hnc]; exact SeaAt.made hrr hrd hrc
  have HB : Hid (Below w.heap.size w U) := by rw [← hU]; exact b1.alloc b1.size _
  rw [hnr] at hU ⊢
  rw [hnd] at hU ⊢
  rw [hnc] at hU ⊢
  have HEA := Lib.hid he
  have KF : Hid (∀ wa, SeaAt wa X ra nr rc da nd dc rest ca nc cc D L C → Below w.heap.size w wa → Calls Tryd.prog 7 #[.int .i64 (n : Int), .agg #[.slice ra nr rc, .slice da nd dc, .int .i64 rest, .slice ca nc cc]] wa (DatesM wa (firstF rest C L D []))) := fun wa h hb => by
    have h9 := CI.first (n : Int) _ _ rest _ D L C true wa ⟨fun _ => HSP.out, fun _ => rfl⟩ h.2.1 (by rw [HND.out]; exact h.2.2.1) h.2.2.2 HWD.out (HEA.out.below hb)
    exact h9
  have KS : Hid (∀ wa, SeaAt wa X ra nr rc da nd dc rest ca nc cc D L C → Calls Tryd.prog 8 #[.int .i64 (n : Int), .slice ra nr rc] wa fun e w' => e = .returned (.bool true) ∧ Below wa.heap.size wa w') := fun wa h => CI.sched _ D n true wa ⟨fun _ => HSC.out, fun _ => rfl⟩ h.2.1 HWD.out
  have KC : Hid (∀ wa, SeaAt wa X ra nr rc da nd dc rest ca nc cc D L C → Calls Tryd.prog 9 #[.int .i64 (n : Int), .slice ca nc cc] wa fun e w' => e = .returned (.bool true) ∧ Below wa.heap.size wa w') := fun wa h => CI.closed n _ C true wa ⟨fun _ => HSP.out.2.1, fun _ => rfl⟩ h.2.2.2
  have KB : Hid (∀ wa, SeaAt wa X ra nr rc da nd dc rest ca nc cc D L C → Below w.heap.size w wa → Calls Tryd.prog 10 #[.int .i64 (n : Int), .agg #[.slice ra nr rc, .slice da nd dc, .int .i64 rest, .slice ca nc cc]] wa (IntsL wa (blkL true D L C))) := fun wa h hb =>
    CI.blocked (n : Int) _ _ rest _ D L C true wa ⟨fun _ => ⟨HSC.out, HSP.out.2.1⟩, fun _ => rfl⟩ h.2.1 (by rw [HND.out]; exact h.2.2.1) h.2.2.2 HWD.out (HEA.out.below hb)
  have KI0 : Hid (∀ vt T R wa, (R = true ↔ calP (n : Int) D L rest C T) → SeaAt wa X ra nr rc da nd dc rest ca nc cc D L C → IntRow wa vt T.length (getI T) → Calls Tryd.prog 12 #[.int .i64 (n : Int), .agg #[.slice ra nr rc, .slice da nd dc, .int .i64 rest, .slice ca nc cc], vt] wa fun e w' => e = .returned (.bool R) ∧ Below wa.heap.size wa w') := fun vt T R wa hR h ht =>
    CI.isCal (n : Int) _ _ rest _ D L C vt T R wa hR h.2.1 (by rw [HND.out]; exact h.2.2.1) h.2.2.2 ht HWD.out
  have KR0 : Hid (∀ vt T R tm wa, (R = true ↔ datesOk D T) → SeaAt wa X ra nr rc da nd dc rest ca nc cc D L C → IntRow wa vt T.length (getI T) → Calls Tryd.prog 13 #[.agg #[.slice ra nr rc, .slice da nd dc, .int .i64 rest, .slice ca nc cc], vt, .int .i64 tm] wa fun e w' => e = .returned (.int .i64 (restV R D T tm)) ∧ Below wa.heap.size wa w') := fun vt T R tm wa hR h ht =>
    CI.rest _ _ rest _ D L C vt T tm R wa hR h.2.1 (by rw [HND.out]; exact h.2.2.1) h.2.2.2 ht HWD.out
  have KL0 := Lib.hid (fun vt T wa ht => CI.last vt T wa ht)
  have HCI := Lib.hid CI
  clear CI CM he hrr hrd hrc b1 hnr hnd hnc hcl hdays hL17
  subst hX
  obtain ⟨c0, c1, c2, c3⟩ := HS.out.cells
  go_wp2_with fail
  clear hU
  generalize w1.heap.size = X at *
  obtain ⟨o, ho9⟩ : ∃ o, firstF rest C L D [] = o := ⟨_, rfl⟩
  rw [ho9] at KF
  have HO9 := Lib.hid ho9
  clear ho9
  refine (KF.out _ HS.out HB.out).mono ?_
  cases o with
  | none =>
    rintro e w2 ⟨v, rfl, ho, b⟩
    replace ho : w2.ownsRow U.heap.size 3 1 v ([] : List Int).length (([] : List Int).map (Value.int .i64)) := ho
    have HT : Hid (IntRow w2 v ([] : List Int).length (getI [])) := Lib.hid (IntRow.of_list ho (by decide))
    obtain ⟨ta, tc, rfl⟩ := owns_slice ho
    have KLN : Hid (∀ wa, IntRow wa (.slice ta 0 tc) 0 (getI []) → Calls Tryd.prog 11 #[.slice ta 0 tc] wa fun e w' => e = .returned (.int .i64 (-1)) ∧ Below wa.heap.size wa w') := fun wa h => KL0.out _ [] wa h
    replace HT : Hid (IntRow w2 (.slice ta 0 tc) 0 (getI [])) := HT
    replace HS := Lib.hid (HS.out.below b)
    replace HB := Lib.hid (HB.out.trans (b.mono HB.out.size))
    clear b c0 c1 c2 c3 ho
    obtain ⟨c0, c1, c2, c3⟩ := HS.out.cells
    go_wp2_with fail
    refine (KS.out _ HS.out).mono ?_
    rintro e w3 ⟨rfl, b⟩
    replace HS := Lib.hid (HS.out.below b)
    replace HT := Lib.hid (HT.out.below b (Nat.le_refl _))
    replace HB := Lib.hid (HB.out.trans (b.mono HB.out.size))
    clear b c0 c1 c2 c3
    obtain ⟨c0, c1, c2, c3⟩ := HS.out.cells
    go_wp2_with fail
    refine (KC.out _ HS.out).mono ?_
    rintro e w4 ⟨rfl, b⟩
    replace HS := Lib.hid (HS.out.below b)
    replace HT := Lib.hid (HT.out.below b (Nat.le_refl _))
    replace HB := Lib.hid (HB.out.trans (b.mono HB.out.size))
    clear b c0 c1 c2 c3
    obtain ⟨c0, c1, c2, c3⟩ := HS.out.cells
    go_wp2_with fail
    refine (KB.out _ HS.out HB.out).mono ?_
    rintro e w5 ⟨bv, rfl, hbo, b⟩
    obtain ⟨ba, bc, rfl⟩ := owns_slice hbo
    replace HS := Lib.hid (HS.out.below b)
    replace HT := Lib.hid (HT.out.below b (Nat.le_refl _))
    replace HB := Lib.hid (HB.out.trans (b.mono HB.out.size))
    clear b c0 c1 c2 c3 hbo
    go_wp2_with fail
    refine (KLN.out _ HT.out).mono ?_
    rintro e w6 ⟨rfl, b⟩
    replace HB := Lib.hid (HB.out.trans (b.mono HB.out.size))
    go_wp2
    go_ret
    exact ⟨rfl, HB.out⟩
  | some T =>
    rintro e w2 ⟨v, rfl, ho, b⟩
    replace ho : w2.ownsRow U.heap.size 3 1 v T.length (T.map (Value.int .i64)) := ho
    have HFI : Hid (FirstIs rest C L D T) := Lib.hid (first_is HSP.out.2.2.2.2 HO9.out)
    have hT9 : T.length ≤ 9 := by rw [HFI.out.1]; exact HLD.out
    have hT0 : 0 < T.length := by rw [HFI.out.1]; exact HD0.out
    have HT : Hid (IntRow w2 v T.length (getI T)) := Lib.hid (IntRow.of_list ho (by omega))
    obtain ⟨ta, tc, rfl⟩ := owns_slice ho
    obtain ⟨nt, hnt⟩ : ∃ nt, T.length = nt := ⟨_, rfl⟩
    have HNT := Lib.hid hnt
    rw [hnt] at HT hT9 hT0 ⊢
    have HNR2 : Hid (nt = nr) := by show _ = _; rw [← hnt, HFI.out.1, HNR.out]
    replace HS := Lib.hid (HS.out.below b)
    replace HB := Lib.hid (HB.out.trans (b.mono HB.out.size))
    clear b c0 c1 c2 c3 ho hnt
    obtain ⟨c0, c1, c2, c3⟩ := HS.out.cells
    go_wp2_with fail
    refine (KS.out _ HS.out).mono ?_
    rintro e w3 ⟨rfl, b⟩
    replace HS := Lib.hid (HS.out.below b)
    replace HT := Lib.hid (HT.out.below b (Nat.le_refl _))
    replace HB := Lib.hid (HB.out.trans (b.mono HB.out.size))
    clear b c0 c1 c2 c3
    obtain ⟨c0, c1, c2, c3⟩ := HS.out.cells
    go_wp2_with fail
    refine (KC.out _ HS.out).mono ?_
    rintro e w4 ⟨rfl, b⟩
    replace HS := Lib.hid (HS.out.below b)
    replace HT := Lib.hid (HT.out.below b (Nat.le_refl _))
    replace HB := Lib.hid (HB.out.trans (b.mono HB.out.size))
    clear b c0 c1 c2 c3
    obtain ⟨c0, c1, c2, c3⟩ := HS.out.cells
    go_wp2_with fail
    refine (KB.out _ HS.out HB.out).mono ?_
    rw [blk_none HFI.out]
    rintro e wq ⟨bv, rfl, hbo, b⟩
    obtain ⟨ba, bc, rfl⟩ := owns_slice hbo
    replace HS := Lib.hid (HS.out.below b)
    replace HT := Lib.hid (HT.out.below b (Nat.le_refl _))
    replace HB := Lib.hid (HB.out.trans (b.mono HB.out.size))
    clear b c0 c1 c2 c3 hbo
    have HCAL := Lib.hid (first_cal HSP.out HFI.out)
    have hdat : datesP D L rest C T nt := by have := HFI.out.2.1; rw [HNT.out] at this; exact this
    have HDOK : Hid (datesOk D T) := ⟨HFI.out.1, fun i hi => dates_in HSP.out.2.2.2.2 HFI.out.2.1 hi⟩
    have HRG : Hid (∀ tm : Int, restV true D T tm < 0 ∨ rest ≤ restV true D T tm) := fun tm => rest_val (by omega) HSP.out.2.2.2.2 HFI.out.2.1 true tm
    have KI : Hid (∀ wa, SeaAt wa X ra nr rc da nd dc rest ca nc cc D L C → IntRow wa (.slice ta nt tc) nt (getI T) → Calls Tryd.prog 12 #[.int .i64 (n : Int), .agg #[.slice ra nr rc, .slice da nd dc, .int .i64 rest, .slice ca nc cc], .slice ta nt tc] wa fun e w' => e = .returned (.bool true) ∧ Below wa.heap.size wa w') := fun wa h ht =>
      KI0.out _ T true wa ⟨fun _ => HCAL.out, fun _ => rfl⟩ h (by rw [HNT.out]; exact ht)
    have KX : Hid (∀ vt k d wa, k < nt → d ∈ L → d < getI T k → SeaAt wa X ra nr rc da nd dc rest ca nc cc D L C → IntRow wa vt nt (fun i => if i = k then d else getI T i) → Calls Tryd.prog 12 #[.int .i64 (n : Int), .agg #[.slice ra nr rc, .slice da nd dc, .int .i64 rest, .slice ca nc cc], vt] wa fun e w' => e = .returned (.bool false) ∧ Below wa.heap.size wa w') := fun vt k d wa hk hd hlt h ht => by
      refine KI0.out vt (T.set k d) false wa ⟨fun e => (by cases e), fun e => absurd e (first_least HFI.out (by rw [HNT.out]; exact hk) hd hlt)⟩ h ?_
      rw [List.length_set, HNT.out]
      refine ht.congr fun i hi => ?_
      rw [getI_set]
      by_cases e : i = k
      · subst e; rw [if_pos rfl, if_pos ⟨rfl, by rw [HNT.out]; exact hk⟩]
      · rw [if_neg e, if_neg (fun h => e h.1.symm)]
    have KR : Hid (∀ tm wa, SeaAt wa X ra nr rc da nd dc rest ca nc cc D L C → IntRow wa (.slice ta nt tc) nt (getI T) → Calls Tryd.prog 13 #[.agg #[.slice ra nr rc, .slice da nd dc, .int .i64 rest, .slice ca nc cc], .slice ta nt tc, .int .i64 tm] wa fun e w' => e = .returned (.int .i64 (restV true D T tm)) ∧ Below wa.heap.size wa w') := fun tm wa h ht =>
      KR0.out _ T true tm wa ⟨fun _ => HDOK.out, fun _ => rfl⟩ h (by rw [HNT.out]; exact ht)
    obtain ⟨z, hz⟩ : ∃ z, getI T (nt - 1) = z := ⟨_, rfl⟩
    have KL : Hid (∀ wa, IntRow wa (.slice ta nt tc) nt (getI T) → Calls Tryd.prog 11 #[.slice ta nt tc] wa fun e w' => e = .returned (.int .i64 z) ∧ Below wa.heap.size wa w') := fun wa h => by
      have h9 := KL0.out (.slice ta nt tc) T wa (by rw [HNT.out]; exact h)
      rw [show lastD T = z from by unfold lastD; rw [HNT.out, if_neg (by omega)]; exact hz] at h9
      exact h9
    obtain ⟨tb, to, hta, _, _⟩ := int_at HT.out (show nt - 1 < nt by omega)
    subst hta
    have TA : Hid (∀ wa, IntRow wa (.slice (some ⟨tb, to, none⟩) nt tc) nt (getI T) → wa.cell? ⟨tb, to + (nt - 1), none⟩ = some (.int .i64 z)) := fun wa h => by
      obtain ⟨tb', to', he, _, h2⟩ := int_at h (show nt - 1 < nt by omega)
      simp only [Option.some.injEq, Addr.mk.injEq, and_true] at he
      obtain ⟨rfl, rfl⟩ := he
      rw [hz] at h2
      exact h2
    have TK : Hid (∀ wa k, k < nt → IntRow wa (.slice (some ⟨tb, to, none⟩) nt tc) nt (getI T) → wa.cell? ⟨tb, to + k, none⟩ = some (.int .i64 (getI T k))) := fun wa k hk h => by
      obtain ⟨tb', to', he, _, h2⟩ := int_at h hk
      simp only [Option.some.injEq, Addr.mk.injEq, and_true] at he
      obtain ⟨rfl, rfl⟩ := he
      exact h2
    have HLM : Hid (∀ j, j < nd → getI L j ∈ L) := fun j hj => getI_mem (by rw [HND.out]; exact hj)
    have hnr2 : nt = nr := HNR2.out
    subst hnr2
    have m1 : ((nt : Int) - 1).toNat = nt - 1 := by omega
    have m2 : (1 : Int) ≤ (nt : Int) := by omega
    have m3 : (0 : Int) ≤ (nt : Int) - 1 := by omega
    have m4 : (nt : Int) - 1 < (nt : Int) := by omega
    have m7 : IntKind.i64.wrap ((nt : Int) - 1) = (nt : Int) - 1 := IntWalk.i64_in _ (by omega)
    have m5 : ((nt : Int) != (nt : Int)) = false := by simp
    have m6 : (z != z) = false := by simp
    clear HEA KF HO9 HSC HD0 HWD HLD HCAL hdat HDOK KS KC KB KI0 KR0 KL0 HCI hz HNR HNR2 HNT HSP
    obtain ⟨S, HSd⟩ : ∃ S : World → Prop, S = fun w' => (SeaAt w' X ra nt rc da nd dc rest ca nc cc D L C ∧ IntRow w' (.slice (some ⟨tb, to, none⟩) nt tc) nt (getI T) ∧ Below w.heap.size w w') := ⟨_, rfl⟩
    have KS : Hid (∀ wa wb, S wa → Below wa.heap.size wa wb → S wb) := by subst HSd; exact fun wa wb h b => ⟨h.1.below b, h.2.1.below b (Nat.le_refl _), h.2.2.trans (b.mono h.2.2.size)⟩
    have OS : Hid (∀ wa, S wa → (SeaAt wa X ra nt rc da nd dc rest ca nc cc D L C ∧ IntRow wa (.slice (some ⟨tb, to, none⟩) nt tc) nt (getI T) ∧ Below w.heap.size w wa)) := by subst HSd; exact fun wa h => h
    have IS : Hid (∀ wa, (SeaAt wa X ra nt rc da nd dc rest ca nc cc D L C ∧ IntRow wa (.slice (some ⟨tb, to, none⟩) nt tc) nt (getI T) ∧ Below w.heap.size w wa) → S wa) := by subst HSd; exact fun wa h => h
    clear HSd
    go_wp2_with fail
    refine wp_region_held_drew (S := S) (by kernel_rfl) ?_ (fun hHeld => ?_)
    · exact IS.out _ ((fun (b : Below wq.heap.size wq wq.drew) => ⟨HS.out.below b, HT.out.below b (Nat.le_refl _), HB.out.trans (b.mono HB.out.size)⟩) (Below.refl _ _).drew)
    refine wpAnyH_take (i := 0) (v := ?_) rfl (by kernel_rfl) (by kernel_rfl) (by kernel_rfl) (fun _ _ _ h => h) (Or.inl ⟨by rfl, ?_⟩) hHeld ?_
    rotate_left
    · (intro wa hSw; go_simp; try with_reducible rfl)
    simp only [Act.put, List.getElem_toArray, List.getElem_cons_zero, List.setIfInBounds_toArray, List.set_cons_zero, List.set_cons_succ]
    refine wpAnyH_take (i := 1) (v := ?_) rfl (by kernel_rfl) (by kernel_rfl) (by kernel_rfl) (fun _ _ _ h => h) (Or.inl ⟨by rfl, ?_⟩) hHeld ?_
    rotate_left
    · (intro wa hSw; go_simp; try with_reducible rfl)
    simp only [Act.put, List.getElem_toArray, List.getElem_cons_zero, List.getElem_cons_succ, List.setIfInBounds_toArray, List.set_cons_zero, List.set_cons_succ]
    refine wpAnyH_take (i := 2) (v := ?_) rfl (by kernel_rfl) (by kernel_rfl) (by kernel_rfl) (fun _ _ _ h => h) (Or.inl ⟨by rfl, ?_⟩) hHeld ?_
    rotate_left
    · (intro wa hSw; go_simp; try with_reducible rfl)
    simp only [Act.put, List.getElem_toArray, List.getElem_cons_zero, List.getElem_cons_succ, List.setIfInBounds_toArray, List.set_cons_zero, List.set_cons_succ]
    refine wpAnyH_take (i := 3) (v := ?_) rfl (by kernel_rfl) (by kernel_rfl) (by kernel_rfl) (fun _ _ _ h => h) (Or.inl ⟨by rfl, ?_⟩) hHeld ?_
    rotate_left
    · (intro wa hSw; go_simp; try with_reducible rfl)
    simp only [Act.put, List.getElem_toArray, List.getElem_cons_zero, List.getElem_cons_succ, List.setIfInBounds_toArray, List.set_cons_zero, List.set_cons_succ]
    refine wpAnyH_take (i := 4) (v := ?_) rfl (by kernel_rfl) (by kernel_rfl) (by kernel_rfl) (fun _ _ _ h => h) (Or.inl ⟨by rfl, ?_⟩) hHeld ?_
    rotate_left
    · (intro wa hSw; go_simp; try with_reducible rfl)
    simp only [Act.put, List.getElem_toArray, List.getElem_cons_zero, List.getElem_cons_succ, List.setIfInBounds_toArray, List.set_cons_zero, List.set_cons_succ]
    refine wpAnyH_take (i := 5) (v := ?_) rfl (by kernel_rfl) (by kernel_rfl) (by kernel_rfl) (fun _ _ _ h => h) (Or.inl ⟨by rfl, ?_⟩) hHeld ?_
    rotate_left
    · (intro wa hSw; have K := OS.out _ hSw; have cc0 := K.1.cells.1; have cc1 := K.1.cells.2.1; have cc2 := K.1.cells.2.2.1; have cc3 := K.1.cells.2.2.2; have cct := (TA.out _ K.2.1); go_simp; try with_reducible rfl)
    simp only [Act.put, List.getElem_toArray, List.getElem_cons_zero, List.getElem_cons_succ, List.setIfInBounds_toArray, List.set_cons_zero, List.set_cons_succ]
    refine wpAnyH_take (i := 6) (v := ?_) rfl (by kernel_rfl) (by kernel_rfl) (by kernel_rfl) (fun _ _ _ h => h) (Or.inl ⟨by rfl, ?_⟩) hHeld ?_
    rotate_left
    · (intro wa hSw; go_simp; try with_reducible rfl)
    simp only [Act.put, List.getElem_toArray, List.getElem_cons_zero, List.getElem_cons_succ, List.setIfInBounds_toArray, List.set_cons_zero, List.set_cons_succ]
    refine wpAnyH_ready (rs := [7]) (by kernel_rfl) (by simp) ?_
    refine AllReadyH.cons (o := _) rfl (fun K hK => ?_) AllReadyH.nil
    go_simp
    have KK := OS.out _ hHeld
    refine (KI.out _ KK.1 KK.2.1).mono ?_
    rintro e w101 ⟨rfl, b101⟩
    clear KK
    (try go_wp2_with fail)
    refine hK.out _ _ ?_ (fun hHeld101 => ?_)
    · exact KS.out _ _ hHeld b101
    clear hK K
    refine wpAnyH_take (i := 8) (v := ?_) rfl (by kernel_rfl) (by kernel_rfl) (by kernel_rfl) (fun _ _ _ h => h) (Or.inl ⟨by rfl, ?_⟩) hHeld101 ?_
    rotate_left
    · (intro wa hSw; go_simp; try with_reducible rfl)
    simp only [Act.put, List.getElem_toArray, List.getElem_cons_zero, List.getElem_cons_succ, List.setIfInBounds_toArray, List.set_cons_zero, List.set_cons_succ]
    refine wpAnyH_take (i := 9) (v := ?_) rfl (by kernel_rfl) (by kernel_rfl) (by kernel_rfl) (fun _ _ _ h => h) (Or.inl ⟨by rfl, ?_⟩) hHeld101 ?_
    rotate_left
    · (intro wa hSw; go_simp; try with_reducible rfl)
    simp only [Act.put, List.getElem_toArray, List.getElem_cons_zero, List.getElem_cons_succ, List.setIfInBounds_toArray, List.set_cons_zero, List.set_cons_succ]
    refine wpAnyH_take (i := 10) (v := ?_) rfl (by kernel_rfl) (by kernel_rfl) (by kernel_rfl) (fun _ _ _ h => h) (Or.inl ⟨by rfl, ?_⟩) hHeld101 ?_
    rotate_left
    · (intro wa hSw; go_simp; try with_reducible rfl)
    simp only [Act.put, List.getElem_toArray, List.getElem_cons_zero, List.getElem_cons_succ, List.setIfInBounds_toArray, List.set_cons_zero, List.set_cons_succ]
    refine wpAnyH_take (i := 11) (v := ?_) rfl (by kernel_rfl) (by kernel_rfl) (by kernel_rfl) (fun _ _ _ h => h) (Or.inl ⟨by rfl, ?_⟩) hHeld101 ?_
    rotate_left
    · (intro wa hSw; go_simp; try with_reducible rfl)
    simp only [Act.put, List.getElem_toArray, List.getElem_cons_zero, List.getElem_cons_succ, List.setIfInBounds_toArray, List.set_cons_zero, List.set_cons_succ]
    refine wpAnyH_take (i := 12) (v := ?_) rfl (by kernel_rfl) (by kernel_rfl) (by kernel_rfl) (fun _ _ _ h => h) (Or.inl ⟨by rfl, ?_⟩) hHeld101 ?_
    rotate_left
    · (intro wa hSw; go_simp; try with_reducible rfl)
    simp only [Act.put, List.getElem_toArray, List.getElem_cons_zero, List.getElem_cons_succ, List.setIfInBounds_toArray, List.set_cons_zero, List.set_cons_succ]
    refine wpAnyH_take (i := 13) (v := ?_) rfl (by kernel_rfl) (by kernel_rfl) (by kernel_rfl) (fun _ _ _ h => h) (Or.inl ⟨by rfl, ?_⟩) hHeld101 ?_
    rotate_left
    · (intro wa hSw; go_simp; try with_reducible rfl)
    simp only [Act.put, List.getElem_toArray, List.getElem_cons_zero, List.getElem_cons_succ, List.setIfInBounds_toArray, List.set_cons_zero, List.set_cons_succ]
    refine wpAnyH_take (i := 14) (v := ?_) rfl (by kernel_rfl) (by kernel_rfl) (by kernel_rfl) (fun _ _ _ h => h) (Or.inl ⟨by rfl, ?_⟩) hHeld101 ?_
    rotate_left
    · (intro wa hSw; have K := OS.out _ hSw; have cc0 := K.1.cells.1; have cc1 := K.1.cells.2.1; have cc2 := K.1.cells.2.2.1; have cc3 := K.1.cells.2.2.2; have cct := (TA.out _ K.2.1); go_simp; try with_reducible rfl)
    simp only [Act.put, List.getElem_toArray, List.getElem_cons_zero, List.getElem_cons_succ, List.setIfInBounds_toArray, List.set_cons_zero, List.set_cons_succ]
    refine wpAnyH_take (i := 15) (v := ?_) rfl (by kernel_rfl) (by kernel_rfl) (by kernel_rfl) (fun _ _ _ h => h) (Or.inl ⟨by rfl, ?_⟩) hHeld101 ?_
    rotate_left
    · (intro wa hSw; go_simp; try with_reducible rfl)
    simp only [Act.put, List.getElem_toArray, List.getElem_cons_zero, List.getElem_cons_succ, List.setIfInBounds_toArray, List.set_cons_zero, List.set_cons_succ]
    refine wpAnyH_take (i := 16) (v := ?_) rfl (by kernel_rfl) (by kernel_rfl) (by kernel_rfl) (fun _ _ _ h => h) (Or.inl ⟨by rfl, ?_⟩) hHeld101 ?_
    rotate_left
    · (intro wa hSw; go_simp; try with_reducible rfl)
    simp only [Act.put, List.getElem_toArray, List.getElem_cons_zero, List.getElem_cons_succ, List.setIfInBounds_toArray, List.set_cons_zero, List.set_cons_succ]
    refine wpAnyH_take (i := 17) (v := ?_) rfl (by kernel_rfl) (by kernel_rfl) (by kernel_rfl) (fun _ _ _ h => h) (Or.inl ⟨by rfl, ?_⟩) hHeld101 ?_
    rotate_left
    · (intro wa hSw; go_simp; try with_reducible rfl)
    simp only [Act.put, List.getElem_toArray, List.getElem_cons_zero, List.getElem_cons_succ, List.setIfInBounds_toArray, List.set_cons_zero, List.set_cons_succ]
    refine wpAnyH_take (i := 18) (v := ?_) rfl (by kernel_rfl) (by kernel_rfl) (by kernel_rfl) (fun _ _ _ h => h) (Or.inl ⟨by rfl, ?_⟩) hHeld101 ?_
    rotate_left
    · (intro wa hSw; go_simp; try with_reducible rfl)
    simp only [Act.put, List.getElem_toArray, List.getElem_cons_zero, List.getElem_cons_succ, List.setIfInBounds_toArray, List.set_cons_zero, List.set_cons_succ]
    refine wpAnyH_take (i := 19) (v := ?_) rfl (by kernel_rfl) (by kernel_rfl) (by kernel_rfl) (fun _ _ _ h => h) (Or.inl ⟨by rfl, ?_⟩) hHeld101 ?_
    rotate_left
    · (intro wa hSw; go_simp; try with_reducible rfl)
    simp only [Act.put, List.getElem_toArray, List.getElem_cons_zero, List.getElem_cons_succ, List.setIfInBounds_toArray, List.set_cons_zero, List.set_cons_succ]
    refine wpAnyH_take (i := 21) (v := ?_) rfl (by kernel_rfl) (by kernel_rfl) (by kernel_rfl) (fun _ _ _ h => h) (Or.inl ⟨by rfl, ?_⟩) hHeld101 ?_
    rotate_left
    · (intro wa hSw; go_simp; try with_reducible rfl)
    simp only [Act.put, List.getElem_toArray, List.getElem_cons_zero, List.getElem_cons_succ, List.setIfInBounds_toArray, List.set_cons_zero, List.set_cons_succ]
    refine wpAnyH_take (i := 22) (v := ?_) rfl (by kernel_rfl) (by kernel_rfl) (by kernel_rfl) (fun _ _ _ h => h) (Or.inl ⟨by rfl, ?_⟩) hHeld101 ?_
    rotate_left
    · (intro wa hSw; go_simp; try with_reducible rfl)
    simp only [Act.put, List.getElem_toArray, List.getElem_cons_zero, List.getElem_cons_succ, List.setIfInBounds_toArray, List.set_cons_zero, List.set_cons_succ]
    refine wpAnyH_take (i := 23) (v := ?_) rfl (by kernel_rfl) (by kernel_rfl) (by kernel_rfl) (fun _ _ _ h => h) (Or.inl ⟨by rfl, ?_⟩) hHeld101 ?_
    rotate_left
    · (intro wa hSw; go_simp; try with_reducible rfl)
    simp only [Act.put, List.getElem_toArray, List.getElem_cons_zero, List.getElem_cons_succ, List.setIfInBounds_toArray, List.set_cons_zero, List.set_cons_succ]
    refine wpAnyH_take (i := 24) (v := ?_) rfl (by kernel_rfl) (by kernel_rfl) (by kernel_rfl) (fun _ _ _ h => h) (Or.inl ⟨by rfl, ?_⟩) hHeld101 ?_
    rotate_left
    · (intro wa hSw; go_simp; try with_reducible rfl)
    simp only [Act.put, List.getElem_toArray, List.getElem_cons_zero, List.getElem_cons_succ, List.setIfInBounds_toArray, List.set_cons_zero, List.set_cons_succ]
    refine wpAnyH_take (i := 25) (v := ?_) rfl (by kernel_rfl) (by kernel_rfl) (by kernel_rfl) (fun _ _ _ h => h) (Or.inl ⟨by rfl, ?_⟩) hHeld101 ?_
    rotate_left
    · (intro wa hSw; go_simp; try with_reducible rfl)
    simp only [Act.put, List.getElem_toArray, List.getElem_cons_zero, List.getElem_cons_succ, List.setIfInBounds_toArray, List.set_cons_zero, List.set_cons_succ]
    refine wpAnyH_take (i := 26) (v := ?_) rfl (by kernel_rfl) (by kernel_rfl) (by kernel_rfl) (fun _ _ _ h => h) (Or.inl ⟨by rfl, ?_⟩) hHeld101 ?_
    rotate_left
    · (intro wa hSw; have K := OS.out _ hSw; have cc0 := K.1.cells.1; have cc1 := K.1.cells.2.1; have cc2 := K.1.cells.2.2.1; have cc3 := K.1.cells.2.2.2; have cct := (TA.out _ K.2.1); go_simp; try with_reducible rfl)
    simp only [Act.put, List.getElem_toArray, List.getElem_cons_zero, List.getElem_cons_succ, List.setIfInBounds_toArray, List.set_cons_zero, List.set_cons_succ]
    refine wpAnyH_ready (rs := [20]) (by kernel_rfl) (by simp) ?_
    refine AllReadyH.cons (o := _) rfl (fun K hK => ?_) AllReadyH.nil
    go_simp
    have KK := OS.out _ hHeld101
    refine (KL.out _ KK.2.1).mono ?_
    rintro e w102 ⟨rfl, b102⟩
    clear KK
    (try go_wp2_with fail)
    refine hK.out _ _ ?_ (fun hHeld102 => ?_)
    · exact KS.out _ _ hHeld101 b102
    clear hK K
    clear hHeld101
    refine wpAnyH_take (i := 27) (v := ?_) rfl (by kernel_rfl) (by kernel_rfl) (by kernel_rfl) (fun _ _ _ h => h) (Or.inl ⟨by rfl, ?_⟩) hHeld102 ?_
    rotate_left
    · (intro wa hSw; go_simp; try with_reducible rfl)
    simp only [Act.put, List.getElem_toArray, List.getElem_cons_zero, List.getElem_cons_succ, List.setIfInBounds_toArray, List.set_cons_zero, List.set_cons_succ]
    refine wpAnyH_take (i := 28) (v := ?_) rfl (by kernel_rfl) (by kernel_rfl) (by kernel_rfl) (fun _ _ _ h => h) (Or.inl ⟨by rfl, ?_⟩) hHeld102 ?_
    rotate_left
    · (intro wa hSw; go_simp; try with_reducible rfl)
    simp only [Act.put, List.getElem_toArray, List.getElem_cons_zero, List.getElem_cons_succ, List.setIfInBounds_toArray, List.set_cons_zero, List.set_cons_succ]
    refine wpAnyH_done (by kernel_rfl) ?_ _
    have KE := Lib.hid (OS.out _ hHeld102)
    clear KS OS IS hHeld hHeld102
    obtain ⟨HSx, HTx, HBx⟩ := KE.out
    replace HS := Lib.hid HSx
    replace HT := Lib.hid HTx
    replace HB := Lib.hid HBx
    clear KE HSx HTx HBx m1 m2 m3 m4 m5 m6 m7 KI KL TA
    obtain ⟨i0, hi, hz0, hz1, hz2⟩ := info_parts Tryd.infoI
    have hnd : nd ≤ 17 := by rw [← HND.out]; exact HL17.out
    clear HND HNC
    go_wp2
    go_loopw [84] (fun iv wx => ∃ k : Nat, k ≤ nt ∧ iv = .int .i64 k ∧ Hid (SeaAt wx X ra nt rc da nd dc rest ca nc cc D L C) ∧ Hid (IntRow wx (.slice (some ⟨tb, to, none⟩) nt tc) nt (getI T)) ∧ Hid (Below w.heap.size w wx)) (fun iv _ => nt - (RowKit.intOf iv).toNat)
    case atStart => exact ⟨0, Nat.zero_le _, rfl, HS, HT, HB⟩
    case round =>
      clear HS HT HB
      obtain ⟨k, hk, rfl, HS, HT, HB⟩ := hrel
      obtain ⟨c0, c1, c2, c3⟩ := HS.out.cells
      by_cases hlt : k < nt
      · go_wp2
        go_loopw [90] (fun jv wx => ∃ j : Nat, j ≤ nd ∧ jv = .int .i64 j ∧ Hid (SeaAt wx X ra nt rc da nd dc rest ca nc cc D L C) ∧ Hid (IntRow wx (.slice (some ⟨tb, to, none⟩) nt tc) nt (getI T)) ∧ Hid (Below w.heap.size w wx)) (fun jv _ => nd - (RowKit.intOf jv).toNat)
        case atStart => exact ⟨0, Nat.zero_le _, rfl, HS, HT, HB⟩
        case round =>
          clear HS HT HB c0 c1 c2 c3
          obtain ⟨j, hj, rfl, HS, HT, HB⟩ := hrel
          by_cases hlt2 : j < nd
          · obtain ⟨db, dof, hda, hcap, q0⟩ := int_at HS.out.2.2.1 hlt2
            subst hda
            obtain ⟨c0, c1, c2, c3⟩ := HS.out.cells
            have hdm := Lib.hid (HLM.out j hlt2)
            have HDC := q0
            generalize getI L j = d at *
            have hj1 : (j : Int) < (nd : Int) := by omega
            have hk1 : (k : Int) < (nt : Int) := by omega
            obtain ⟨y, hy⟩ : ∃ y, getI T k = y := ⟨_, rfl⟩
            have HY := Lib.hid hy
            clear q0 hy
            by_cases hdy : d < y
            · have g9 : decide (d < y) = true := decide_eq_true hdy
              go_wp2_with (at_builtin; refine wpList_cloneI rfl (.tmp 94) (.tmp 95) 24 rfl 3 Tryd.underlying24 hi hz0 hz1 hz2 (by simp [go_sem]) rfl HT.out hT0 (by omega) ?_; intro gg cp w7 o7 r7 b7 hg1 hg2; have f7 : w7.frozen? ⟨gg, k, none⟩ = false := (by rcases o7.2 with ⟨h, _⟩ | ⟨g9, _, _, h9, _, h8, _⟩; (cases h); (cases h9; exact frozen_of_row w7 gg k _ _ h8)); have e7 : ∃ u, w7.cell? ⟨gg, k, none⟩ = some u := (by obtain ⟨tb9, to9, he9, _, h9⟩ := int_at r7 hlt; cases he9; exact ⟨_, by simpa using h9⟩); obtain ⟨u7, e7⟩ := e7; have b9 : Below wr.heap.size wr (w7.setCell ⟨gg, k, none⟩ (.int .i64 d)) := b7.setCell hg1 _; have X9 := Lib.hid (r7.put (z := d) hlt); have HS9 := Lib.hid (HS.out.below b9); have HT9 := Lib.hid (HT.out.below b9 (Nat.le_refl _)); have HB9 := Lib.hid (HB.out.trans (b9.mono HB.out.size)); have q9 : (w7.setCell ⟨gg, k, none⟩ (.int .i64 d)).cell? ⟨tb, to + k, none⟩ = some (.int .i64 y) := (by rw [← HY.out]; exact TK.out _ k hlt HT9.out); have d0 := HS9.out.cells.1; have d1 := HS9.out.cells.2.1; have d2 := HS9.out.cells.2.2.1; have d3 := HS9.out.cells.2.2.2; clear o7 r7 b7 b9)
              refine (KX.out _ k d _ hlt hdm.out (by rw [HY.out]; exact hdy) HS9.out X9.out).mono ?_
              rintro e w8 ⟨rfl, b⟩
              have HS8 := Lib.hid (HS9.out.below b)
              have HT8 := Lib.hid (HT9.out.below b (Nat.le_refl _))
              have HB8 := Lib.hid (HB9.out.trans (b.mono HB9.out.size))
              clear b d0 d1 d2 d3 q9 f7 e7 hg1 hg2
              go_wp2
              exact ⟨⟨j + 1, by omega, by go_num, HS8, HT8, HB8⟩, by simp [RowKit.intOf]; omega⟩
            · have g9 : decide (d < y) = false := decide_eq_false hdy
              go_wp2_with (at_builtin; refine wpList_cloneI rfl (.tmp 94) (.tmp 95) 24 rfl 3 Tryd.underlying24 hi hz0 hz1 hz2 (by simp [go_sem]) rfl HT.out hT0 (by omega) ?_; intro gg cp w7 o7 r7 b7 hg1 hg2; have f7 : w7.frozen? ⟨gg, k, none⟩ = false := (by rcases o7.2 with ⟨h, _⟩ | ⟨g9, _, _, h9, _, h8, _⟩; (cases h); (cases h9; exact frozen_of_row w7 gg k _ _ h8)); have e7 : ∃ u, w7.cell? ⟨gg, k, none⟩ = some u := (by obtain ⟨tb9, to9, he9, _, h9⟩ := int_at r7 hlt; cases he9; exact ⟨_, by simpa using h9⟩); obtain ⟨u7, e7⟩ := e7; have b9 : Below wr.heap.size wr (w7.setCell ⟨gg, k, none⟩ (.int .i64 d)) := b7.setCell hg1 _; have X9 := Lib.hid (r7.put (z := d) hlt); have HS9 := Lib.hid (HS.out.below b9); have HT9 := Lib.hid (HT.out.below b9 (Nat.le_refl _)); have HB9 := Lib.hid (HB.out.trans (b9.mono HB.out.size)); have q9 : (w7.setCell ⟨gg, k, none⟩ (.int .i64 d)).cell? ⟨tb, to + k, none⟩ = some (.int .i64 y) := (by rw [← HY.out]; exact TK.out _ k hlt HT9.out); have d0 := HS9.out.cells.1; have d1 := HS9.out.cells.2.1; have d2 := HS9.out.cells.2.2.1; have d3 := HS9.out.cells.2.2.2; clear o7 r7 b7 b9)
              exact ⟨⟨j + 1, by omega, by go_num, HS9, HT9, HB9⟩, by simp [RowKit.intOf]; omega⟩
          · obtain rfl : j = nd := by omega
            go_wp2
            exact ⟨⟨k + 1, by omega, by go_num, HS, HT, HB⟩, by simp [RowKit.intOf]; omega⟩
      · obtain rfl : k = nt := by omega
        clear KX TK HLM
        go_wp2
        go_loopw [12] (fun tv wx => ∃ t : Nat, t ≤ n ∧ tv = .int .i64 t ∧ Hid (SeaAt wx X ra k rc da nd dc rest ca nc cc D L C) ∧ Hid (IntRow wx (.slice (some ⟨tb, to, none⟩) k tc) k (getI T)) ∧ Hid (Below w.heap.size w wx)) (fun tv _ => n - (RowKit.intOf tv).toNat)
        case atStart => exact ⟨0, Nat.zero_le _, rfl, HS, HT, HB⟩
        case round =>
          clear HS HT HB c0 c1 c2 c3
          obtain ⟨t, ht, rfl, HS, HT, HB⟩ := hrel
          by_cases hlt3 : t < n
          · obtain ⟨c0, c1, c2, c3⟩ := HS.out.cells
            have ht1 : (t : Int) < (n : Int) := by omega
            go_wp2_with fail
            refine (KR.out t _ HS.out HT.out).mono ?_
            have hq := HRG.out t
            generalize restV true D T t = q at *
            rintro e w9 ⟨rfl, b⟩
            have HS9 := Lib.hid (HS.out.below b)
            have HT9 := Lib.hid (HT.out.below b (Nat.le_refl _))
            have HB9 := Lib.hid (HB.out.trans (b.mono HB.out.size))
            clear b c0 c1 c2 c3
            have d2 := HS9.out.cells.2.2.1
            by_cases hq0 : 0 ≤ q
            · have g1 : decide (0 ≤ q) = true := decide_eq_true hq0
              have g2 : decide (q < rest) = false := decide_eq_false (by omega)
              go_wp2
              exact ⟨⟨t + 1, by omega, by go_num, HS9, HT9, HB9⟩, by simp [RowKit.intOf]; omega⟩
            · have g1 : decide (0 ≤ q) = false := decide_eq_false hq0
              go_wp2
              exact ⟨⟨t + 1, by omega, by go_num, HS9, HT9, HB9⟩, by simp [RowKit.intOf]; omega⟩
          · obtain rfl : t = n := by omega
            go_wp2
            go_ret
            exact ⟨rfl, HB.out⟩
end Go.Proofs.YtcbpgbiannpfpaaDoor
set_option linter.unusedVariables false
namespace Go.Proofs.YtcbpgbiannpfpaaDoor

theorem iface_var {P : Program} {W : World} {nm name : String} {d : DataW Unit} {rest : List (String × DataW Unit)} {g : Nat} {t : TypeId} {ms : Array (String × TypeId)}
    (hg : P.globalNamed nm = some g) (hty : (P.globals[g]?).map (·.type) = some t) (hi : P.underlying t = some (.interface ms))
    (h : laidMet P ((nm, .iface name d) :: rest) W) : ∃ tp p, W.var? P nm = some #[.iface tp p] := by
  obtain ⟨ps, ⟨g', t', cs, fuel, p, q, hg', ht', hvar, hd, _, _⟩, _⟩ := h
  obtain rfl := Option.some.inj (hg.symm.trans hg')
  obtain rfl := Option.some.inj (hty.symm.trans ht')
  obtain ⟨f', u, v, hcs, _, _⟩ := iface_of_trod hi hd
  refine ⟨u, v, ?_⟩
  rw [hvar]
  congr 1
  apply Array.ext'
  rw [hcs]
def valsOf : DataW Unit → Array Value
  | .agg ds => (ds.map fun
      | .lit (.int k n) => Value.int k n
      | _ => undef).toArray
  | _ => #[]
def textOf : DataW Unit → ByteArray
  | .iface _ (.ptr (.agg [.lit (.string b)])) => ⟨b.toArray⟩
  | _ => ByteArray.empty
def putAt (h : Array Obj) (g : Nat) (cs : Array Value) : Array Obj := h.modify g fun
    | .cells _ t frozen => .cells cs t frozen
    | o => o
end Go.Proofs.YtcbpgbiannpfpaaDoor
set_option linter.unusedVariables false
namespace Go.Proofs.YtcbpgbiannpfpaaDoor
open Go.RowKit

theorem below_prev2 {w w' w1 : World} (b : Below w.heap.size w w1) (h : Below w1.heap.size w1 w') : Below w.heap.size w w' := b.trans (h.mono b.size)

set_option maxRecDepth 100000 in
set_option maxHeartbeats 2000000 in
theorem idx_okC (p : tClosed.D → Bool) (v : Value) (L : ClosL) (x1 : Value) (w : World) (h : RdA tClosedS w [v] L)
    (hP : ∀ (x : tClosed.D) (wa : World), Below w.heap.size w wa → Calls Tryd.prog 33 #[.agg #[.int .i64 (clT x), .int .i64 (clF x), .int .i64 (clU x)], x1] wa fun e w' => e = .returned (.bool (p x)) ∧ Below wa.heap.size wa w') :
    Calls Tryd.prog 62 #[v, .func (.func 33) #[] #[x1]] w fun e w' => (∃ z : Int, e = .returned (.int .i64 z) ∧ decide (0 ≤ z) = L.any p) ∧ Below w.heap.size w w' := by
  obtain ⟨a, c, rfl, hn⟩ := clos_form h
  have HR := Lib.hid h
  have HP := Lib.hid hP
  clear h hP
  obtain ⟨n, hd⟩ : ∃ n, List.length (α := tClosed.D) L = n := ⟨_, rfl⟩
  have HD := Lib.hid hd
  rw [hd] at hn ⊢
  clear hd
  have HNo : Hid ((∀ x ∈ (L.take n : List (tClosed.D)), p x = false) → L.any p = false) := fun h => by rw [List.any_eq_false]; intro x hx; rw [h x (by rw [List.take_of_length_le (by have := HD.out; omega)]; exact hx)]; simp
  go_enter Tryd.func62, Tryd.ntmps62
  go_wp2
  go_loopw [8] (fun iv wr => ∃ k : Nat, k ≤ n ∧ iv = .int .i64 k ∧ Hid (∀ x ∈ (L.take k : List (tClosed.D)), p x = false) ∧ Hid (Below w.heap.size w wr)) (fun iv _ => n - (RowKit.intOf iv).toNat)
  case atStart => exact ⟨0, Nat.zero_le _, rfl, fun x hx => (by simp at hx), Below.refl _ _⟩
  case round =>
    obtain ⟨k, hk9, rfl, HV, HB⟩ := hrel
    by_cases hlt : k < n
    · obtain ⟨x, hx⟩ : ∃ x : tClosed.D, L[k]? = some x := ⟨_, List.getElem?_eq_getElem (by rw [HD.out]; exact hlt)⟩
      obtain ⟨b, off, rfl, hcap, q0, q1, q2⟩ := clos_cells (HR.out.below HB.out) hx
      rw [HD.out] at hcap
      have hj1 : (k : Int) < (n : Int) := by omega
      have HTK : Hid (p x = false → ∀ y ∈ (L.take (k + 1) : List (tClosed.D)), p y = false) := fun h y hy => by
        rw [List.take_add_one, hx] at hy
        rcases List.mem_append.1 hy with hy | hy
        · exact HV.out y hy
        · rw [List.mem_singleton.1 hy]; exact h
      have HY : Hid (p x = true → true = L.any p) := fun h => (List.any_eq_true.2 ⟨x, List.mem_of_getElem? hx, h⟩).symm
      have CP := Lib.hid (HP.out x)
      clear hx HV
      generalize p x = r at *
      generalize clT x = t at *
      generalize clF x = f at *
      generalize clU x = u at *
      go_wp2_with fail
      refine (CP.out _ HB.out).mono ?_
      rintro e w1 ⟨rfl, b⟩
      have HB1 := Lib.hid (HB.out.trans (b.mono HB.out.size))
      clear b CP HB
      cases r with
      | true =>
        have HYY := Lib.hid (HY.out rfl)
        clear HTK HY
        go_wp2
        go_ret
        exact ⟨⟨_, rfl, (decide_eq_true (by omega)).trans HYY.out⟩, HB1.out⟩
      | false =>
        have HVN := Lib.hid (HTK.out rfl)
        clear HTK HY
        go_wp2
        go_roundw
        case rel => exact ⟨k + 1, by omega, by go_num, HVN, HB1⟩
        case measure => simp [RowKit.intOf]; omega
    obtain rfl : k = n := by omega
    have HE := Lib.hid (HNo.out HV.out)
    clear HV
    go_wp2
    go_ret
    exact ⟨⟨_, rfl, by rw [HE.out]; decide⟩, HB.out⟩
theorem cont_okC (p : tClosed.D → Bool) (v : Value) (L : ClosL) (x1 : Value) (w : World) (h : RdA tClosedS w [v] L)
    (hP : ∀ (x : tClosed.D) (wa : World), Below w.heap.size w wa → Calls Tryd.prog 33 #[.agg #[.int .i64 (clT x), .int .i64 (clF x), .int .i64 (clU x)], x1] wa fun e w' => e = .returned (.bool (p x)) ∧ Below wa.heap.size wa w') :
    Calls Tryd.prog 32 #[v, .func (.func 33) #[] #[x1]] w fun e w' => e = .returned (.bool (L.any p)) ∧ Below w.heap.size w w' := by
  have C := Lib.hid (idx_okC p v L x1 w h hP)
  clear h hP
  generalize L.any p = R at *
  go_enter Tryd.func32, Tryd.ntmps32
  go_wp2_with fail
  refine C.out.mono ?_
  rintro e w1 ⟨⟨z, rfl, hz⟩, b⟩
  have HB := Lib.hid b
  have HZ := Lib.hid hz
  clear b hz C
  go_wp2
  go_ret
  exact ⟨by rw [HZ.out]; rfl, HB.out⟩

set_option maxRecDepth 100000 in
set_option maxHeartbeats 2000000 in
theorem idx_shut (p : tClosed.D → Bool) (v : Value) (L : ClosL) (x1 x2 : Value) (w : World) (h : RdA tClosedS w [v] L)
    (hP : ∀ (x : tClosed.D) (wa : World), Below w.heap.size w wa → Calls Tryd.prog 82 #[.agg #[.int .i64 (clT x), .int .i64 (clF x), .int .i64 (clU x)], x1, x2] wa fun e w' => e = .returned (.bool (p x)) ∧ Below wa.heap.size wa w') :
    Calls Tryd.prog 62 #[v, .func (.func 82) #[] #[x1, x2]] w fun e w' => (∃ z : Int, e = .returned (.int .i64 z) ∧ decide (0 ≤ z) = L.any p) ∧ Below w.heap.size w w' := by
  obtain ⟨a, c, rfl, hn⟩ := clos_form h
  have HR := Lib.hid h
  have HP := Lib.hid hP
  clear h hP
  obtain ⟨n, hd⟩ : ∃ n, List.length (α := tClosed.D) L = n := ⟨_, rfl⟩
  have HD := Lib.hid hd
  rw [hd] at hn ⊢
  clear hd
  have HNo : Hid ((∀ x ∈ (L.take n : List (tClosed.D)), p x = false) → L.any p = false) := fun h => by rw [List.any_eq_false]; intro x hx; rw [h x (by rw [List.take_of_length_le (by have := HD.out; omega)]; exact hx)]; simp
  go_enter Tryd.func62, Tryd.ntmps62
  go_wp2
  go_loopw [8] (fun iv wr => ∃ k : Nat, k ≤ n ∧ iv = .int .i64 k ∧ Hid (∀ x ∈ (L.take k : List (tClosed.D)), p x = false) ∧ Hid (Below w.heap.size w wr)) (fun iv _ => n - (RowKit.intOf iv).toNat)
  case atStart => exact ⟨0, Nat.zero_le _, rfl, fun x hx => (by simp at hx), Below.refl _ _⟩
  case round =>
    obtain ⟨k, hk9, rfl, HV, HB⟩ := hrel
    by_cases hlt : k < n
    · obtain ⟨x, hx⟩ : ∃ x : tClosed.D, L[k]? = some x := ⟨_, List.getElem?_eq_getElem (by rw [HD.out]; exact hlt)⟩
      obtain ⟨b, off, rfl, hcap, q0, q1, q2⟩ := clos_cells (HR.out.below HB.out) hx
      rw [HD.out] at hcap
      have hj1 : (k : Int) < (n : Int) := by omega
      have HTK : Hid (p x = false → ∀ y ∈ (L.take (k + 1) : List (tClosed.D)), p y = false) := fun h y hy => by
        rw [List.take_add_one, hx] at hy
        rcases List.mem_append.1 hy with hy | hy
        · exact HV.out y hy
        · rw [List.mem_singleton.1 hy]; exact h
      have HY : Hid (p x = true → true = L.any p) := fun h => (List.any_eq_true.2 ⟨x, List.mem_of_getElem? hx, h⟩).symm
      have CP := Lib.hid (HP.out x)
      clear hx HV
      generalize p x = r at *
      generalize clT x = t at *
      generalize clF x = f at *
      generalize clU x = u at *
      go_wp2_with fail
      refine (CP.out _ HB.out).mono ?_
      rintro e w1 ⟨rfl, b⟩
      have HB1 := Lib.hid (HB.out.trans (b.mono HB.out.size))
      clear b CP HB
      cases r with
      | true =>
        have HYY := Lib.hid (HY.out rfl)
        clear HTK HY
        go_wp2
        go_ret
        exact ⟨⟨_, rfl, (decide_eq_true (by omega)).trans HYY.out⟩, HB1.out⟩
      | false =>
        have HVN := Lib.hid (HTK.out rfl)
        clear HTK HY
        go_wp2
        go_roundw
        case rel => exact ⟨k + 1, by omega, by go_num, HVN, HB1⟩
        case measure => simp [RowKit.intOf]; omega
    obtain rfl : k = n := by omega
    have HE := Lib.hid (HNo.out HV.out)
    clear HV
    go_wp2
    go_ret
    exact ⟨⟨_, rfl, by rw [HE.out]; decide⟩, HB.out⟩
theorem cont_shut (p : tClosed.D → Bool) (v : Value) (L : ClosL) (x1 x2 : Value) (w : World) (h : RdA tClosedS w [v] L)
    (hP : ∀ (x : tClosed.D) (wa : World), Below w.heap.size w wa → Calls Tryd.prog 82 #[.agg #[.int .i64 (clT x), .int .i64 (clF x), .int .i64 (clU x)], x1, x2] wa fun e w' => e = .returned (.bool (p x)) ∧ Below wa.heap.size wa w') :
    Calls Tryd.prog 32 #[v, .func (.func 82) #[] #[x1, x2]] w fun e w' => e = .returned (.bool (L.any p)) ∧ Below w.heap.size w w' := by
  have C := Lib.hid (idx_shut p v L x1 x2 w h hP)
  clear h hP
  generalize L.any p = R at *
  go_enter Tryd.func32, Tryd.ntmps32
  go_wp2_with fail
  refine C.out.mono ?_
  rintro e w1 ⟨⟨z, rfl, hz⟩, b⟩
  have HB := Lib.hid b
  have HZ := Lib.hid hz
  clear b hz C
  go_wp2
  go_ret
  exact ⟨by rw [HZ.out]; rfl, HB.out⟩

set_option maxRecDepth 100000 in
set_option maxHeartbeats 2000000 in
theorem idx_play (p : tPair.D → Bool) (v : Value) (L : PairL) (x1 x2 : Value) (w : World) (h : RdA tPairS w [v] L)
    (hP : ∀ (x : tPair.D) (wa : World), Below w.heap.size w wa → Calls Tryd.prog 65 #[.agg #[.int .i64 (hm x), .int .i64 (aw x)], x1, x2] wa fun e w' => e = .returned (.bool (p x)) ∧ Below wa.heap.size wa w') :
    Calls Tryd.prog 81 #[v, .func (.func 65) #[] #[x1, x2]] w fun e w' => (∃ z : Int, e = .returned (.int .i64 z) ∧ decide (0 ≤ z) = L.any p) ∧ Below w.heap.size w w' := by
  obtain ⟨a, c, rfl, hn⟩ := pairs_form h
  have HR := Lib.hid h
  have HP := Lib.hid hP
  clear h hP
  obtain ⟨n, hd⟩ : ∃ n, List.length (α := tPair.D) L = n := ⟨_, rfl⟩
  have HD := Lib.hid hd
  rw [hd] at hn ⊢
  clear hd
  have HNo : Hid ((∀ x ∈ (L.take n : List (tPair.D)), p x = false) → L.any p = false) := fun h => by rw [List.any_eq_false]; intro x hx; rw [h x (by rw [List.take_of_length_le (by have := HD.out; omega)]; exact hx)]; simp
  go_enter Tryd.func81, Tryd.ntmps81
  go_wp2
  go_loopw [8] (fun iv wr => ∃ k : Nat, k ≤ n ∧ iv = .int .i64 k ∧ Hid (∀ x ∈ (L.take k : List (tPair.D)), p x = false) ∧ Hid (Below w.heap.size w wr)) (fun iv _ => n - (RowKit.intOf iv).toNat)
  case atStart => exact ⟨0, Nat.zero_le _, rfl, fun x hx => (by simp at hx), Below.refl _ _⟩
  case round =>
    obtain ⟨k, hk9, rfl, HV, HB⟩ := hrel
    by_cases hlt : k < n
    · obtain ⟨x, hx⟩ : ∃ x : tPair.D, L[k]? = some x := ⟨_, List.getElem?_eq_getElem (by rw [HD.out]; exact hlt)⟩
      obtain ⟨b, off, rfl, hcap, q0, q1⟩ := pair_cells (HR.out.below HB.out) hx
      rw [HD.out] at hcap
      have hj1 : (k : Int) < (n : Int) := by omega
      have HTK : Hid (p x = false → ∀ y ∈ (L.take (k + 1) : List (tPair.D)), p y = false) := fun h y hy => by
        rw [List.take_add_one, hx] at hy
        rcases List.mem_append.1 hy with hy | hy
        · exact HV.out y hy
        · rw [List.mem_singleton.1 hy]; exact h
      have HY : Hid (p x = true → true = L.any p) := fun h => (List.any_eq_true.2 ⟨x, List.mem_of_getElem? hx, h⟩).symm
      have CP := Lib.hid (HP.out x)
      clear hx HV
      generalize p x = r at *
      generalize hm x = ph at *
      generalize aw x = pa at *
      go_wp2_with fail
      refine (CP.out _ HB.out).mono ?_
      rintro e w1 ⟨rfl, b⟩
      have HB1 := Lib.hid (HB.out.trans (b.mono HB.out.size))
      clear b CP HB
      cases r with
      | true =>
        have HYY := Lib.hid (HY.out rfl)
        clear HTK HY
        go_wp2
        go_ret
        exact ⟨⟨_, rfl, (decide_eq_true (by omega)).trans HYY.out⟩, HB1.out⟩
      | false =>
        have HVN := Lib.hid (HTK.out rfl)
        clear HTK HY
        go_wp2
        go_roundw
        case rel => exact ⟨k + 1, by omega, by go_num, HVN, HB1⟩
        case measure => simp [RowKit.intOf]; omega
    obtain rfl : k = n := by omega
    have HE := Lib.hid (HNo.out HV.out)
    clear HV
    go_wp2
    go_ret
    exact ⟨⟨_, rfl, by rw [HE.out]; decide⟩, HB.out⟩
theorem cont_play (p : tPair.D → Bool) (v : Value) (L : PairL) (x1 x2 : Value) (w : World) (h : RdA tPairS w [v] L)
    (hP : ∀ (x : tPair.D) (wa : World), Below w.heap.size w wa → Calls Tryd.prog 65 #[.agg #[.int .i64 (hm x), .int .i64 (aw x)], x1, x2] wa fun e w' => e = .returned (.bool (p x)) ∧ Below wa.heap.size wa w') :
    Calls Tryd.prog 64 #[v, .func (.func 65) #[] #[x1, x2]] w fun e w' => e = .returned (.bool (L.any p)) ∧ Below w.heap.size w w' := by
  have C := Lib.hid (idx_play p v L x1 x2 w h hP)
  clear h hP
  generalize L.any p = R at *
  go_enter Tryd.func64, Tryd.ntmps64
  go_wp2_with fail
  refine C.out.mono ?_
  rintro e w1 ⟨⟨z, rfl, hz⟩, b⟩
  have HB := Lib.hid b
  have HZ := Lib.hid hz
  clear b hz C
  go_wp2
  go_ret
  exact ⟨by rw [HZ.out]; rfl, HB.out⟩

set_option maxRecDepth 100000 in
set_option maxHeartbeats 2000000 in
theorem idx_noDay (p : Int → Bool) (v : Value) (L : List Int) (w : World) (h : IntRow w v L.length (getI L))
    (hP : ∀ (x : Int) (wa : World), Below w.heap.size w wa → Calls Tryd.prog 37 #[.int .i64 x] wa fun e w' => e = .returned (.bool (p x)) ∧ Below wa.heap.size wa w') :
    Calls Tryd.prog 67 #[v, .func (.func 37) #[] #[]] w fun e w' => (∃ z : Int, e = .returned (.int .i64 z) ∧ decide (0 ≤ z) = L.any p) ∧ Below w.heap.size w w' := by
  obtain ⟨a, c, rfl, hn, _⟩ := h.form
  have HR := Lib.hid h
  have HP := Lib.hid hP
  clear h hP
  obtain ⟨n, hd⟩ : ∃ n, L.length = n := ⟨_, rfl⟩
  have HD := Lib.hid hd
  rw [hd] at HR
  rw [hd] at hn ⊢
  clear hd
  have HNo : Hid ((∀ x ∈ (L.take n : List (Int)), p x = false) → L.any p = false) := fun h => by rw [List.any_eq_false]; intro x hx; rw [h x (by rw [List.take_of_length_le (by have := HD.out; omega)]; exact hx)]; simp
  go_enter Tryd.func67, Tryd.ntmps67
  go_wp2
  go_loopw [8] (fun iv wr => ∃ k : Nat, k ≤ n ∧ iv = .int .i64 k ∧ Hid (∀ x ∈ (L.take k : List (Int)), p x = false) ∧ Hid (Below w.heap.size w wr)) (fun iv _ => n - (RowKit.intOf iv).toNat)
  case atStart => exact ⟨0, Nat.zero_le _, rfl, fun x hx => (by simp at hx), Below.refl _ _⟩
  case round =>
    obtain ⟨k, hk9, rfl, HV, HB⟩ := hrel
    by_cases hlt : k < n
    · obtain ⟨x, hx⟩ : ∃ x : Int, L[k]? = some x := ⟨_, List.getElem?_eq_getElem (by rw [HD.out]; exact hlt)⟩
      obtain ⟨b, off, rfl, hcap, q0⟩ := int_at (HR.out.below HB.out (Nat.le_refl _)) hlt
      have hxe : getI L k = x := by unfold getI; rw [List.getD_eq_getElem?_getD, hx]; rfl
      rw [hxe] at q0
      clear hxe
      have hj1 : (k : Int) < (n : Int) := by omega
      have HTK : Hid (p x = false → ∀ y ∈ (L.take (k + 1) : List (Int)), p y = false) := fun h y hy => by
        rw [List.take_add_one, hx] at hy
        rcases List.mem_append.1 hy with hy | hy
        · exact HV.out y hy
        · rw [List.mem_singleton.1 hy]; exact h
      have HY : Hid (p x = true → true = L.any p) := fun h => (List.any_eq_true.2 ⟨x, List.mem_of_getElem? hx, h⟩).symm
      have CP := Lib.hid (HP.out x)
      clear hx HV
      generalize p x = r at *
      skip
      go_wp2_with fail
      refine (CP.out _ HB.out).mono ?_
      rintro e w1 ⟨rfl, b⟩
      have HB1 := Lib.hid (HB.out.trans (b.mono HB.out.size))
      clear b CP HB
      cases r with
      | true =>
        have HYY := Lib.hid (HY.out rfl)
        clear HTK HY
        go_wp2
        go_ret
        exact ⟨⟨_, rfl, (decide_eq_true (by omega)).trans HYY.out⟩, HB1.out⟩
      | false =>
        have HVN := Lib.hid (HTK.out rfl)
        clear HTK HY
        go_wp2
        go_roundw
        case rel => exact ⟨k + 1, by omega, by go_num, HVN, HB1⟩
        case measure => simp [RowKit.intOf]; omega
    obtain rfl : k = n := by omega
    have HE := Lib.hid (HNo.out HV.out)
    clear HV
    go_wp2
    go_ret
    exact ⟨⟨_, rfl, by rw [HE.out]; decide⟩, HB.out⟩
theorem cont_noDay (p : Int → Bool) (v : Value) (L : List Int) (w : World) (h : IntRow w v L.length (getI L))
    (hP : ∀ (x : Int) (wa : World), Below w.heap.size w wa → Calls Tryd.prog 37 #[.int .i64 x] wa fun e w' => e = .returned (.bool (p x)) ∧ Below wa.heap.size wa w') :
    Calls Tryd.prog 36 #[v, .func (.func 37) #[] #[]] w fun e w' => e = .returned (.bool (L.any p)) ∧ Below w.heap.size w w' := by
  have C := Lib.hid (idx_noDay p v L  w h hP)
  clear h hP
  generalize L.any p = R at *
  go_enter Tryd.func36, Tryd.ntmps36
  go_wp2_with fail
  refine C.out.mono ?_
  rintro e w1 ⟨⟨z, rfl, hz⟩, b⟩
  have HB := Lib.hid b
  have HZ := Lib.hid hz
  clear b hz C
  go_wp2
  go_ret
  exact ⟨by rw [HZ.out]; rfl, HB.out⟩

def badC (n : Int) (c : tClosed.D) : Bool := decide (clT c < 0) || decide (n ≤ clT c) || decide (clF c < 0) || decide (clU c < clF c) || decide (60 < clU c)
theorem badC_iff (n : Int) (c : tClosed.D) : badC n c = false ↔ okC n c := by
  unfold badC okC
  simp only [Bool.or_eq_false_iff, decide_eq_false_iff_not]
  omega
set_option maxRecDepth 100000 in
theorem closedOkP_impl (n : Int) (c : tClosed.D) (B1 : Nat) (w : World) (v1 : BoxN w B1 [.int .i64 n]) :
    Calls Tryd.prog 33 #[.agg #[.int .i64 (clT c), .int .i64 (clF c), .int .i64 (clU c)], .pointer (some ⟨B1, 0, none⟩)] w fun e w' => e = .returned (.bool (badC n c)) ∧ Below w.heap.size w w' := by
  have l1 := v1.1
  have c1 := v1.2 0 _ rfl
  clear v1
  unfold badC
  generalize clT c = t at *
  generalize clF c = f at *
  generalize clU c = u at *
  have HBA : Hid (∀ o, Below w.heap.size w (w.alloc o)) := fun o => (Below.refl _ _).alloc (Nat.le_refl _) o
  cases g1 : decide (t < 0) with
  | true =>
    go_enter Tryd.func33, Tryd.ntmps33
    go_wp2
    go_ret
    exact ⟨rfl, HBA.out _⟩
  | false =>
  cases g2 : decide (n ≤ t) with
  | true =>
    go_enter Tryd.func33, Tryd.ntmps33
    go_wp2
    go_ret
    exact ⟨rfl, HBA.out _⟩
  | false =>
  cases g3 : decide (f < 0) with
  | true =>
    go_enter Tryd.func33, Tryd.ntmps33
    go_wp2
    go_ret
    exact ⟨rfl, HBA.out _⟩
  | false =>
  cases g4 : decide (u < f) with
  | true =>
    go_enter Tryd.func33, Tryd.ntmps33
    go_wp2
    go_ret
    exact ⟨rfl, HBA.out _⟩
  | false =>
    go_enter Tryd.func33, Tryd.ntmps33
    go_wp2
    go_ret
    exact ⟨rfl, HBA.out _⟩
theorem holds_impl (c : tClosed.D) (tm day : Int) (w : World) :
    Calls Tryd.prog 83 #[.agg #[.int .i64 (clT c), .int .i64 (clF c), .int .i64 (clU c)], .int .i64 tm, .int .i64 day] w fun e w' => e = .returned (.bool (clT c == tm && (decide (clF c ≤ day) && decide (day ≤ clU c)))) ∧ Below w.heap.size w w' := by
  generalize clT c = t at *
  generalize clF c = f at *
  generalize clU c = u at *
  have HBA : Hid (∀ o, Below w.heap.size w (w.alloc o)) := fun o => (Below.refl _ _).alloc (Nat.le_refl _) o
  cases g1 : t == tm with
  | false =>
    go_enter Tryd.func83, Tryd.ntmps83
    go_wp2
    go_ret
    exact ⟨rfl, HBA.out _⟩
  | true =>
  cases g2 : decide (f ≤ day) with
  | false =>
    go_enter Tryd.func83, Tryd.ntmps83
    go_wp2
    go_ret
    exact ⟨rfl, HBA.out _⟩
  | true =>
    go_enter Tryd.func83, Tryd.ntmps83
    go_wp2
    go_ret
    exact ⟨rfl, HBA.out _⟩
theorem isClosedP_impl (c : tClosed.D) (tm day : Int) (B1 B2 : Nat) (w : World) (v1 : BoxN w B1 [.int .i64 tm]) (v2 : BoxN w B2 [.int .i64 day]) :
    Calls Tryd.prog 82 #[.agg #[.int .i64 (clT c), .int .i64 (clF c), .int .i64 (clU c)], .pointer (some ⟨B1, 0, none⟩), .pointer (some ⟨B2, 0, none⟩)] w fun e w' => e = .returned (.bool (clT c == tm && (decide (clF c ≤ day) && decide (day ≤ clU c)))) ∧ Below w.heap.size w w' := by
  have l1 := v1.1
  have l2 := v2.1
  have c1 := v1.2 0 _ rfl
  have c2 := v2.2 0 _ rfl
  clear v1 v2
  have C := Lib.hid (fun w1 => holds_impl c tm day w1)
  generalize (clT c == tm && (decide (clF c ≤ day) && decide (day ≤ clU c))) = r at *
  generalize clT c = t at *
  generalize clF c = f at *
  generalize clU c = u at *
  go_enter Tryd.func82, Tryd.ntmps82
  go_wp2_with fail
  refine (C.out _).mono ?_
  rintro e w1 ⟨rfl, b1⟩
  have b2 := below_prev b1
  go_wp2
  go_ret
  exact ⟨rfl, b2⟩
theorem isClosed_impl (tm day : Int) (v : Value) (C : ClosL) (w : World) (h : RdA tClosedS w [v] C) :
    Calls Tryd.prog 66 #[.int .i64 tm, .int .i64 day, v] w fun e w' => e = .returned (.bool (shutB tm day C)) ∧ Below w.heap.size w w' := by
  have b1 : Below w.heap.size w ((w.alloc (.cells #[.int .i64 tm] 3)).alloc (.cells #[.int .i64 day] 3)) := ((Below.refl _ _).alloc (Nat.le_refl _) _).alloc (by simp) _
  have hv1 := h.below b1
  have B1 : BoxN (w.alloc (.cells #[.int .i64 tm] 3)) w.heap.size [.int .i64 tm] := BoxN.made (Below.refl _ _) rfl
  have B2 : BoxN ((w.alloc (.cells #[.int .i64 tm] 3)).alloc (.cells #[.int .i64 day] 3)) (w.heap.size + 1) [.int .i64 day] := BoxN.made (Below.refl _ _) (by simp)
  have B3 := B1.below ((Below.refl _ _).alloc (Nat.le_refl _) (.cells #[.int .i64 day] 3))
  have CC := Lib.hid (cont_shut (fun c => clT c == tm && (decide (clF c ≤ day) && decide (day ≤ clU c))) v C (.pointer (some ⟨w.heap.size, 0, none⟩)) (.pointer (some ⟨w.heap.size + 1, 0, none⟩)) _ hv1
    (fun x wa hb => isClosedP_impl x tm day w.heap.size (w.heap.size + 1) wa (B3.below hb) (B2.below hb)))
  unfold shutB
  generalize C.any (fun c => clT c == tm && (decide (clF c ≤ day) && decide (day ≤ clU c))) = R at *
  clear h hv1 B1 B2 B3
  go_enter Tryd.func66, Tryd.ntmps66
  go_wp2_with fail
  refine CC.out.mono ?_
  rintro e w2 ⟨rfl, b2⟩
  have b3 := b1.trans (b2.mono b1.size)
  go_wp2
  go_ret
  exact ⟨rfl, b3⟩
theorem canPlayP_impl (p : tPair.D) (day : Int) (a : Option Addr) (c : Nat) (C : ClosL) (B1 B2 : Nat) (w : World) (v1 : BoxN w B1 [.int .i64 day]) (v2 : BoxN w B2 [.slice a (List.length (α := tClosed.D) C) c]) (h : RdA tClosedS w [.slice a (List.length (α := tClosed.D) C) c] C) :
    Calls Tryd.prog 65 #[.agg #[.int .i64 (hm p), .int .i64 (aw p)], .pointer (some ⟨B1, 0, none⟩), .pointer (some ⟨B2, 0, none⟩)] w fun e w' => e = .returned (.bool (shutB (hm p) day C)) ∧ Below w.heap.size w w' := by
  have l1 := v1.1
  have l2 := v2.1
  have c1 := v1.2 0 _ rfl
  have c2 := v2.2 0 _ rfl
  have HH := Lib.hid h
  clear v1 v2 h
  have CC : Hid (∀ w1, RdA tClosedS w1 [.slice a (List.length (α := tClosed.D) C) c] C → Calls Tryd.prog 66 #[.int .i64 (hm p), .int .i64 day, .slice a (List.length (α := tClosed.D) C) c] w1 fun e w' => e = .returned (.bool (shutB (hm p) day C)) ∧ Below w1.heap.size w1 w') := fun w1 h1 => isClosed_impl (hm p) day _ C w1 h1
  generalize shutB (hm p) day C = r at *
  generalize List.length (α := tClosed.D) C = m at *
  generalize hm p = ph at *
  generalize aw p = pa at *
  have HBA : Hid (Below w.heap.size w (w.alloc (.cells #[.int .i64 ph, .int .i64 pa] 98))) := (Below.refl _ _).alloc (Nat.le_refl _) _
  go_enter Tryd.func65, Tryd.ntmps65
  go_wp2_with fail
  refine (CC.out _ (HH.out.below HBA.out)).mono ?_
  rintro e w1 ⟨rfl, b1⟩
  have HB := Lib.hid (HBA.out.trans (b1.mono HBA.out.size))
  clear b1
  go_wp2
  go_ret
  exact ⟨rfl, HB.out⟩
theorem canPlayOn_impl (vr : Value) (r : PairL) (day : Int) (vc : Value) (C : ClosL) (w : World) (h : RdA tPairS w [vr] r) (hc : RdA tClosedS w [vc] C) :
    Calls Tryd.prog 35 #[vr, .int .i64 day, vc] w fun e w' => e = .returned (.bool (playB r day C)) ∧ Below w.heap.size w w' := by
  obtain ⟨ca, cc, rfl, hcn⟩ := clos_form hc
  have b1 : Below w.heap.size w ((w.alloc (.cells #[.int .i64 day] 3)).alloc (.cells #[.slice ca (List.length (α := tClosed.D) C) cc] 25)) := ((Below.refl _ _).alloc (Nat.le_refl _) _).alloc (by simp) _
  have hv1 := h.below b1
  have hc1 := hc.below b1
  have B1 : BoxN (w.alloc (.cells #[.int .i64 day] 3)) w.heap.size [.int .i64 day] := BoxN.made (Below.refl _ _) rfl
  have B2 : BoxN ((w.alloc (.cells #[.int .i64 day] 3)).alloc (.cells #[.slice ca (List.length (α := tClosed.D) C) cc] 25)) (w.heap.size + 1) [.slice ca (List.length (α := tClosed.D) C) cc] := BoxN.made (Below.refl _ _) (by simp)
  have B3 := B1.below ((Below.refl _ _).alloc (Nat.le_refl _) (.cells #[.slice ca (List.length (α := tClosed.D) C) cc] 25))
  have CC := Lib.hid (cont_play (fun p => shutB (hm p) day C) vr r (.pointer (some ⟨w.heap.size, 0, none⟩)) (.pointer (some ⟨w.heap.size + 1, 0, none⟩)) _ hv1
    (fun x wa hb => canPlayP_impl x day ca cc C w.heap.size (w.heap.size + 1) wa (B3.below hb) (B2.below hb) (hc1.below hb)))
  have e : playB r day C = !(r.any fun p => shutB (hm p) day C) := by unfold playB; rw [List.not_any_eq_all_not]
  rw [e]
  clear e
  generalize r.any (fun p => shutB (hm p) day C) = R at *
  generalize List.length (α := tClosed.D) C = m at *
  clear h hv1 hc hc1 B1 B2 B3
  go_enter Tryd.func35, Tryd.ntmps35
  go_wp2_with fail
  refine CC.out.mono ?_
  rintro e w2 ⟨rfl, b2⟩
  have b3 := b1.trans (b2.mono b1.size)
  go_wp2
  go_ret
  exact ⟨rfl, b3⟩
theorem closedOk_impl (n : Int) (v : Value) (C : ClosL) (R : Bool) (w : World) (hR : R = true ↔ closedP n C) (h : RdA tClosedS w [v] C) :
    Calls Tryd.prog 9 #[.int .i64 n, v] w fun e w' => e = .returned (.bool R) ∧ Below w.heap.size w w' := by
  obtain ⟨a, c, rfl, hn⟩ := clos_form h
  have b1 : Below w.heap.size w (w.alloc (.cells #[.int .i64 n] 3)) := (Below.refl _ _).alloc (Nat.le_refl _) _
  have hv1 := h.below b1
  have B1 : BoxN (w.alloc (.cells #[.int .i64 n] 3)) w.heap.size [.int .i64 n] := BoxN.made (Below.refl _ _) rfl
  have CC := Lib.hid (cont_okC (badC n) _ C (.pointer (some ⟨w.heap.size, 0, none⟩)) _ hv1 (fun x wa hb => closedOkP_impl n x w.heap.size wa (B1.below hb)))
  have HB1 := Lib.hid b1
  have e : R = (decide (List.length (α := tClosed.D) C ≤ 8) && !(C.any (badC n))) := by
    rw [Bool.eq_iff_iff, hR]
    unfold closedP
    rw [Bool.and_eq_true, decide_eq_true_eq, Bool.not_eq_true', List.any_eq_false]
    exact and_congr Iff.rfl (forall_congr' fun x => imp_congr Iff.rfl ((badC_iff n x).symm.trans (by simp)))
  subst e
  clear hR h hv1 B1 b1
  generalize C.any (badC n) = r at *
  generalize List.length (α := tClosed.D) C = m at *
  by_cases h8 : m ≤ 8
  · have g1 : decide ((m : Int) ≤ 8) = true := decide_eq_true (by omega)
    have g1' : decide (m ≤ 8) = true := decide_eq_true h8
    rw [g1', Bool.true_and]
    go_enter Tryd.func9, Tryd.ntmps9
    go_wp2_with fail
    refine CC.out.mono ?_
    rintro e w2 ⟨rfl, b2⟩
    have HB := Lib.hid (HB1.out.trans (b2.mono HB1.out.size))
    clear b2 CC
    go_wp2
    go_ret
    exact ⟨rfl, HB.out⟩
  · have g1 : decide ((m : Int) ≤ 8) = false := decide_eq_false (by omega)
    have g1' : decide (m ≤ 8) = false := decide_eq_false h8
    rw [g1', Bool.false_and]
    go_enter Tryd.func9, Tryd.ntmps9
    go_wp2
    go_ret
    exact ⟨rfl, HB1.out⟩
theorem lastDay_impl (v : Value) (L : List Int) (w : World) (h : IntRow w v L.length (getI L)) :
    Calls Tryd.prog 11 #[v] w fun e w' => e = .returned (.int .i64 (lastD L)) ∧ Below w.heap.size w w' := by
  obtain ⟨a, c, rfl, hn, hc⟩ := h.form
  have HV := Lib.hid h
  clear h hc
  unfold lastD
  obtain ⟨n, hl⟩ : ∃ n, L.length = n := ⟨_, rfl⟩
  rw [hl] at hn HV ⊢
  clear hl
  by_cases h0 : n = 0
  · subst h0
    rw [if_pos rfl]
    go_enter Tryd.func11, Tryd.ntmps11
    go_wp2
    go_ret
    exact ⟨rfl, Below.refl _ _⟩
  · rw [if_neg h0]
    obtain ⟨b, off, rfl, hcap, q0⟩ := int_at HV.out (show n - 1 < n by omega)
    have g0 : ((n : Int) == 0) = false := beq_eq_false_iff_ne.2 (by omega)
    have g1 : ¬ (n : Int) = 0 := by omega
    have e1 : ((n : Int) - 1).toNat = n - 1 := by omega
    have h1 : (0 : Int) ≤ (n : Int) - 1 := by omega
    generalize getI L (n - 1) = x at *
    go_enter Tryd.func11, Tryd.ntmps11
    go_wp2
    go_ret
    exact ⟨rfl, Below.refl _ _⟩
end Go.Proofs.YtcbpgbiannpfpaaDoor
