/-
  Packed: Cal5, CalPred, CalDays, GamesBase, RndImplA, GamesFuns, GamesImpl.
-/
import Derived.BigRegion
import Derived.Deep.LoopGhost
import Derived.Lib.SlicesSearch
import Derived.Test.YtcbpgbiannpfpaaQ3
import Derived.Test.YtcbpgbiannpfpaaQ4
import Derived.Test.YtcbpgbiannpfpaaQ6
import Derived.Test.YtcbpgbiannpfpaaQ7
import Derived.Test.YtcbpgbiannpfpaaQ8
set_option linter.unusedVariables false
namespace Go.Proofs.Ytcbpgbiannpfpaa
open Go.RowKit

def restStep (D : List PairL) (T : List Int) (tm : Int) (k : Nat) (b l : Int) : Int × Int :=
  if venueL (atR D k) tm = 0 then (b, l) else (if 0 ≤ l ∧ (b < 0 ∨ max (getI T k) l - min (getI T k) l < b) then max (getI T k) l - min (getI T k) l else b, getI T k)
def restS (D : List PairL) (T : List Int) (tm : Int) : Nat → Int × Int
  | 0 => (-1, -1)
  | k + 1 => restStep D T tm k (restS D T tm k).1 (restS D T tm k).2
def datesOk (D : List PairL) (T : List Int) : Prop := T.length = List.length (α := PairL) D ∧ ∀ i, i < T.length → 0 ≤ getI T i ∧ getI T i ≤ 60
def restV (R : Bool) (D : List PairL) (T : List Int) (tm : Int) : Int := if R = true then (restS D T tm T.length).1 else -1
set_option maxRecDepth 100000 in
set_option maxHeartbeats 4000000 in
theorem restOf_spec (vr vd : Value) (rest : Int) (vc : Value) (D : List PairL) (L : List Int) (C : ClosL) (vt : Value) (T : List Int) (tm : Int) (R : Bool) (w : World) (hR : R = true ↔ datesOk D T)
    (hr : RdA tPairSS w [vr] D) (hd : IntRow w vd L.length (getI L)) (hc : RdA tClosedS w [vc] C) (ht : IntRow w vt T.length (getI T)) :
    Calls Try.prog 27 #[.agg #[vr, vd, .int .i64 rest, vc], vt, .int .i64 tm] w fun e w' => e = .returned (.int .i64 (restV R D T tm)) ∧ Below w.heap.size w w' := by
  obtain ⟨ra, rc, rfl, hrn⟩ := schedule_form hr
  obtain ⟨da, dc, rfl, hdn, _⟩ := hd.form
  obtain ⟨ca, cc, rfl, hcn⟩ := clos_form hc
  obtain ⟨ta, tc, rfl, htn, _⟩ := ht.form
  obtain ⟨nr, hnr⟩ : ∃ nr, List.length (α := PairL) D = nr := ⟨_, rfl⟩
  obtain ⟨nd, hnd⟩ : ∃ nd, L.length = nd := ⟨_, rfl⟩
  obtain ⟨nc, hnc⟩ : ∃ nc, List.length (α := tClosed.D) C = nc := ⟨_, rfl⟩
  obtain ⟨nt, hnt⟩ : ∃ nt, T.length = nt := ⟨_, rfl⟩
  obtain ⟨U, hU⟩ : ∃ U, w.alloc (.cells #[.slice ra (List.length (α := PairL) D) rc, .slice da L.length dc, .int .i64 rest, .slice ca (List.length (α := tClosed.D) C) cc] 44) = U := ⟨_, rfl⟩
  have bU : Below w.heap.size w U := by rw [← hU]; exact (Below.refl _ _).alloc (Nat.le_refl _) _
  have HNR := Lib.hid hnr
  have HNT := Lib.hid hnt
  have HRR : Hid (R = true ↔ (nt = nr ∧ ∀ i, i < nt → 0 ≤ getI T i ∧ getI T i ≤ 60)) := by show _ ↔ _; rw [hR]; unfold datesOk; rw [hnr, hnt]
  have HVV : Hid (restV R D T tm = if R = true then (restS D T tm nt).1 else -1) := by show _ = _; unfold restV; rw [hnt]
  have HS : Hid (SeaAt U w.heap.size ra nr rc da nd dc rest ca nc cc D L C) := by rw [← hU, ← hnr, ← hnd, ← hnc]; exact SeaAt.made hr hd hc
  have HT : Hid (IntRow U (.slice ta nt tc) nt (getI T)) := by rw [← hnt]; exact ht.below bU (Nat.le_refl _)
  rw [hnr] at hU ⊢
  rw [hnd] at hdn hU ⊢
  rw [hnc] at hcn hU ⊢
  rw [hnt] at htn ⊢
  have HB := Lib.hid bU
  clear hr hd hc hR ht hnr hnd hnc hnt hrn hcn bU
  obtain ⟨c0, c1, c2, c3⟩ := HS.out.cells
  generalize restV R D T tm = V at *
  go_enter Try.func27, Try.ntmps27
  by_cases hne : nt = nr
  case neg =>
    have hf : R = false := by cases hr : R with | false => rfl | true => exact absurd (HRR.out.1 hr).1 hne
    have HVX : Hid (V = -1) := by show _ = _; rw [HVV.out, hf]; rfl
    have g1 : ((nt : Int) != (nr : Int)) = true := by simp; omega
    go_wp2
    go_ret
    exact ⟨by rw [HVX.out]; rfl, HB.out⟩
  subst hne
  go_wp2
  clear hU c0 c1 c2 c3
  go_loopw [7, 8, 21] (fun bv lv iv wr => ∃ (k : Nat) (b l : Int), k ≤ nt ∧ iv = .int .i64 k ∧ bv = .int .i64 b ∧ lv = .int .i64 l ∧ (-1 ≤ b ∧ b ≤ 60) ∧ (-1 ≤ l ∧ l ≤ 60) ∧ Hid ((b, l) = restS D T tm k) ∧ Hid (∀ i, i < k → 0 ≤ getI T i ∧ getI T i ≤ 60) ∧ Hid (Below U.heap.size U wr)) (fun _ _ iv _ => nt - (RowKit.intOf iv).toNat)
  case atStart => exact ⟨0, -1, -1, Nat.zero_le _, rfl, rfl, rfl, by omega, by omega, rfl, fun i hi => absurd hi (Nat.not_lt_zero _), Below.refl _ _⟩
  case round =>
    obtain ⟨k, b, l, hk9, rfl, rfl, rfl, hb, hl, HST, HTD, HI⟩ := hrel
    have HBx : Hid (Below w.heap.size w wr) := HB.out.trans (HI.out.mono HB.out.size)
    by_cases hlt : k < nt
    · have HTx := Lib.hid (HT.out.below HI.out (Nat.le_refl _))
      obtain ⟨tb, to, hta, hcap, q0⟩ := int_at HTx.out hlt
      subst hta
      obtain ⟨rr, hrr⟩ : ∃ rr : PairL, D[k]? = some rr := ⟨_, List.getElem?_eq_getElem (by rw [HNR.out]; exact hlt)⟩
      obtain ⟨rb, ro, xa, xc, hra, hcap2, hq, hrd, hx63⟩ := round_cells (by rw [HNR.out]; exact HS.out.2.1) hrr
      subst hra
      rw [HNR.out] at hcap2
      have hq2 := (HI.out.cell (p := ⟨rb, ro + k, none⟩) (World.block_lt_of_cell? U _ hq)).trans hq
      have hj1 : (k : Int) < (nt : Int) := by omega
      have hat : atR D k = rr := by unfold atR; rw [hrr]; rfl
      have HNX : Hid (restS D T tm (k + 1) = restStep D T tm k b l) := by
        show restStep D T tm k (restS D T tm k).1 (restS D T tm k).2 = _
        rw [← HST.out]
      have HFF : Hid (¬ (0 ≤ getI T k ∧ getI T k ≤ 60) → V = -1) := fun h => by
        rw [HVV.out, if_neg]
        intro hr
        exact h ((HRR.out.1 hr).2 k hlt)
      have HTN : Hid ((0 ≤ getI T k ∧ getI T k ≤ 60) → ∀ i, i < k + 1 → 0 ≤ getI T i ∧ getI T i ≤ 60) := fun h i hi => by
        by_cases e : i = k
        · subst e; exact h
        · exact HTD.out i (by omega)
      have CV : Hid (∀ wa, RdA tPairS wa [.slice xa (List.length (α := tPair.D) rr) xc] rr → Calls Try.prog 48 #[.slice xa (List.length (α := tPair.D) rr) xc, .int .i64 tm] wa fun e w' => e = .returned (.int .i64 (venueL rr tm)) ∧ Below wa.heap.size wa w') := fun wa h => l09Venue_spec _ rr tm wa h
      have HRD : Hid (RdA tPairS wr [.slice xa (List.length (α := tPair.D) rr) xc] rr) := hrd.below HI.out
      obtain ⟨xn, hxn⟩ : ∃ xn, List.length (α := tPair.D) rr = xn := ⟨_, rfl⟩
      rw [hxn] at hq2 hx63 HRD CV
      have HSTP : Hid (restStep D T tm k b l = if venueL rr tm = 0 then (b, l) else (if 0 ≤ l ∧ (b < 0 ∨ max (getI T k) l - min (getI T k) l < b) then max (getI T k) l - min (getI T k) l else b, getI T k)) := by show _ = _; unfold restStep; rw [hat]
      clear hrr hxn hrd hat hq HTD HST
      generalize getI T k = x at *
      generalize venueL rr tm = vn at *
      by_cases hin : 0 ≤ x ∧ x ≤ 60
      case neg =>
        have HVX := Lib.hid (HFF.out hin)
        clear HFF HTN HNX HSTP
        go_wp2_with fail
        refine (l01In_no _ _ _ _ hin).mono ?_
        rintro e wx ⟨rfl, rfl⟩
        go_wp2
        go_ret
        exact ⟨by rw [HVX.out]; rfl, HBx.out⟩
      have HTN2 := Lib.hid (HTN.out hin)
      clear HFF HTN
      obtain ⟨hx0, hx60⟩ := hin
      by_cases hv : vn = 0
      · have HN : Hid ((b, l) = restS D T tm (k + 1)) := by show _ = _; rw [HNX.out, HSTP.out, if_pos hv]
        have g1 : (vn == 0) = true := beq_iff_eq.2 hv
        clear HNX HSTP
        subst hv
        go_wp2_with fail
        refine (l01In_yes _ _ _ _ ⟨hx0, hx60⟩).mono ?_
        rintro e wx ⟨rfl, rfl⟩
        go_wp2_with fail
        refine (CV.out _ HRD.out).mono ?_
        rintro e w4 ⟨rfl, b4⟩
        have HI4 := Lib.hid (HI.out.trans (b4.mono HI.out.size))
        clear b4
        go_wp2
        go_roundw
        case rel => exact ⟨k + 1, b, l, by omega, by go_num, rfl, rfl, hb, hl, HN, HTN2, HI4⟩
        case measure => simp [RowKit.intOf]; omega
      have HN1 : Hid (restS D T tm (k + 1) = (if 0 ≤ l ∧ (b < 0 ∨ max x l - min x l < b) then max x l - min x l else b, x)) := by show _ = _; rw [HNX.out, HSTP.out, if_neg hv]
      have g1 : (vn == 0) = false := beq_eq_false_iff_ne.2 hv
      clear HNX HSTP
      by_cases hl0 : 0 ≤ l
      case neg =>
        have HN : Hid ((b, x) = restS D T tm (k + 1)) := by show _ = _; rw [HN1.out, if_neg (fun h => hl0 h.1)]
        have g2 : decide (0 ≤ l) = false := decide_eq_false hl0
        clear HN1
        go_wp2_with fail
        refine (l01In_yes _ _ _ _ ⟨hx0, hx60⟩).mono ?_
        rintro e wx ⟨rfl, rfl⟩
        go_wp2_with fail
        refine (CV.out _ HRD.out).mono ?_
        rintro e w4 ⟨rfl, b4⟩
        have HI4 := Lib.hid (HI.out.trans (b4.mono HI.out.size))
        have q4 := (b4.cell (p := ⟨tb, to + k, none⟩) (World.block_lt_of_cell? wr _ q0)).trans q0
        clear b4 q0
        go_wp2
        go_roundw
        case rel => exact ⟨k + 1, b, x, by omega, by go_num, rfl, rfl, hb, by omega, HN, HTN2, HI4⟩
        case measure => simp [RowKit.intOf]; omega
      have g2 : decide (0 ≤ l) = true := decide_eq_true hl0
      go_wp2_with fail
      refine (l01In_yes _ _ _ _ ⟨hx0, hx60⟩).mono ?_
      rintro e wx ⟨rfl, rfl⟩
      go_wp2_with fail
      refine (CV.out _ HRD.out).mono ?_
      rintro e w4 ⟨rfl, b4⟩
      have HI4 := Lib.hid (HI.out.trans (b4.mono HI.out.size))
      have q4 := (b4.cell (p := ⟨tb, to + k, none⟩) (World.block_lt_of_cell? wr _ q0)).trans q0
      clear b4 q0
      go_wp2_with fail
      by_cases hxl : l < x
      · go_region
        all_goals (try go_wp2_with fail)
        all_goals refine ⟨⟨k + 1, _, x, by omega, by go_num, rfl, rfl, by omega, by omega, ?_, HTN2, Lib.hid (Below.drew HI4.out)⟩, by simp [RowKit.intOf]; omega⟩
        all_goals (show _ = _; rw [HN1.out]; refine Prod.ext ?_ rfl; show _ = ite _ _ _; split <;> omega)
      by_cases hxm : x < l
      · go_region
        all_goals (try go_wp2_with fail)
        all_goals refine ⟨⟨k + 1, _, x, by omega, by go_num, rfl, rfl, by omega, by omega, ?_, HTN2, Lib.hid (Below.drew HI4.out)⟩, by simp [RowKit.intOf]; omega⟩
        all_goals (show _ = _; rw [HN1.out]; refine Prod.ext ?_ rfl; show _ = ite _ _ _; split <;> omega)
      · obtain rfl : l = x := by omega
        go_region
        all_goals (try go_wp2_with fail)
        all_goals refine ⟨⟨k + 1, _, l, by omega, by go_num, rfl, rfl, by omega, by omega, ?_, HTN2, Lib.hid (Below.drew HI4.out)⟩, by simp [RowKit.intOf]; omega⟩
        all_goals (show _ = _; rw [HN1.out]; refine Prod.ext ?_ rfl; show _ = ite _ _ _; split <;> omega)
    obtain rfl : k = nt := by omega
    have hT : R = true := HRR.out.2 ⟨by first | rfl | trivial, HTD.out⟩
    have HVX : Hid (V = b) := by show _ = _; rw [HVV.out, if_pos hT, ← HST.out]
    go_wp2
    go_ret
    exact ⟨by rw [HVX.out]; rfl, HBx.out⟩
end Go.Proofs.Ytcbpgbiannpfpaa
set_option linter.unusedVariables false
namespace Go.Proofs.Ytcbpgbiannpfpaa
open Go.RowKit

theorem below_prev2 {w w' w1 : World} (b : Below w.heap.size w w1) (h : Below w1.heap.size w1 w') : Below w.heap.size w w' := b.trans (h.mono b.size)

set_option maxRecDepth 100000 in
set_option maxHeartbeats 2000000 in
theorem idx_okC (p : tClosed.D → Bool) (v : Value) (L : ClosL) (x1 : Value) (w : World) (h : RdA tClosedS w [v] L)
    (hP : ∀ (x : tClosed.D) (wa : World), Below w.heap.size w wa → Calls Try.prog 32 #[.agg #[.int .i64 (clT x), .int .i64 (clF x), .int .i64 (clU x)], x1] wa fun e w' => e = .returned (.bool (p x)) ∧ Below wa.heap.size wa w') :
    Calls Try.prog 53 #[v, .func (.func 32) #[] #[x1]] w fun e w' => (∃ z : Int, e = .returned (.int .i64 z) ∧ decide (0 ≤ z) = L.any p) ∧ Below w.heap.size w w' := by
  obtain ⟨a, c, rfl, hn⟩ := clos_form h
  have HR := Lib.hid h
  have HP := Lib.hid hP
  clear h hP
  obtain ⟨n, hd⟩ : ∃ n, List.length (α := tClosed.D) L = n := ⟨_, rfl⟩
  have HD := Lib.hid hd
  rw [hd] at hn ⊢
  clear hd
  have HNo : Hid ((∀ x ∈ (L.take n : List (tClosed.D)), p x = false) → L.any p = false) := fun h => by rw [List.any_eq_false]; intro x hx; rw [h x (by rw [List.take_of_length_le (by have := HD.out; omega)]; exact hx)]; simp
  go_enter Try.func53, Try.ntmps53
  go_wp2
  go_loopw [8] (fun iv wr => ∃ k : Nat, k ≤ n ∧ iv = .int .i64 k ∧ Hid (∀ x ∈ (L.take k : List (tClosed.D)), p x = false) ∧ Hid (Below w.heap.size w wr)) (fun iv _ => n - (RowKit.intOf iv).toNat)
  case atStart => exact ⟨0, Nat.zero_le _, rfl, fun x hx => (by simp at hx), Below.refl _ _⟩
  case round =>
    obtain ⟨k, hk9, rfl, HV, HB⟩ := hrel
    by_cases hlt : k < n
    · obtain ⟨x, hx⟩ : ∃ x : tClosed.D, L[k]? = some x := ⟨_, List.getElem?_eq_getElem (by rw [HD.out]; exact hlt)⟩
      obtain ⟨b, off, rfl, hcap, q0, q1, q2⟩ := clos_cells (HR.out.below HB.out) hx
      rw [HD.out] at hcap
      have hj1 : (k : Int) < (n : Int) := by omega
      have HTK : Hid (p x = false → ∀ y ∈ (L.take (k + 1) : List (tClosed.D)), p y = false) := fun h y hy => by
        rw [List.take_add_one, hx] at hy
        rcases List.mem_append.1 hy with hy | hy
        · exact HV.out y hy
        · rw [List.mem_singleton.1 hy]; exact h
      have HY : Hid (p x = true → true = L.any p) := fun h => (List.any_eq_true.2 ⟨x, List.mem_of_getElem? hx, h⟩).symm
      have CP := Lib.hid (HP.out x)
      clear hx HV
      generalize p x = r at *
      generalize clT x = t at *
      generalize clF x = f at *
      generalize clU x = u at *
      go_wp2_with fail
      refine (CP.out _ HB.out).mono ?_
      rintro e w1 ⟨rfl, b⟩
      have HB1 := Lib.hid (HB.out.trans (b.mono HB.out.size))
      clear b CP HB
      cases r with
      | true =>
        have HYY := Lib.hid (HY.out rfl)
        clear HTK HY
        go_wp2
        go_ret
        exact ⟨⟨_, rfl, (decide_eq_true (by omega)).trans HYY.out⟩, HB1.out⟩
      | false =>
        have HVN := Lib.hid (HTK.out rfl)
        clear HTK HY
        go_wp2
        go_roundw
        case rel => exact ⟨k + 1, by omega, by go_num, HVN, HB1⟩
        case measure => simp [RowKit.intOf]; omega
    obtain rfl : k = n := by omega
    have HE := Lib.hid (HNo.out HV.out)
    clear HV
    go_wp2
    go_ret
    exact ⟨⟨_, rfl, by rw [HE.out]; decide⟩, HB.out⟩
theorem cont_okC (p : tClosed.D → Bool) (v : Value) (L : ClosL) (x1 : Value) (w : World) (h : RdA tClosedS w [v] L)
    (hP : ∀ (x : tClosed.D) (wa : World), Below w.heap.size w wa → Calls Try.prog 32 #[.agg #[.int .i64 (clT x), .int .i64 (clF x), .int .i64 (clU x)], x1] wa fun e w' => e = .returned (.bool (p x)) ∧ Below wa.heap.size wa w') :
    Calls Try.prog 31 #[v, .func (.func 32) #[] #[x1]] w fun e w' => e = .returned (.bool (L.any p)) ∧ Below w.heap.size w w' := by
  have C := Lib.hid (idx_okC p v L x1 w h hP)
  clear h hP
  generalize L.any p = R at *
  go_enter Try.func31, Try.ntmps31
  go_wp2_with fail
  refine C.out.mono ?_
  rintro e w1 ⟨⟨z, rfl, hz⟩, b⟩
  have HB := Lib.hid b
  have HZ := Lib.hid hz
  clear b hz C
  go_wp2
  go_ret
  exact ⟨by rw [HZ.out]; rfl, HB.out⟩

set_option maxRecDepth 100000 in
set_option maxHeartbeats 2000000 in
theorem idx_shut (p : tClosed.D → Bool) (v : Value) (L : ClosL) (x1 x2 : Value) (w : World) (h : RdA tClosedS w [v] L)
    (hP : ∀ (x : tClosed.D) (wa : World), Below w.heap.size w wa → Calls Try.prog 55 #[.agg #[.int .i64 (clT x), .int .i64 (clF x), .int .i64 (clU x)], x1, x2] wa fun e w' => e = .returned (.bool (p x)) ∧ Below wa.heap.size wa w') :
    Calls Try.prog 53 #[v, .func (.func 55) #[] #[x1, x2]] w fun e w' => (∃ z : Int, e = .returned (.int .i64 z) ∧ decide (0 ≤ z) = L.any p) ∧ Below w.heap.size w w' := by
  obtain ⟨a, c, rfl, hn⟩ := clos_form h
  have HR := Lib.hid h
  have HP := Lib.hid hP
  clear h hP
  obtain ⟨n, hd⟩ : ∃ n, List.length (α := tClosed.D) L = n := ⟨_, rfl⟩
  have HD := Lib.hid hd
  rw [hd] at hn ⊢
  clear hd
  have HNo : Hid ((∀ x ∈ (L.take n : List (tClosed.D)), p x = false) → L.any p = false) := fun h => by rw [List.any_eq_false]; intro x hx; rw [h x (by rw [List.take_of_length_le (by have := HD.out; omega)]; exact hx)]; simp
  go_enter Try.func53, Try.ntmps53
  go_wp2
  go_loopw [8] (fun iv wr => ∃ k : Nat, k ≤ n ∧ iv = .int .i64 k ∧ Hid (∀ x ∈ (L.take k : List (tClosed.D)), p x = false) ∧ Hid (Below w.heap.size w wr)) (fun iv _ => n - (RowKit.intOf iv).toNat)
  case atStart => exact ⟨0, Nat.zero_le _, rfl, fun x hx => (by simp at hx), Below.refl _ _⟩
  case round =>
    obtain ⟨k, hk9, rfl, HV, HB⟩ := hrel
    by_cases hlt : k < n
    · obtain ⟨x, hx⟩ : ∃ x : tClosed.D, L[k]? = some x := ⟨_, List.getElem?_eq_getElem (by rw [HD.out]; exact hlt)⟩
      obtain ⟨b, off, rfl, hcap, q0, q1, q2⟩ := clos_cells (HR.out.below HB.out) hx
      rw [HD.out] at hcap
      have hj1 : (k : Int) < (n : Int) := by omega
      have HTK : Hid (p x = false → ∀ y ∈ (L.take (k + 1) : List (tClosed.D)), p y = false) := fun h y hy => by
        rw [List.take_add_one, hx] at hy
        rcases List.mem_append.1 hy with hy | hy
        · exact HV.out y hy
        · rw [List.mem_singleton.1 hy]; exact h
      have HY : Hid (p x = true → true = L.any p) := fun h => (List.any_eq_true.2 ⟨x, List.mem_of_getElem? hx, h⟩).symm
      have CP := Lib.hid (HP.out x)
      clear hx HV
      generalize p x = r at *
      generalize clT x = t at *
      generalize clF x = f at *
      generalize clU x = u at *
      go_wp2_with fail
      refine (CP.out _ HB.out).mono ?_
      rintro e w1 ⟨rfl, b⟩
      have HB1 := Lib.hid (HB.out.trans (b.mono HB.out.size))
      clear b CP HB
      cases r with
      | true =>
        have HYY := Lib.hid (HY.out rfl)
        clear HTK HY
        go_wp2
        go_ret
        exact ⟨⟨_, rfl, (decide_eq_true (by omega)).trans HYY.out⟩, HB1.out⟩
      | false =>
        have HVN := Lib.hid (HTK.out rfl)
        clear HTK HY
        go_wp2
        go_roundw
        case rel => exact ⟨k + 1, by omega, by go_num, HVN, HB1⟩
        case measure => simp [RowKit.intOf]; omega
    obtain rfl : k = n := by omega
    have HE := Lib.hid (HNo.out HV.out)
    clear HV
    go_wp2
    go_ret
    exact ⟨⟨_, rfl, by rw [HE.out]; decide⟩, HB.out⟩
theorem cont_shut (p : tClosed.D → Bool) (v : Value) (L : ClosL) (x1 x2 : Value) (w : World) (h : RdA tClosedS w [v] L)
    (hP : ∀ (x : tClosed.D) (wa : World), Below w.heap.size w wa → Calls Try.prog 55 #[.agg #[.int .i64 (clT x), .int .i64 (clF x), .int .i64 (clU x)], x1, x2] wa fun e w' => e = .returned (.bool (p x)) ∧ Below wa.heap.size wa w') :
    Calls Try.prog 31 #[v, .func (.func 55) #[] #[x1, x2]] w fun e w' => e = .returned (.bool (L.any p)) ∧ Below w.heap.size w w' := by
  have C := Lib.hid (idx_shut p v L x1 x2 w h hP)
  clear h hP
  generalize L.any p = R at *
  go_enter Try.func31, Try.ntmps31
  go_wp2_with fail
  refine C.out.mono ?_
  rintro e w1 ⟨⟨z, rfl, hz⟩, b⟩
  have HB := Lib.hid b
  have HZ := Lib.hid hz
  clear b hz C
  go_wp2
  go_ret
  exact ⟨by rw [HZ.out]; rfl, HB.out⟩

set_option maxRecDepth 100000 in
set_option maxHeartbeats 2000000 in
theorem idx_play (p : tPair.D → Bool) (v : Value) (L : PairL) (x1 x2 : Value) (w : World) (h : RdA tPairS w [v] L)
    (hP : ∀ (x : tPair.D) (wa : World), Below w.heap.size w wa → Calls Try.prog 36 #[.agg #[.int .i64 (hm x), .int .i64 (aw x)], x1, x2] wa fun e w' => e = .returned (.bool (p x)) ∧ Below wa.heap.size wa w') :
    Calls Try.prog 54 #[v, .func (.func 36) #[] #[x1, x2]] w fun e w' => (∃ z : Int, e = .returned (.int .i64 z) ∧ decide (0 ≤ z) = L.any p) ∧ Below w.heap.size w w' := by
  obtain ⟨a, c, rfl, hn⟩ := pairs_form h
  have HR := Lib.hid h
  have HP := Lib.hid hP
  clear h hP
  obtain ⟨n, hd⟩ : ∃ n, List.length (α := tPair.D) L = n := ⟨_, rfl⟩
  have HD := Lib.hid hd
  rw [hd] at hn ⊢
  clear hd
  have HNo : Hid ((∀ x ∈ (L.take n : List (tPair.D)), p x = false) → L.any p = false) := fun h => by rw [List.any_eq_false]; intro x hx; rw [h x (by rw [List.take_of_length_le (by have := HD.out; omega)]; exact hx)]; simp
  go_enter Try.func54, Try.ntmps54
  go_wp2
  go_loopw [8] (fun iv wr => ∃ k : Nat, k ≤ n ∧ iv = .int .i64 k ∧ Hid (∀ x ∈ (L.take k : List (tPair.D)), p x = false) ∧ Hid (Below w.heap.size w wr)) (fun iv _ => n - (RowKit.intOf iv).toNat)
  case atStart => exact ⟨0, Nat.zero_le _, rfl, fun x hx => (by simp at hx), Below.refl _ _⟩
  case round =>
    obtain ⟨k, hk9, rfl, HV, HB⟩ := hrel
    by_cases hlt : k < n
    · obtain ⟨x, hx⟩ : ∃ x : tPair.D, L[k]? = some x := ⟨_, List.getElem?_eq_getElem (by rw [HD.out]; exact hlt)⟩
      obtain ⟨b, off, rfl, hcap, q0, q1⟩ := pair_cells (HR.out.below HB.out) hx
      rw [HD.out] at hcap
      have hj1 : (k : Int) < (n : Int) := by omega
      have HTK : Hid (p x = false → ∀ y ∈ (L.take (k + 1) : List (tPair.D)), p y = false) := fun h y hy => by
        rw [List.take_add_one, hx] at hy
        rcases List.mem_append.1 hy with hy | hy
        · exact HV.out y hy
        · rw [List.mem_singleton.1 hy]; exact h
      have HY : Hid (p x = true → true = L.any p) := fun h => (List.any_eq_true.2 ⟨x, List.mem_of_getElem? hx, h⟩).symm
      have CP := Lib.hid (HP.out x)
      clear hx HV
      generalize p x = r at *
      generalize hm x = ph at *
      generalize aw x = pa at *
      go_wp2_with fail
      refine (CP.out _ HB.out).mono ?_
      rintro e w1 ⟨rfl, b⟩
      have HB1 := Lib.hid (HB.out.trans (b.mono HB.out.size))
      clear b CP HB
      cases r with
      | true =>
        have HYY := Lib.hid (HY.out rfl)
        clear HTK HY
        go_wp2
        go_ret
        exact ⟨⟨_, rfl, (decide_eq_true (by omega)).trans HYY.out⟩, HB1.out⟩
      | false =>
        have HVN := Lib.hid (HTK.out rfl)
        clear HTK HY
        go_wp2
        go_roundw
        case rel => exact ⟨k + 1, by omega, by go_num, HVN, HB1⟩
        case measure => simp [RowKit.intOf]; omega
    obtain rfl : k = n := by omega
    have HE := Lib.hid (HNo.out HV.out)
    clear HV
    go_wp2
    go_ret
    exact ⟨⟨_, rfl, by rw [HE.out]; decide⟩, HB.out⟩
theorem cont_play (p : tPair.D → Bool) (v : Value) (L : PairL) (x1 x2 : Value) (w : World) (h : RdA tPairS w [v] L)
    (hP : ∀ (x : tPair.D) (wa : World), Below w.heap.size w wa → Calls Try.prog 36 #[.agg #[.int .i64 (hm x), .int .i64 (aw x)], x1, x2] wa fun e w' => e = .returned (.bool (p x)) ∧ Below wa.heap.size wa w') :
    Calls Try.prog 35 #[v, .func (.func 36) #[] #[x1, x2]] w fun e w' => e = .returned (.bool (L.any p)) ∧ Below w.heap.size w w' := by
  have C := Lib.hid (idx_play p v L x1 x2 w h hP)
  clear h hP
  generalize L.any p = R at *
  go_enter Try.func35, Try.ntmps35
  go_wp2_with fail
  refine C.out.mono ?_
  rintro e w1 ⟨⟨z, rfl, hz⟩, b⟩
  have HB := Lib.hid b
  have HZ := Lib.hid hz
  clear b hz C
  go_wp2
  go_ret
  exact ⟨by rw [HZ.out]; rfl, HB.out⟩

set_option maxRecDepth 100000 in
set_option maxHeartbeats 2000000 in
theorem idx_noDay (p : Int → Bool) (v : Value) (L : List Int) (w : World) (h : IntRow w v L.length (getI L))
    (hP : ∀ (x : Int) (wa : World), Below w.heap.size w wa → Calls Try.prog 50 #[.int .i64 x] wa fun e w' => e = .returned (.bool (p x)) ∧ Below wa.heap.size wa w') :
    Calls Try.prog 62 #[v, .func (.func 50) #[] #[]] w fun e w' => (∃ z : Int, e = .returned (.int .i64 z) ∧ decide (0 ≤ z) = L.any p) ∧ Below w.heap.size w w' := by
  obtain ⟨a, c, rfl, hn, _⟩ := h.form
  have HR := Lib.hid h
  have HP := Lib.hid hP
  clear h hP
  obtain ⟨n, hd⟩ : ∃ n, L.length = n := ⟨_, rfl⟩
  have HD := Lib.hid hd
  rw [hd] at HR
  rw [hd] at hn ⊢
  clear hd
  have HNo : Hid ((∀ x ∈ (L.take n : List (Int)), p x = false) → L.any p = false) := fun h => by rw [List.any_eq_false]; intro x hx; rw [h x (by rw [List.take_of_length_le (by have := HD.out; omega)]; exact hx)]; simp
  go_enter Try.func62, Try.ntmps62
  go_wp2
  go_loopw [8] (fun iv wr => ∃ k : Nat, k ≤ n ∧ iv = .int .i64 k ∧ Hid (∀ x ∈ (L.take k : List (Int)), p x = false) ∧ Hid (Below w.heap.size w wr)) (fun iv _ => n - (RowKit.intOf iv).toNat)
  case atStart => exact ⟨0, Nat.zero_le _, rfl, fun x hx => (by simp at hx), Below.refl _ _⟩
  case round =>
    obtain ⟨k, hk9, rfl, HV, HB⟩ := hrel
    by_cases hlt : k < n
    · obtain ⟨x, hx⟩ : ∃ x : Int, L[k]? = some x := ⟨_, List.getElem?_eq_getElem (by rw [HD.out]; exact hlt)⟩
      obtain ⟨b, off, rfl, hcap, q0⟩ := int_at (HR.out.below HB.out (Nat.le_refl _)) hlt
      have hxe : getI L k = x := by unfold getI; rw [List.getD_eq_getElem?_getD, hx]; rfl
      rw [hxe] at q0
      clear hxe
      have hj1 : (k : Int) < (n : Int) := by omega
      have HTK : Hid (p x = false → ∀ y ∈ (L.take (k + 1) : List (Int)), p y = false) := fun h y hy => by
        rw [List.take_add_one, hx] at hy
        rcases List.mem_append.1 hy with hy | hy
        · exact HV.out y hy
        · rw [List.mem_singleton.1 hy]; exact h
      have HY : Hid (p x = true → true = L.any p) := fun h => (List.any_eq_true.2 ⟨x, List.mem_of_getElem? hx, h⟩).symm
      have CP := Lib.hid (HP.out x)
      clear hx HV
      generalize p x = r at *
      skip
      go_wp2_with fail
      refine (CP.out _ HB.out).mono ?_
      rintro e w1 ⟨rfl, b⟩
      have HB1 := Lib.hid (HB.out.trans (b.mono HB.out.size))
      clear b CP HB
      cases r with
      | true =>
        have HYY := Lib.hid (HY.out rfl)
        clear HTK HY
        go_wp2
        go_ret
        exact ⟨⟨_, rfl, (decide_eq_true (by omega)).trans HYY.out⟩, HB1.out⟩
      | false =>
        have HVN := Lib.hid (HTK.out rfl)
        clear HTK HY
        go_wp2
        go_roundw
        case rel => exact ⟨k + 1, by omega, by go_num, HVN, HB1⟩
        case measure => simp [RowKit.intOf]; omega
    obtain rfl : k = n := by omega
    have HE := Lib.hid (HNo.out HV.out)
    clear HV
    go_wp2
    go_ret
    exact ⟨⟨_, rfl, by rw [HE.out]; decide⟩, HB.out⟩
theorem cont_noDay (p : Int → Bool) (v : Value) (L : List Int) (w : World) (h : IntRow w v L.length (getI L))
    (hP : ∀ (x : Int) (wa : World), Below w.heap.size w wa → Calls Try.prog 50 #[.int .i64 x] wa fun e w' => e = .returned (.bool (p x)) ∧ Below wa.heap.size wa w') :
    Calls Try.prog 49 #[v, .func (.func 50) #[] #[]] w fun e w' => e = .returned (.bool (L.any p)) ∧ Below w.heap.size w w' := by
  have C := Lib.hid (idx_noDay p v L  w h hP)
  clear h hP
  generalize L.any p = R at *
  go_enter Try.func49, Try.ntmps49
  go_wp2_with fail
  refine C.out.mono ?_
  rintro e w1 ⟨⟨z, rfl, hz⟩, b⟩
  have HB := Lib.hid b
  have HZ := Lib.hid hz
  clear b hz C
  go_wp2
  go_ret
  exact ⟨by rw [HZ.out]; rfl, HB.out⟩

def badC (n : Int) (c : tClosed.D) : Bool := decide (clT c < 0) || decide (n ≤ clT c) || decide (clF c < 0) || decide (clU c < clF c) || decide (60 < clU c)
theorem badC_iff (n : Int) (c : tClosed.D) : badC n c = false ↔ okC n c := by
  unfold badC okC
  simp only [Bool.or_eq_false_iff, decide_eq_false_iff_not]
  omega
set_option maxRecDepth 100000 in
theorem closedOkP_impl (n : Int) (c : tClosed.D) (B1 : Nat) (w : World) (v1 : BoxN w B1 [.int .i64 n]) :
    Calls Try.prog 32 #[.agg #[.int .i64 (clT c), .int .i64 (clF c), .int .i64 (clU c)], .pointer (some ⟨B1, 0, none⟩)] w fun e w' => e = .returned (.bool (badC n c)) ∧ Below w.heap.size w w' := by
  have l1 := v1.1
  have c1 := v1.2 0 _ rfl
  clear v1
  unfold badC
  generalize clT c = t at *
  generalize clF c = f at *
  generalize clU c = u at *
  have HBA : Hid (∀ o, Below w.heap.size w (w.alloc o)) := fun o => (Below.refl _ _).alloc (Nat.le_refl _) o
  cases g1 : decide (t < 0) with
  | true =>
    go_enter Try.func32, Try.ntmps32
    go_wp2
    go_ret
    exact ⟨rfl, HBA.out _⟩
  | false =>
  cases g2 : decide (n ≤ t) with
  | true =>
    go_enter Try.func32, Try.ntmps32
    go_wp2
    go_ret
    exact ⟨rfl, HBA.out _⟩
  | false =>
  cases g3 : decide (f < 0) with
  | true =>
    go_enter Try.func32, Try.ntmps32
    go_wp2
    go_ret
    exact ⟨rfl, HBA.out _⟩
  | false =>
  cases g4 : decide (u < f) with
  | true =>
    go_enter Try.func32, Try.ntmps32
    go_wp2
    go_ret
    exact ⟨rfl, HBA.out _⟩
  | false =>
    go_enter Try.func32, Try.ntmps32
    go_wp2
    go_ret
    exact ⟨rfl, HBA.out _⟩
theorem holds_impl (c : tClosed.D) (tm day : Int) (w : World) :
    Calls Try.prog 56 #[.agg #[.int .i64 (clT c), .int .i64 (clF c), .int .i64 (clU c)], .int .i64 tm, .int .i64 day] w fun e w' => e = .returned (.bool (clT c == tm && (decide (clF c ≤ day) && decide (day ≤ clU c)))) ∧ Below w.heap.size w w' := by
  generalize clT c = t at *
  generalize clF c = f at *
  generalize clU c = u at *
  have HBA : Hid (∀ o, Below w.heap.size w (w.alloc o)) := fun o => (Below.refl _ _).alloc (Nat.le_refl _) o
  cases g1 : t == tm with
  | false =>
    go_enter Try.func56, Try.ntmps56
    go_wp2
    go_ret
    exact ⟨rfl, HBA.out _⟩
  | true =>
  cases g2 : decide (f ≤ day) with
  | false =>
    go_enter Try.func56, Try.ntmps56
    go_wp2
    go_ret
    exact ⟨rfl, HBA.out _⟩
  | true =>
    go_enter Try.func56, Try.ntmps56
    go_wp2
    go_ret
    exact ⟨rfl, HBA.out _⟩
theorem isClosedP_impl (c : tClosed.D) (tm day : Int) (B1 B2 : Nat) (w : World) (v1 : BoxN w B1 [.int .i64 tm]) (v2 : BoxN w B2 [.int .i64 day]) :
    Calls Try.prog 55 #[.agg #[.int .i64 (clT c), .int .i64 (clF c), .int .i64 (clU c)], .pointer (some ⟨B1, 0, none⟩), .pointer (some ⟨B2, 0, none⟩)] w fun e w' => e = .returned (.bool (clT c == tm && (decide (clF c ≤ day) && decide (day ≤ clU c)))) ∧ Below w.heap.size w w' := by
  have l1 := v1.1
  have l2 := v2.1
  have c1 := v1.2 0 _ rfl
  have c2 := v2.2 0 _ rfl
  clear v1 v2
  have C := Lib.hid (fun w1 => holds_impl c tm day w1)
  generalize (clT c == tm && (decide (clF c ≤ day) && decide (day ≤ clU c))) = r at *
  generalize clT c = t at *
  generalize clF c = f at *
  generalize clU c = u at *
  go_enter Try.func55, Try.ntmps55
  go_wp2_with fail
  refine (C.out _).mono ?_
  rintro e w1 ⟨rfl, b1⟩
  have b2 := below_prev b1
  go_wp2
  go_ret
  exact ⟨rfl, b2⟩
theorem isClosed_impl (tm day : Int) (v : Value) (C : ClosL) (w : World) (h : RdA tClosedS w [v] C) :
    Calls Try.prog 37 #[.int .i64 tm, .int .i64 day, v] w fun e w' => e = .returned (.bool (shutB tm day C)) ∧ Below w.heap.size w w' := by
  have b1 : Below w.heap.size w ((w.alloc (.cells #[.int .i64 tm] 3)).alloc (.cells #[.int .i64 day] 3)) := ((Below.refl _ _).alloc (Nat.le_refl _) _).alloc (by simp) _
  have hv1 := h.below b1
  have B1 : BoxN (w.alloc (.cells #[.int .i64 tm] 3)) w.heap.size [.int .i64 tm] := BoxN.made (Below.refl _ _) rfl
  have B2 : BoxN ((w.alloc (.cells #[.int .i64 tm] 3)).alloc (.cells #[.int .i64 day] 3)) (w.heap.size + 1) [.int .i64 day] := BoxN.made (Below.refl _ _) (by simp)
  have B3 := B1.below ((Below.refl _ _).alloc (Nat.le_refl _) (.cells #[.int .i64 day] 3))
  have CC := Lib.hid (cont_shut (fun c => clT c == tm && (decide (clF c ≤ day) && decide (day ≤ clU c))) v C (.pointer (some ⟨w.heap.size, 0, none⟩)) (.pointer (some ⟨w.heap.size + 1, 0, none⟩)) _ hv1
    (fun x wa hb => isClosedP_impl x tm day w.heap.size (w.heap.size + 1) wa (B3.below hb) (B2.below hb)))
  unfold shutB
  generalize C.any (fun c => clT c == tm && (decide (clF c ≤ day) && decide (day ≤ clU c))) = R at *
  clear h hv1 B1 B2 B3
  go_enter Try.func37, Try.ntmps37
  go_wp2_with fail
  refine CC.out.mono ?_
  rintro e w2 ⟨rfl, b2⟩
  have b3 := b1.trans (b2.mono b1.size)
  go_wp2
  go_ret
  exact ⟨rfl, b3⟩
theorem canPlayP_impl (p : tPair.D) (day : Int) (a : Option Addr) (c : Nat) (C : ClosL) (B1 B2 : Nat) (w : World) (v1 : BoxN w B1 [.int .i64 day]) (v2 : BoxN w B2 [.slice a (List.length (α := tClosed.D) C) c]) (h : RdA tClosedS w [.slice a (List.length (α := tClosed.D) C) c] C) :
    Calls Try.prog 36 #[.agg #[.int .i64 (hm p), .int .i64 (aw p)], .pointer (some ⟨B1, 0, none⟩), .pointer (some ⟨B2, 0, none⟩)] w fun e w' => e = .returned (.bool (shutB (hm p) day C)) ∧ Below w.heap.size w w' := by
  have l1 := v1.1
  have l2 := v2.1
  have c1 := v1.2 0 _ rfl
  have c2 := v2.2 0 _ rfl
  have HH := Lib.hid h
  clear v1 v2 h
  have CC : Hid (∀ w1, RdA tClosedS w1 [.slice a (List.length (α := tClosed.D) C) c] C → Calls Try.prog 37 #[.int .i64 (hm p), .int .i64 day, .slice a (List.length (α := tClosed.D) C) c] w1 fun e w' => e = .returned (.bool (shutB (hm p) day C)) ∧ Below w1.heap.size w1 w') := fun w1 h1 => isClosed_impl (hm p) day _ C w1 h1
  generalize shutB (hm p) day C = r at *
  generalize List.length (α := tClosed.D) C = m at *
  generalize hm p = ph at *
  generalize aw p = pa at *
  have HBA : Hid (Below w.heap.size w (w.alloc (.cells #[.int .i64 ph, .int .i64 pa] 63))) := (Below.refl _ _).alloc (Nat.le_refl _) _
  go_enter Try.func36, Try.ntmps36
  go_wp2_with fail
  refine (CC.out _ (HH.out.below HBA.out)).mono ?_
  rintro e w1 ⟨rfl, b1⟩
  have HB := Lib.hid (HBA.out.trans (b1.mono HBA.out.size))
  clear b1
  go_wp2
  go_ret
  exact ⟨rfl, HB.out⟩
theorem canPlayOn_impl (vr : Value) (r : PairL) (day : Int) (vc : Value) (C : ClosL) (w : World) (h : RdA tPairS w [vr] r) (hc : RdA tClosedS w [vc] C) :
    Calls Try.prog 16 #[vr, .int .i64 day, vc] w fun e w' => e = .returned (.bool (playB r day C)) ∧ Below w.heap.size w w' := by
  obtain ⟨ca, cc, rfl, hcn⟩ := clos_form hc
  have b1 : Below w.heap.size w ((w.alloc (.cells #[.int .i64 day] 3)).alloc (.cells #[.slice ca (List.length (α := tClosed.D) C) cc] 25)) := ((Below.refl _ _).alloc (Nat.le_refl _) _).alloc (by simp) _
  have hv1 := h.below b1
  have hc1 := hc.below b1
  have B1 : BoxN (w.alloc (.cells #[.int .i64 day] 3)) w.heap.size [.int .i64 day] := BoxN.made (Below.refl _ _) rfl
  have B2 : BoxN ((w.alloc (.cells #[.int .i64 day] 3)).alloc (.cells #[.slice ca (List.length (α := tClosed.D) C) cc] 25)) (w.heap.size + 1) [.slice ca (List.length (α := tClosed.D) C) cc] := BoxN.made (Below.refl _ _) (by simp)
  have B3 := B1.below ((Below.refl _ _).alloc (Nat.le_refl _) (.cells #[.slice ca (List.length (α := tClosed.D) C) cc] 25))
  have CC := Lib.hid (cont_play (fun p => shutB (hm p) day C) vr r (.pointer (some ⟨w.heap.size, 0, none⟩)) (.pointer (some ⟨w.heap.size + 1, 0, none⟩)) _ hv1
    (fun x wa hb => canPlayP_impl x day ca cc C w.heap.size (w.heap.size + 1) wa (B3.below hb) (B2.below hb) (hc1.below hb)))
  have e : playB r day C = !(r.any fun p => shutB (hm p) day C) := by unfold playB; rw [List.not_any_eq_all_not]
  rw [e]
  clear e
  generalize r.any (fun p => shutB (hm p) day C) = R at *
  generalize List.length (α := tClosed.D) C = m at *
  clear h hv1 hc hc1 B1 B2 B3
  go_enter Try.func16, Try.ntmps16
  go_wp2_with fail
  refine CC.out.mono ?_
  rintro e w2 ⟨rfl, b2⟩
  have b3 := b1.trans (b2.mono b1.size)
  go_wp2
  go_ret
  exact ⟨rfl, b3⟩
theorem closedOk_impl (n : Int) (v : Value) (C : ClosL) (R : Bool) (w : World) (hR : R = true ↔ closedP n C) (h : RdA tClosedS w [v] C) :
    Calls Try.prog 11 #[.int .i64 n, v] w fun e w' => e = .returned (.bool R) ∧ Below w.heap.size w w' := by
  obtain ⟨a, c, rfl, hn⟩ := clos_form h
  have b1 : Below w.heap.size w (w.alloc (.cells #[.int .i64 n] 3)) := (Below.refl _ _).alloc (Nat.le_refl _) _
  have hv1 := h.below b1
  have B1 : BoxN (w.alloc (.cells #[.int .i64 n] 3)) w.heap.size [.int .i64 n] := BoxN.made (Below.refl _ _) rfl
  have CC := Lib.hid (cont_okC (badC n) _ C (.pointer (some ⟨w.heap.size, 0, none⟩)) _ hv1 (fun x wa hb => closedOkP_impl n x w.heap.size wa (B1.below hb)))
  have HB1 := Lib.hid b1
  have e : R = (decide (List.length (α := tClosed.D) C ≤ 8) && !(C.any (badC n))) := by
    rw [Bool.eq_iff_iff, hR]
    unfold closedP
    rw [Bool.and_eq_true, decide_eq_true_eq, Bool.not_eq_true', List.any_eq_false]
    exact and_congr Iff.rfl (forall_congr' fun x => imp_congr Iff.rfl ((badC_iff n x).symm.trans (by simp)))
  subst e
  clear hR h hv1 B1 b1
  generalize C.any (badC n) = r at *
  generalize List.length (α := tClosed.D) C = m at *
  by_cases h8 : m ≤ 8
  · have g1 : decide ((m : Int) ≤ 8) = true := decide_eq_true (by omega)
    have g1' : decide (m ≤ 8) = true := decide_eq_true h8
    rw [g1', Bool.true_and]
    go_enter Try.func11, Try.ntmps11
    go_wp2_with fail
    refine CC.out.mono ?_
    rintro e w2 ⟨rfl, b2⟩
    have HB := Lib.hid (HB1.out.trans (b2.mono HB1.out.size))
    clear b2 CC
    go_wp2
    go_ret
    exact ⟨rfl, HB.out⟩
  · have g1 : decide ((m : Int) ≤ 8) = false := decide_eq_false (by omega)
    have g1' : decide (m ≤ 8) = false := decide_eq_false h8
    rw [g1', Bool.false_and]
    go_enter Try.func11, Try.ntmps11
    go_wp2
    go_ret
    exact ⟨rfl, HB1.out⟩
theorem lastDay_impl (v : Value) (L : List Int) (w : World) (h : IntRow w v L.length (getI L)) :
    Calls Try.prog 26 #[v] w fun e w' => e = .returned (.int .i64 (lastD L)) ∧ Below w.heap.size w w' := by
  obtain ⟨a, c, rfl, hn, hc⟩ := h.form
  have HV := Lib.hid h
  clear h hc
  unfold lastD
  obtain ⟨n, hl⟩ : ∃ n, L.length = n := ⟨_, rfl⟩
  rw [hl] at hn HV ⊢
  clear hl
  by_cases h0 : n = 0
  · subst h0
    rw [if_pos rfl]
    go_enter Try.func26, Try.ntmps26
    go_wp2
    go_ret
    exact ⟨rfl, Below.refl _ _⟩
  · rw [if_neg h0]
    obtain ⟨b, off, rfl, hcap, q0⟩ := int_at HV.out (show n - 1 < n by omega)
    have g0 : ((n : Int) == 0) = false := beq_eq_false_iff_ne.2 (by omega)
    have g1 : ¬ (n : Int) = 0 := by omega
    have e1 : ((n : Int) - 1).toNat = n - 1 := by omega
    have h1 : (0 : Int) ≤ (n : Int) - 1 := by omega
    generalize getI L (n - 1) = x at *
    go_enter Try.func26, Try.ntmps26
    go_wp2
    go_ret
    exact ⟨rfl, Below.refl _ _⟩
end Go.Proofs.Ytcbpgbiannpfpaa
set_option linter.unusedVariables false
namespace Go.Proofs.Ytcbpgbiannpfpaa
open Go.RowKit

def fromL (f : Int) (L : List Int) : List Int := L.filter fun d => decide (f ≤ d)
def cutN (f : Int) (L : List Int) : Nat := L.countP fun d => decide (d < f)
def AscL (L : List Int) : Prop := L.Pairwise (· ≤ ·)
theorem cutN_le (f : Int) (L : List Int) : cutN f L ≤ L.length := List.countP_le_length
theorem drop_from (f : Int) : ∀ L : List Int, AscL L → L.drop (cutN f L) = fromL f L
  | [], _ => rfl
  | a :: r, h => by
    have hr := List.pairwise_cons.1 h
    by_cases ha : a < f
    · have e1 : cutN f (a :: r) = cutN f r + 1 := List.countP_cons_of_pos (by simpa using ha)
      have e2 : fromL f (a :: r) = fromL f r := List.filter_cons_of_neg (by simp; omega)
      rw [e1, e2, List.drop_succ_cons]
      exact drop_from f r hr.2
    · have e1 : cutN f (a :: r) = 0 := List.countP_eq_zero.2 fun x hx => by
        rcases List.mem_cons.1 hx with rfl | hx
        · simpa using ha
        · have := hr.1 x hx; simp; omega
      have e2 : fromL f (a :: r) = a :: r := List.filter_eq_self.2 fun x hx => by
        rcases List.mem_cons.1 hx with rfl | hx
        · simp; omega
        · have := hr.1 x hx; simp; omega
      rw [e1, e2]; rfl
theorem asc_from (f : Int) {L : List Int} (h : AscL L) : AscL (fromL f L) := List.Pairwise.filter _ h
theorem days_asc {L : List Int} (h : daysP L) : AscL L := by
  unfold AscL
  have key : ∀ d a, a + d < L.length → getI L a ≤ getI L (a + d) := by
    intro d
    induction d with
    | zero => intro a _; exact Int.le_refl _
    | succ d ih =>
      intro a ha
      have h1 := ih a (by omega)
      have h2 := (h (a + (d + 1)) ha).2 (by omega)
      rw [show a + (d + 1) - 1 = a + d by omega] at h2
      omega
  rw [List.pairwise_iff_getElem]
  intro i j hi hj hij
  have := key (j - i) i (by omega)
  rw [show i + (j - i) = j by omega] at this
  simpa [getI, hi, hj] using this
theorem asc_at {L : List Int} (h : AscL L) : ∀ a b, a ≤ b → b < L.length → getI L a ≤ getI L b := by
  intro a b hab hb
  have := Lib.sorted_at L L.length (Nat.le_refl _) (by rw [List.take_length]; exact h) a b hab hb
  exact this
theorem cut_is {f : Int} {L : List Int} {k : Nat} (hk : k ≤ L.length) (h1 : ∀ j, j < k → getI L j < f) (h2 : ∀ j, k ≤ j → j < L.length → f ≤ getI L j) : cutN f L = k :=
  Lib.countP_split _ L k hk (fun j hj => by simpa [getI] using h1 j hj) (fun j hj hl => by simpa [getI] using h2 j hj hl)
theorem isNaN_impl (x : Int) (w : World) : Calls Try.prog 68 #[.int .i64 x] w fun e w' => e = .returned (.bool false) ∧ w' = w := by
  go_enter Try.func68, Try.ntmps68
  go_wp2
  go_ret
  exact ⟨by simp, rfl⟩
theorem cmpNaN_impl (x : Int) (w : World) : Calls Try.prog 72 #[.int .i64 x] w fun e w' => e = .returned (.bool false) ∧ w' = w := by
  go_enter Try.func72, Try.ntmps72
  go_wp2
  go_ret
  exact ⟨by simp, rfl⟩
theorem cmpLess_impl (x y : Int) (w : World) : Calls Try.prog 67 #[.int .i64 x, .int .i64 y] w fun e w' => e = .returned (.bool (decide (x < y))) ∧ w' = w := by
  go_enter Try.func67, Try.ntmps67
  go_wp2_with (go_at_call 72; refine (cmpNaN_impl _ _).mono ?_; rintro e w' ⟨rfl, rfl⟩)
  go_ret
  exact ⟨rfl, rfl⟩
set_option maxRecDepth 1000000 in
set_option maxHeartbeats 4000000 in
theorem bsearch_impl (v : Value) (L : List Int) (x : Int) (w : World) (h : IntRow w v L.length (getI L)) (hs : AscL L) (hbig : L.length < 4611686018427387904) :
    Calls Try.prog 61 #[v, .int .i64 x] w fun e w' => (∃ r : Bool, e = .returned (.tuple #[.int .i64 (cutN x L : Nat), .bool r])) ∧ Below w.heap.size w w' := by
  obtain ⟨a, c, rfl, hn, _⟩ := h.form
  have HR := Lib.hid h
  have HS := Lib.hid (asc_at hs)
  have HC : Hid (∀ k, k ≤ L.length → (∀ j, j < k → getI L j < x) → (∀ j, k ≤ j → j < L.length → x ≤ getI L j) → cutN x L = k) := fun k h0 h1 h2 => cut_is h0 h1 h2
  clear h hs
  generalize cutN x L = N at *
  obtain ⟨n, hd⟩ : ∃ n, L.length = n := ⟨_, rfl⟩
  rw [hd] at hn hbig HR HS HC ⊢
  clear hd
  generalize getI L = g at *
  go_enter Try.func61, Try.ntmps61
  go_wp2
  go_loopg [7, 8] n (fun gh s7 s8 wr => ∃ lo hi : Nat, s7 = .int .i64 lo ∧ s8 = .int .i64 hi ∧ lo ≤ hi ∧ hi ≤ n ∧ hi - lo ≤ gh ∧ Hid (Below w.heap.size w wr) ∧ Hid (∀ t, t < lo → g t < x) ∧ Hid (∀ t, hi ≤ t → t < n → x ≤ g t))
  case atStart => exact ⟨0, n, rfl, rfl, Nat.zero_le _, Nat.le_refl _, by omega, Below.refl _ _, fun t ht => absurd ht (Nat.not_lt_zero _), fun t h1 h2 => by omega⟩
  case round =>
    obtain ⟨lo, hi, rfl, rfl, hlh, hin, hg, HB, H1, H2⟩ := hrel
    by_cases hlt : lo < hi
    · obtain ⟨b, off, rfl, hcap, cm⟩ := int_at (HR.out.below HB.out (Nat.le_refl _)) (show (lo + hi) / 2 < n by omega)
      have HY : Hid (∀ t, t ≤ (lo + hi) / 2 → g t ≤ g ((lo + hi) / 2)) := fun t ht => HS.out t _ ht (by omega)
      have HZ : Hid (∀ t, (lo + hi) / 2 ≤ t → t < n → g ((lo + hi) / 2) ≤ g t) := fun t ht h9 => HS.out _ t ht h9
      generalize g ((lo + hi) / 2) = y at *
      by_cases hyx : y < x
      · go_wp2_with (first | (go_at_call 67; refine (cmpLess_impl _ _ _).mono ?_; rintro e w' ⟨rfl, rfl⟩) | (go_at_call 68; refine (isNaN_impl _ _).mono ?_; rintro e w' ⟨rfl, rfl⟩))
        go_roundg (hi - ((lo + hi) / 2 + 1))
        case measure => omega
        case rel => exact ⟨(lo + hi) / 2 + 1, hi, by rw [show ((lo : Int) + (hi : Int)) / 2 + 1 = (((lo + hi) / 2 + 1 : Nat) : Int) by omega], rfl, by omega, hin, Nat.le_refl _, HB, fun t ht => (by have := HY.out t (by omega); omega), H2⟩
      · go_wp2_with (first | (go_at_call 67; refine (cmpLess_impl _ _ _).mono ?_; rintro e w' ⟨rfl, rfl⟩) | (go_at_call 68; refine (isNaN_impl _ _).mono ?_; rintro e w' ⟨rfl, rfl⟩))
        go_roundg ((lo + hi) / 2 - lo)
        case measure => omega
        case rel => exact ⟨lo, (lo + hi) / 2, rfl, by rw [show ((lo : Int) + (hi : Int)) / 2 = (((lo + hi) / 2 : Nat) : Int) by omega], by omega, by omega, Nat.le_refl _, HB, H1, fun t ht h9 => (by have := HZ.out t ht h9; omega)⟩
    · obtain rfl : hi = lo := by omega
      obtain rfl := HC.out hi hin H1.out H2.out
      clear HC H1 H2 HS
      by_cases hn2 : N < n
      · obtain ⟨b, off, rfl, hcap, cl⟩ := int_at (HR.out.below HB.out (Nat.le_refl _)) hn2
        clear HR
        generalize g N = y at *
        by_cases hyx : y = x
        · go_wp2_with (first | (go_at_call 67; refine (cmpLess_impl _ _ _).mono ?_; rintro e w' ⟨rfl, rfl⟩) | (go_at_call 68; refine (isNaN_impl _ _).mono ?_; rintro e w' ⟨rfl, rfl⟩))
          go_ret2
          exact ⟨⟨_, rfl⟩, HB.out⟩
        · go_wp2_with (first | (go_at_call 67; refine (cmpLess_impl _ _ _).mono ?_; rintro e w' ⟨rfl, rfl⟩) | (go_at_call 68; refine (isNaN_impl _ _).mono ?_; rintro e w' ⟨rfl, rfl⟩))
          go_ret2
          exact ⟨⟨_, rfl⟩, HB.out⟩
      · clear HR
        go_wp2_with (first | (go_at_call 67; refine (cmpLess_impl _ _ _).mono ?_; rintro e w' ⟨rfl, rfl⟩) | (go_at_call 68; refine (isNaN_impl _ _).mono ?_; rintro e w' ⟨rfl, rfl⟩))
        go_ret2
        exact ⟨⟨_, rfl⟩, HB.out⟩
def subV (k : Nat) : Value → Value
  | .slice a n c => .slice (if c = k then a else a.map fun x => x.add k) (n - k) (c - k)
  | v => v
theorem subV_slice (k : Nat) (a : Option Addr) (n c : Nat) : subV k (.slice a n c) = .slice (if c = k then a else a.map fun x => x.add k) (n - k) (c - k) := rfl
theorem subV_row {w : World} {v : Value} {n k : Nat} {g : Nat → Int} (h : IntRow w v n g) (hk : k ≤ n) : IntRow w (subV k v) (n - k) (fun i => g (k + i)) := by
  by_cases e : n = k
  · subst e
    obtain ⟨a, c, rfl, _, _⟩ := h.form
    exact .inl ⟨_, _, by rw [subV_slice, Nat.sub_self], Nat.sub_self _⟩
  rcases h with ⟨a, c, rfl, h0⟩ | ⟨b, off, c, rfl, h0, hn, hc, hcap⟩
  · omega
  · refine .inr ⟨b, off + k, c - k, ?_, by omega, by omega, fun i hi => ?_, by omega⟩
    · rw [subV_slice, if_neg (by omega)]; simp [Addr.add]
    · rw [Nat.add_assoc]; exact hc (k + i) (by omega)
theorem getI_drop (L : List Int) (k i : Nat) : getI (L.drop k) i = getI L (k + i) := by unfold getI; rw [List.getD_eq_getElem?_getD, List.getD_eq_getElem?_getD, List.getElem?_drop]
theorem subV_from {w : World} {v : Value} {L : List Int} (h : IntRow w v L.length (getI L)) (hs : AscL L) (f : Int) : IntRow w (subV (cutN f L) v) (fromL f L).length (getI (fromL f L)) := by
  rw [← drop_from f L hs, List.length_drop]
  exact (subV_row h (cutN_le f L)).congr fun i _ => (getI_drop L _ i).symm
set_option maxRecDepth 100000 in
theorem daysFrom_impl (v : Value) (L : List Int) (x : Int) (w : World) (h : IntRow w v L.length (getI L)) (hs : AscL L) (hbig : L.length < 4611686018427387904) :
    Calls Try.prog 46 #[v, .int .i64 x] w fun e w' => e = .returned (subV (cutN x L) v) ∧ Below w.heap.size w w' := by
  have hcap : ∃ a c, v = .slice a L.length c ∧ (L.length ≤ c ∨ L.length = 0) ∧ L.length ≤ 9223372036854775807 := by
    rcases h with ⟨a, c, rfl, h0⟩ | ⟨b, off, c, rfl, h0, hn, hc, hcap⟩
    · exact ⟨a, c, by rw [h0], .inr h0, by omega⟩
    · exact ⟨_, c, rfl, .inl hcap, hn⟩
  obtain ⟨a, c, rfl, hcap, hn⟩ := hcap
  have hk := cutN_le x L
  have C := Lib.hid (bsearch_impl _ L x w h hs hbig)
  generalize cutN x L = k at *
  generalize L.length = n at *
  have hkc : k ≤ c := by omega
  clear h hs
  rw [subV_slice]
  by_cases e : c = k
  · rw [if_pos e]
    subst e
    go_enter Try.func46, Try.ntmps46
    go_wp2_with fail
    refine C.out.mono ?_
    rintro e w1 ⟨⟨r, rfl⟩, b⟩
    have HB := Lib.hid b
    clear b C
    go_wp2
    go_ret
    exact ⟨by rw [Nat.sub_self]; rfl, HB.out⟩
  · rw [if_neg e]
    go_enter Try.func46, Try.ntmps46
    go_wp2_with fail
    refine C.out.mono ?_
    rintro e w1 ⟨⟨r, rfl⟩, b⟩
    have HB := Lib.hid b
    clear b C
    go_wp2
    go_ret
    exact ⟨rfl, HB.out⟩
def noDayB (d : Int) : Bool := decide (d < 0) || decide (60 < d)
theorem isNoDay_impl (d : Int) (w : World) :
    Calls Try.prog 50 #[.int .i64 d] w fun e w' => e = .returned (.bool (noDayB d)) ∧ Below w.heap.size w w' := by
  unfold noDayB
  cases g1 : decide (d < 0) with
  | true =>
    go_enter Try.func50, Try.ntmps50
    go_wp2
    go_ret
    exact ⟨rfl, Below.refl _ _⟩
  | false =>
    go_enter Try.func50, Try.ntmps50
    go_wp2
    go_ret
    exact ⟨rfl, Below.refl _ _⟩
theorem noDays_impl (v : Value) (L : List Int) (w : World) (h : IntRow w v L.length (getI L)) :
    Calls Try.prog 49 #[v, .func (.func 50) #[] #[]] w fun e w' => e = .returned (.bool (L.any noDayB)) ∧ Below w.heap.size w w' :=
  cont_noDay noDayB v L w h fun x wa _ => isNoDay_impl x wa
theorem noDays_iff (L : List Int) : L.any noDayB = false ↔ ∀ i, i < L.length → 0 ≤ getI L i ∧ getI L i ≤ 60 := by
  rw [List.any_eq_false]
  constructor
  · intro h i hi
    have := h (getI L i) (by unfold getI; rw [List.getD_eq_getElem?_getD, List.getElem?_eq_getElem hi]; exact List.getElem_mem hi)
    unfold noDayB at this
    simp at this
    omega
  · intro h x hx
    obtain ⟨i, hi, rfl⟩ := List.mem_iff_getElem.1 hx
    have := h i hi
    unfold getI at this
    rw [List.getD_eq_getElem?_getD, List.getElem?_eq_getElem hi] at this
    unfold noDayB
    simp only [Option.getD_some] at this
    simp
    omega
set_option maxRecDepth 100000 in
set_option maxHeartbeats 4000000 in
theorem areDays_impl (v : Value) (L : List Int) (R : Bool) (w : World) (hR : R = true ↔ L.length ≤ 30 ∧ daysP L) (h : IntRow w v L.length (getI L)) :
    Calls Try.prog 59 #[v] w fun e w' => e = .returned (.bool R) ∧ Below w.heap.size w w' := by
  obtain ⟨a, c, rfl, hn, _⟩ := h.form
  have HR := Lib.hid h
  have C := Lib.hid (noDays_impl _ L w h)
  obtain ⟨r, hr⟩ : ∃ r, L.any noDayB = r := ⟨_, rfl⟩
  have HD : Hid (r = false ↔ ∀ i, i < L.length → 0 ≤ getI L i ∧ getI L i ≤ 60) := by rw [← hr]; exact noDays_iff L
  rw [hr] at C
  have HQ := Lib.hid hR
  clear h hr hR
  obtain ⟨n, hd⟩ : ∃ n, L.length = n := ⟨_, rfl⟩
  have hQ2 : Hid (R = true ↔ n ≤ 30 ∧ (r = false ∧ ∀ i, i < n → 0 < i → getI L (i - 1) < getI L i)) := by
    refine HQ.out.trans ?_
    rw [HD.out, ← hd]
    unfold daysP
    constructor
    · rintro ⟨h1, h2⟩; exact ⟨h1, fun i hi => (h2 i hi).1, fun i hi h0 => (h2 i hi).2 h0⟩
    · rintro ⟨h1, h2, h3⟩; exact ⟨h1, fun i hi => ⟨h2 i hi, h3 i hi⟩⟩
  rw [hd] at hn HR C ⊢
  clear hd HQ HD
  generalize getI L = g at *
  by_cases h30 : n ≤ 30
  case neg =>
    have HF : R = false := by cases hr : R with | false => rfl | true => exact absurd (hQ2.out.1 hr).1 h30
    subst HF
    have g1 : decide ((30 : Int) < (n : Int)) = true := decide_eq_true (by omega)
    have g1' : decide (30 < n) = true := decide_eq_true (by omega)
    go_enter Try.func59, Try.ntmps59
    go_wp2
    go_ret
    exact ⟨rfl, Below.refl _ _⟩
  have g1 : decide ((30 : Int) < (n : Int)) = false := decide_eq_false (by omega)
  have g1' : decide (30 < n) = false := decide_eq_false (by omega)
  go_enter Try.func59, Try.ntmps59
  go_wp2_with fail
  refine C.out.mono ?_
  rintro e w1 ⟨rfl, b⟩
  have HB := Lib.hid b
  clear b C
  cases r with
  | true =>
    have HF : R = false := by cases hr : R with | false => rfl | true => exact absurd (hQ2.out.1 hr).2.1 (by simp)
    subst HF
    go_wp2
    go_ret
    exact ⟨rfl, HB.out⟩
  | false =>
  have HNo : Hid (∀ i, i < n → 0 < i → ¬ g (i - 1) < g i → R = false) := fun i hi h0 h9 => by cases hr : R with | false => rfl | true => exact absurd ((hQ2.out.1 hr).2.2 i hi h0) h9
  have HYes : Hid ((∀ i, i < n → 0 < i → g (i - 1) < g i) → R = true) := fun h9 => hQ2.out.2 ⟨h30, rfl, h9⟩
  clear hQ2 g1 g1'
  go_wp2
  go_loopw [3] (fun iv wr => ∃ k : Nat, 1 ≤ k ∧ (k ≤ n ∨ k = 1) ∧ iv = .int .i64 k ∧ Hid (∀ i, i < k → i < n → 0 < i → g (i - 1) < g i) ∧ Hid (Below w.heap.size w wr)) (fun iv _ => n - (RowKit.intOf iv).toNat)
  case atStart => exact ⟨1, Nat.le_refl _, .inr rfl, rfl, fun i h1 h2 h3 => by omega, HB⟩
  case round =>
    clear HB
    obtain ⟨k, hk1, hk9, rfl, HV, HB⟩ := hrel
    by_cases hlt : k < n
    · obtain ⟨b, off, rfl, hcap, q0⟩ := int_at (HR.out.below HB.out (Nat.le_refl _)) hlt
      obtain ⟨_, _, he, _, q1⟩ := int_at (HR.out.below HB.out (Nat.le_refl _)) (show k - 1 < n by omega)
      simp only [Option.some.injEq, Addr.mk.injEq, and_true] at he
      obtain ⟨rfl, rfl⟩ := he
      have hj1 : (k : Int) < (n : Int) := by omega
      have hj2 : (1 : Int) ≤ (k : Int) := by omega
      have hj3 : ((k : Int) - 1).toNat = k - 1 := by omega
      have HF := Lib.hid (HNo.out k hlt (by omega))
      have HVN : Hid (g (k - 1) < g k → ∀ i, i < k + 1 → i < n → 0 < i → g (i - 1) < g i) := fun h9 i h1 h2 h3 => by
        by_cases e : i = k
        · subst e; exact h9
        · exact HV.out i (by omega) h2 h3
      clear HV HNo HYes
      generalize hxe : g k = x at *
      generalize hye : g (k - 1) = y at *
      clear hxe hye
      by_cases hxy : y < x
      · have g2 : decide (x ≤ y) = false := decide_eq_false (by omega)
        have HVx := Lib.hid (HVN.out hxy)
        clear HVN HF
        go_wp2_with (go_quiet (fail))
        go_roundw
        case rel => exact ⟨k + 1, by omega, .inl (by omega), by go_num, HVx, below_drewN HB.out _⟩
        case measure => simp [RowKit.intOf]; omega
      · have g2 : decide (x ≤ y) = true := decide_eq_true (by omega)
        obtain rfl := HF.out (by omega)
        clear HVN HF
        go_wp2_with (go_quiet (fail))
        go_ret
        exact ⟨rfl, below_drewN HB.out _⟩
    obtain rfl := HYes.out (fun i hi h0 => HV.out i (by omega) hi h0)
    go_wp2
    go_ret
    exact ⟨rfl, HB.out⟩
end Go.Proofs.Ytcbpgbiannpfpaa
set_option linter.unusedVariables false
namespace Go.Proofs.Ytcbpgbiannpfpaa
open Go.RowKit

theorem bool_of {R : Bool} {p : Prop} (h : R = true ↔ p) (hp : p) : R = true := h.2 hp
theorem bool_not {R : Bool} {p : Prop} (h : R = true ↔ p) (hp : ¬ p) : R = false := by
  cases R with
  | false => rfl
  | true => exact absurd (h.1 rfl) hp

theorem areOpp_impl (n a b : Int) (R : Bool) (w : World) (hR : R = true ↔ (0 ≤ a ∧ a < n ∧ 0 ≤ b ∧ b < n ∧ a ≠ b)) :
    Calls Try.prog 71 #[.int .i64 n, .int .i64 a, .int .i64 b] w fun e w' => e = .returned (.bool R) ∧ w = w' := by
  have HN := Lib.hid (bool_not hR)
  have HY := Lib.hid (bool_of hR)
  clear hR
  by_cases h1 : 0 ≤ a
  case neg =>
    have g1 : decide (0 ≤ a) = false := decide_eq_false h1
    obtain rfl := HN.out fun h => h1 h.1
    clear HN HY h1
    go_enter Try.func71, Try.ntmps71
    go_wp2
    go_ret
    exact ⟨by first | rfl | exact congrArg (fun q => Ending.returned (Value.bool q)) (by unfold bne; rw [g5]; rfl), rfl⟩
  have g1 : decide (0 ≤ a) = true := decide_eq_true h1
  by_cases h2 : a < n
  case neg =>
    have g2 : decide (a < n) = false := decide_eq_false h2
    obtain rfl := HN.out fun h => h2 h.2.1
    clear HN HY h2
    go_enter Try.func71, Try.ntmps71
    go_wp2
    go_ret
    exact ⟨by first | rfl | exact congrArg (fun q => Ending.returned (Value.bool q)) (by unfold bne; rw [g5]; rfl), rfl⟩
  have g2 : decide (a < n) = true := decide_eq_true h2
  by_cases h3 : 0 ≤ b
  case neg =>
    have g3 : decide (0 ≤ b) = false := decide_eq_false h3
    obtain rfl := HN.out fun h => h3 h.2.2.1
    clear HN HY h3
    go_enter Try.func71, Try.ntmps71
    go_wp2
    go_ret
    exact ⟨by first | rfl | exact congrArg (fun q => Ending.returned (Value.bool q)) (by unfold bne; rw [g5]; rfl), rfl⟩
  have g3 : decide (0 ≤ b) = true := decide_eq_true h3
  by_cases h4 : b < n
  case neg =>
    have g4 : decide (b < n) = false := decide_eq_false h4
    obtain rfl := HN.out fun h => h4 h.2.2.2.1
    clear HN HY h4
    go_enter Try.func71, Try.ntmps71
    go_wp2
    go_ret
    exact ⟨by first | rfl | exact congrArg (fun q => Ending.returned (Value.bool q)) (by unfold bne; rw [g5]; rfl), rfl⟩
  have g4 : decide (b < n) = true := decide_eq_true h4
  by_cases h5 : a ≠ b
  case neg =>
    have g5 : (a == b) = true := by simpa using h5
    obtain rfl := HN.out fun h => h5 h.2.2.2.2
    clear HN HY h5
    go_enter Try.func71, Try.ntmps71
    go_wp2
    go_ret
    exact ⟨by first | rfl | exact congrArg (fun q => Ending.returned (Value.bool q)) (by unfold bne; rw [g5]; rfl), rfl⟩
  have g5 : (a == b) = false := beq_eq_false_iff_ne.2 h5
  obtain rfl := HY.out ⟨h1, h2, h3, h4, h5⟩
  clear HN HY h5
  go_enter Try.func71, Try.ntmps71
  go_wp2
  go_ret
  exact ⟨congrArg (fun q => Ending.returned (Value.bool q)) (by unfold bne; rw [g5]; rfl), rfl⟩
theorem bool_ex (p : Prop) : ∃ R : Bool, R = true ↔ p := by
  by_cases h : p
  · exact ⟨true, fun _ => h, fun _ => rfl⟩
  · exact ⟨false, (fun e => by cases e), fun e => absurd e h⟩
end Go.Proofs.Ytcbpgbiannpfpaa
set_option linter.unusedVariables false
namespace Go.Proofs.Ytcbpgbiannpfpaa
open Go.RowKit

def venueP (h a x : Int) : Int := if h = x then 1 else if a = x then 2 else 0
theorem venueOf_impl (h a x : Int) (w : World) :
    Calls Try.prog 73 #[.agg #[.int .i64 h, .int .i64 a], .int .i64 x] w fun e w' => e = .returned (.int .i64 (venueP h a x)) ∧ Below w.heap.size w w' := by
  have b1 : Below w.heap.size w (w.alloc (.cells #[.int .i64 h, .int .i64 a] 63)) := (Below.refl _ _).alloc (Nat.le_refl _) _
  have HB := Lib.hid b1
  clear b1
  by_cases h1 : h = x
  · have g1 : (x == h) = true := beq_iff_eq.2 h1.symm
    have e : venueP h a x = 1 := if_pos h1
    rw [e]
    clear h1 e
    go_enter Try.func73, Try.ntmps73
    go_wp2
    go_ret
    exact ⟨rfl, HB.out⟩
  have g1 : (x == h) = false := beq_eq_false_iff_ne.2 fun e => h1 e.symm
  by_cases h2 : a = x
  · have g2 : (x == a) = true := beq_iff_eq.2 h2.symm
    have e : venueP h a x = 2 := (if_neg h1).trans (if_pos h2)
    rw [e]
    clear h1 h2 e
    go_enter Try.func73, Try.ntmps73
    go_wp2
    go_ret
    exact ⟨rfl, HB.out⟩
  have g2 : (x == a) = false := beq_eq_false_iff_ne.2 fun e => h2 e.symm
  have e : venueP h a x = 0 := (if_neg h1).trans (if_neg h2)
  rw [e]
  clear h1 h2 e
  go_enter Try.func73, Try.ntmps73
  go_wp2
  go_ret
  exact ⟨rfl, HB.out⟩
set_option maxRecDepth 100000 in
set_option maxHeartbeats 2000000 in
theorem venueIn_impl (v : Value) (r : PairL) (x : Int) (w : World) (h : RdA tPairS w [v] r) :
    Calls Try.prog 69 #[v, .int .i64 x] w fun e w' => e = .returned (.int .i64 (venueL r x)) ∧ Below w.heap.size w w' := by
  obtain ⟨a, c, rfl, hn⟩ := pairs_form h
  have HR := Lib.hid h
  clear h
  obtain ⟨n, hd⟩ : ∃ n, List.length (α := tPair.D) r = n := ⟨_, rfl⟩
  have HD := Lib.hid hd
  rw [hd] at hn ⊢
  clear hd
  go_enter Try.func69, Try.ntmps69
  go_wp2
  go_loopw [10] (fun iv wr => ∃ i : Nat, i ≤ n ∧ iv = .int .i64 i ∧ Hid (venueL (r.drop i) x = venueL r x) ∧ Hid (Below w.heap.size w wr)) (fun iv _ => n - (RowKit.intOf iv).toNat)
  case atStart => exact ⟨0, Nat.zero_le _, rfl, rfl, Below.refl _ _⟩
  case round =>
    obtain ⟨i, hi9, rfl, HV, HB⟩ := hrel
    by_cases hlt : i < n
    · obtain ⟨p, hp⟩ : ∃ p : tPair.D, r[i]? = some p := ⟨_, List.getElem?_eq_getElem (by rw [HD.out]; exact hlt)⟩
      have HV2 := HV.out
      rw [drop_at hp, venueL_cons] at HV2
      have HRr := HR.out.below HB.out
      obtain ⟨b, off, rfl, hcap, q0, q1⟩ := pair_cells HRr hp
      rw [HD.out] at hcap
      have hj1 : (i : Int) < (n : Int) := by omega
      have HV3 := Lib.hid HV2
      clear HV HV2 HRr hp
      generalize hm p = ph at *
      generalize aw p = pa at *
      have C := Lib.hid (venueOf_impl ph pa x)
      have HB2 : Hid (Below w.heap.size w (wr.alloc (.cells #[.int .i64 ph, .int .i64 pa] 63))) := HB.out.alloc HB.out.size _
      have h0 : Hid (venueP ph pa x = 0 → venueL (r.drop (i + 1)) x = venueL r x) := fun e => by
        rw [← HV3.out]
        unfold venueP at e
        by_cases h1 : ph = x
        · rw [if_pos h1] at e; cases e
        · rw [if_neg h1] at e
          by_cases h2 : pa = x
          · rw [if_pos h2] at e; cases e
          · rw [if_neg h1, if_neg h2]
      have h1 : Hid (venueP ph pa x ≠ 0 → venueL r x = venueP ph pa x) := fun e => by
        rw [← HV3.out]
        unfold venueP at e ⊢
        by_cases h1 : ph = x
        · rw [if_pos h1, if_pos h1]
        · rw [if_neg h1] at e ⊢
          rw [if_neg h1]
          by_cases h2 : pa = x
          · rw [if_pos h2, if_pos h2]
          · rw [if_neg h2] at e; exact absurd rfl e
      clear HV3
      generalize venueP ph pa x = z at *
      by_cases hz : z = 0
      · have HVx := Lib.hid (h0.out hz)
        have gz : (z == 0) = true := beq_iff_eq.2 hz
        clear h0 h1 hz
        go_wp2_with fail
        refine (C.out _).mono ?_
        rintro e w1 ⟨rfl, b1⟩
        have HB3 := Lib.hid (HB2.out.trans (b1.mono HB2.out.size))
        clear b1 C HB2
        go_wp2
        go_roundw
        case rel => exact ⟨i + 1, by omega, by go_num, HVx, HB3⟩
        case measure => simp [RowKit.intOf]; omega
      · have HVx := Lib.hid (h1.out hz)
        have gz : (z == 0) = false := beq_eq_false_iff_ne.2 hz
        clear h0 h1 hz
        go_wp2_with fail
        refine (C.out _).mono ?_
        rintro e w1 ⟨rfl, b1⟩
        have HB3 := Lib.hid (HB2.out.trans (b1.mono HB2.out.size))
        clear b1 C HB2
        go_wp2
        go_ret
        exact ⟨by rw [HVx.out]; rfl, HB3.out⟩
    obtain rfl : i = n := by omega
    have HVx : Hid (venueL r x = 0) := by show _ = _; rw [← HV.out, List.drop_of_length_le (by have := HD.out; omega)]; rfl
    go_wp2
    go_ret
    exact ⟨by rw [HVx.out]; rfl, HB.out⟩
end Go.Proofs.Ytcbpgbiannpfpaa
set_option linter.unusedVariables false
namespace Go.Proofs.Ytcbpgbiannpfpaa
open Go.RowKit

def twoBoxes (f B1 B2 : Nat) : Value := .func (.func f) #[] #[.pointer (some ⟨B1, 0, none⟩), .pointer (some ⟨B2, 0, none⟩)]
end Go.Proofs.Ytcbpgbiannpfpaa
set_option linter.unusedVariables false
namespace Go.Proofs.Ytcbpgbiannpfpaa
open Go.RowKit

theorem SeenN.below {K : Nat} {w w' : World} {B : Nat} {S : Nat → Bool} (h : SeenN K w B S) (hb : Below w.heap.size w w') : SeenN K w' B S :=
  ⟨Nat.lt_of_lt_of_le h.1 hb.size, fun j hj => ⟨(hb.cell (p := ⟨B, j, none⟩) h.1).trans (h.2 j hj).1, (hb.frozen (p := ⟨B, j, none⟩) h.1).trans (h.2 j hj).2⟩⟩
def pairG (g : Nat → GameD) (i : Nat) : Int := (g i).home * 8 + (g i).away
theorem pair_first {n : Int} {m k : Nat} {g : Nat → GameD} (hk : k < m) (hall : ∀ i, i < k → gameP n (g i)) (hg : gameP n (g k)) :
    firstI (atG g (g k).home (g k).away) m 0 = (k : Int) ↔ ¬ hasP (pairG g) (pairG g k) k := by
  rw [firstI_eq m 0 k]
  obtain ⟨⟨_, hn⟩, ⟨q1, q2⟩, ⟨q3, q4⟩, _⟩ := hg
  constructor
  · rintro ⟨_, _, h⟩ ⟨i, hi, e⟩
    obtain ⟨_, ⟨r1, r2⟩, ⟨r3, r4⟩, _⟩ := hall i hi
    have h2 := h i (Nat.zero_le _) hi
    unfold pairG at e
    have e1 : (g i).home = (g k).home := by omega
    have e2 : (g i).away = (g k).away := by omega
    unfold atG at h2
    rw [e1, e2] at h2
    simp at h2
  · intro h
    refine ⟨⟨Nat.zero_le _, by omega⟩, by simp [atG], fun i _ hi => ?_⟩
    cases hq : atG g (g k).home (g k).away i with
    | false => rfl
    | true =>
      unfold atG at hq
      simp only [Bool.and_eq_true, beq_iff_eq] at hq
      exact absurd ⟨i, hi, by unfold pairG; rw [hq.1, hq.2]⟩ h

end Go.Proofs.Ytcbpgbiannpfpaa
