/-
  Packed: Cal4, Cal5, CalPlain, TySlTo, TyPairSSt, TySlAp, Rounds5, Circle, CircSpec.
-/
import Derived.BigRegion
import Derived.Test.YtcbpgbiannpfpaaDoorQ1
import Derived.Test.YtcbpgbiannpfpaaDoorQ3
import Derived.Test.YtcbpgbiannpfpaaDoorQ4
import Derived.Test.YtcbpgbiannpfpaaDoorQ8
import Derived.Test.YtcbpgbiannpfpaaDoorQ9
set_option linter.unusedVariables false
namespace Go.Proofs.YtcbpgbiannpfpaaDoor
open Go.RowKit

def blkB (D : List PairL) (L : List Int) (C : ClosL) (i : Nat) : Bool := !(L.any fun d => playB (atR D i) d C)
def blkL (R : Bool) (D : List PairL) (L : List Int) (C : ClosL) : List Int := if R = true then idxL (blkB D L C) (List.length (α := PairL) D) else []
set_option maxRecDepth 100000 in
set_option maxHeartbeats 4000000 in
theorem blockedRounds_spec (n : Int) (vr vd : Value) (rest : Int) (vc : Value) (D : List PairL) (L : List Int) (C : ClosL) (R : Bool) (w : World) (hR : R = true ↔ schedP n D ∧ closedP n C)
    (hr : RdA tPairSS w [vr] D) (hd : IntRow w vd L.length (getI L)) (hc : RdA tClosedS w [vc] C) (hw : tPairSS.wt D ≤ 1048576) :
    Calls Tryd.prog 22 #[.int .i64 n, .agg #[vr, vd, .int .i64 rest, vc]] w (IntsL w (blkL R D L C)) := by
  obtain ⟨i0, hi, hz0, hz1, hz2⟩ := info_parts Tryd.infoI
  obtain ⟨ra, rc, rfl, hrn⟩ := schedule_form hr
  obtain ⟨da, dc, rfl, hdn, _⟩ := hd.form
  obtain ⟨ca, cc, rfl, hcn⟩ := clos_form hc
  obtain ⟨nr, hnr⟩ : ∃ nr, List.length (α := PairL) D = nr := ⟨_, rfl⟩
  obtain ⟨nd, hnd⟩ : ∃ nd, L.length = nd := ⟨_, rfl⟩
  obtain ⟨nc, hnc⟩ : ∃ nc, List.length (α := tClosed.D) C = nc := ⟨_, rfl⟩
  obtain ⟨r1, hr1⟩ := boolEx (schedP n D)
  obtain ⟨r2, hr2⟩ := boolEx (closedP n C)
  obtain ⟨U, hU⟩ : ∃ U, w.alloc (.cells #[.slice ra (List.length (α := PairL) D) rc, .slice da L.length dc, .int .i64 rest, .slice ca (List.length (α := tClosed.D) C) cc] 27) = U := ⟨_, rfl⟩
  have bU : Below w.heap.size w U := by rw [← hU]; exact (Below.refl _ _).alloc (Nat.le_refl _) _
  have CS := Lib.hid (fun wa h => isSchedule_spec (.slice ra (List.length (α := PairL) D) rc) D n r1 wa hr1 h hw)
  have CC := Lib.hid (fun wa h => closedOk_spec n (.slice ca (List.length (α := tClosed.D) C) cc) C r2 wa hr2 h)
  have hnr6 : nr ≤ 1048576 := by have e : tPairSS.wt D = List.length (α := PairL) D + (D.map tPairS.wt).sum := rfl; rw [hnr] at e; omega
  have HNR := Lib.hid hnr
  have HND := Lib.hid hnd
  have HR1 := Lib.hid hr1
  have HR2 := Lib.hid hr2
  have HRR := Lib.hid hR
  have HS : Hid (SeaAt U w.heap.size ra nr rc da nd dc rest ca nc cc D L C) := by rw [← hU, ← hnr, ← hnd, ← hnc]; exact SeaAt.made hr hd hc
  rw [hnr] at CS hU ⊢
  rw [hnd] at hdn hU ⊢
  rw [hnc] at hcn CC hU ⊢
  have HB := Lib.hid bU
  clear hr hd hc hR hr1 hr2 hw hnr hnd hnc hrn hcn bU
  obtain ⟨c0, c1, c2, c3⟩ := HS.out.cells
  have HN0 : Hid (∀ wa, World.ownsRow wa w.heap.size 3 1 (.slice none 0 0) 0 []) := fun wa => World.ownsRow_nil _ _ _ _
  go_enter Tryd.func22, Tryd.ntmps22
  go_wp2_with fail
  clear hU
  refine (CS.out _ HS.out.2.1).mono ?_
  rintro e w1 ⟨rfl, b⟩
  have HS1 := Lib.hid (HS.out.below b)
  have HB1 := Lib.hid (HB.out.trans (b.mono HB.out.size))
  clear b c0 c1 c2 c3 HS HB CS
  obtain ⟨c0, c1, c2, c3⟩ := HS1.out.cells
  cases r1 with
  | false =>
    have hf : R = false := by cases R with | false => rfl | true => have := HR1.out.2 (HRR.out.1 rfl).1; cases this
    subst hf
    go_wp2
    go_ret
    exact ⟨_, rfl, HN0.out _, HB1.out⟩
  | true =>
  go_wp2_with fail
  refine (CC.out _ HS1.out.2.2.2).mono ?_
  rintro e w2 ⟨rfl, b⟩
  have HS2 := Lib.hid (HS1.out.below b)
  have HB2 := Lib.hid (HB1.out.trans (b.mono HB1.out.size))
  clear b c0 c1 c2 c3 HS1 HB1 CC
  obtain ⟨c0, c1, c2, c3⟩ := HS2.out.cells
  cases r2 with
  | false =>
    have hf : R = false := by cases R with | false => rfl | true => have := HR2.out.2 (HRR.out.1 rfl).2; cases this
    subst hf
    go_wp2
    go_ret
    exact ⟨_, rfl, HN0.out _, HB2.out⟩
  | true =>
  have hf : R = true := HRR.out.2 ⟨HR1.out.1 (by first | rfl | trivial), HR2.out.1 (by first | rfl | trivial)⟩
  subst hf
  clear HR1 HR2 HRR HN0
  have ON : Hid ((w2.alloc (.cells #[] 3)).ownsRow w2.heap.size 3 1 (.slice (some ⟨w2.heap.size, 0, none⟩) 0 0) 0 []) := World.ownsRow_lit (e := 3) (size := 1) w2 #[] 0 (Nat.le_refl _) (by decide) rfl
  have HB0 : Hid (Below w2.heap.size w2 (w2.alloc (.cells #[] 3))) := (Below.refl _ _).alloc (Nat.le_refl _) _
  have HSA := Lib.hid (HS2.out.below HB0.out)
  clear c0 c1 c2 c3
  obtain ⟨c0, c1, c2, c3⟩ := HSA.out.cells
  go_wp2
  clear c0 c1 c2 c3 HSA
  go_loopw [5, 27] (fun ov iv wr => ∃ (k : Nat) (out : List Int), k ≤ nr ∧ iv = .int .i64 k ∧ Hid (out = idxL (blkB D L C) k) ∧ out.length ≤ k ∧ Hid (wr.ownsRow w2.heap.size 3 1 ov out.length (out.map (Value.int .i64))) ∧ Hid (Below w2.heap.size w2 wr)) (fun _ iv _ => nr - (RowKit.intOf iv).toNat)
  case atStart => exact ⟨0, [], Nat.zero_le _, rfl, rfl, Nat.le_refl _, ON, HB0⟩
  case round =>
    clear ON HB0
    obtain ⟨k, out, hk9, rfl, HOO, hol, HO, HB⟩ := hrel
    obtain ⟨oa, oc, hof⟩ := owns_form HO.out
    subst hof
    by_cases hlt : k < nr
    · obtain ⟨rr, hrr⟩ : ∃ rr : PairL, D[k]? = some rr := ⟨_, List.getElem?_eq_getElem (by rw [HNR.out]; exact hlt)⟩
      have HSr := Lib.hid (HS2.out.below HB.out)
      obtain ⟨rb, ro, xa, xc, hra, hcap2, hq, hrd, hx63⟩ := round_cells (by rw [HNR.out]; exact HS2.out.2.1) hrr
      subst hra
      rw [HNR.out] at hcap2
      have hj1 : (k : Int) < (nr : Int) := by omega
      have hat : atR D k = rr := by unfold atR; rw [hrr]; rfl
      have HBK : Hid (blkB D L C k = !(L.any fun d => playB rr d C)) := by show _ = _; unfold blkB; rw [hat]
      have HRR1 : Hid (RdA tPairS w2 [.slice xa (List.length (α := tPair.D) rr) xc] rr) := hrd
      have CPx : Hid (∀ x wa, RdA tPairS wa [.slice xa (List.length (α := tPair.D) rr) xc] rr → RdA tClosedS wa [.slice ca nc cc] C → Calls Tryd.prog 44 #[.slice xa (List.length (α := tPair.D) rr) xc, .int .i64 x, .slice ca nc cc] wa fun e w' => e = .returned (.bool (playB rr x C)) ∧ Below wa.heap.size wa w') := fun x wa h1 h2 => canPlayOn_spec _ rr x _ C wa h1 h2
      obtain ⟨xn, hxn⟩ : ∃ xn, List.length (α := tPair.D) rr = xn := ⟨_, rfl⟩
      rw [hxn] at hq hx63 HRR1 CPx
      have hq2 := (HB.out.cell (p := ⟨rb, ro + k, none⟩) (World.block_lt_of_cell? w2 _ hq)).trans hq
      clear hrr hxn hrd hat
      obtain ⟨c0, c1, c2, c3⟩ := HSr.out.cells
      go_wp2
      clear c0 c1 c2 c3 hq hq2
      generalize wr = w3 at *
      go_loopw [8, 35] (fun fv jv wr => ∃ (j : Nat), j ≤ nd ∧ jv = .int .i64 j ∧ Hid (fv = .bool ((L.take j).any fun d => playB rr d C)) ∧ Hid (Below w3.heap.size w3 wr)) (fun _ jv _ => nd - (RowKit.intOf jv).toNat)
      case atStart => exact ⟨0, Nat.zero_le _, rfl, (by show _ = _; simp), Below.refl _ _⟩
      case round =>
        obtain ⟨j, hj9, rfl, HFV, HB3⟩ := hrel
        have HBx : Hid (Below w2.heap.size w2 wr) := HB.out.trans (HB3.out.mono HB.out.size)
        have HSx := Lib.hid (HS2.out.below HBx.out)
        obtain ⟨fl, hfl⟩ : ∃ fl, ((L.take j).any fun d => playB rr d C) = fl := ⟨_, rfl⟩
        have HFL := Lib.hid hfl
        have hfv := HFV.out
        rw [hfl] at hfv
        subst hfv
        clear hfl HFV
        by_cases hlt2 : j < nd
        · obtain ⟨bo, oo, hda, hcap3, q0⟩ := int_at HSx.out.2.2.1 hlt2
          subst hda
          have hj2 : (j : Int) < (nd : Int) := by omega
          have HST : Hid (((L.take (j + 1)).any fun d => playB rr d C) = (fl || playB rr (getI L j) C)) := by
            show _ = _
            have h1 : L[j]? = some (getI L j) := by rw [List.getElem?_eq_getElem (by rw [HND.out]; exact hlt2)]; simp [getI, show j < L.length by rw [HND.out]; exact hlt2]
            rw [List.take_add_one, h1, List.any_append, HFL.out]
            simp
          have CP := Lib.hid (CPx.out (getI L j))
          have HRx := Lib.hid (HRR1.out.below HBx.out)
          obtain ⟨pl, hpl⟩ : ∃ pl, playB rr (getI L j) C = pl := ⟨_, rfl⟩
          rw [hpl] at CP HST
          clear hpl
          generalize getI L j = x at *
          obtain ⟨c0, c1, c2, c3⟩ := HSx.out.cells
          cases fl with
          | true =>
            have HN : Hid (Value.bool true = .bool ((L.take (j + 1)).any fun d => playB rr d C)) := by show _ = _; rw [HST.out]; rfl
            clear HST HFL
            go_wp2
            go_roundw
            case rel => exact ⟨j + 1, by omega, by go_num, HN, HB3⟩
            case measure => simp [RowKit.intOf]; omega
          | false =>
            have HN : Hid (Value.bool pl = .bool ((L.take (j + 1)).any fun d => playB rr d C)) := by show _ = _; rw [HST.out, Bool.false_or]
            clear HST HFL
            go_wp2_with fail
            refine (CP.out _ HRx.out HSx.out.2.2.2).mono ?_
            rintro e w4 ⟨rfl, b⟩
            have HB4 := Lib.hid (HB3.out.trans (b.mono HB3.out.size))
            clear b c0 c1 c2 c3
            cases pl with
            | true =>
              go_wp2
              go_roundw
              case rel => exact ⟨j + 1, by omega, by go_num, HN, HB4⟩
              case measure => simp [RowKit.intOf]; omega
            | false =>
              go_wp2
              go_roundw
              case rel => exact ⟨j + 1, by omega, by go_num, HN, HB4⟩
              case measure => simp [RowKit.intOf]; omega
        obtain rfl : j = nd := by omega
        have HFA : Hid (blkB D L C k = !fl) := by show _ = _; rw [HBK.out, ← HFL.out, List.take_of_length_le (by have := HND.out; omega)]
        have HO3 := Lib.hid (owns_below HO.out HB3.out (Nat.le_refl _))
        cases fl with
        | true =>
          have HON : Hid (out = idxL (blkB D L C) (k + 1)) := HOO.out.trans (idxL_no (by rw [HFA.out]; rfl)).symm
          go_wp2
          go_roundw
          case rel => exact ⟨k + 1, out, by omega, by go_num, HON, by omega, HO3, HBx⟩
          case measure => simp [RowKit.intOf]; omega
        | false =>
          have HON : Hid (out ++ [(k : Int)] = idxL (blkB D L C) (k + 1)) := (congrArg (· ++ [(k : Int)]) HOO.out).trans (idxL_yes (by rw [HFA.out]; rfl)).symm
          have hs3 := HBx.out.size
          go_wp2_with (at_builtin; refine wpList_pushL rfl (.tmp 50) (.tmp 52) 24 rfl w2.heap.size 3 Tryd.underlying24 hi hz0 hz1 hz2 rfl (by decide) [.int .i64 k] rfl (by intro u hu; simp at hu; subst hu; rfl) rfl (by show Value.slice (some ⟨_, 0, none⟩) 1 1 = _; simp) HO3.out (by unfold maxLen; omega) (by omega) hs3 ?_; intro gg5 cc5 w5 o5 g5 at5 lt5; have O5 := Lib.hid o5; have HB5 := Lib.hid (HBx.out.grown g5 hs3 (fun q hq => (HO3.out.lt q hq).1)); clear o5 g5 at5 lt5)
          go_roundw
          case rel => exact ⟨k + 1, out ++ [(k : Int)], by omega, by go_num, HON, by rw [List.length_append, List.length_singleton]; omega, by rw [List.length_append, List.map_append]; exact O5, HB5⟩
          case measure => simp [RowKit.intOf]; omega
    obtain rfl : k = nr := by omega
    have HON := Lib.hid (owns_mono HO.out HB2.out.size)
    have HBW : Hid (Below w.heap.size w wr) := HB2.out.trans (HB.out.mono HB2.out.size)
    go_wp2
    go_ret
    have HE : Hid (blkL true D L C = out) := by show idxL (blkB D L C) (List.length (α := PairL) D) = out; rw [HNR.out]; exact HOO.out.symm
    rw [HE.out]
    exact ⟨_, rfl, HON.out, HBW.out⟩
end Go.Proofs.YtcbpgbiannpfpaaDoor
set_option linter.unusedVariables false
namespace Go.Proofs.YtcbpgbiannpfpaaDoor
open Go.RowKit

def restStep (D : List PairL) (T : List Int) (tm : Int) (k : Nat) (b l : Int) : Int × Int :=
  if venueL (atR D k) tm = 0 then (b, l) else (if 0 ≤ l ∧ (b < 0 ∨ max (getI T k) l - min (getI T k) l < b) then max (getI T k) l - min (getI T k) l else b, getI T k)
def restS (D : List PairL) (T : List Int) (tm : Int) : Nat → Int × Int
  | 0 => (-1, -1)
  | k + 1 => restStep D T tm k (restS D T tm k).1 (restS D T tm k).2
def datesOk (D : List PairL) (T : List Int) : Prop := T.length = List.length (α := PairL) D ∧ ∀ i, i < T.length → 0 ≤ getI T i ∧ getI T i ≤ 60
def restV (R : Bool) (D : List PairL) (T : List Int) (tm : Int) : Int := if R = true then (restS D T tm T.length).1 else -1
end Go.Proofs.YtcbpgbiannpfpaaDoor
set_option linter.unusedVariables false
namespace Go.Proofs.YtcbpgbiannpfpaaDoor
open Go.RowKit

theorem getI_take {T : List Int} {k i : Nat} (h : i < k) : getI (T.take k) i = getI T i := by unfold getI; rw [List.getD_eq_getElem?_getD, List.getD_eq_getElem?_getD, List.getElem?_take_of_lt h]
theorem getI_mem {L : List Int} {i : Nat} (h : i < L.length) : getI L i ∈ L := by
  have h1 : getI L i = L[i] := by simp [getI, h]
  rw [h1]; exact List.getElem_mem h
theorem getI_of {L : List Int} {i : Nat} (h : i < L.length) : L[i] = getI L i := by simp [getI, h]
theorem atR_cons (r : PairL) (D : List PairL) (i : Nat) : atR (r :: D) (i + 1) = atR D i := by unfold atR; rw [List.getElem?_cons_succ]
theorem atR_zero (r : PairL) (D : List PairL) : atR (r :: D) 0 = r := rfl
theorem firstF_find {rest : Int} {C : ClosL} {L : List Int} : ∀ (D : List PairL) (out T : List Int), firstF rest C L D out = some T →
    T.length = out.length + List.length (α := PairL) D ∧ T.take out.length = out ∧ ∀ i, i < List.length (α := PairL) D → L.find? (okD rest C (T.take (out.length + i)) (atR D i)) = some (getI T (out.length + i)) := by
  intro D
  induction D with
  | nil =>
    intro out T h
    have e : out = T := by simpa [firstF] using h
    subst e
    exact ⟨rfl, List.take_length, fun i hi => absurd hi (Nat.not_lt_zero _)⟩
  | cons r D ih =>
    intro out T h
    rw [firstF_cons] at h
    cases hf : L.find? (okD rest C out r) with
    | none => rw [hf] at h; cases h
    | some d =>
      rw [hf] at h
      obtain ⟨h1, h2, h3⟩ := ih (out ++ [d]) T h
      have hl : (out ++ [d]).length = out.length + 1 := by simp
      rw [hl] at h1 h2 h3
      have h0 : T.take out.length = out := by
        have e : (T.take (out.length + 1)).take out.length = T.take out.length := by rw [List.take_take, Nat.min_eq_left (by omega)]
        rw [← e, h2]; simp
      have hd : getI T out.length = d := by
        rw [← getI_take (Nat.lt_succ_self _), h2]; simp [getI]
      refine ⟨by rw [h1]; show _ = out.length + (List.length (α := PairL) D + 1); omega, h0, fun i hi => ?_⟩
      cases i with
      | zero => rw [atR_zero, Nat.add_zero, h0, hd]; exact hf
      | succ i =>
        rw [atR_cons, show out.length + (i + 1) = out.length + 1 + i by omega]
        exact h3 i (by have : List.length (α := PairL) (r :: D) = List.length (α := PairL) D + 1 := rfl; omega)
theorem days_lt {L : List Int} (h : daysP L) : ∀ (j i : Nat), i < j → j < L.length → getI L i < getI L j := by
  intro j
  induction j with
  | zero => intro i hi; omega
  | succ j ih =>
    intro i hi hj
    have h1 := (h (j + 1) hj).2 (by omega)
    rw [show j + 1 - 1 = j by omega] at h1
    by_cases e : i = j
    · subst e; exact h1
    · have := ih i (by omega) (by omega); omega
def FirstIs (rest : Int) (C : ClosL) (L : List Int) (D : List PairL) (T : List Int) : Prop :=
  T.length = List.length (α := PairL) D ∧ datesP D L rest C T T.length ∧ ∀ i, i < T.length → ∀ d ∈ L, d < getI T i → ¬ ((0 < i → getI T (i - 1) + rest ≤ d) ∧ playB (atR D i) d C = true)
theorem okD_iff {rest : Int} {C : ClosL} {T : List Int} {r : PairL} {d : Int} {k : Nat} (hk : k ≤ T.length) : okD rest C (T.take k) r d = true ↔ (0 < k → getI T (k - 1) + rest ≤ d) ∧ playB r d C = true := by
  unfold okD
  rw [Bool.and_eq_true, Bool.or_eq_true, decide_eq_true_eq, decide_eq_true_eq, List.length_take, Nat.min_eq_left hk]
  constructor
  · rintro ⟨h1, h2⟩
    refine ⟨fun h0 => ?_, h2⟩
    rcases h1 with h1 | h1
    · omega
    · rw [getI_take (by omega)] at h1; exact h1
  · rintro ⟨h1, h2⟩
    refine ⟨?_, h2⟩
    by_cases h0 : k = 0
    · exact Or.inl h0
    · refine Or.inr ?_
      rw [getI_take (by omega)]
      exact h1 (by omega)
theorem first_is {rest : Int} {C : ClosL} {L : List Int} {D : List PairL} {T : List Int} (hL : daysP L) (h : firstF rest C L D [] = some T) : FirstIs rest C L D T := by
  obtain ⟨h1, _, h3⟩ := firstF_find D [] T h
  have h1' : T.length = List.length (α := PairL) D := by rw [h1]; exact Nat.zero_add _
  have h4 : ∀ i, i < T.length → L.find? (okD rest C (T.take i) (atR D i)) = some (getI T i) := fun i hi => by
    have h5 := h3 i (by omega)
    rw [show ([] : List Int).length + i = i from Nat.zero_add _] at h5
    exact h5
  refine ⟨h1', fun i hi => ?_, fun i hi d hd hlt hok => ?_⟩
  · have h5 := h4 i hi
    have h6 := (okD_iff (Nat.le_of_lt hi)).1 (List.find?_some h5)
    exact ⟨List.mem_of_find?_eq_some h5, h6.1, h6.2⟩
  · have h5 := List.find?_eq_some_iff_getElem.1 (h4 i hi)
    obtain ⟨_, m, hm, hmT, hbef⟩ := h5
    obtain ⟨j, hj, rfl⟩ := List.mem_iff_getElem.1 hd
    rw [getI_of] at hlt hok hmT
    have hjm : j < m := by
      rcases Nat.lt_trichotomy j m with e | e | e
      · exact e
      · subst e; omega
      · have := days_lt hL j m e hj; omega
    have h7 := hbef j hjm
    rw [getI_of, (okD_iff (Nat.le_of_lt hi)).2 hok] at h7
    exact absurd h7 (by decide)
theorem first_cal {n rest : Int} {C : ClosL} {L : List Int} {D : List PairL} {T : List Int} (hs : seaP n D L rest C) (h : FirstIs rest C L D T) : calP n D L rest C T := ⟨hs, h.1, h.2.1⟩
theorem getI_set {T : List Int} {i j : Nat} {d : Int} : getI (T.set i d) j = if i = j ∧ i < T.length then d else getI T j := by
  unfold getI
  rw [List.getD_eq_getElem?_getD, List.getD_eq_getElem?_getD, List.getElem?_set]
  by_cases e : i = j
  · subst e
    by_cases hl : i < T.length
    · rw [if_pos rfl, if_pos hl, if_pos ⟨rfl, hl⟩]; rfl
    · rw [if_pos rfl, if_neg hl, if_neg (fun h => hl h.2), List.getElem?_eq_none (by omega)]
  · rw [if_neg e, if_neg (fun h => e h.1)]
theorem first_least {n rest : Int} {C : ClosL} {L : List Int} {D : List PairL} {T : List Int} {i : Nat} {d : Int} (h : FirstIs rest C L D T) (hi : i < T.length) (hd : d ∈ L) (hlt : d < getI T i) : ¬ calP n D L rest C (T.set i d) := fun hc => by
  have h1 := hc.2.2 i (by rw [List.length_set]; exact hi)
  rw [getI_set, if_pos ⟨rfl, hi⟩] at h1
  refine h.2.2 i hi d hd hlt ⟨fun h0 => ?_, h1.2.2⟩
  have h2 := h1.2.1 h0
  rw [getI_set, if_neg (by omega)] at h2
  exact h2
theorem dates_gap {D : List PairL} {L : List Int} {rest : Int} {C : ClosL} {T : List Int} (h0 : 1 ≤ rest) (h : datesP D L rest C T T.length) : ∀ (j i : Nat), i < j → j < T.length → getI T i + rest ≤ getI T j := by
  intro j
  induction j with
  | zero => intro i hi; omega
  | succ j ih =>
    intro i hi hj
    have h1 := (h (j + 1) hj).2.1 (by omega)
    rw [show j + 1 - 1 = j by omega] at h1
    by_cases e : i = j
    · subst e; exact h1
    · have := ih i (by omega) (by omega); omega
theorem rest_ge {D : List PairL} {L : List Int} {rest : Int} {C : ClosL} {T : List Int} (h0 : 1 ≤ rest) (hL : daysP L) (h : datesP D L rest C T T.length) (tm : Int) : ∀ k, k ≤ T.length →
    ((restS D T tm k).1 = -1 ∨ rest ≤ (restS D T tm k).1) ∧ ((restS D T tm k).2 = -1 ∨ ∃ j, j < k ∧ (restS D T tm k).2 = getI T j) := by
  intro k
  induction k with
  | zero => intro _; exact ⟨Or.inl rfl, Or.inl rfl⟩
  | succ k ih =>
    intro hk
    obtain ⟨h1, h2⟩ := ih (by omega)
    show ((restStep D T tm k (restS D T tm k).1 (restS D T tm k).2).1 = -1 ∨ rest ≤ (restStep D T tm k (restS D T tm k).1 (restS D T tm k).2).1) ∧ ((restStep D T tm k (restS D T tm k).1 (restS D T tm k).2).2 = -1 ∨ ∃ j, j < k + 1 ∧ (restStep D T tm k (restS D T tm k).1 (restS D T tm k).2).2 = getI T j)
    generalize (restS D T tm k).1 = b at *
    generalize (restS D T tm k).2 = l at *
    unfold restStep
    by_cases hv : venueL (atR D k) tm = 0
    · rw [if_pos hv]
      refine ⟨h1, ?_⟩
      rcases h2 with h2 | ⟨j, hj, h2⟩
      · exact Or.inl h2
      · exact Or.inr ⟨j, by omega, h2⟩
    · rw [if_neg hv]
      refine ⟨?_, Or.inr ⟨k, by omega, rfl⟩⟩
      show (ite _ _ _ = -1) ∨ rest ≤ ite _ _ _
      split
      · rename_i hc
        rcases h2 with h2 | ⟨j, hj, h2⟩
        · omega
        · have h3 := dates_gap h0 h k j hj (by omega)
          rw [h2]
          omega
      · exact h1
theorem rest_val {D : List PairL} {L : List Int} {rest : Int} {C : ClosL} {T : List Int} (h0 : 1 ≤ rest) (hL : daysP L) (h : datesP D L rest C T T.length) (R : Bool) (tm : Int) : restV R D T tm < 0 ∨ rest ≤ restV R D T tm := by
  unfold restV
  split
  · rcases (rest_ge h0 hL h tm T.length (Nat.le_refl _)).1 with e | e
    · exact Or.inl (by omega)
    · exact Or.inr e
  · exact Or.inl (by omega)
theorem dates_in {D : List PairL} {L : List Int} {rest : Int} {C : ClosL} {T : List Int} (hL : daysP L) (h : datesP D L rest C T T.length) {i : Nat} (hi : i < T.length) : 0 ≤ getI T i ∧ getI T i ≤ 60 := by
  obtain ⟨j, hj, e⟩ := List.mem_iff_getElem.1 (h i hi).1
  rw [getI_of] at e
  rw [← e]
  exact (hL j hj).1
theorem idxL_none {p : Nat → Bool} : ∀ k, (∀ i, i < k → p i = false) → idxL p k = [] := by
  intro k
  induction k with
  | zero => intro _; rfl
  | succ k ih => intro h; rw [idxL_no (h k (by omega))]; exact ih fun i hi => h i (by omega)
theorem blk_none {R : Bool} {D : List PairL} {L : List Int} {rest : Int} {C : ClosL} {T : List Int} (h : FirstIs rest C L D T) : blkL R D L C = [] := by
  unfold blkL
  split
  · refine idxL_none _ fun i hi => ?_
    have h1 := h.2.1 i (by rw [h.1]; exact hi)
    unfold blkB
    rw [Bool.not_eq_false', List.any_eq_true]
    exact ⟨_, h1.1, h1.2.2⟩
  · rfl
end Go.Proofs.YtcbpgbiannpfpaaDoor
set_option linter.unusedVariables false
namespace Go.Proofs.YtcbpgbiannpfpaaDoor
open Go.RowKit

def RowsMk (e : Ty) (w : World) (O : Nat) (d : List e.D) (j : Nat) (ys : List Value) : Prop :=
  ∃ f : Nat → List Nat, (∀ i x, i < j → d[i]? = some x → e.Ow w (O + 1) [ys.getD i undef] x (f i)) ∧ (∀ i, i < j → (f i).Nodup) ∧ (∀ i k, i < j → k < j → i ≠ k → ∀ q, q ∈ f i → q ∉ f k) ∧ ∀ i, i < j → ∀ q, q ∈ f i → O < q ∧ q < w.heap.size
theorem RowsMk.nil {e : Ty} {w : World} {O : Nat} {d : List e.D} {ys : List Value} : RowsMk e w O d 0 ys :=
  ⟨fun _ => [], fun i _ h => absurd h (Nat.not_lt_zero _), fun i h => absurd h (Nat.not_lt_zero _), fun i _ h => absurd h (Nat.not_lt_zero _), fun i h => absurd h (Nat.not_lt_zero _)⟩
theorem RowsMk.next {e : Ty} {w u w' : World} {O : Nat} {d : List e.D} {j : Nat} {ys : List Value} {v : Value} {x : e.D} (h : RowsMk e w O d j ys) (hO : O < w.heap.size) (hb : Below w.heap.size w u) (ho : OwN e u w.heap.size u.heap.size [v] x)
    (hx : d[j]? = some x) (hj : j < ys.length) (hs : u.heap.size ≤ w'.heap.size) (hk : ∀ q, q ≠ O → q < u.heap.size → w'.heap[q]? = u.heap[q]?) : RowsMk e w' O d (j + 1) (ys.set j v) := by
  obtain ⟨f, h1, h2, h3, h4⟩ := h
  obtain ⟨bs, b1, b2, b3, _⟩ := ho
  have b4 := e.ow_lt b1
  have hsz := hb.size
  obtain ⟨F, hF1, hF2⟩ : ∃ F : Nat → List Nat, F j = bs ∧ ∀ i, i ≠ j → F i = f i := ⟨fun i => if i = j then bs else f i, if_pos rfl, fun i h => if_neg h⟩
  refine ⟨F, fun i y hi hy => ?_, fun i hi => ?_, fun i k hi hkk hik q hq => ?_, fun i hi q hq => ?_⟩
  · by_cases e1 : i = j
    · subst e1
      rw [hx] at hy
      obtain rfl := Option.some.inj hy
      rw [hF1]
      have e2 : (ys.set i v).getD i undef = v := by simp [List.getD_eq_getElem?_getD, hj]
      rw [e2]
      exact e.ow_mono (e.ow_frame b1 (fun q hq => hk q (by have := (b4 q hq).1; omega) (b4 q hq).2) hs) (by omega)
    · rw [hF2 i e1]
      have e2 : (ys.set j v).getD i undef = ys.getD i undef := by simp [List.getD_eq_getElem?_getD, Ne.symm e1]
      rw [e2]
      refine e.ow_frame (h1 i y (by omega) hy) (fun q hq => ?_) (Nat.le_trans hsz hs)
      have h5 := h4 i (by omega) q hq
      exact (hk q (by omega) (by omega)).trans (hb.block q h5.2)
  · by_cases e1 : i = j
    · rw [e1, hF1]; exact b2
    · rw [hF2 i e1]; exact h2 i (by omega)
  · by_cases e1 : i = j
    · rw [e1, hF1] at hq
      rw [hF2 k (by omega)]
      intro hq2
      have := h4 k (by omega) q hq2
      have := (b4 q hq).1
      omega
    · rw [hF2 i e1] at hq
      have h5 := h4 i (by omega) q hq
      by_cases e2 : k = j
      · rw [e2, hF1]; intro hq2; have := (b4 q hq2).1; omega
      · rw [hF2 k e2]; exact h3 i k (by omega) (by omega) hik q hq
  · by_cases e1 : i = j
    · rw [e1, hF1] at hq
      have := b4 q hq
      exact ⟨by omega, by omega⟩
    · rw [hF2 i e1] at hq
      have := h4 i (by omega) q hq
      exact ⟨this.1, by omega⟩
theorem flat_nodup_of {f : Nat → List Nat} : ∀ n, (∀ i, i < n → (f i).Nodup) → (∀ i k, i < n → k < n → i ≠ k → ∀ q, q ∈ f i → q ∉ f k) → ((List.range n).flatMap f).Nodup
  | 0, _, _ => List.nodup_nil
  | n + 1, h1, h2 => by
    rw [range_flat_succ]
    refine List.nodup_append.2 ⟨flat_nodup_of n (fun i hi => h1 i (by omega)) (fun i k hi hk => h2 i k (by omega) (by omega)), h1 n (Nat.lt_succ_self _), fun a ha b hb e => ?_⟩
    subst e
    obtain ⟨i, hi, ha⟩ := List.mem_flatMap.1 ha
    have := List.mem_range.1 hi
    exact h2 i n (by omega) (Nat.lt_succ_self _) (by omega) a ha hb
theorem RowsMk.own {t : TypeId} {e : Ty} {w : World} {O n c : Nat} {d : List e.D} {ys : List Value} (he : e.n = 1) (hn : d.length = n) (h : RowsMk e w O d n ys) (ho : w.ownsRow O t 1 (.slice (some ⟨O, 0, none⟩) n c) n ys) (hO : O < w.heap.size) :
    OwN (tSl t e) w O w.heap.size [.slice (some ⟨O, 0, none⟩) n c] d := by
  subst hn
  obtain ⟨f, h1, h2, h3, h4⟩ := h
  have hl := ho.1
  rw [Nat.mul_one] at hl
  refine ⟨O :: (List.range d.length).flatMap f, ⟨_, ys, f, rfl, by rw [he]; exact ho, fun i x hx => ?_, rfl⟩, List.nodup_cons.2 ⟨fun hm => ?_, flat_nodup_of _ h2 h3⟩, fun q hq => ?_, Nat.le_refl _⟩
  · have hi := (List.getElem?_eq_some_iff.1 hx).1
    rw [he, Nat.mul_one, List.drop_eq_getElem_cons (by omega : i < ys.length)]
    have h5 := h1 i x hi hx
    rw [List.getD_eq_getElem?_getD, List.getElem?_eq_getElem (by omega : i < ys.length)] at h5
    exact e.ow_mono h5 (Nat.le_succ _)
  · obtain ⟨i, hi, hq⟩ := List.mem_flatMap.1 hm
    have := h4 i (List.mem_range.1 hi) O hq
    omega
  · rcases List.mem_cons.1 hq with rfl | hq
    · exact hO
    · obtain ⟨i, hi, hq⟩ := List.mem_flatMap.1 hq
      exact (h4 i (List.mem_range.1 hi) q hq).2
end Go.Proofs.YtcbpgbiannpfpaaDoor
set_option linter.unusedVariables false
namespace Go.Proofs.YtcbpgbiannpfpaaDoor
open Go.RowKit

set_option maxRecDepth 100000 in
set_option maxHeartbeats 2000000 in
theorem y_sz_PairSS (v : Value) (d : List tPairS.D) (left : Int) (w : World) (hl0 : 0 ≤ left) (hl : left ≤ 1048576) (h : RdA tPairSS w [v] d) : Calls Tryd.prog 40 #[v, .int .i64 left] w (SzT tPairSS d left w) := by
  obtain ⟨a, cap, rfl, hn⟩ := rd_row_form h
  have HV := Lib.hid h
  clear h
  obtain ⟨n, hd⟩ : ∃ n, d.length = n := ⟨_, rfl⟩
  have HD := Lib.hid hd
  have HW : Hid ((tPairSS.wt d : Int) = n + ((d.map tPairS.wt).sum : Nat)) := by show _ = _; rw [← hd]; show ((d.length + (d.map tPairS.wt).sum : Nat) : Int) = _; omega
  rw [hd] at hn ⊢
  clear hd
  have s0 : IntKind.i64.wrap (left - (n : Int)) = left - n := IntWalk.i64_in _ (by omega)
  by_cases hb : left - (n : Int) < 0
  · have g0 : decide (left - (n : Int) < 0) = true := decide_eq_true hb
    go_enter Tryd.func40, Tryd.ntmps40
    go_wp2
    go_ret
    exact ⟨⟨-1, rfl, .inl (by omega)⟩, Below.refl _ _⟩
  have g0 : decide (left - (n : Int) < 0) = false := decide_eq_false hb
  go_enter Tryd.func40, Tryd.ntmps40
  go_wp2
  go_loopw [1, 5] (fun lv iv wr => ∃ (j : Nat) (l : Int), j ≤ n ∧ iv = .int .i64 j ∧ lv = .int .i64 l ∧ (0 ≤ l ∧ l ≤ 1048576) ∧ Hid ((n : Int) + (((d.take j).map tPairS.wt).sum : Nat) + l = left) ∧ Hid (Below w.heap.size w wr)) (fun _ iv _ => n - (RowKit.intOf iv).toNat)
  case atStart => exact ⟨0, left - n, Nat.zero_le _, rfl, rfl, ⟨by omega, by omega⟩, (by show _ = _; simp; omega), Below.refl _ _⟩
  case round =>
    obtain ⟨j, l, hj, rfl, rfl, hl2, HS, HB⟩ := hrel
    by_cases hlt : j < n
    · obtain ⟨y, hy⟩ : ∃ y, d[j]? = some y := ⟨_, List.getElem?_eq_getElem (by have := HD.out; omega)⟩
      obtain ⟨b, off, k, u, hv, hcap, hc, hu⟩ := rd_cell rfl (RdA.below HV.out HB.out) hy
      simp only [Value.slice.injEq] at hv
      obtain ⟨rfl, hv2, rfl⟩ := hv
      clear hv2
      rw [HD.out] at hcap
      have hj1 : (j : Int) < (n : Int) := by omega
      have c0 : wr.cell? ⟨b, off + j, none⟩ = some u := hc.2 0 _ rfl
      have HU := Lib.hid hu
      have hts := take_sum (f := tPairS.wt) hy
      have HTS := Lib.hid hts
      clear hc hu hts hy
      go_wp2_with fail
      refine (y_sz_PairS u y l _ hl2.1 hl2.2 HU.out).mono ?_
      rintro e w2 ⟨⟨r, rfl, hr⟩, b2⟩
      have HB2 := Lib.hid (HB.out.trans (b2.mono HB.out.size))
      have HSS : Hid (r < 0 ∨ (0 ≤ r ∧ r ≤ l ∧ (n : Int) + (((d.take (j + 1)).map tPairS.wt).sum : Nat) + r = left)) := by
        rcases hr with hr | ⟨h1, h2⟩
        · exact .inl hr
        · exact .inr ⟨h1, by omega, by have h3 := HS.out; rw [HTS.out]; omega⟩
      clear b2 hr HB HS HTS HU
      by_cases hr0 : r < 0
      · have g1 : decide (r < 0) = true := decide_eq_true hr0
        go_wp2
        go_ret
        exact ⟨⟨-1, rfl, .inl (by omega)⟩, HB2.out⟩
      have g1 : decide (r < 0) = false := decide_eq_false hr0
      have HS3 := HSS.out.resolve_left hr0
      have HS4 : Hid ((n : Int) + (((d.take (j + 1)).map tPairS.wt).sum : Nat) + r = left) := HS3.2.2
      have hr1 : 0 ≤ r ∧ r ≤ 1048576 := ⟨HS3.1, by have := HS3.2.1; omega⟩
      clear HSS HS3
      go_wp2
      go_roundw
      case rel => exact ⟨j + 1, r, by omega, by go_num, rfl, hr1, HS4, HB2⟩
      case measure => simp [RowKit.intOf]; omega
    · obtain rfl : j = n := by omega
      have HE : Hid ((tPairSS.wt d : Int) + l = left) := by
        show _ = _
        have h1 := HS.out
        rw [List.take_of_length_le (by have := HD.out; omega)] at h1
        rw [HW.out]; exact h1
      go_wp2
      go_ret
      exact ⟨⟨l, rfl, .inr ⟨hl2.1, HE.out⟩⟩, HB.out⟩
theorem y_form_PairS {w : World} {lo hi : Nat} {v : Value} {d : tPairS.D} (h : OwN tPairS w lo hi [v] d) : ∃ a c, v = .slice a (List.length d) c := by
  have h1 : RdA tPairS w [v] d := Ty.rd_mono _ (OwN.rd h) fun q hq => Nat.lt_of_lt_of_le hq.2 (OwN.hi_le h)
  obtain ⟨a, c, e, _⟩ := rd_row_form h1
  exact ⟨a, c, e⟩
theorem Tryd.infoPairSS : (Tryd.prog.info? 54).map (fun i => (i.zero, i.size, i.bytes)) = some (some (.slice none 0 0), 1, 24) := by kernel_rfl
set_option maxRecDepth 100000 in
set_option maxHeartbeats 2000000 in
theorem y_to_PairSS (v : Value) (d : List tPairS.D) (w : World) (h : RdA tPairSS w [v] d) (hw : tPairSS.wt d ≤ 1048576) : Calls Tryd.prog 45 #[v] w (MadeT tPairSS d w) := by
  obtain ⟨i0, hi, hz0, hz1, hz2⟩ := info_parts Tryd.infoPairSS
  obtain ⟨a, cap, rfl, hn⟩ := rd_row_form h
  have HV := Lib.hid h
  clear h
  obtain ⟨n, hd⟩ : ∃ n, d.length = n := ⟨_, rfl⟩
  have HD := Lib.hid hd
  have hwe : tPairSS.wt d = d.length + (d.map tPairS.wt).sum := rfl
  have hn6 : n ≤ 1048576 := by omega
  have HE : Hid (∀ j y, d[j]? = some y → tPairS.wt y ≤ 1048576) := fun j y hy => by
    have h1 := take_sum (f := tPairS.wt) hy
    have h2 := take_sum_le (f := tPairS.wt) (L := d) (j + 1)
    omega
  rw [hd] at hn ⊢
  clear hd hwe hw
  go_enter Tryd.func45, Tryd.ntmps45
  go_wp2_with (at_make; refine wpList_make_full _ rfl _ _ 23 rfl w.heap.size 54 i0 (.slice none 0 0) 1 Tryd.underlying23 hi hz0 hz1 .i64 .i64 n n n rfl rfl rfl rfl (by rw [hz2]; omega) (by unfold maxLen; omega) (Nat.le_refl _) ?_; intro w1 hown hg1)
  have hb1 : Below w.heap.size w w1 := (Below.refl _ _).grown hg1 (Nat.le_refl _) (fun k hk => by cases hk)
  have hlt1 : w.heap.size < w1.heap.size := (hown.lt w.heap.size rfl).2
  have HB1 := Lib.hid hb1
  have HO1 := Lib.hid hown
  clear hg1 hb1 hown
  go_loopw [4] (fun iv wr => ∃ (j : Nat) (ys : List Value), j ≤ n ∧ iv = .int .i64 j ∧ w.heap.size < wr.heap.size ∧ Hid (wr.ownsRow w.heap.size 54 1 (.slice (some ⟨w.heap.size, 0, none⟩) n n) n ys) ∧ Hid (RowsMk tPairS wr w.heap.size d j ys) ∧ Hid (Below w.heap.size w wr)) (fun iv _ => n - (RowKit.intOf iv).toNat)
  case atStart => exact ⟨0, _, Nat.zero_le _, rfl, hlt1, HO1, RowsMk.nil, HB1⟩
  case round =>
    clear HO1 HB1 hlt1
    obtain ⟨j, ys, hj, rfl, hO, HO, HR, HB⟩ := hrel
    by_cases hlt : j < n
    · obtain ⟨y, hy⟩ : ∃ y, d[j]? = some y := ⟨_, List.getElem?_eq_getElem (by have := HD.out; omega)⟩
      obtain ⟨b, off, k, u, hv, hcap, hc, hu⟩ := rd_cell rfl (RdA.below HV.out HB.out) hy
      simp only [Value.slice.injEq] at hv
      obtain ⟨rfl, hv2, rfl⟩ := hv
      clear hv2
      rw [HD.out] at hcap
      have hj1 : (j : Int) < (n : Int) := by omega
      have c0 : wr.cell? ⟨b, off + j, none⟩ = some u := hc.2 0 _ rfl
      have HU := Lib.hid hu
      have HY := Lib.hid hy
      have HYW := Lib.hid (HE.out j y hy)
      have HYL : Hid (j < ys.length) := by have := HO.out.1; show _ < _; omega
      clear hc hu hy
      go_wp2_with (go_at_call 71; refine (y_to_PairS u y _ HU.out HYW.out).mono ?_; rintro e w2 ⟨v2, rfl, ho2, b2⟩; obtain ⟨xa, xc, hvf⟩ := y_form_PairS ho2; subst hvf; have hown2 := owns_below HO.out b2 (Nat.le_refl _); obtain ⟨u0, e0⟩ := owns_cellR hown2 j (by omega); have f0 := hown2.frozenAt j)
      go_roundw
      case rel =>
        have hs2 := b2.size
        refine ⟨j + 1, _, by omega, by go_num, (by have h9 : w2.heap.size ≤ (w2.setCell ⟨w.heap.size, j, none⟩ (.slice xa (List.length y) xc)).heap.size := by simp [World.setCell]
                                                   omega), (hown2.stored j _).1, ?_, (HB.out.trans (b2.mono HB.out.size)).setCell (Nat.le_refl _) _⟩
        exact HR.out.next hO b2 ho2 HY.out HYL.out (Nat.le_of_eq (by simp [World.setCell])) fun q hq _ => Below.heap_setCell _ _ _ _ hq
      case measure => simp [RowKit.intOf]; omega
    · obtain rfl : j = n := by omega
      go_wp2
      go_ret
      exact ⟨_, rfl, RowsMk.own rfl HD.out HR.out HO.out hO, HB.out⟩
end Go.Proofs.YtcbpgbiannpfpaaDoor
set_option linter.unusedVariables false
namespace Go.Proofs.YtcbpgbiannpfpaaDoor
open Go.RowKit

def RowsAp (t : TypeId) (e : Ty) (w : World) (B : Nat) (v : Value) (d : List e.D) (xs : List Value) : Prop :=
  w.ownsRow B t 1 v d.length xs ∧ ∃ f : Nat → List Nat, (∀ i x, d[i]? = some x → e.Ow w B [xs.getD i undef] x (f i)) ∧ (∀ i, i < d.length → (f i).Nodup) ∧ (∀ i k, i < d.length → k < d.length → i ≠ k → ∀ q, q ∈ f i → q ∉ f k) ∧ ∀ i, i < d.length → ∀ q, q ∈ f i → v.ownBlock ≠ some q
theorem RowsAp.nil {t : TypeId} {e : Ty} {w : World} {B : Nat} {v : Value} (h : w.ownsRow B t 1 v 0 []) : RowsAp t e w B v [] [] :=
  ⟨h, fun _ => [], fun i x hx => (by cases hx), fun i hi => absurd hi (Nat.not_lt_zero _), fun i _ hi => absurd hi (Nat.not_lt_zero _), fun i hi => absurd hi (Nat.not_lt_zero _)⟩
theorem RowsAp.below {t : TypeId} {e : Ty} {w w' : World} {B : Nat} {v : Value} {d : List e.D} {xs : List Value} (h : RowsAp t e w B v d xs) (hb : Below w.heap.size w w') : RowsAp t e w' B v d xs := by
  obtain ⟨h0, f, h1, h2, h3, h4⟩ := h
  exact ⟨owns_below h0 hb (Nat.le_refl _), f, fun i x hx => e.ow_frame (h1 i x hx) (fun q hq => hb.block q (e.ow_lt (h1 i x hx) q hq).2) hb.size, h2, h3, h4⟩
theorem RowsAp.own {t : TypeId} {e : Ty} {w : World} {B : Nat} {v : Value} {d : List e.D} {xs : List Value} (he : e.n = 1) (h : RowsAp t e w B v d xs) : OwN (tSl t e) w B w.heap.size [v] d := by
  obtain ⟨h0, f, h1, h2, h3, h4⟩ := h
  have hl := h0.1
  rw [Nat.mul_one] at hl
  refine ⟨v.ownBlock.toList ++ (List.range d.length).flatMap f, ⟨v, xs, f, rfl, by rw [he]; exact h0, fun i x hx => ?_, rfl⟩, List.nodup_append.2 ⟨by cases v.ownBlock <;> simp, flat_nodup_of _ h2 h3, fun a ha b hb e => ?_⟩, fun q hq => ?_, Nat.le_refl _⟩
  · have hi := (List.getElem?_eq_some_iff.1 hx).1
    rw [he, Nat.mul_one, List.drop_eq_getElem_cons (by omega : i < xs.length)]
    have h5 := h1 i x hx
    rw [List.getD_eq_getElem?_getD, List.getElem?_eq_getElem (by omega : i < xs.length)] at h5
    exact h5
  · subst e
    obtain ⟨i, hi, hq⟩ := List.mem_flatMap.1 hb
    refine h4 i (List.mem_range.1 hi) a hq ?_
    cases hv : v.ownBlock with
    | none => rw [hv] at ha; cases ha
    | some z => rw [hv] at ha; simp at ha; rw [ha]
  · rcases List.mem_append.1 hq with hq | hq
    · cases hv : v.ownBlock with
      | none => rw [hv] at hq; cases hq
      | some z => rw [hv] at hq; simp at hq; subst hq; exact (h0.lt _ hv).2
    · obtain ⟨i, hi, hq⟩ := List.mem_flatMap.1 hq
      exact (e.ow_lt (h1 i _ (List.getElem?_eq_getElem (List.mem_range.1 hi))) q hq).2
theorem RowsAp.push {t : TypeId} {e : Ty} {w1 w2 w3 : World} {B : Nat} {v vv rv : Value} {d : List e.D} {xs : List Value} {x : e.D} (h : RowsAp t e w1 B v d xs) (hb : Below w1.heap.size w1 w2) (ho : OwN e w2 w1.heap.size w2.heap.size [rv] x) (hB : B ≤ w1.heap.size)
    (hg : w2.grownBy w3 v.ownBlock) (hown : w3.ownsRow B t 1 vv (d.length + 1) (xs ++ [rv])) (hat : ∀ q, vv.ownBlock = some q → v.ownBlock = some q ∨ w2.heap.size ≤ q) : RowsAp t e w3 B vv (d ++ [x]) (xs ++ [rv]) := by
  obtain ⟨h0, f, h1, h2, h3, h4⟩ := h
  obtain ⟨bs, b1, b2, b3, _⟩ := ho
  have b4 := e.ow_lt b1
  have hsz := hb.size
  obtain ⟨_, _, _, hs3, hk⟩ := hg
  have hl := h0.1
  rw [Nat.mul_one] at hl
  have hvlt : ∀ q, v.ownBlock = some q → q < w1.heap.size := fun q hq => (h0.lt q hq).2
  obtain ⟨F, hF1, hF2⟩ : ∃ F : Nat → List Nat, F d.length = bs ∧ ∀ i, i ≠ d.length → F i = f i := ⟨fun i => if i = d.length then bs else f i, if_pos rfl, fun i h => if_neg h⟩
  have hdl : (d ++ [x]).length = d.length + 1 := by simp
  have hlt : ∀ i, i < d.length → ∀ q, q ∈ f i → q < w1.heap.size := fun i hi q hq => (e.ow_lt (h1 i _ (List.getElem?_eq_getElem hi)) q hq).2
  refine ⟨by rw [hdl]; exact hown, F, fun i y hy => ?_, fun i hi => ?_, fun i k hi hkk hik q hq => ?_, fun i hi q hq => ?_⟩
  · by_cases e1 : i = d.length
    · subst e1
      have hyx : y = x := by simpa using hy.symm
      subst hyx
      rw [hF1]
      have e2 : (xs ++ [rv]).getD d.length undef = rv := by rw [← hl]; simp [List.getD_eq_getElem?_getD]
      rw [e2]
      exact e.ow_mono (e.ow_frame b1 (fun q hq => hk q (b4 q hq).2 (fun e => by have h7 := hvlt q e.symm; have := (b4 q hq).1; omega)) hs3) hB
    · have hi : i < d.length := by have := (List.getElem?_eq_some_iff.1 hy).1; omega
      rw [hF2 i e1]
      have e2 : (xs ++ [rv]).getD i undef = xs.getD i undef := by simp [List.getD_eq_getElem?_getD, List.getElem?_append_left (show i < xs.length by omega)]
      rw [e2]
      have hy2 : d[i]? = some y := by rw [List.getElem?_append_left hi] at hy; exact hy
      refine e.ow_frame (h1 i y hy2) (fun q hq => ?_) (Nat.le_trans hsz hs3)
      have h5 := hlt i hi q hq
      exact (hk q (by omega) (fun e => h4 i hi q hq e.symm)).trans (hb.block q h5)
  · by_cases e1 : i = d.length
    · rw [e1, hF1]; exact b2
    · rw [hF2 i e1]; exact h2 i (by omega)
  · by_cases e1 : i = d.length
    · rw [e1, hF1] at hq
      rw [hF2 k (by omega)]
      intro hq2
      have := hlt k (by omega) q hq2
      have := (b4 q hq).1
      omega
    · rw [hF2 i e1] at hq
      have h5 := hlt i (by omega) q hq
      by_cases e2 : k = d.length
      · rw [e2, hF1]; intro hq2; have := (b4 q hq2).1; omega
      · rw [hF2 k e2]; exact h3 i k (by omega) (by omega) hik q hq
  · intro e3
    by_cases e1 : i = d.length
    · rw [e1, hF1] at hq
      have h5 := b4 q hq
      rcases hat q e3 with h6 | h6
      · have := hvlt q h6; omega
      · omega
    · rw [hF2 i e1] at hq
      rcases hat q e3 with h6 | h6
      · exact h4 i (by omega) q hq h6
      · have := hlt i (by omega) q hq; omega
end Go.Proofs.YtcbpgbiannpfpaaDoor
set_option linter.unusedVariables false
namespace Go.Proofs.YtcbpgbiannpfpaaDoor
open Go.RowKit

def pcell (p : tPair.D) : List Value := [.int .i64 (hm p), .int .i64 (aw p)]
def pcells (T : PairL) : List Value := T.flatMap pcell
theorem pcells_push (T : PairL) (p : tPair.D) : pcells (T ++ [p]) = pcells T ++ pcell p := by unfold pcells; rw [List.flatMap_append]; simp
theorem pcells_rec : ∀ T : PairL, RecCells 2 (List.length (α := tPair.D) T) (pcells T) fun i => (atPair T i).cells
  | [], i, hi, _, _, _ => absurd hi (Nat.not_lt_zero _)
  | p :: T, 0, _, j, u, hu => by
    have hu2 : ([.int .i64 (hm p), .int .i64 (aw p)] : List Value)[j]? = some u := hu
    match j, hu2 with
    | 0, h => simpa [pcells, pcell] using h
    | 1, h => simpa [pcells, pcell] using h
    | n + 2, h => simp at h
  | p :: T, i + 1, hi, j, u, hu => by
    have h := pcells_rec T i (Nat.lt_of_succ_lt_succ hi) j u hu
    show (Value.int .i64 (hm p) :: Value.int .i64 (aw p) :: pcells T)[(i + 1) * 2 + j]? = _
    rw [show (i + 1) * 2 + j = (i * 2 + j) + 1 + 1 by omega]
    simpa using h
theorem own_pairs {w : World} {B : Nat} {v : Value} {T : PairL} (h : w.ownsRow B 98 2 v (List.length (α := tPair.D) T) (pcells T)) (hn : List.length (α := tPair.D) T ≤ 9223372036854775807) : OwN tPairS w B w.heap.size [v] T :=
  own_PairS h (PairRow.of_owns h hn (pcells_rec T)) (fun q hq => (h.lt q hq).2) (Nat.le_refl _)
theorem pairs_flat (r : PairL) : flatR (fun i => (atPair r i).cells) (List.length (α := tPair.D) r) = pcells r := by
  have key : ∀ (A B : List Value) (n : Nat) (g : Nat → List Value), A.length = n * 2 → B.length = n * 2 → RecCells 2 n A g → RecCells 2 n B g → (∀ i, i < n → (g i).length = 2) → A = B := by
    intro A B n g ha hb h1 h2 hg
    apply List.ext_getElem?
    intro q
    by_cases hq : q < n * 2
    · have hi : q / 2 < n := by omega
      have hl := hg _ hi
      have e : q / 2 * 2 + q % 2 = q := by omega
      have hu := List.getElem?_eq_getElem (l := g (q / 2)) (i := q % 2) (by omega)
      have a1 := h1 _ hi _ _ hu
      have a2 := h2 _ hi _ _ hu
      rw [e] at a1 a2
      rw [a1, a2]
    · rw [List.getElem?_eq_none (by omega), List.getElem?_eq_none (by omega)]
  have hlp : ∀ T : PairL, (pcells T).length = List.length (α := tPair.D) T * 2 := by
    intro T
    induction T with
    | nil => rfl
    | cons p T ih =>
      have k : ∀ A B : Nat, A = B * 2 → A + 1 + 1 = (B + 1) * 2 := by omega
      exact k _ _ ih
  exact key _ _ _ _ (flatR_len 2 _ _ fun _ _ => rfl) (hlp r) (flatR_cells 2 _ _ fun _ _ => rfl) (pcells_rec r) fun _ _ => rfl
theorem at_slice {w : World} {gg n c : Nat} {v : Value} (h : v.ownBlock = some gg ∨ w.heap.size ≤ gg) : ∀ q, (Value.slice (some ⟨gg, 0, none⟩) n c).ownBlock = some q → v.ownBlock = some q ∨ w.heap.size ≤ q := fun q hq => by
  have hq' : gg = q := by simpa [Value.ownBlock] using hq
  subst hq'
  exact h
def mkP (h a : Int) : tPair.D := (h, a)
def turnR (r : PairL) : PairL := r.map fun p => mkP (aw p) (hm p)
def mirL (d : List PairL) : List PairL := d ++ d.map turnR
end Go.Proofs.YtcbpgbiannpfpaaDoor
set_option linter.unusedVariables false
namespace Go.Proofs.YtcbpgbiannpfpaaDoor
open Go.RowKit

def turnN (x m : Int) : Int := (x.tmod m + m).tmod m
theorem turn_in {x m : Int} (h : 0 < m) : 0 ≤ turnN x m ∧ turnN x m < m := by
  have h1 := Int.lt_tmod_of_pos x h
  have h2 : 0 ≤ x.tmod m + m := by omega
  exact ⟨Int.tmod_nonneg _ h2, Int.tmod_lt_of_pos _ h⟩
def aK (m r k : Nat) : Int := if k = 0 then (m : Int) - 1 else turnN ((r : Int) + k) ((m : Int) - 1)
def bK (m r k : Nat) : Int := turnN ((r : Int) - k) ((m : Int) - 1)
def swapK (r k : Nat) : Prop := (k = 0 ∧ r % 2 = 1) ∨ (0 < k ∧ k % 2 = 0)
instance (r k : Nat) : Decidable (swapK r k) := by unfold swapK; infer_instance
def pairK (m r k : Nat) : tPair.D := if swapK r k then mkP (bK m r k) (aK m r k) else mkP (aK m r k) (bK m r k)
def circK (n m r : Nat) : Nat → PairL
  | 0 => []
  | k + 1 => if (n : Int) ≤ aK m r k ∨ (n : Int) ≤ bK m r k then circK n m r k else circK n m r k ++ [pairK m r k]
def circN (n m : Nat) : Nat → List PairL
  | 0 => []
  | r + 1 => circN n m r ++ [circK n m r (m / 2)]
def circL (n : Nat) : List PairL := circN n (n + n % 2) (n + n % 2 - 1)
def circR (R : Bool) (N : Int) : List PairL := if R = true then circL N.toNat else []
theorem circK_len (n m r : Nat) : ∀ k, List.length (α := tPair.D) (circK n m r k) ≤ k
  | 0 => Nat.le_refl _
  | k + 1 => by
    have h := circK_len n m r k
    show List.length (α := tPair.D) (if _ then _ else _) ≤ _
    split
    · omega
    · rw [List.length_append]; show _ + 1 ≤ _; omega
theorem circN_len (n m : Nat) : ∀ k, List.length (α := PairL) (circN n m k) = k
  | 0 => rfl
  | k + 1 => by show List.length (α := PairL) (_ ++ [_]) = _; rw [List.length_append, circN_len n m k]; rfl
theorem l09Turn_spec (x m : Int) (w : World) (h0 : 0 < m) (h1 : m ≤ 1000) (hx : -1000 ≤ x ∧ x ≤ 1000) :
    Calls Tryd.prog 78 #[.int .i64 x, .int .i64 m] w fun e w' => e = .returned (.int .i64 (turnN x m)) ∧ w = w' := by
  have a1 := Int.lt_tmod_of_pos x h0
  have a2 := Int.tmod_lt_of_pos x h0
  unfold turnN
  have hm0 : (m == 0) = false := beq_eq_false_iff_ne.2 (by omega)
  have hm0' : ¬ m = 0 := by omega
  obtain ⟨t, ht⟩ : ∃ t, x.tmod m = t := ⟨_, rfl⟩
  rw [ht] at a1 a2 ⊢
  have s1 : IntKind.i64.wrap (t + m) = t + m := IntWalk.i64_in _ (by omega)
  go_enter Tryd.func78, Tryd.ntmps78
  go_wp2
  go_ret
  exact ⟨by rw [Int.tmod_eq_emod_of_nonneg (by omega)]; rfl, rfl⟩
end Go.Proofs.YtcbpgbiannpfpaaDoor
set_option linter.unusedVariables false
namespace Go.Proofs.YtcbpgbiannpfpaaDoor
open Go.RowKit

set_option maxRecDepth 100000 in
set_option maxHeartbeats 4000000 in
theorem circleRounds_spec (N : Int) (R : Bool) (hR : R = true ↔ (2 ≤ N ∧ N ≤ 8)) (w : World) :
    Calls Tryd.prog 55 #[.int .i64 N] w (MadeT tPairSS (circR R N) w) := by
  obtain ⟨i0, hi, hz0, hz1, hz2⟩ := info_parts Tryd.infoPair
  obtain ⟨s0, si, sz0, sz1, sz2⟩ := info_parts Tryd.infoPairSS
  by_cases hN : 2 ≤ N ∧ N ≤ 8
  case neg =>
    obtain rfl := boolF hR hN
    have HN0 : Hid (OwN tPairSS w w.heap.size w.heap.size [.slice none 0 0] ([] : List PairL)) := ⟨[], ⟨.slice none 0 0, [], fun _ => [], rfl, World.ownsRow_nil _ _ _ _, fun i x hx => (by cases hx), rfl⟩, List.nodup_nil, fun q hq => (by cases hq), Nat.le_refl _⟩
    go_enter Tryd.func55, Tryd.ntmps55
    go_wp2_with fail
    refine (l01In_no _ _ _ _ hN).mono ?_
    rintro e wx ⟨rfl, rfl⟩
    go_wp2
    go_ret
    exact ⟨_, rfl, HN0.out, Below.refl _ _⟩
  obtain rfl := boolT hR hN
  obtain ⟨n, rfl⟩ : ∃ n : Nat, N = n := ⟨N.toNat, by omega⟩
  obtain ⟨m, hm⟩ : ∃ m, n + n % 2 = m := ⟨_, rfl⟩
  obtain ⟨h, hh⟩ : ∃ h, m / 2 = h := ⟨_, rfl⟩
  have hm8 : m ≤ 8 := by omega
  have hm2 : 2 ≤ m := by omega
  have hh2 : 2 * h = m := by omega
  have HE : Hid (circR true (n : Int) = circN n m (m - 1)) := by show circL (n : Int).toNat = _; rw [Int.toNat_natCast]; unfold circL; rw [hm]
  rw [HE.out]
  have hE : (n : Int) + (n : Int) % 2 = (m : Int) := by omega
  have hD : (m : Int) / 2 = (h : Int) := by omega
  clear HE hR
  have ON : Hid (RowsAp 54 tPairS (w.alloc (.cells #[] 54)) w.heap.size (.slice (some ⟨w.heap.size, 0, none⟩) 0 0) [] []) := RowsAp.nil (World.ownsRow_lit (e := 54) (size := 1) w #[] 0 (Nat.le_refl _) (by decide) rfl)
  have HB0 : Hid (Below w.heap.size w (w.alloc (.cells #[] 54))) := (Below.refl _ _).alloc (Nat.le_refl _) _
  go_enter Tryd.func55, Tryd.ntmps55
  go_wp2_with fail
  refine (l01In_yes _ _ _ _ hN).mono ?_
  rintro e wx ⟨rfl, rfl⟩
  go_wp2
  go_loopw [4, 5] (fun ov rv wr => ∃ (r : Nat) (D : List PairL) (xs : List Value), r ≤ m - 1 ∧ rv = .int .i64 r ∧ List.length (α := PairL) D = r ∧ Hid (D = circN n m r) ∧ Hid (RowsAp 54 tPairS wr w.heap.size ov D xs) ∧ Hid (Below w.heap.size w wr)) (fun _ rv _ => m - (RowKit.intOf rv).toNat)
  case atStart => exact ⟨0, [], [], Nat.zero_le _, rfl, rfl, rfl, ON, HB0⟩
  case round =>
    clear ON HB0
    obtain ⟨r, D, xs, hr9, rfl, hDr, HDD, HA, HB⟩ := hrel
    obtain ⟨oa, oc, hof⟩ := owns_form HA.out.1
    subst hof
    by_cases hlt : r < m - 1
    · have hj1 : (r : Int) < (m : Int) - 1 := by omega
      have HDR := Lib.hid hDr
      have hD7 : List.length (α := tPairS.D) D ≤ 8 := by show List.length (α := PairL) D ≤ 8; omega
      clear hDr
      generalize wr = w1 at *
      have ON : Hid ((w1.alloc (.cells #[] 98)).ownsRow w1.heap.size 98 2 (.slice (some ⟨w1.heap.size, 0, none⟩) 0 0) 0 []) := World.ownsRow_lit (e := 98) (size := 2) w1 #[] 0 (Nat.le_refl _) (by decide) rfl
      have HB0 : Hid (Below w1.heap.size w1 (w1.alloc (.cells #[] 98))) := (Below.refl _ _).alloc (Nat.le_refl _) _
      go_wp2
      go_loopw [6, 7] (fun tv kv wi => ∃ (k : Nat) (T : PairL), k ≤ h ∧ kv = .int .i64 k ∧ List.length (α := tPair.D) T ≤ k ∧ Hid (T = circK n m r k) ∧ Hid (wi.ownsRow w1.heap.size 98 2 tv (List.length (α := tPair.D) T) (pcells T)) ∧ Hid (Below w1.heap.size w1 wi)) (fun _ kv _ => h - (RowKit.intOf kv).toNat)
      case atStart => exact ⟨0, [], Nat.zero_le _, rfl, Nat.le_refl _, rfl, ON, HB0⟩
      case round =>
        clear ON HB0
        obtain ⟨k, T, hk9, rfl, hTk, HTT, HO, HB3⟩ := hrel
        obtain ⟨ta, tc, htf⟩ := owns_form HO.out
        subst htf
        have hs3 := HB3.out.size
        by_cases hlt2 : k < h
        · have hj2 : (k : Int) < (h : Int) := by omega
          have hM0 : (0 : Int) < (m : Int) - 1 := by omega
          have hM1 : (m : Int) - 1 ≤ 1000 := by omega
          have hx1 : -1000 ≤ (r : Int) + (k : Int) ∧ (r : Int) + (k : Int) ≤ 1000 := by omega
          have hx2 : -1000 ≤ (r : Int) - (k : Int) ∧ (r : Int) - (k : Int) ≤ 1000 := by omega
          have hT7 : List.length (α := tPair.D) T ≤ 8 := by omega
          have hb1 := turn_in (x := (r : Int) + k) hM0
          have hb2 := turn_in (x := (r : Int) - k) hM0
          have HSK : Hid (((n : Int) ≤ aK m r k ∨ (n : Int) ≤ bK m r k) → circK n m r (k + 1) = circK n m r k) := fun h => if_pos h
          have HAD : Hid (¬ ((n : Int) ≤ aK m r k ∨ (n : Int) ≤ bK m r k) → circK n m r (k + 1) = circK n m r k ++ [pairK m r k]) := fun h => if_neg h
          have HPR : Hid (pairK m r k = if swapK r k then mkP (bK m r k) (aK m r k) else mkP (aK m r k) (bK m r k)) := rfl
          obtain ⟨B, hBB⟩ : ∃ B, bK m r k = B := ⟨_, rfl⟩
          have hBt : turnN ((r : Int) - k) ((m : Int) - 1) = B := hBB
          rcases Nat.eq_zero_or_pos k with hk0 | hk0
          · have hAt : aK m r k = (m : Int) - 1 := by rw [hk0]; rfl
            rw [hAt, hBB] at HSK HAD HPR
            rw [hBt] at hb2
            have CT1 : Hid (∀ wa : World, Calls Tryd.prog 78 #[.int .i64 ((r : Int) + (k : Int)), .int .i64 ((m : Int) - 1)] wa fun e w' => (∃ z, e = .returned (.int .i64 z)) ∧ wa = w') := fun wa => (l09Turn_spec ((r : Int) + (k : Int)) ((m : Int) - 1) wa hM0 hM1 hx1).mono fun e w' h => ⟨⟨_, h.1⟩, h.2⟩
            have CT2 : Hid (∀ wa : World, Calls Tryd.prog 78 #[.int .i64 ((r : Int) - (k : Int)), .int .i64 ((m : Int) - 1)] wa fun e w' => e = .returned (.int .i64 B) ∧ wa = w') := fun wa => (by
              have h9 := l09Turn_spec ((r : Int) - (k : Int)) ((m : Int) - 1) wa hM0 hM1 hx2
              rw [hBt] at h9
              exact h9)
            have gk : ((k : Int) == 0) = true := beq_iff_eq.2 (by omega)
            have gk2 : decide ((0 : Int) < (k : Int)) = false := decide_eq_false (by omega)
            have HK0 := Lib.hid hk0
            clear hBB hBt hAt hb1 hk0
            by_cases hsa : (n : Int) ≤ ((m : Int) - 1)
            · have gg : decide ((n : Int) ≤ ((m : Int) - 1)) = true := decide_eq_true hsa
              have HTN : Hid (T = circK n m r (k + 1)) := HTT.out.trans (HSK.out (.inl hsa)).symm
              clear HSK HAD
              go_wp2_with fail
              refine (CT1.out _).mono ?_
              rintro e wx ⟨⟨z9, rfl⟩, rfl⟩
              go_wp2_with fail
              refine (CT2.out _).mono ?_
              rintro e wx ⟨rfl, rfl⟩
              go_wp2
              go_roundw
              case rel => exact ⟨k + 1, T, by omega, by go_num, by omega, HTN, HO, HB3⟩
              case measure => simp [RowKit.intOf]; omega
            have ga : decide ((n : Int) ≤ ((m : Int) - 1)) = false := decide_eq_false hsa
            by_cases hsb : (n : Int) ≤ B
            · have gg : decide ((n : Int) ≤ B) = true := decide_eq_true hsb
              have HTN : Hid (T = circK n m r (k + 1)) := HTT.out.trans (HSK.out (.inr hsb)).symm
              clear HSK HAD
              go_wp2_with fail
              refine (CT1.out _).mono ?_
              rintro e wx ⟨⟨z9, rfl⟩, rfl⟩
              go_wp2_with fail
              refine (CT2.out _).mono ?_
              rintro e wx ⟨rfl, rfl⟩
              go_wp2
              go_roundw
              case rel => exact ⟨k + 1, T, by omega, by go_num, by omega, HTN, HO, HB3⟩
              case measure => simp [RowKit.intOf]; omega
            have gb : decide ((n : Int) ≤ B) = false := decide_eq_false hsb
            have HAD2 := Lib.hid (HAD.out (fun h => h.elim hsa hsb))
            clear HSK HAD
            by_cases hsw : r % 2 = 1
            · have gs : ((r : Int) % 2 == 1) = true := beq_iff_eq.2 (by omega)
              have HTN : Hid (T ++ [mkP B ((m : Int) - 1)] = circK n m r (k + 1)) := by show _ = _; rw [HAD2.out, HTT.out]; exact congrArg (fun q => circK n m r k ++ [q]) (HPR.out.trans (if_pos (.inl ⟨HK0.out, hsw⟩))).symm
              have HPC : Hid (pcells (T ++ [mkP B ((m : Int) - 1)]) = pcells T ++ [.int .i64 B, .int .i64 ((m : Int) - 1)]) := pcells_push T _
              have HTL : List.length (α := tPair.D) (T ++ [mkP B ((m : Int) - 1)]) ≤ k + 1 := by rw [List.length_append, List.length_singleton]; omega
              clear HAD2 HPR
              go_wp2_with fail
              refine (CT1.out _).mono ?_
              rintro e wx ⟨⟨z9, rfl⟩, rfl⟩
              go_wp2_with fail
              refine (CT2.out _).mono ?_
              rintro e wx ⟨rfl, rfl⟩
              go_wp2_with (at_builtin; refine wpList_pushL rfl (.tmp 71) (.tmp 75) 54 rfl w1.heap.size 98 Tryd.underlying54 hi hz0 hz1 hz2 rfl (by decide) [.int .i64 B, .int .i64 ((m : Int) - 1)] rfl (by intro u hu; simp at hu; rcases hu with rfl | rfl <;> rfl) rfl (by show Value.slice (some ⟨_, 0, none⟩) 1 1 = _; simp) HO.out (by unfold maxLen; exact Nat.le_trans (Nat.succ_le_succ hT7) (by decide)) (Nat.le_trans (Nat.mul_le_mul_right _ (Nat.succ_le_succ hT7)) (by decide)) hs3 ?_; intro gg5 cc5 w5 o5 g5 at5 lt5; have O5 := Lib.hid o5; have HB5 := Lib.hid (HB3.out.grown g5 hs3 (fun q hq => (HO.out.lt q hq).1)); clear o5 g5 at5 lt5)
              go_roundw
              case rel => exact ⟨k + 1, T ++ [mkP B ((m : Int) - 1)], by omega, by go_num, HTL, HTN, by refine Lib.hid ?_; rw [HPC.out, List.length_append]; exact O5.out, HB5⟩
              case measure => simp [RowKit.intOf]; omega
            · have gs : ((r : Int) % 2 == 1) = false := beq_eq_false_iff_ne.2 (by omega)
              have HTN : Hid (T ++ [mkP ((m : Int) - 1) B] = circK n m r (k + 1)) := by show _ = _; rw [HAD2.out, HTT.out]; exact congrArg (fun q => circK n m r k ++ [q]) (HPR.out.trans (if_neg (fun h => h.elim (fun q => hsw q.2) (fun q => absurd q.1 (by have := HK0.out; omega))))).symm
              have HPC : Hid (pcells (T ++ [mkP ((m : Int) - 1) B]) = pcells T ++ [.int .i64 ((m : Int) - 1), .int .i64 B]) := pcells_push T _
              have HTL : List.length (α := tPair.D) (T ++ [mkP ((m : Int) - 1) B]) ≤ k + 1 := by rw [List.length_append, List.length_singleton]; omega
              clear HAD2 HPR
              go_wp2_with fail
              refine (CT1.out _).mono ?_
              rintro e wx ⟨⟨z9, rfl⟩, rfl⟩
              go_wp2_with fail
              refine (CT2.out _).mono ?_
              rintro e wx ⟨rfl, rfl⟩
              go_wp2_with (at_builtin; refine wpList_pushL rfl (.tmp 77) (.tmp 81) 54 rfl w1.heap.size 98 Tryd.underlying54 hi hz0 hz1 hz2 rfl (by decide) [.int .i64 ((m : Int) - 1), .int .i64 B] rfl (by intro u hu; simp at hu; rcases hu with rfl | rfl <;> rfl) rfl (by show Value.slice (some ⟨_, 0, none⟩) 1 1 = _; simp) HO.out (by unfold maxLen; exact Nat.le_trans (Nat.succ_le_succ hT7) (by decide)) (Nat.le_trans (Nat.mul_le_mul_right _ (Nat.succ_le_succ hT7)) (by decide)) hs3 ?_; intro gg5 cc5 w5 o5 g5 at5 lt5; have O5 := Lib.hid o5; have HB5 := Lib.hid (HB3.out.grown g5 hs3 (fun q hq => (HO.out.lt q hq).1)); clear o5 g5 at5 lt5)
              go_roundw
              case rel => exact ⟨k + 1, T ++ [mkP ((m : Int) - 1) B], by omega, by go_num, HTL, HTN, by refine Lib.hid ?_; rw [HPC.out, List.length_append]; exact O5.out, HB5⟩
              case measure => simp [RowKit.intOf]; omega
          · obtain ⟨A, hAA⟩ : ∃ A, aK m r k = A := ⟨_, rfl⟩
            have hAt : turnN ((r : Int) + k) ((m : Int) - 1) = A := (if_neg (by omega : ¬ k = 0)).symm.trans hAA
            rw [hAA, hBB] at HSK HAD HPR
            rw [hAt] at hb1
            rw [hBt] at hb2
            have CT1 : Hid (∀ wa : World, Calls Tryd.prog 78 #[.int .i64 ((r : Int) + (k : Int)), .int .i64 ((m : Int) - 1)] wa fun e w' => e = .returned (.int .i64 A) ∧ wa = w') := fun wa => (by
              have h9 := l09Turn_spec ((r : Int) + (k : Int)) ((m : Int) - 1) wa hM0 hM1 hx1
              rw [hAt] at h9
              exact h9)
            have CT2 : Hid (∀ wa : World, Calls Tryd.prog 78 #[.int .i64 ((r : Int) - (k : Int)), .int .i64 ((m : Int) - 1)] wa fun e w' => e = .returned (.int .i64 B) ∧ wa = w') := fun wa => (by
              have h9 := l09Turn_spec ((r : Int) - (k : Int)) ((m : Int) - 1) wa hM0 hM1 hx2
              rw [hBt] at h9
              exact h9)
            have gk : ((k : Int) == 0) = false := beq_eq_false_iff_ne.2 (by omega)
            have gk' : ¬ (k : Int) = 0 := by omega
            have gk2 : decide ((0 : Int) < (k : Int)) = true := decide_eq_true (by omega)
            have gk3 : decide (0 < k) = true := decide_eq_true hk0
            clear hBB hBt hAA hAt
            by_cases hsa : (n : Int) ≤ A
            · have gg : decide ((n : Int) ≤ A) = true := decide_eq_true hsa
              have HTN : Hid (T = circK n m r (k + 1)) := HTT.out.trans (HSK.out (.inl hsa)).symm
              clear HSK HAD
              go_wp2_with fail
              refine (CT1.out _).mono ?_
              rintro e wx ⟨rfl, rfl⟩
              go_wp2_with fail
              refine (CT2.out _).mono ?_
              rintro e wx ⟨rfl, rfl⟩
              go_wp2
              go_roundw
              case rel => exact ⟨k + 1, T, by omega, by go_num, by omega, HTN, HO, HB3⟩
              case measure => simp [RowKit.intOf]; omega
            have ga : decide ((n : Int) ≤ A) = false := decide_eq_false hsa
            by_cases hsb : (n : Int) ≤ B
            · have gg : decide ((n : Int) ≤ B) = true := decide_eq_true hsb
              have HTN : Hid (T = circK n m r (k + 1)) := HTT.out.trans (HSK.out (.inr hsb)).symm
              clear HSK HAD
              go_wp2_with fail
              refine (CT1.out _).mono ?_
              rintro e wx ⟨rfl, rfl⟩
              go_wp2_with fail
              refine (CT2.out _).mono ?_
              rintro e wx ⟨rfl, rfl⟩
              go_wp2
              go_roundw
              case rel => exact ⟨k + 1, T, by omega, by go_num, by omega, HTN, HO, HB3⟩
              case measure => simp [RowKit.intOf]; omega
            have gb : decide ((n : Int) ≤ B) = false := decide_eq_false hsb
            have HAD2 := Lib.hid (HAD.out (fun h => h.elim hsa hsb))
            clear HSK HAD
            by_cases hsw : k % 2 = 0
            · have gs : ((k : Int) % 2 == 0) = true := beq_iff_eq.2 (by omega)
              have HTN : Hid (T ++ [mkP B A] = circK n m r (k + 1)) := by show _ = _; rw [HAD2.out, HTT.out]; exact congrArg (fun q => circK n m r k ++ [q]) (HPR.out.trans (if_pos (.inr ⟨hk0, hsw⟩))).symm
              have HPC : Hid (pcells (T ++ [mkP B A]) = pcells T ++ [.int .i64 B, .int .i64 A]) := pcells_push T _
              have HTL : List.length (α := tPair.D) (T ++ [mkP B A]) ≤ k + 1 := by rw [List.length_append, List.length_singleton]; omega
              clear HAD2 HPR
              go_wp2_with fail
              refine (CT1.out _).mono ?_
              rintro e wx ⟨rfl, rfl⟩
              go_wp2_with fail
              refine (CT2.out _).mono ?_
              rintro e wx ⟨rfl, rfl⟩
              go_wp2_with (at_builtin; refine wpList_pushL rfl (.tmp 71) (.tmp 75) 54 rfl w1.heap.size 98 Tryd.underlying54 hi hz0 hz1 hz2 rfl (by decide) [.int .i64 B, .int .i64 A] rfl (by intro u hu; simp at hu; rcases hu with rfl | rfl <;> rfl) rfl (by show Value.slice (some ⟨_, 0, none⟩) 1 1 = _; simp) HO.out (by unfold maxLen; exact Nat.le_trans (Nat.succ_le_succ hT7) (by decide)) (Nat.le_trans (Nat.mul_le_mul_right _ (Nat.succ_le_succ hT7)) (by decide)) hs3 ?_; intro gg5 cc5 w5 o5 g5 at5 lt5; have O5 := Lib.hid o5; have HB5 := Lib.hid (HB3.out.grown g5 hs3 (fun q hq => (HO.out.lt q hq).1)); clear o5 g5 at5 lt5)
              go_roundw
              case rel => exact ⟨k + 1, T ++ [mkP B A], by omega, by go_num, HTL, HTN, by refine Lib.hid ?_; rw [HPC.out, List.length_append]; exact O5.out, HB5⟩
              case measure => simp [RowKit.intOf]; omega
            · have gs : ((k : Int) % 2 == 0) = false := beq_eq_false_iff_ne.2 (by omega)
              have HTN : Hid (T ++ [mkP A B] = circK n m r (k + 1)) := by show _ = _; rw [HAD2.out, HTT.out]; exact congrArg (fun q => circK n m r k ++ [q]) (HPR.out.trans (if_neg (fun h => h.elim (fun q => absurd q.1 (by omega)) (fun q => hsw q.2)))).symm
              have HPC : Hid (pcells (T ++ [mkP A B]) = pcells T ++ [.int .i64 A, .int .i64 B]) := pcells_push T _
              have HTL : List.length (α := tPair.D) (T ++ [mkP A B]) ≤ k + 1 := by rw [List.length_append, List.length_singleton]; omega
              clear HAD2 HPR
              go_wp2_with fail
              refine (CT1.out _).mono ?_
              rintro e wx ⟨rfl, rfl⟩
              go_wp2_with fail
              refine (CT2.out _).mono ?_
              rintro e wx ⟨rfl, rfl⟩
              go_wp2_with (at_builtin; refine wpList_pushL rfl (.tmp 77) (.tmp 81) 54 rfl w1.heap.size 98 Tryd.underlying54 hi hz0 hz1 hz2 rfl (by decide) [.int .i64 A, .int .i64 B] rfl (by intro u hu; simp at hu; rcases hu with rfl | rfl <;> rfl) rfl (by show Value.slice (some ⟨_, 0, none⟩) 1 1 = _; simp) HO.out (by unfold maxLen; exact Nat.le_trans (Nat.succ_le_succ hT7) (by decide)) (Nat.le_trans (Nat.mul_le_mul_right _ (Nat.succ_le_succ hT7)) (by decide)) hs3 ?_; intro gg5 cc5 w5 o5 g5 at5 lt5; have O5 := Lib.hid o5; have HB5 := Lib.hid (HB3.out.grown g5 hs3 (fun q hq => (HO.out.lt q hq).1)); clear o5 g5 at5 lt5)
              go_roundw
              case rel => exact ⟨k + 1, T ++ [mkP A B], by omega, by go_num, HTL, HTN, by refine Lib.hid ?_; rw [HPC.out, List.length_append]; exact O5.out, HB5⟩
              case measure => simp [RowKit.intOf]; omega
        obtain rfl : k = h := by omega
        have HTR := HTT
        have hs3 : w.heap.size ≤ w1.heap.size := HB.out.size
        have HOO := Lib.hid (owns_below HA.out.1 HB3.out (Nat.le_refl _))
        have hs4 : w.heap.size ≤ wr.heap.size := Nat.le_trans hs3 HB3.out.size
        have hT9 : List.length (α := tPair.D) T ≤ 9223372036854775807 := by omega
        have HOW : Hid (OwN tPairS wr w1.heap.size wr.heap.size [.slice ta (List.length (α := tPair.D) T) tc] T) := own_pairs HO.out hT9
        have HDN : Hid (D ++ [T] = circN n m (r + 1)) := by show _ = circN n m r ++ [circK n m r (m / 2)]; rw [HDD.out, HTT.out, hh]
        have HBW : Hid (Below w.heap.size w wr) := HB.out.trans (HB3.out.mono hs3)
        generalize hTt : List.length (α := tPair.D) T = tl at *
        go_wp2_with (at_builtin; refine wpList_pushL rfl (.tmp 83) (.tmp 85) 23 rfl w.heap.size 54 Tryd.underlying23 si sz0 sz1 sz2 rfl (by decide) [.slice ta tl tc] rfl (by intro u hu; simp at hu; subst hu; rfl) rfl (by show Value.slice (some ⟨_, 0, none⟩) 1 1 = _; simp) HOO.out (by unfold maxLen; exact Nat.le_trans (Nat.succ_le_succ hD7) (by decide)) (Nat.le_trans (Nat.mul_le_mul_right _ (Nat.succ_le_succ hD7)) (by decide)) hs4 ?_; intro gg5 cc5 w5 o5 g5 at5 lt5; have O5 := Lib.hid o5; have G5 := Lib.hid g5; have A5 := Lib.hid at5; clear o5 g5 at5 lt5)
        have HAN : Hid (RowsAp 54 tPairS w5 w.heap.size (.slice (some ⟨gg5, 0, none⟩) (List.length (α := PairL) D + 1) cc5) (D ++ [T]) (xs ++ [.slice ta tl tc])) := RowsAp.push HA.out HB3.out HOW.out hs3 G5.out O5.out (at_slice A5.out)
        have HBN : Hid (Below w.heap.size w w5) := HBW.out.grown G5.out hs4 (fun q hq => (HOO.out.lt q hq).1)
        have HDL : Hid (List.length (α := PairL) (D ++ [T]) = r + 1) := by show _ = _; rw [List.length_append, HDR.out]; rfl
        clear HA HO HB3 HOO O5 G5 A5 HOW HBW
        go_roundw
        case rel => exact ⟨r + 1, D ++ [T], _, by omega, by go_num, HDL.out, HDN, HAN, HBN⟩
        case measure => simp [RowKit.intOf]; omega
    obtain rfl : m - 1 = r := by omega
    have HF : Hid (OwN tPairSS wr w.heap.size wr.heap.size [.slice oa (List.length (α := PairL) D) oc] (circN n m (m - 1))) := by
      have h9 := HA.out.own rfl
      rw [HDD.out] at h9 ⊢
      exact h9
    clear HA HDD
    go_wp2
    go_ret
    exact ⟨_, rfl, HF.out, HB.out⟩
end Go.Proofs.YtcbpgbiannpfpaaDoor
