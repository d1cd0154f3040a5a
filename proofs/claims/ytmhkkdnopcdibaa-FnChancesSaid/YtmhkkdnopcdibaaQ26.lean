/-
  Packed: DrwImplD, DrwFacts, Whole, Seats.
-/
import Derived.Deep.DeepCutAuto
import Derived.Laws.Rows
import Derived.Laws.Tables
import Derived.Laws.ResultCell
import Derived.Test.YtmhkkdnopcdibaaQ2
import Derived.Test.YtmhkkdnopcdibaaQ5
import Derived.Test.YtmhkkdnopcdibaaQ17
import Derived.Test.YtmhkkdnopcdibaaQ18
import Derived.Test.YtmhkkdnopcdibaaQ20
import Derived.Test.YtmhkkdnopcdibaaQ25
set_option linter.unusedVariables false
namespace Go.Proofs.Ytmhkkdnopcdibaa
open Go.RowKit

def dropV (k : Nat) : Value → Value
  | .slice a n c => .slice (if c = k then a else a.map fun x => x.add k) (n - k) (c - k)
  | v => v
theorem dropV_slice (k : Nat) (a : Option Addr) (n c : Nat) : dropV k (.slice a n c) = .slice (if c = k then a else a.map fun x => x.add k) (n - k) (c - k) := rfl
theorem dropV_row {w : World} {v : Value} {n k : Nat} {g : Nat → Int} (h : IntRow w v n g) (hk : k ≤ n) : IntRow w (dropV k v) (n - k) (fun i => g (k + i)) := by
  by_cases e : n = k
  · subst e
    obtain ⟨a, c, rfl, _, _⟩ := h.form
    exact .inl ⟨_, _, by rw [dropV_slice, Nat.sub_self], Nat.sub_self _⟩
  rcases h with ⟨a, c, rfl, h0⟩ | ⟨b, off, c, rfl, h0, hn, hc, hcap⟩
  · omega
  · refine .inr ⟨b, off + k, c - k, ?_, by omega, by omega, fun i hi => ?_, by omega⟩
    · rw [dropV_slice, if_neg (by omega)]; simp [Addr.add]
    · rw [Nat.add_assoc]; exact hc (k + i) (by omega)
theorem grpL_stop (T L : List Int) (g : Int) {a : Nat} (h : L.length ≤ a) : ∀ n, grpL T L g (a + n) = grpL T L g a
  | 0 => rfl
  | n + 1 => by rw [← Nat.add_assoc, grpL_succ, if_neg (fun h2 => by omega), grpL_stop T L g h n]
theorem flat_get {T : List (List Int)} {k i : Nat} {r : List Int} (hr : T[k]? = some r) (hi : i < r.length) : getI T.flatten (((T.take k).flatten).length + i) = getI r i := by
  have h : T.flatten = (T.take k).flatten ++ (r ++ (T.drop (k + 1)).flatten) := by
    obtain ⟨hl, he⟩ := List.getElem?_eq_some_iff.1 hr
    have e1 : T.drop k = r :: T.drop (k + 1) := by rw [List.drop_eq_getElem_cons hl, he]
    have e2 : T.flatten = (T.take k).flatten ++ (T.drop k).flatten := by rw [← List.flatten_append, List.take_append_drop]
    rw [e2, e1, List.flatten_cons]
  unfold getI
  rw [h, List.getD_eq_getElem?_getD, List.getElem?_append_right (by omega), Nat.add_sub_cancel_left, List.getElem?_append_left hi, ← List.getD_eq_getElem?_getD]
set_option maxRecDepth 100000 in
set_option maxHeartbeats 8000000 in
theorem groupOf_impl (vp : Value) (gr most : Int) (T : List (List Int)) (vd : Value) (L : List Int) (g : Int) (w : World) (h : RdA tIntSS w [vp] T) (hw : tIntSS.wt T ≤ 1048576) (hd : IntRow w vd L.length (getI L)) :
    Calls Try.prog 20 #[.agg #[vp, .int .i64 gr, .int .i64 most], vd, .int .i64 g] w (IntsL w (grpL T.flatten L g T.flatten.length)) := by
  obtain ⟨i0, hi, hz0, hz1, hz2⟩ := info_parts Try.infoI
  obtain ⟨pa, pc, rfl, hpn⟩ := pots_form h
  obtain ⟨da, dc, rfl, hdn, _⟩ := hd.form
  have hfl := Nat.le_trans (flat_wt (T := T)) hw
  obtain ⟨np, hnp⟩ : ∃ np, List.length (α := List Int) T = np := ⟨_, rfl⟩
  have HNP := Lib.hid hnp
  obtain ⟨m, hm⟩ : ∃ m, L.length = m := ⟨_, rfl⟩
  have HM := Lib.hid hm
  have HFL : Hid (∀ k, ((T.take k).flatten).length ≤ 1048576) := fun k => Nat.le_trans (flat_takeD k) hfl
  obtain ⟨U, hU⟩ : ∃ U, w.alloc (.cells #[.slice pa (List.length (α := List Int) T) pc, .int .i64 gr, .int .i64 most] 26) = U := ⟨_, rfl⟩
  have bU : Below w.heap.size w U := by rw [← hU]; exact (Below.refl _ _).alloc (Nat.le_refl _) _
  have HS : Hid (PotsAt U w.heap.size pa (List.length (α := List Int) T) pc gr most T) := by rw [← hU]; exact PotsAt.made h
  have HB := Lib.hid bU
  have HD : Hid (IntRow U (.slice da m dc) m (fun i => getI L (0 + i))) := by
    have h9 := hd.below bU (Nat.le_refl _)
    rw [hm] at h9
    exact h9.congr fun i _ => by rw [Nat.zero_add]
  rw [hm] at hdn ⊢
  rw [hnp] at hpn hU HS ⊢
  clear h hd bU hw hm hnp hfl
  have c0 := HS.out.1.2 0 _ rfl
  generalize hFL : T.flatten = FL at *
  have HFG : Hid (∀ (k i : Nat) (r : List Int), T[k]? = some r → i < r.length → getI FL (((T.take k).flatten).length + i) = getI r i) := fun k i r h1 h2 => by rw [← hFL]; exact flat_get h1 h2
  have HFE : Hid (((T.take np).flatten).length = FL.length) := by show _ = _; rw [← hFL, List.take_of_length_le (by rw [HNP.out]; exact Nat.le_refl _)]
  clear hFL
  go_enter Try.func20, Try.ntmps20
  go_wp2
  clear hU c0
  go_loopw [1, 7, 16] (fun dv ov iv wr => ∃ (k s m2 : Nat) (xa : Option Addr) (xc : Nat) (out : List Int), k ≤ np ∧ iv = .int .i64 k ∧ dv = .slice xa m2 xc ∧ m2 ≤ 9223372036854775807 ∧ Hid (s = ((T.take k).flatten).length) ∧ Hid (m2 = m - s) ∧ Hid (out = grpL FL L g s) ∧ out.length ≤ s ∧ s ≤ 1048576 ∧ Hid (IntRow U (.slice xa m2 xc) m2 (fun i => getI L (s + i))) ∧ Hid (wr.ownsRow U.heap.size 3 1 ov out.length (out.map (Value.int .i64))) ∧ Hid (Below U.heap.size U wr)) (fun _ _ iv _ => np - (RowKit.intOf iv).toNat)
  case atStart => exact ⟨0, 0, m, da, dc, [], Nat.zero_le _, rfl, rfl, hdn, rfl, rfl, rfl, Nat.le_refl _, by omega, HD, World.ownsRow_nil _ _ _ _, Below.refl _ _⟩
  case round =>
    clear HD
    obtain ⟨k, s, m2, xa, xc, out, hk9, rfl, rfl, hm63, HV, HM2, HOL, hl6, hs6, HD, HO, HBr⟩ := hrel
    obtain ⟨oa, oc, hof⟩ := owns_form HO.out
    subst hof
    by_cases hlt : k < np
    · have HSr := Lib.hid (HS.out.below HBr.out)
      obtain ⟨r, hr⟩ : ∃ r : List Int, T[k]? = some r := ⟨_, List.getElem?_eq_getElem (by rw [HNP.out]; exact hlt)⟩
      obtain ⟨b, off, x, rc, rfl, hcap, q9, hrr, hr63⟩ := pot_cells (by rw [HNP.out]; exact HS.out.2) hr
      have q0 := (HBr.out.cell (p := ⟨b, off + k, none⟩) (World.block_lt_of_cell? U _ q9)).trans q9
      rw [HNP.out] at hcap
      have hj1 : (k : Int) < (np : Int) := by omega
      have hl9 := HFL.out (k + 1)
      have HVN := Lib.hid (lenSum_take hr)
      rw [HVN.out, ← HV.out] at hl9
      rw [← HV.out] at HVN
      have HFR : Hid (∀ i, i < r.length → getI FL (s + i) = getI r i) := fun i hi => by rw [HV.out]; exact HFG.out k i r hr hi
      have HRR := Lib.hid hrr
      have hrc : r.length ≤ rc ∨ r.length = 0 := by
        rcases hrr with ⟨_, _, _, h0⟩ | ⟨_, _, _, h1, _, _, _, h2⟩
        · exact .inr h0
        · simp only [Value.slice.injEq] at h1; exact .inl (by omega)
      clear hrr hr HV q9
      obtain ⟨rl, hrl⟩ : ∃ rl, r.length = rl := ⟨_, rfl⟩
      rw [hrl] at q0 hr63 hl9 HVN HFR HRR hrc
      clear hrl
      have hmc : m2 ≤ xc ∨ m2 = 0 := by
        rcases HD.out with ⟨_, _, _, h0⟩ | ⟨_, _, _, h1, _, _, _, h2⟩
        · exact .inr h0
        · simp only [Value.slice.injEq] at h1; exact .inl (by omega)
      have c0 := HSr.out.1.2 0 _ rfl
      have hszr : U.heap.size ≤ wr.heap.size := HBr.out.size
      clear HSr
      go_upto_region 5 with fail
      go_cut [10] (fun s10 wx => ∃ n : Nat, s10 = .int .i64 n ∧ n ≤ rl ∧ n ≤ m2 ∧ Hid (n = rl ∨ n = m2) ∧ wx = wr)
      case first =>
        have hmin : min (rl : Int) (m2 : Int) = ((min rl m2 : Nat) : Int) := by omega
        go_wp2_with fail
        go_meet
        case rel => exact ⟨min rl m2, rfl, Nat.min_le_left _ _, Nat.min_le_right _ _, (by rcases Nat.le_total rl m2 with h | h; exact .inl (Nat.min_eq_left h); exact .inr (Nat.min_eq_right h)), rfl⟩
      case rest =>
        obtain ⟨n, rfl, hn1, hn2, HN3, rfl⟩ := hcut
        have hnc : n ≤ rc := by omega
        have hmx : m2 ≤ xc := by omega
        have hn63 : (n : Int) ≤ 9223372036854775807 := by omega
        generalize wc = wo at *
        go_wp2
        clear c0 q0
        go_loopw [7, 29] (fun ov iv wr => ∃ (i : Nat) (out2 : List Int), i ≤ n ∧ iv = .int .i64 i ∧ Hid (out2 = grpL FL L g (s + i)) ∧ out2.length ≤ s + i ∧ Hid (wr.ownsRow U.heap.size 3 1 ov out2.length (out2.map (Value.int .i64))) ∧ Hid (Below U.heap.size U wr)) (fun _ iv _ => n - (RowKit.intOf iv).toNat)
        case atStart => exact ⟨0, out, Nat.zero_le _, rfl, HOL, hl6, HO, HBr⟩
        case round =>
          clear HO HBr HOL hl6 hszr
          obtain ⟨i, out2, hi9, rfl, HV2, hl7, HO2, HBr2⟩ := hrel
          obtain ⟨oa2, oc2, hof2⟩ := owns_form HO2.out
          subst hof2
          by_cases hlt2 : i < n
          · have HRr := Lib.hid (HRR.out.below HBr2.out (Nat.le_refl _))
            have HDr := Lib.hid (HD.out.below HBr2.out (Nat.le_refl _))
            obtain ⟨b1, off1, rfl, hcap1, q1⟩ := int_at HRr.out (show i < rl by omega)
            obtain ⟨b2, off2, rfl, hcap2, q2⟩ := int_at HDr.out (show i < m2 by omega)
            have hj2 : (i : Int) < (n : Int) := by omega
            have hj3 : (i : Int) < (m2 : Int) := by omega
            have HVN2 := Lib.hid (grpL_succ FL L g (s + i))
            have hsl : s + i < m := by have := HM2.out; omega
            rw [HM.out, HFR.out i (by omega)] at HVN2
            clear HRr HDr
            generalize getI r i = xv at *
            generalize getI L (s + i) = y at *
            by_cases hy : y = g
            · have g2 : (y == g) = true := by simp [hy]
              have HVx : Hid (out2 ++ [xv] = grpL FL L g (s + (i + 1))) := by show _ = _; rw [← Nat.add_assoc, HVN2.out, if_pos ⟨hsl, hy⟩, ← HV2.out]
              have hszr := HBr2.out.size
              have HO3 := HO2
              clear HVN2 hy HV2
              go_wp2_with (at_builtin; refine wpList_pushL rfl (.tmp 40) (.tmp 42) 31 rfl U.heap.size 3 Try.underlying31 hi hz0 hz1 hz2 rfl (by decide) [.int .i64 xv] rfl (by intro u hu; simp at hu; subst hu; rfl) rfl (by show Value.slice (some ⟨_, 0, none⟩) 1 1 = _; simp) HO3.out (by unfold maxLen; omega) (by omega) hszr ?_; intro gg5 cc5 w5 o5 g5 at5 lt5; have O5 := Lib.hid o5; have HB5 := Lib.hid (HBr2.out.grown g5 hszr (fun q hq => (HO3.out.lt q hq).1)); clear o5 g5 at5 lt5)
              go_roundw
              case rel => exact ⟨i + 1, out2 ++ [xv], by omega, by go_num, HVx, by rw [List.length_append, List.length_singleton]; omega, by rw [List.length_append, List.map_append]; exact O5, HB5⟩
              case measure => simp [RowKit.intOf]; omega
            · have g2 : (y == g) = false := by simp [hy]
              have HVx : Hid (out2 = grpL FL L g (s + (i + 1))) := by show _ = _; rw [← Nat.add_assoc, HVN2.out, if_neg (fun h => hy h.2), ← HV2.out]
              clear HVN2 hy HV2
              go_wp2
              go_roundw
              case rel => exact ⟨i + 1, out2, by omega, by go_num, HVx, by omega, HO2, HBr2⟩
              case measure => simp [RowKit.intOf]; omega
          obtain rfl : i = n := by omega
          have HOLn : Hid (out2 = grpL FL L g (s + rl)) := by
            show _ = _
            rw [HV2.out]
            rcases HN3.out with h | h
            · rw [h]
            · have h2 := HM2.out
              have h3 := grpL_stop FL L g (a := s + i) (by rw [HM.out]; omega) (rl - i)
              rw [← h3]
              congr 1
              omega
          have HDn : Hid (IntRow U (dropV i (.slice xa m2 xc)) (m2 - i) (fun j => getI L (s + rl + j))) := (dropV_row HD.out hn2).congr fun j hj => by
            rcases HN3.out with h | h
            · rw [h]; congr 1; omega
            · omega
          have HM2n : Hid (m2 - i = m - (s + rl)) := by
            have h2 := HM2.out
            rcases HN3.out with h | h <;> (show _ = _; omega)
          have hlo : out2.length ≤ s + rl := by omega
          clear HV2 HN3 HFR HM2 HRR hl7 hn1
          rw [dropV_slice] at HDn
          by_cases e : xc = i
          · subst e
            rw [if_pos rfl] at HDn
            go_wp2
            go_roundw
            case rel => exact ⟨k + 1, s + rl, m2 - xc, xa, _, out2, by omega, by go_num, (by rw [show m2 - xc = 0 by omega, Nat.sub_self]), by omega, HVN.out.symm, HM2n, HOLn, hlo, hl9, HDn, HO2, HBr2⟩
            case measure => simp [RowKit.intOf]; omega
          · rw [if_neg e] at HDn
            go_wp2
            go_roundw
            case rel => exact ⟨k + 1, s + rl, m2 - i, _, _, out2, by omega, by go_num, rfl, by omega, HVN.out.symm, HM2n, HOLn, hlo, hl9, HDn, HO2, HBr2⟩
            case measure => simp [RowKit.intOf]; omega
    obtain rfl : k = np := by omega
    have HE : Hid (out = grpL FL L g FL.length) := by show _ = _; rw [HOL.out, HV.out, HFE.out]
    go_wp2
    go_ret
    rw [← HE.out]
    exact ⟨_, rfl, owns_mono HO.out HB.out.size, HB.out.trans (HBr.out.mono HB.out.size)⟩
end Go.Proofs.Ytmhkkdnopcdibaa
set_option linter.unusedVariables false
namespace Go.Proofs.Ytmhkkdnopcdibaa
open Go.RowKit

def epB (d : DrwD) (i : Nat) : Bool := decide (i + 1 = d.N ∨ d.pot (i + 1) ≠ d.pot i)
def ecB (d : DrwD) (i : Nat) : Bool := (List.range d.N).all fun j => decide (j ≤ i) || decide (d.cl j ≠ d.cl i)
theorem ecB_iff {d : DrwD} {i : Nat} : ecB d i = true ↔ ∀ j, i < j → j < d.N → d.cl j ≠ d.cl i := by
  unfold ecB
  rw [List.all_eq_true]
  simp only [List.mem_range, Bool.or_eq_true, decide_eq_true_eq]
  constructor
  · intro h j h1 h2
    rcases h j h2 with h3 | h3
    · omega
    · exact h3
  · intro h j h2
    by_cases h1 : j ≤ i
    · exact .inl h1
    · exact .inr (h j (by omega) h2)
def lastB (d : DrwD) (c : Nat) : Nat → Nat
  | 0 => 0
  | s + 1 => if d.cl s = c then s else lastB d c s
theorem lastB_spec (d : DrwD) (c : Nat) : ∀ (s i : Nat), i < s → d.cl i = c → (lastB d c s = i ↔ ∀ j, i < j → j < s → d.cl j ≠ c)
  | 0, i, h, _ => absurd h (Nat.not_lt_zero _)
  | s + 1, i, h, hc => by
    unfold lastB
    by_cases h1 : d.cl s = c
    · rw [if_pos h1]
      constructor
      · intro e j h2 h3; omega
      · intro h4
        apply Classical.byContradiction
        intro h5
        exact h4 s (by omega) (by omega) h1
    · rw [if_neg h1]
      have h2 : i < s := by
        apply Classical.byContradiction
        intro h3
        have : i = s := by omega
        subst this
        exact h1 hc
      rw [lastB_spec d c s i h2 hc]
      constructor
      · intro h3 j h4 h5
        by_cases e : j = s
        · subst e; exact h1
        · exact h3 j h4 (by omega)
      · intro h3 j h4 h5
        exact h3 j h4 (by omega)
theorem lastB_le (d : DrwD) (c : Nat) : ∀ s, lastB d c s ≤ s
  | 0 => Nat.le_refl _
  | s + 1 => by
    unfold lastB
    have := lastB_le d c s
    split <;> omega
theorem ec_last {d : DrwD} {i : Nat} (hi : i < d.N) : ((lastB d (d.cl i) d.N : Int) == (i : Int)) = ecB d i := by
  rw [Bool.eq_iff_iff, ecB_iff, beq_iff_eq, ← lastB_spec d (d.cl i) d.N i hi rfl]
  omega
theorem ep_last {F : Nat → TeamD} {T : List (List Int)} {gr most : Int} (hne : ∀ r, r ∈ T → 1 ≤ r.length) {k i : Nat} {r : List Int} (hr : T[k]? = some r) (hi : i < r.length) :
    epB (drwD F T gr most) (((T.take k).flatten).length + i) = decide (i = r.length - 1) := by
  have hk : k < T.length := (List.getElem?_eq_some_iff.1 hr).1
  have h1 : potAt T (((T.take k).flatten).length + i) = k := potAt_in T k r hr i hi
  have hs := lenSum_take hr
  have hN : (drwD F T gr most).N = T.flatten.length := rfl
  have hp : (drwD F T gr most).pot = potAt T := rfl
  unfold epB
  rw [hN, hp, h1]
  apply decide_eq_decide.2
  by_cases e : i + 1 = r.length
  · have e1 : ((T.take k).flatten).length + i + 1 = ((T.take (k + 1)).flatten).length := by omega
    rw [e1]
    refine ⟨fun _ => by omega, fun _ => ?_⟩
    by_cases h2 : k + 1 < T.length
    · have h3 : T[k + 1]? = some T[k + 1] := List.getElem?_eq_getElem h2
      have h4 := potAt_in T (k + 1) _ h3 0 (hne _ (List.getElem_mem h2))
      rw [Nat.add_zero] at h4
      right
      rw [h4]
      omega
    · left
      rw [List.take_of_length_le (by omega)]
  · have h2 : potAt T (((T.take k).flatten).length + (i + 1)) = k := potAt_in T k r hr (i + 1) (by omega)
    have h3 : ((T.take (k + 1)).flatten).length ≤ T.flatten.length := flat_takeD (k + 1)
    rw [← Nat.add_assoc] at h2
    rw [h2]
    omega
theorem cl_at {nf : Nat} {F : Nat → TeamD} {T : List (List Int)} {gr most : Int} (h : potsP nf F T gr most) {k i : Nat} {r : List Int} (hr : T[k]? = some r) (hi : i < r.length) :
    ∃ t : Nat, getI r i = t ∧ t < nf ∧ (F t).club = ((drwD F T gr most).cl (((T.take k).flatten).length + i) : Int) ∧ (drwD F T gr most).cl (((T.take k).flatten).length + i) < 6 := by
  obtain ⟨hf, _, _, _, _, hd⟩ := h
  have hlen : ((T.take k).flatten).length + i < T.flatten.length := by
    have h1 := lenSum_take hr
    have h2 := flat_takeD (T := T) (k + 1)
    omega
  have h1 := (hd _ hlen).1
  rw [flat_get hr hi] at h1
  refine ⟨(getI r i).toNat, by omega, by omega, ?_⟩
  have h2 := (hf.2 (getI r i).toNat (by omega)).1.2.1
  have e : (drwD F T gr most).cl (((T.take k).flatten).length + i) = (F (getI r i).toNat).club.toNat := by
    show (F (teamAt T _)).club.toNat = _
    unfold teamAt
    rw [flat_get hr hi]
  rw [e]
  omega
theorem cl_lt {nf : Nat} {F : Nat → TeamD} {T : List (List Int)} {gr most : Int} (h : potsP nf F T gr most) {i : Nat} (hi : i < T.flatten.length) : (drwD F T gr most).cl i < 6 := by
  obtain ⟨hf, _, _, _, _, hd⟩ := h
  have h1 := (hd i hi).1
  have h2 := (hf.2 (getI T.flatten i).toNat (by omega)).1.2.1
  show (F (getI T.flatten i).toNat).club.toNat < 6
  omega
theorem pots_ne {nf : Nat} {F : Nat → TeamD} {T : List (List Int)} {gr most : Int} (h : potsP nf F T gr most) : ∀ r, r ∈ T → 1 ≤ r.length := fun r hr => by
  obtain ⟨i, hi, e⟩ := List.getElem_of_mem hr
  have := h.2.2.2.2.1 i hi
  rw [List.getD_eq_getElem?_getD, List.getElem?_eq_getElem hi, e] at this
  have h2 := this.1
  simp only [Option.getD_some] at h2
  omega
theorem getI_ok {L : List Int} {i : Nat} (h : i < L.length) : getI L i = L[i] := by
  unfold getI
  rw [List.getD_eq_getElem?_getD, List.getElem?_eq_getElem h]
  rfl
theorem pots_small {nf : Nat} {F : Nat → TeamD} {T : List (List Int)} {gr most : Int} (h : potsP nf F T gr most) : T.flatten.length ≤ 8 := by
  obtain ⟨hf, _, _, _, _, hd⟩ := h
  have h1 : (T.flatten.map Int.toNat).Nodup := by
    rw [List.nodup_iff_pairwise_ne, List.pairwise_map, List.pairwise_iff_getElem]
    intro i j hi hj hij e
    have a1 := (hd i hi).1
    have a2 := hd j hj
    have g1 : getI T.flatten i = T.flatten[i] := getI_ok hi
    have g2 : getI T.flatten j = T.flatten[j] := getI_ok hj
    rw [g1] at a1
    rw [g2] at a2
    refine a2.2 ?_
    have e2 : T.flatten[j] = T.flatten[i] := by omega
    rw [e2]
    exact List.mem_take_iff_getElem.2 ⟨i, by omega, rfl⟩
  have h2 := nodup_ltD nf (T.flatten.map Int.toNat) h1 fun x hx => by
    obtain ⟨y, hy, rfl⟩ := List.mem_map.1 hx
    obtain ⟨i, hi, e⟩ := List.getElem_of_mem hy
    have a1 := (hd i hi).1
    have g1 : getI T.flatten i = T.flatten[i] := getI_ok hi
    rw [g1, e] at a1
    omega
  rw [List.length_map] at h2
  have := hf.1
  omega
end Go.Proofs.Ytmhkkdnopcdibaa
set_option linter.unusedVariables false
namespace Go.Proofs.Ytmhkkdnopcdibaa
open Go.RowKit

def Whole (w : World) (B : Nat) (cs : Array Value) (t : TypeId) : Prop := w.heap[B]? = some (.cells cs t (0, 0))
theorem Whole.lt {w : World} {B : Nat} {cs : Array Value} {t : TypeId} (h : Whole w B cs t) : B < w.heap.size := (Array.getElem?_eq_some_iff.1 h).1
theorem Whole.made (w : World) (cs : Array Value) (t : TypeId) : Whole (w.alloc (.cells cs t)) w.heap.size cs t := by
  show (w.heap.push _)[w.heap.size]? = _
  simp
theorem Whole.below {w w' : World} {B : Nat} {cs : Array Value} {t : TypeId} (h : Whole w B cs t) (hb : Below w.heap.size w w') : Whole w' B cs t := (hb.block B h.lt).trans h
theorem Whole.low {w w' : World} {B base : Nat} {cs : Array Value} {t : TypeId} (h : Whole w B cs t) (hb : Below base w w') (hB : B < base) : Whole w' B cs t := (hb.block B hB).trans h
theorem Whole.cell {w : World} {B j : Nat} {cs : Array Value} {t : TypeId} (h : Whole w B cs t) {v : Value} (hv : cs[j]? = some v) : w.cell? ⟨B, j, none⟩ = some v := (cell_of_row w B j cs t (0, 0) h).trans hv
theorem Whole.free {w : World} {B : Nat} {cs : Array Value} {t : TypeId} (h : Whole w B cs t) (j : Nat) : w.frozen? ⟨B, j, none⟩ = false := frozen_of_row w B j cs t h
theorem Whole.set {w : World} {B : Nat} {cs : Array Value} {t : TypeId} (h : Whole w B cs t) (j : Nat) (v : Value) : Whole (w.setCell ⟨B, j, none⟩ v) B (cs.setIfInBounds j v) t := by
  show (w.heap.modify B _)[B]? = _
  rw [Array.getElem?_modify, if_pos rfl, show w.heap[B]? = _ from h]
  rfl
theorem Whole.other {w : World} {B : Nat} {cs : Array Value} {t : TypeId} (h : Whole w B cs t) (a : Addr) (v : Value) (hne : a.block ≠ B) : Whole (w.setCell a v) B cs t := by
  show (w.heap.modify a.block _)[B]? = _
  rw [Array.getElem?_modify, if_neg hne]
  exact h
theorem Whole.setRow {w : World} {B : Nat} {cs ds : Array Value} {t : TypeId} (h : Whole w B cs t) : Whole (w.setRow B ds) B ds t := setRow_heap w B cs ds t (0, 0) h
theorem below_setRow {w w' : World} {base B : Nat} {ds : Array Value} (h : Below base w w') (hB : base ≤ B) : Below base w (w'.setRow B ds) :=
  ⟨h.os, h.tape, h.output, by simpa [World.setRow] using h.size, fun k hk => (setRow_other w' B k ds (by omega)).trans (h.block k hk)⟩
theorem results_cell1 {fn : Func} {p : Tmp} {ty : TypeId} (h : fn.results = #[.cell p ty]) {tmps : Array Value} {P : Program} {w : World} {B : Nat} {v : Value} (ha : tmps.getD p undef = .pointer (some ⟨B, 0, none⟩)) (hl : (loadVar ty ⟨B, 0, none⟩).run P w = .ok v w) :
    (results fn tmps).run P w = .ok v w := by
  simp only [results, h]
  simp [asAddr, -Array.getD_eq_getD_getElem?, ha, hl]
end Go.Proofs.Ytmhkkdnopcdibaa
set_option linter.unusedVariables false
namespace Go.Proofs.Ytmhkkdnopcdibaa
open Go.RowKit

def SeatA (cs : Array Value) (S : Nat → Nat) : Prop := cs.size = 28 ∧ ∀ j, j < 28 → cs[j]? = some (.int .i8 (S j : Int))
theorem SeatA.congr {cs : Array Value} {S S' : Nat → Nat} (h : SeatA cs S) (e : ∀ j, j < 28 → S j = S' j) : SeatA cs S' := ⟨h.1, fun j hj => by rw [h.2 j hj, e j hj]⟩
theorem SeatA.set {cs : Array Value} {S : Nat → Nat} (h : SeatA cs S) (m x : Nat) (hm : m < 28) : SeatA (cs.setIfInBounds m (.int .i8 (x : Int))) (fun j => if j = m then x else S j) := by
  refine ⟨by rw [Array.size_setIfInBounds]; exact h.1, fun j hj => ?_⟩
  rw [Array.getElem?_setIfInBounds]
  by_cases e : m = j
  · subst e
    rw [if_pos rfl, if_pos (by rw [h.1]; exact hj)]
    show _ = some (Value.int .i8 ((if m = m then x else S m : Nat) : Int))
    rw [if_pos rfl]
  · rw [if_neg e]
    show _ = some (Value.int .i8 ((if j = m then x else S j : Nat) : Int))
    rw [if_neg (Ne.symm e)]
    exact h.2 j hj
theorem SeatA.all {cs : Array Value} {S : Nat → Nat} (h : SeatA cs S) : cs.all (·.oneCell') = true := by
  refine Array.all_eq_true_iff_forall_mem.2 fun v hv => ?_
  obtain ⟨j, hj, rfl⟩ := Array.mem_iff_getElem.1 hv
  have h1 := h.2 j (by rw [← h.1]; exact hj)
  rw [Array.getElem?_eq_getElem hj] at h1
  rw [Option.some.inj h1]
  rfl
theorem SeatA.eq {cs cs' : Array Value} {S : Nat → Nat} (h : SeatA cs S) (h' : SeatA cs' S) : cs = cs' := by
  apply Array.ext
  · rw [h.1, h'.1]
  · intro i h1 h2
    have a := h.2 i (by rw [← h.1]; exact h1)
    have b := h'.2 i (by rw [← h.1]; exact h1)
    rw [Array.getElem?_eq_getElem h1] at a
    rw [Array.getElem?_eq_getElem h2] at b
    exact (Option.some.inj a).trans (Option.some.inj b).symm
def forgS (c : Nat) (ep ec : Bool) (S : Nat → Nat) : Nat → Nat := fun j => if ep = true ∧ j % 7 = 0 then 0 else if ec = true ∧ j % 7 = 1 + c then 0 else S j
def moreS (c g : Nat) (S : Nat → Nat) : Nat → Nat := fun j => if j = g * 7 + 1 + c then S j + 1 else if j = g * 7 then S j + 1 else S j
def aftS (c : Nat) (ep ec : Bool) (g : Nat) (S : Nat → Nat) : Nat → Nat := forgS c ep ec (moreS c g S)
def fitS (d : DrwD) (S : Nat → Nat) (i g : Nat) : Bool := decide (S (g * 7) = 0) && decide ((S (g * 7 + 1 + d.cl i) : Int) < d.most)
def nxtSe (d : DrwD) (S : Nat → Nat) (i g : Nat) : Nat → Nat := aftS (d.cl i) (epB d i) (ecB d i) g S
def zF (d : DrwD) : Nat → (Nat → Nat) → Nat → Nat
  | 0, _, i => if i = d.N then 1 else 0
  | f + 1, S, i => if i = d.N then 1 else sumNN (fun g => if fitS d S i g = true then zF d f (nxtSe d S i g) (i + 1) else 0) d.G
def foldS (d : DrwD) : List Int → Nat → (Nat → Nat) → Option (Nat → Nat)
  | [], _, S => some S
  | x :: L, i, S => if (0 ≤ x ∧ x ≤ (d.G : Int) - 1) ∧ fitS d S i x.toNat = true then foldS d L (i + 1) (nxtSe d S i x.toNat) else none
theorem foldS_cons (d : DrwD) (x : Int) (L : List Int) (i : Nat) (S : Nat → Nat) : foldS d (x :: L) i S = if (0 ≤ x ∧ x ≤ (d.G : Int) - 1) ∧ fitS d S i x.toNat = true then foldS d L (i + 1) (nxtSe d S i x.toNat) else none := rfl
structure Sim (d : DrwD) (i : Nat) (S : Nat → Nat) (P : Nat → Nat → Bool) (C : Nat → Nat → Int) : Prop where
  pot : ∀ g, g < d.G → i < d.N → (S (g * 7) = 0 ↔ P g (d.pot i) = false)
  late : ∀ g, g < d.G → i < d.N → ∀ j, i < j → j < d.N → d.pot j ≠ d.pot i → P g (d.pot j) = false
  club : ∀ g, g < d.G → ∀ j, i ≤ j → j < d.N → (S (g * 7 + 1 + d.cl j) : Int) = C g (d.cl j)
structure DrwOk (d : DrwD) : Prop where
  mono : ∀ i j, i ≤ j → j < d.N → d.pot i ≤ d.pot j
  cl : ∀ i, i < d.N → d.cl i < 6
  G : 1 ≤ d.G ∧ d.G ≤ 4
  N : d.N ≤ 8
  most : 1 ≤ d.most ∧ d.most ≤ 8
theorem Sim.start (d : DrwD) : Sim d 0 (fun _ => 0) noP noC := ⟨fun g _ _ => ⟨fun _ => rfl, fun _ => rfl⟩, fun g _ _ j _ _ _ => rfl, fun g _ j _ _ => rfl⟩
theorem Sim.fit {d : DrwD} {i g : Nat} {S : Nat → Nat} {P : Nat → Nat → Bool} {C : Nat → Nat → Int} (h : Sim d i S P C) (hg : g < d.G) (hi : i < d.N) : fitS d S i g = fitB d P C i g := by
  unfold fitS fitB
  rw [h.club g hg i (Nat.le_refl _) hi]
  congr 1
  have h1 := h.pot g hg hi
  cases hp : P g (d.pot i) with
  | true => rw [hp] at h1; simp at h1; simp; omega
  | false => rw [hp] at h1; simp at h1; simp [h1]
theorem Sim.next {d : DrwD} {i g : Nat} {S : Nat → Nat} {P : Nat → Nat → Bool} {C : Nat → Nat → Int} (ok : DrwOk d) (h : Sim d i S P C) (hg : g < d.G) (hi : i < d.N) (hf : fitS d S i g = true) : Sim d (i + 1) (nxtSe d S i g) (putP d P i g true) (putC d C i g true) := by
  have hG := ok.G
  have hci := ok.cl i hi
  have hf0 : S (g * 7) = 0 := by
    unfold fitS at hf
    rw [Bool.and_eq_true, decide_eq_true_eq] at hf
    exact hf.1
  refine ⟨fun k hk h1 => ?_, fun k hk h1 j hj1 hj2 hne => ?_, fun k hk j hj1 hj2 => ?_⟩
  · have hep : epB d i = decide (d.pot (i + 1) ≠ d.pot i) := by unfold epB; apply decide_eq_decide.2; constructor <;> intro h9 <;> first | omega | exact .inr h9
    unfold nxtSe aftS forgS
    rw [hep]
    by_cases e : d.pot (i + 1) = d.pot i
    · have m1 : (k * 7) % 7 = 0 := by omega
      have m2 : ¬ (k * 7) % 7 = 1 + d.cl i := by omega
      simp only [e, ne_eq, not_true_eq_false, decide_false, Bool.false_eq_true, false_and, if_false, m2, and_false]
      unfold moreS putP
      by_cases ek : k = g
      · subst ek
        rw [if_neg (by omega), if_pos rfl, if_pos ⟨rfl, rfl⟩]
        simp
      · rw [if_neg (by omega), if_neg (by omega), if_neg (fun h9 => ek h9.1)]
        exact h.pot k hk hi
    · rw [if_pos ⟨decide_eq_true e, by omega⟩]
      refine ⟨fun _ => ?_, fun _ => rfl⟩
      unfold putP
      rw [if_neg (fun h9 => e h9.2)]
      exact h.late k hk hi (i + 1) (by omega) h1 e
  · unfold putP
    have m1 := ok.mono i (i + 1) (by omega) h1
    have m2 := ok.mono (i + 1) j (by omega) hj2
    have e2 : d.pot j ≠ d.pot i := by omega
    rw [if_neg (fun h9 => e2 h9.2)]
    exact h.late k hk hi j (by omega) hj2 e2
  · have hcj := ok.cl j hj2
    have hold := h.club k hk j (by omega) hj2
    unfold nxtSe aftS forgS
    rw [if_neg (fun h9 => by have := h9.2; omega)]
    by_cases e : ecB d i = true ∧ (k * 7 + 1 + d.cl j) % 7 = 1 + d.cl i
    · exfalso
      have := ecB_iff.1 e.1 j (by omega) hj2
      have h9 := e.2
      omega
    · rw [if_neg e]
      unfold moreS putC
      by_cases e2 : k = g ∧ d.cl j = d.cl i
      · rw [if_pos e2, if_pos (by rw [e2.1, e2.2]), if_pos rfl, ← e2.1, ← e2.2]
        push_cast
        omega
      · rw [if_neg e2, if_neg (by omega), if_neg (by omega)]
        exact hold
theorem Sim.count {d : DrwD} (ok : DrwOk d) : ∀ (f i : Nat) (S : Nat → Nat) (P : Nat → Nat → Bool) (C : Nat → Nat → Int), i + f = d.N → Sim d i S P C → zF d f S i = cntF d f P C i
  | 0, i, S, P, C, hi, h => rfl
  | f + 1, i, S, P, C, hi, h => by
    unfold zF cntF
    rw [if_neg (by omega), if_neg (by omega)]
    refine sumNN_congr _ fun g hg => ?_
    rw [h.fit hg (by omega)]
    by_cases hf : fitB d P C i g = true
    · rw [if_pos hf, if_pos hf]
      exact Sim.count ok f (i + 1) _ _ _ (by omega) (h.next ok hg (by omega) (by rw [h.fit hg (by omega)]; exact hf))
    · rw [if_neg hf, if_neg hf]
theorem Sim.fold {d : DrwD} (ok : DrwOk d) : ∀ (L : List Int) (i : Nat) (S : Nat → Nat) (P : Nat → Nat → Bool) (C : Nat → Nat → Int), i + L.length ≤ d.N → Sim d i S P C →
    (∀ S', foldS d L i S = some S' → ∃ P' C', begF d L i P C = some (P', C') ∧ Sim d (i + L.length) S' P' C') ∧ (foldS d L i S = none → begF d L i P C = none)
  | [], i, S, P, C, hi, h => ⟨fun S' e => by cases e; exact ⟨P, C, rfl, h⟩, fun e => by cases e⟩
  | x :: L, i, S, P, C, hi, h => by
    have hl : (x :: L).length = L.length + 1 := rfl
    have hiN : i < d.N := by omega
    rw [foldS_cons, begF_cons]
    by_cases hx : 0 ≤ x ∧ x ≤ (d.G : Int) - 1
    · have hg : x.toNat < d.G := by omega
      rw [h.fit hg hiN]
      by_cases hf : fitB d P C i x.toNat = true
      · rw [if_pos ⟨hx, hf⟩, if_pos ⟨hx, hf⟩]
        have := Sim.fold ok L (i + 1) _ _ _ (by omega) (h.next ok hg hiN (by rw [h.fit hg hiN]; exact hf))
        rw [hl, show i + (L.length + 1) = i + 1 + L.length by omega]
        exact this
      · rw [if_neg (fun h9 => hf h9.2), if_neg (fun h9 => hf h9.2)]
        exact ⟨(fun S' e => by cases e), fun _ => rfl⟩
    · rw [if_neg (fun h9 => hx h9.1), if_neg (fun h9 => hx h9.1)]
      exact ⟨(fun S' e => by cases e), fun _ => rfl⟩
theorem potAt_mono : ∀ (T : List (List Int)) (i j : Nat), i ≤ j → potAt T i ≤ potAt T j
  | [], i, j, _ => Nat.le_refl _
  | r :: T, i, j, h => by
    show (if i < r.length then 0 else potAt T (i - r.length) + 1) ≤ (if j < r.length then 0 else potAt T (j - r.length) + 1)
    by_cases h1 : i < r.length
    · rw [if_pos h1]; exact Nat.zero_le _
    · rw [if_neg h1, if_neg (by omega)]
      have := potAt_mono T (i - r.length) (j - r.length) (by omega)
      omega
theorem drw_ok {nf : Nat} {F : Nat → TeamD} {T : List (List Int)} {gr most : Int} (h : potsP nf F T gr most) : DrwOk (drwD F T gr most) :=
  ⟨fun i j hij _ => potAt_mono T i j hij, fun i hi => cl_lt h hi, by show 1 ≤ gr.toNat ∧ gr.toNat ≤ 4; have := h.2.1; omega, pots_small h, h.2.2.1⟩
end Go.Proofs.Ytmhkkdnopcdibaa
