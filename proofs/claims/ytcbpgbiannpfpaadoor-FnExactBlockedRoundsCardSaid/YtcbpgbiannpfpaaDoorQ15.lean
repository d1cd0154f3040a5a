/-
  Packed: RndImplB, CalImplB, TySeason, CalTy.
-/
import Derived.Test.YtcbpgbiannpfpaaDoorQ1
import Derived.Test.YtcbpgbiannpfpaaDoorQ7
import Derived.Test.YtcbpgbiannpfpaaDoorQ10
import Derived.Test.YtcbpgbiannpfpaaDoorQ13
set_option linter.unusedVariables false
namespace Go.Proofs.YtcbpgbiannpfpaaDoor
open Go.RowKit

set_option maxRecDepth 100000 in
set_option maxHeartbeats 4000000 in
theorem venuesOf_impl (v : Value) (d : List PairL) (tm : Int) (w : World) (h : RdA tPairSS w [v] d) (hw : tPairSS.wt d ≤ 1048576) :
    Calls Tryd.prog 68 #[v, .int .i64 tm] w (IntsL w (d.map fun r => venueL r tm)) := by
  obtain ⟨i0, hi, hz0, hz1, hz2⟩ := info_parts Tryd.infoI
  obtain ⟨a, c, rfl, hn⟩ := schedule_form h
  have HR := Lib.hid h
  clear h
  obtain ⟨n, hd⟩ : ∃ n, List.length (α := PairL) d = n := ⟨_, rfl⟩
  have HD := Lib.hid hd
  rw [hd] at hn ⊢
  clear hd
  have hn6 : n ≤ 1048576 := by have e : tPairSS.wt d = List.length (α := PairL) d + (d.map tPairS.wt).sum := rfl; rw [HD.out] at e; omega
  have CV := Lib.hid (fun v r wa h => venueIn_impl v r tm wa h)
  clear hw
  go_enter Tryd.func68, Tryd.ntmps68
  go_wp2_with (at_make; refine wpList_make_full _ rfl _ _ 24 rfl w.heap.size 3 i0 (.int .i64 0) 1 Tryd.underlying24 hi hz0 hz1 .i64 .i64 n n n rfl rfl rfl rfl (by rw [hz2]; omega) (by unfold maxLen; omega) (Nat.le_refl _) ?_; intro w1 hown hg1)
  have HO1 := Lib.hid hown
  have HB1 : Hid (Below w.heap.size w w1) := (Below.refl _ _).grown hg1 (Nat.le_refl _) (fun k hk => by cases hk)
  clear hown hg1
  go_loopw [13] (fun iv wr => ∃ (k : Nat) (ys : List Value), k ≤ n ∧ iv = .int .i64 k ∧ Hid (wr.ownsRow w.heap.size 3 1 (.slice (some ⟨w.heap.size, 0, none⟩) n n) n ys) ∧ Hid (∀ t, t < k → ys[t]? = some (.int .i64 (venueL (((d[t]?).getD [])) tm))) ∧ Hid (Below w.heap.size w wr)) (fun iv _ => n - (RowKit.intOf iv).toNat)
  case atStart => exact ⟨0, _, Nat.zero_le _, rfl, HO1.out, fun t ht => absurd ht (by omega), HB1.out⟩
  case round =>
    clear HO1 HB1
    obtain ⟨k, ys, hk9, rfl, HO, HY, HB⟩ := hrel
    by_cases hlt : k < n
    · obtain ⟨r, hr⟩ : ∃ r : PairL, d[k]? = some r := ⟨_, List.getElem?_eq_getElem (by rw [HD.out]; exact hlt)⟩
      have HRr := HR.out.below HB.out
      obtain ⟨b, off, x, xc, rfl, hcap, q0, hrr, hm63⟩ := round_cells HRr hr
      rw [HD.out] at hcap
      have hj1 : (k : Int) < (n : Int) := by omega
      have HRW := Lib.hid hrr
      have HYN : Hid (∀ z, z = venueL r tm → venueL ((d[k]?).getD []) tm = z) := fun z e => by rw [hr, e]; rfl
      clear hrr HRr hr
      go_wp2_with fail
      refine (CV.out _ r _ HRW.out).mono ?_
      rintro e w2 ⟨rfl, b2⟩
      have HO2 := Lib.hid (owns_below HO.out b2 (Nat.le_refl _))
      have HB2 := Lib.hid (HB.out.trans (b2.mono HB.out.size))
      have hs2 := HB2.out.size
      have HYN2 := Lib.hid (HYN.out _ rfl)
      clear b2 HO HB HRW HYN
      generalize venueL r tm = z at *
      obtain ⟨u, hu⟩ := owns_some HO2.out k hlt
      have HU := Lib.hid hu
      have hcl := owns_cell HO2.out k hlt HU
      have hfr := HO2.out.frozenAt k
      clear hu
      go_wp2
      go_roundw
      case rel =>
        refine ⟨k + 1, ys.set k (.int .i64 z), by omega, by go_num, (HO2.out.stored k _).1, fun t ht => ?_, HB2.out.setCell (Nat.le_refl _) _⟩
        have hlen := HO2.out.1
        by_cases htk : t = k
        · subst htk
          rw [List.getElem?_set_self (by omega), HYN2.out]
        · rw [List.getElem?_set_ne (by omega)]
          exact HY.out t (by omega)
      case measure => simp [RowKit.intOf]; omega
    obtain rfl : k = n := by omega
    have HE : Hid (ys = (d.map fun r => venueL r tm).map (Value.int .i64)) := by
      show _ = _
      have hlen := HO.out.1
      rw [List.map_map]
      apply List.ext_getElem?
      intro t
      by_cases ht : t < k
      · rw [HY.out t ht, List.getElem?_map]
        obtain ⟨r, hr⟩ : ∃ r : PairL, d[t]? = some r := ⟨_, List.getElem?_eq_getElem (by rw [HD.out]; exact ht)⟩
        rw [hr]; rfl
      · rw [List.getElem?_eq_none (by omega), List.getElem?_eq_none (by rw [List.length_map, HD.out]; omega)]
    clear HY
    go_wp2
    go_ret
    refine ⟨_, rfl, ?_, HB.out⟩
    have h9 := HO.out
    rw [HE.out] at h9
    rw [List.length_map]
    show World.ownsRow _ _ _ _ _ (List.length (α := PairL) d) _
    rw [HD.out]
    exact h9
end Go.Proofs.YtcbpgbiannpfpaaDoor
set_option linter.unusedVariables false
namespace Go.Proofs.YtcbpgbiannpfpaaDoor
open Go.RowKit

def absD (a b : Int) : Int := max a b - min a b
theorem absD_comm (a b : Int) : absD a b = absD b a := by unfold absD; omega
def playL (D : List PairL) (T : List Int) (tm : Int) : Nat → List Int
  | 0 => []
  | k + 1 => if venueL (atR D k) tm = 0 then playL D T tm k else playL D T tm k ++ [getI T k]
def leastI (P : List Int) : Nat → Int
  | 0 => -1
  | i + 1 => if i = 0 then -1 else if leastI P i < 0 ∨ absD (getI P (i - 1)) (getI P i) < leastI P i then absD (getI P (i - 1)) (getI P i) else leastI P i
theorem getI_lft (P Q : List Int) {i : Nat} (h : i < P.length) : getI (P ++ Q) i = getI P i := by unfold getI; simp [List.getD_eq_getElem?_getD, List.getElem?_append_left h]
theorem getI_lst (P : List Int) (x : Int) : getI (P ++ [x]) P.length = x := by unfold getI; simp [List.getD_eq_getElem?_getD]
theorem leastI_left (P Q : List Int) : ∀ i, i ≤ P.length → leastI (P ++ Q) i = leastI P i
  | 0, _ => rfl
  | i + 1, h => by
    unfold leastI
    rw [leastI_left P Q i (by omega)]
    by_cases h0 : i = 0
    · rw [if_pos h0, if_pos h0]
    · rw [if_neg h0, if_neg h0, getI_lft P Q (by omega), getI_lft P Q (by omega)]
theorem playL_len (D : List PairL) (T : List Int) (tm : Int) : ∀ k, (playL D T tm k).length ≤ k
  | 0 => Nat.le_refl _
  | k + 1 => by
    have := playL_len D T tm k
    unfold playL
    by_cases h : venueL (atR D k) tm = 0
    · rw [if_pos h]; omega
    · rw [if_neg h, List.length_append, List.length_singleton]; omega
theorem playL_in (D : List PairL) (T : List Int) (tm : Int) (lo hi : Int) : ∀ k, (∀ i, i < k → lo ≤ getI T i ∧ getI T i ≤ hi) → ∀ x ∈ playL D T tm k, lo ≤ x ∧ x ≤ hi
  | 0, _, x, hx => by cases hx
  | k + 1, h, x, hx => by
    unfold playL at hx
    by_cases e : venueL (atR D k) tm = 0
    · rw [if_pos e] at hx; exact playL_in D T tm lo hi k (fun i hi => h i (by omega)) x hx
    · rw [if_neg e] at hx
      rcases List.mem_append.1 hx with hx | hx
      · exact playL_in D T tm lo hi k (fun i hi => h i (by omega)) x hx
      · rw [List.mem_singleton.1 hx]; exact h k (Nat.lt_succ_self _)
theorem getI_in {P : List Int} {i : Nat} (h : i < P.length) : getI P i ∈ P := by unfold getI; rw [List.getD_eq_getElem?_getD, List.getElem?_eq_getElem h]; exact List.getElem_mem h
theorem rest_is (D : List PairL) (T : List Int) (tm : Int) : ∀ k, (∀ i, i < k → 0 ≤ getI T i ∧ getI T i ≤ 60) →
    restS D T tm k = (leastI (playL D T tm k) (playL D T tm k).length, if (playL D T tm k).length = 0 then -1 else getI (playL D T tm k) ((playL D T tm k).length - 1))
  | 0, _ => rfl
  | k + 1, h => by
    have ih := rest_is D T tm k (fun i hi => h i (by omega))
    have hin := playL_in D T tm 0 60 k (fun i hi => h i (by omega))
    show restStep D T tm k (restS D T tm k).1 (restS D T tm k).2 = _
    rw [ih]
    unfold restStep
    by_cases e : venueL (atR D k) tm = 0
    · have hp : playL D T tm (k + 1) = playL D T tm k := if_pos e
      rw [if_pos e, hp]
    · have hp : playL D T tm (k + 1) = playL D T tm k ++ [getI T k] := if_neg e
      rw [if_neg e, hp, List.length_append, List.length_singleton]
      generalize playL D T tm k = P at *
      generalize getI T k = x at *
      have e1 : leastI (P ++ [x]) (P.length + 1) = if P.length = 0 then -1 else if leastI P P.length < 0 ∨ absD (getI P (P.length - 1)) x < leastI P P.length then absD (getI P (P.length - 1)) x else leastI P P.length := by
        show (if P.length = 0 then -1 else if leastI (P ++ [x]) P.length < 0 ∨ absD (getI (P ++ [x]) (P.length - 1)) (getI (P ++ [x]) P.length) < leastI (P ++ [x]) P.length then absD (getI (P ++ [x]) (P.length - 1)) (getI (P ++ [x]) P.length) else leastI (P ++ [x]) P.length) = _
        by_cases h0 : P.length = 0
        · rw [if_pos h0, if_pos h0]
        · rw [if_neg h0, if_neg h0, leastI_left P [x] P.length (Nat.le_refl _), getI_lst, getI_lft P [x] (by omega)]
      rw [e1, if_neg (show ¬ P.length + 1 = 0 by omega), Nat.add_sub_cancel, getI_lst]
      refine Prod.ext ?_ rfl
      by_cases h0 : P.length = 0
      · simp only [if_pos h0]
        rw [if_neg (by omega)]
        have : P = [] := List.length_eq_zero_iff.1 h0
        subst this
        rfl
      · simp only [if_neg h0]
        have h9 := hin _ (getI_in (P := P) (i := P.length - 1) (by omega))
        have e2 : max x (getI P (P.length - 1)) - min x (getI P (P.length - 1)) = absD (getI P (P.length - 1)) x := absD_comm _ _
        rw [e2]
        by_cases hc : leastI P P.length < 0 ∨ absD (getI P (P.length - 1)) x < leastI P P.length
        · rw [if_pos hc, if_pos ⟨h9.1, hc⟩]
        · rw [if_neg hc, if_neg fun h => hc h.2]
theorem daysBetween_impl (a b : Int) (ha : 0 ≤ a ∧ a ≤ 60) (hb : 0 ≤ b ∧ b ≤ 60) (w : World) :
    Calls Tryd.prog 39 #[.int .i64 a, .int .i64 b] w fun e w' => e = .returned (.int .i64 (absD a b)) ∧ w' = w := by
  obtain ⟨z, hz⟩ : ∃ z, absD a b = z := ⟨_, rfl⟩
  have HZ : Hid (z = if a < b then b - a else a - b) := by rw [← hz]; unfold absD; refine Lib.hid ?_; split <;> omega
  rw [hz]
  clear hz
  obtain ⟨h1, h2⟩ := ha
  obtain ⟨h3, h4⟩ := hb
  by_cases hab : a < b
  · have hz : z = b - a := HZ.out.trans (if_pos hab)
    subst hz
    have n1 : ¬ b < a := by omega
    go_enter Tryd.func39, Tryd.ntmps39
    go_wp2
    go_ret
    exact ⟨rfl, rfl⟩
  · have hz : z = a - b := HZ.out.trans (if_neg hab)
    subst hz
    by_cases n1 : b < a
    · go_enter Tryd.func39, Tryd.ntmps39
      go_wp2
      go_ret
      exact ⟨rfl, rfl⟩
    · obtain rfl : a = b := by omega
      go_enter Tryd.func39, Tryd.ntmps39
      go_wp2
      go_ret
      exact ⟨rfl, rfl⟩
set_option maxRecDepth 100000 in
set_option maxHeartbeats 4000000 in
theorem datesOf_impl (vr : Value) (D : List PairL) (vt : Value) (T : List Int) (tm : Int) (w : World) (h : RdA tPairSS w [vr] D) (ht : IntRow w vt T.length (getI T)) (hl : T.length = List.length (α := PairL) D) (hw : tPairSS.wt D ≤ 1048576) :
    Calls Tryd.prog 38 #[vr, vt, .int .i64 tm] w (IntsL w (playL D T tm T.length)) := by
  obtain ⟨i0, hi, hz0, hz1, hz2⟩ := info_parts Tryd.infoI
  have hd6 : T.length ≤ 1048576 := by have e : tPairSS.wt D = List.length (α := PairL) D + (D.map tPairS.wt).sum := rfl; omega
  have C := Lib.hid (venuesOf_impl vr D tm w h hw)
  have HT := Lib.hid ht
  have HVL : Hid ((D.map fun r => venueL r tm).length = T.length) := by rw [List.length_map]; exact hl.symm
  have HVK : Hid (∀ k, k < T.length → getI (D.map fun r => venueL r tm) k = venueL (atR D k) tm) := fun k hk => by
    have hk2 : k < List.length (α := PairL) D := by omega
    unfold getI atR
    rw [List.getD_eq_getElem?_getD, List.getElem?_map, List.getElem?_eq_getElem hk2]
    rfl
  obtain ⟨ta, tc, rfl, htn, _⟩ := ht.form
  clear h ht hw hl
  generalize (D.map fun r => venueL r tm) = V at *
  have HPL := Lib.hid (playL_len D T tm)
  have HPS : Hid (∀ k, venueL (atR D k) tm = 0 → playL D T tm (k + 1) = playL D T tm k) := fun k e => if_pos e
  have HPN : Hid (∀ k, ¬ venueL (atR D k) tm = 0 → playL D T tm (k + 1) = playL D T tm k ++ [getI T k]) := fun k e => if_neg e
  have HP0 : Hid (playL D T tm 0 = []) := rfl
  generalize playL D T tm = PL at *
  obtain ⟨n, hn⟩ : ∃ n, T.length = n := ⟨_, rfl⟩
  rw [hn] at HVL HVK HT htn hd6 ⊢
  clear hn
  go_enter Tryd.func38, Tryd.ntmps38
  go_wp2_with fail
  refine C.out.mono ?_
  rintro e w1 h9
  obtain ⟨vv, rfl, hvr, _, b⟩ := IntsL.made h9 (by rw [HVL.out]; exact htn)
  rw [HVL.out] at hvr
  have HVR := Lib.hid hvr
  have HB1 := Lib.hid b
  obtain ⟨va, vc, rfl, _, _⟩ := hvr.form
  clear h9 hvr b C
  go_wp2
  go_loopw [7, 14] (fun out iv wr => ∃ (k : Nat) (L : List Int), k ≤ n ∧ iv = .int .i64 k ∧ Hid (L = PL k) ∧ L.length ≤ k ∧ Hid (wr.ownsRow w1.heap.size 3 1 out L.length (L.map (Value.int .i64))) ∧ Hid (Below w1.heap.size w1 wr)) (fun _ iv _ => n - (RowKit.intOf iv).toNat)
  case atStart => exact ⟨0, [], Nat.zero_le _, rfl, HP0.out.symm, Nat.zero_le _, World.ownsRow_nil _ _ _ _, Below.refl _ _⟩
  case round =>
    obtain ⟨k, L, hk9, rfl, HL, hLk, HO, HB⟩ := hrel
    by_cases hlt : k < n
    · obtain ⟨b, off, rfl, hcap, q0⟩ := int_at (HVR.out.below HB.out (Nat.le_refl _)) hlt
      have hj1 : (k : Int) < (n : Int) := by omega
      rw [HVK.out k hlt] at q0
      have HPSk := Lib.hid (HPS.out k)
      have HPNk := Lib.hid (HPN.out k)
      generalize venueL (atR D k) tm = ve at *
      by_cases e : ve = 0
      · subst e
        have HLN : Hid (L = PL (k + 1)) := HL.out.trans (HPSk.out rfl).symm
        go_wp2
        go_roundw
        case rel => exact ⟨k + 1, L, by omega, by go_num, HLN, by omega, HO, HB⟩
        case measure => simp [RowKit.intOf]; omega
      · have g1 : (ve != 0) = true := by simpa using e
        obtain ⟨tb, to, rfl, hcap2, q1⟩ := int_at (HT.out.below (HB1.out.trans (HB.out.mono HB1.out.size)) (Nat.le_refl _)) hlt
        have HLN : Hid (L ++ [getI T k] = PL (k + 1)) := (congrArg (· ++ [getI T k]) HL.out).trans (HPNk.out e).symm
        have hs3 := HB.out.size
        clear HPSk HPNk
        generalize getI T k = x at *
        obtain ⟨oa, oc, hof⟩ := owns_form HO.out
        subst hof
        go_wp2_with (at_builtin; refine wpList_pushL rfl (.tmp 21) (.tmp 26) 24 rfl w1.heap.size 3 Tryd.underlying24 hi hz0 hz1 hz2 rfl (by decide) [.int .i64 x] rfl (by intro u hu; simp at hu; subst hu; rfl) rfl (by show Value.slice (some ⟨_, 0, none⟩) 1 1 = _; simp) HO.out (by unfold maxLen; omega) (by omega) hs3 ?_; intro gg5 cc5 w5 o5 g5 at5 lt5; have O5 := Lib.hid o5; have HB5 := Lib.hid (HB.out.grown g5 hs3 (fun q hq => (HO.out.lt q hq).1)); clear o5 g5 at5 lt5)
        go_roundw
        case rel => exact ⟨k + 1, L ++ [x], by omega, by go_num, HLN, by rw [List.length_append, List.length_singleton]; omega, by rw [List.length_append, List.map_append]; exact O5, HB5⟩
        case measure => simp [RowKit.intOf]; omega
    obtain rfl : k = n := by omega
    have HON := Lib.hid (owns_mono HO.out HB1.out.size)
    have HBW : Hid (Below w.heap.size w wr) := HB1.out.trans (HB.out.mono HB1.out.size)
    go_wp2
    go_ret
    rw [← HL.out]
    exact ⟨_, rfl, HON.out, HBW.out⟩
set_option maxRecDepth 100000 in
set_option maxHeartbeats 4000000 in
theorem restOf_impl (vr vd : Value) (rest : Int) (vc : Value) (D : List PairL) (L : List Int) (C : ClosL) (vt : Value) (T : List Int) (tm : Int) (R : Bool) (w : World) (hR : R = true ↔ datesOk D T)
    (hr : RdA tPairSS w [vr] D) (hd : IntRow w vd L.length (getI L)) (hc : RdA tClosedS w [vc] C) (ht : IntRow w vt T.length (getI T)) (hw : tPairSS.wt D ≤ 1048576) :
    Calls Tryd.prog 13 #[.agg #[vr, vd, .int .i64 rest, vc], vt, .int .i64 tm] w fun e w' => e = .returned (.int .i64 (restV R D T tm)) ∧ Below w.heap.size w w' := by
  obtain ⟨ra, rc, rfl, hrn⟩ := schedule_form hr
  obtain ⟨da, dc, rfl, hdn, _⟩ := hd.form
  obtain ⟨ca, cc, rfl, hcn⟩ := clos_form hc
  obtain ⟨ta, tc, rfl, htn, _⟩ := ht.form
  obtain ⟨nr, hnr⟩ : ∃ nr, List.length (α := PairL) D = nr := ⟨_, rfl⟩
  obtain ⟨nd, hnd⟩ : ∃ nd, L.length = nd := ⟨_, rfl⟩
  obtain ⟨nc, hnc⟩ : ∃ nc, List.length (α := tClosed.D) C = nc := ⟨_, rfl⟩
  obtain ⟨nt, hnt⟩ : ∃ nt, T.length = nt := ⟨_, rfl⟩
  obtain ⟨U, hU⟩ : ∃ U, w.alloc (.cells #[.slice ra (List.length (α := PairL) D) rc, .slice da L.length dc, .int .i64 rest, .slice ca (List.length (α := tClosed.D) C) cc] 27) = U := ⟨_, rfl⟩
  have bU : Below w.heap.size w U := by rw [← hU]; exact (Below.refl _ _).alloc (Nat.le_refl _) _
  have htU := ht.below bU (Nat.le_refl _)
  have CN := Lib.hid (noDays_impl _ T U htU)
  obtain ⟨q, hq⟩ : ∃ q, T.any noDayB = q := ⟨_, rfl⟩
  have HQ : Hid (q = false ↔ ∀ i, i < nt → 0 ≤ getI T i ∧ getI T i ≤ 60) := by rw [← hq, ← hnt]; exact noDays_iff T
  rw [hq] at CN
  have HRR : Hid (R = true ↔ (nt = nr ∧ q = false)) := by show _ ↔ _; rw [hR, HQ.out]; unfold datesOk; rw [hnr, hnt]
  have HVV : Hid (restV R D T tm = if R = true then (restS D T tm nt).1 else -1) := by show _ = _; unfold restV; rw [hnt]
  have HLV : Hid ((∀ i, i < nt → 0 ≤ getI T i ∧ getI T i ≤ 60) → (restS D T tm nt).1 = leastI (playL D T tm nt) (playL D T tm nt).length) := fun h => by rw [rest_is D T tm nt h]
  have HPI : Hid ((∀ i, i < nt → 0 ≤ getI T i ∧ getI T i ≤ 60) → ∀ x ∈ playL D T tm nt, 0 ≤ x ∧ x ≤ 60) := fun h => playL_in D T tm 0 60 nt h
  have HPN : Hid ((playL D T tm nt).length ≤ nt) := playL_len D T tm nt
  have CD : Hid (nt = nr → ∀ wa, RdA tPairSS wa [.slice ra nr rc] D → IntRow wa (.slice ta nt tc) nt (getI T) → Calls Tryd.prog 38 #[.slice ra nr rc, .slice ta nt tc, .int .i64 tm] wa (IntsL wa (playL D T tm nt))) := fun e wa h1 h2 => by rw [← hnt]; exact datesOf_impl _ D _ T tm wa h1 (by rw [hnt]; exact h2) (by rw [hnt, hnr]; exact e) hw
  have HS : Hid (SeaAt U w.heap.size ra nr rc da nd dc rest ca nc cc D L C) := by rw [← hU, ← hnr, ← hnd, ← hnc]; exact SeaAt.made hr hd hc
  rw [hnr] at hU ⊢
  rw [hnd] at hdn hU ⊢
  rw [hnc] at hcn hU ⊢
  rw [hnt] at htn htU CN ⊢
  have HT := Lib.hid htU
  have HB := Lib.hid bU
  clear hr hd hc hR ht hnr hnd hnc hnt hrn hcn bU htU hw hq
  obtain ⟨c0, c1, c2, c3⟩ := HS.out.cells
  generalize restV R D T tm = W at *
  generalize playL D T tm nt = P at *
  go_enter Tryd.func13, Tryd.ntmps13
  by_cases hne : nt = nr
  case neg =>
    have hf : R = false := by cases hr : R with | false => rfl | true => exact absurd (HRR.out.1 hr).1 hne
    have HVX : Hid (W = -1) := by show _ = _; rw [HVV.out, hf]; rfl
    have g1 : ((nt : Int) != (nr : Int)) = true := by simp; omega
    go_wp2
    go_ret
    exact ⟨by rw [HVX.out]; rfl, HB.out⟩
  subst hne
  go_wp2_with fail
  clear hU
  refine CN.out.mono ?_
  rintro e w1 ⟨rfl, b⟩
  have HS1 := Lib.hid (HS.out.below b)
  have HT1 := Lib.hid (HT.out.below b (Nat.le_refl _))
  have HB1 := Lib.hid (HB.out.trans (b.mono HB.out.size))
  clear b c0 c1 c2 c3 HS HB HT CN
  obtain ⟨c0, c1, c2, c3⟩ := HS1.out.cells
  cases q with
  | true =>
    have hf : R = false := by cases hr : R with | false => rfl | true => have := (HRR.out.1 hr).2; cases this
    have HVX : Hid (W = -1) := by show _ = _; rw [HVV.out, hf]; rfl
    go_wp2
    go_ret
    exact ⟨by rw [HVX.out]; rfl, HB1.out⟩
  | false =>
  have HDT : Hid (∀ i, i < nt → 0 ≤ getI T i ∧ getI T i ≤ 60) := HQ.out.1 (by first | rfl | trivial)
  have HVX : Hid (W = leastI P P.length) := by
    show _ = _
    rw [HVV.out, if_pos (HRR.out.2 ⟨by first | rfl | trivial, by first | rfl | trivial⟩), HLV.out HDT.out]
  have HPX := Lib.hid (HPI.out HDT.out)
  clear HRR HVV HLV HPI HQ
  go_wp2_with fail
  refine (CD.out (by first | rfl | trivial) _ HS1.out.2.1 HT1.out).mono ?_
  rintro e w2 h9
  obtain ⟨vp, rfl, hpr, _, b⟩ := IntsL.made h9 (by have := HPN.out; omega)
  have HB2 := Lib.hid (HB1.out.trans (b.mono HB1.out.size))
  have HPR := Lib.hid hpr
  clear h9 b c0 c1 c2 c3 CD HS1 HT1 HB1
  obtain ⟨pa, pc, rfl, _, _⟩ := hpr.form
  clear hpr
  have HGI : Hid (∀ i, i < P.length → 0 ≤ getI P i ∧ getI P i ≤ 60) := fun i hi => HPX.out _ (getI_in hi)
  have HL0 : Hid (leastI P 1 = -1) := rfl
  have HLS : Hid (∀ i, 1 ≤ i → leastI P (i + 1) = if leastI P i < 0 ∨ absD (getI P (i - 1)) (getI P i) < leastI P i then absD (getI P (i - 1)) (getI P i) else leastI P i) := fun i h => if_neg (by omega)
  have HE0 : Hid (P.length = 0 → leastI P P.length = -1) := fun h => by rw [h]; rfl
  have HP6 : Hid (P.length ≤ nt) := HPN.out
  clear HPN HPX
  generalize leastI P = LE at *
  generalize getI P = g at *
  generalize P.length = m at *
  go_wp2
  go_loopw [8, 9] (fun bv iv wr => ∃ (k : Nat) (b : Int), 1 ≤ k ∧ (k ≤ m ∨ k = 1) ∧ iv = .int .i64 k ∧ bv = .int .i64 b ∧ Hid (b = LE k) ∧ Hid (Below w2.heap.size w2 wr)) (fun _ iv _ => m - (RowKit.intOf iv).toNat)
  case atStart => exact ⟨1, -1, Nat.le_refl _, .inr rfl, rfl, rfl, HL0.out.symm, Below.refl _ _⟩
  case round =>
    obtain ⟨k, b, hk1, hk9, rfl, rfl, HV, HB⟩ := hrel
    by_cases hlt : k < m
    · obtain ⟨bo, oo, rfl, hcap, q0⟩ := int_at (HPR.out.below HB.out (Nat.le_refl _)) hlt
      obtain ⟨_, _, he, _, q1⟩ := int_at (HPR.out.below HB.out (Nat.le_refl _)) (show k - 1 < m by omega)
      simp only [Option.some.injEq, Addr.mk.injEq, and_true] at he
      obtain ⟨rfl, rfl⟩ := he
      have hj1 : (k : Int) < (m : Int) := by omega
      have hj2 : (1 : Int) ≤ (k : Int) := by omega
      have hj3 : ((k : Int) - 1).toNat = k - 1 := by omega
      have hj4 : IntKind.i64.wrap ((k : Int) - 1) = (k : Int) - 1 := IntWalk.i64_in _ (by omega)
      have HST := Lib.hid (HLS.out k hk1)
      have CB := Lib.hid (fun wa => daysBetween_impl (g (k - 1)) (g k) (HGI.out _ (by omega)) (HGI.out _ hlt) wa)
      obtain ⟨x, hx⟩ : ∃ x, g k = x := ⟨_, rfl⟩
      obtain ⟨y, hy⟩ : ∃ y, g (k - 1) = y := ⟨_, rfl⟩
      rw [hx, hy] at HST CB
      rw [hx] at q0
      rw [hy] at q1
      clear hx hy
      obtain ⟨z, hz⟩ : ∃ z, absD y x = z := ⟨_, rfl⟩
      rw [hz] at HST CB
      clear hz
      rw [← HV.out] at HST
      by_cases hb0 : b < 0
      · have g1 : decide (b < 0) = true := decide_eq_true hb0
        have HN : Hid (z = LE (k + 1)) := by show _ = _; rw [HST.out]; exact (if_pos (.inl hb0)).symm
        clear HST
        go_wp2_with (go_quiet ((go_at_call 39; exact Calls.quiet_of_same (CB.out _))))
        go_roundw
        case rel => exact ⟨k + 1, z, by omega, .inl (by omega), by go_num, rfl, HN, below_drewN HB.out _⟩
        case measure => simp [RowKit.intOf]; omega
      have g1 : decide (b < 0) = false := decide_eq_false hb0
      by_cases hzb : z < b
      · have g2 : decide (z < b) = true := decide_eq_true hzb
        have HN : Hid (z = LE (k + 1)) := by show _ = _; rw [HST.out]; exact (if_pos (.inr hzb)).symm
        clear HST
        go_wp2_with (go_quiet ((go_at_call 39; exact Calls.quiet_of_same (CB.out _))))
        go_roundw
        case rel => exact ⟨k + 1, z, by omega, .inl (by omega), by go_num, rfl, HN, below_drewN HB.out _⟩
        case measure => simp [RowKit.intOf]; omega
      · have g2 : decide (z < b) = false := decide_eq_false hzb
        have HN : Hid (b = LE (k + 1)) := by show _ = _; rw [HST.out]; exact (if_neg (by omega)).symm
        clear HST
        go_wp2_with (go_quiet ((go_at_call 39; exact Calls.quiet_of_same (CB.out _))))
        go_roundw
        case rel => exact ⟨k + 1, b, by omega, .inl (by omega), by go_num, rfl, HN, below_drewN HB.out _⟩
        case measure => simp [RowKit.intOf]; omega
    have HVE : Hid (W = b) := by
      show _ = _
      rw [HVX.out, HV.out]
      rcases hk9 with h9 | h9
      · rw [show k = m by omega]
      · subst h9
        rcases Nat.eq_zero_or_pos m with h0 | h0
        · rw [HE0.out h0, HL0.out]
        · rw [show m = 1 by omega]
    have HBW : Hid (Below w.heap.size w wr) := HB2.out.trans (HB.out.mono HB2.out.size)
    go_wp2
    go_ret
    exact ⟨by rw [HVE.out]; rfl, HBW.out⟩
end Go.Proofs.YtcbpgbiannpfpaaDoor
set_option linter.unusedVariables false
namespace Go.Proofs.YtcbpgbiannpfpaaDoor
open Go.RowKit

def tSeason : Ty := tTwo tPairSS (tTwo tIntS (tTwo tInt tClosedS))
theorem opens_Season : Opens Tryd.prog 42 tSeason := opens_struct Tryd.underlying42 (by kernel_rfl) ⟨rfl, _, _, rfl, opens_PairSS, ⟨rfl, _, _, rfl, opens_IntS, ⟨rfl, _, _, rfl, (opens_int Tryd.underlying3 (by kernel_rfl)), ⟨rfl, opens_ClosedS⟩⟩⟩⟩
set_option maxRecDepth 100000 in
set_option maxHeartbeats 2000000 in
theorem y_sz_Season (vx_Rounds : Value) (vx_Days : Value) (x_Rest : Int) (vx_Closed : Value) (d : tSeason.D) (left : Int) (w : World) (hl0 : 0 ≤ left) (hl : left ≤ 1048576) (h : RdA tSeason w [vx_Rounds, vx_Days, .int .i64 x_Rest, vx_Closed] d) : Calls Tryd.prog 14 #[.agg #[vx_Rounds, vx_Days, .int .i64 x_Rest, vx_Closed], .int .i64 left] w (SzT tSeason d left w) := by
  have hwt : tSeason.wt d = (tPairSS.wt d.1 + (tIntS.wt d.2.1 + (tInt.wt d.2.2.1 + tClosedS.wt d.2.2.2))) := rfl
  have hz2 : tInt.wt d.2.2.1 = 0 := rfl
  have P0 : RdA tPairSS w [vx_Rounds] d.1 := (rd_split h).1
  have Pt0 := (rd_split h).2
  have P1 : RdA tIntS w [vx_Days] d.2.1 := (rd_split Pt0).1
  have Pt1 := (rd_split Pt0).2
  have P2 : RdA tInt w [.int .i64 x_Rest] d.2.2.1 := (rd_split Pt1).1
  have Pt2 := (rd_split Pt1).2
  have P3 : RdA tClosedS w [vx_Closed] d.2.2.2 := Pt2
  clear Pt0 Pt1 Pt2
  have HP0 := Lib.hid P0
  have HP1 := Lib.hid P1
  have HP3 := Lib.hid P3
  obtain ⟨W0, hW0⟩ : ∃ z, tPairSS.wt d.1 = z := ⟨_, rfl⟩
  obtain ⟨W1, hW1⟩ : ∃ z, tIntS.wt d.2.1 = z := ⟨_, rfl⟩
  obtain ⟨W3, hW3⟩ : ∃ z, tClosedS.wt d.2.2.2 = z := ⟨_, rfl⟩
  unfold SzT
  rw [hwt]
  rw [hz2]
  clear hwt h P0 P1 P2 P3 hz2
  have HB0 : Hid (Below w.heap.size w (w.alloc (.cells #[vx_Rounds, vx_Days, .int .i64 x_Rest, vx_Closed] 42))) := (Below.refl _ _).alloc (Nat.le_refl _) _
  have BX0 : Hid (BoxN (w.alloc (.cells #[vx_Rounds, vx_Days, .int .i64 x_Rest, vx_Closed] 42)) w.heap.size [vx_Rounds, vx_Days, .int .i64 x_Rest, vx_Closed]) := BoxN.made (Below.refl _ _) rfl
  have c0 := BX0.out.2 0 _ rfl
  have c1 := BX0.out.2 1 _ rfl
  have c2 := BX0.out.2 2 _ rfl
  have c3 := BX0.out.2 3 _ rfl
  go_enter Tryd.func14, Tryd.ntmps14
  go_wp2_with fail
  refine (y_sz_PairSS vx_Rounds d.1 left _ (by omega) (by omega) (RdA.below HP0.out HB0.out)).mono ?_
  rintro e w1 ⟨⟨r1, rfl, hr1⟩, b1⟩
  rw [hW0] at hr1
  have HB1 := Lib.hid (HB0.out.trans (b1.mono HB0.out.size))
  have BX1 := Lib.hid (BX0.out.below b1)
  clear c0 c1 c2 c3 BX0 b1
  have c0 := BX1.out.2 0 _ rfl
  have c1 := BX1.out.2 1 _ rfl
  have c2 := BX1.out.2 2 _ rfl
  have c3 := BX1.out.2 3 _ rfl
  by_cases hn1 : r1 < 0
  · have g2 : decide (r1 < 0) = true := decide_eq_true hn1
    have HE := Lib.hid HB1.out
    clear hr1
    go_wp2
    go_ret
    exact ⟨⟨-1, rfl, .inl (by omega)⟩, HE.out⟩
  have g1 : decide (r1 < 0) = false := decide_eq_false hn1
  replace hn1 : 0 ≤ r1 ∧ (W0 : Int) + r1 = left := by omega
  clear hr1
  go_wp2_with fail
  refine (y_sz_IntS vx_Days d.2.1 r1 _ (by omega) (by omega) (RdA.below HP1.out HB1.out)).mono ?_
  rintro e w2 ⟨⟨r2, rfl, hr2⟩, b2⟩
  rw [hW1] at hr2
  have HB2 := Lib.hid (HB1.out.trans (b2.mono HB1.out.size))
  have BX2 := Lib.hid (BX1.out.below b2)
  clear c0 c1 c2 c3 BX1 b2
  have c0 := BX2.out.2 0 _ rfl
  have c1 := BX2.out.2 1 _ rfl
  have c2 := BX2.out.2 2 _ rfl
  have c3 := BX2.out.2 3 _ rfl
  by_cases hn2 : r2 < 0
  · have g2 : decide (r2 < 0) = true := decide_eq_true hn2
    have HE := Lib.hid HB2.out
    clear hr2
    go_wp2
    go_ret
    exact ⟨⟨-1, rfl, .inl (by omega)⟩, HE.out⟩
  have g2 : decide (r2 < 0) = false := decide_eq_false hn2
  replace hn2 : 0 ≤ r2 ∧ (W1 : Int) + r2 = r1 := by omega
  clear hr2
  go_wp2_with fail
  refine (y_sz_ClosedS vx_Closed d.2.2.2 r2 _ (by omega) (by omega) (RdA.below HP3.out HB2.out)).mono ?_
  rintro e w3 ⟨⟨r3, rfl, hr3⟩, b3⟩
  rw [hW3] at hr3
  have HB3 := Lib.hid (HB2.out.trans (b3.mono HB2.out.size))
  have BX3 := Lib.hid (BX2.out.below b3)
  clear c0 c1 c2 c3 BX2 b3
  have c0 := BX3.out.2 0 _ rfl
  have c1 := BX3.out.2 1 _ rfl
  have c2 := BX3.out.2 2 _ rfl
  have c3 := BX3.out.2 3 _ rfl
  by_cases hn3 : r3 < 0
  · have g2 : decide (r3 < 0) = true := decide_eq_true hn3
    have HE := Lib.hid HB3.out
    clear hr3
    go_wp2
    go_ret
    exact ⟨⟨-1, rfl, .inl (by omega)⟩, HE.out⟩
  have g3 : decide (r3 < 0) = false := decide_eq_false hn3
  replace hn3 : 0 ≤ r3 ∧ (W3 : Int) + r3 = r2 := by omega
  clear hr3
  have HE := Lib.hid HB3.out
  go_wp2
  go_ret
  refine ⟨⟨_, rfl, .inr ⟨by omega, ?_⟩⟩, HE.out⟩
  rw [hW0, hW1, hW3]
  omega
set_option maxRecDepth 100000 in
set_option maxHeartbeats 2000000 in
theorem y_eq_Season (vx_Rounds : Value) (vx_Days : Value) (x_Rest : Int) (vx_Closed : Value) (vx_Rounds' : Value) (vx_Days' : Value) (vx_Closed' : Value) (d : tSeason.D) (w : World) (h : RdA tSeason w [vx_Rounds, vx_Days, .int .i64 x_Rest, vx_Closed] d) (h' : RdA tSeason w [vx_Rounds', vx_Days', .int .i64 x_Rest, vx_Closed'] d) : Calls Tryd.prog 18 #[.agg #[vx_Rounds, vx_Days, .int .i64 x_Rest, vx_Closed], .agg #[vx_Rounds', vx_Days', .int .i64 x_Rest, vx_Closed']] w fun e w' => e = .returned (.bool true) ∧ Below w.heap.size w w' := by
  have P0 : RdA tPairSS w [vx_Rounds] d.1 := (rd_split h).1
  have Pt0 := (rd_split h).2
  have P1 : RdA tIntS w [vx_Days] d.2.1 := (rd_split Pt0).1
  have Pt1 := (rd_split Pt0).2
  have P2 : RdA tInt w [.int .i64 x_Rest] d.2.2.1 := (rd_split Pt1).1
  have Pt2 := (rd_split Pt1).2
  have P3 : RdA tClosedS w [vx_Closed] d.2.2.2 := Pt2
  clear Pt0 Pt1 Pt2
  have Q0 : RdA tPairSS w [vx_Rounds'] d.1 := (rd_split h').1
  have Qt0 := (rd_split h').2
  have Q1 : RdA tIntS w [vx_Days'] d.2.1 := (rd_split Qt0).1
  have Qt1 := (rd_split Qt0).2
  have Q2 : RdA tInt w [.int .i64 x_Rest] d.2.2.1 := (rd_split Qt1).1
  have Qt2 := (rd_split Qt1).2
  have Q3 : RdA tClosedS w [vx_Closed'] d.2.2.2 := Qt2
  clear Qt0 Qt1 Qt2
  have HP0 := Lib.hid P0
  have HP1 := Lib.hid P1
  have HP3 := Lib.hid P3
  have HQ0 := Lib.hid Q0
  have HQ1 := Lib.hid Q1
  have HQ3 := Lib.hid Q3
  have HB0 : Hid (Below w.heap.size w ((w.alloc (.cells #[vx_Rounds, vx_Days, .int .i64 x_Rest, vx_Closed] 27)).alloc (.cells #[vx_Rounds', vx_Days', .int .i64 x_Rest, vx_Closed'] 27))) := ((Below.refl _ _).alloc (Nat.le_refl _) _).alloc (by simp) _
  have BX0 : Hid (BoxN ((w.alloc (.cells #[vx_Rounds, vx_Days, .int .i64 x_Rest, vx_Closed] 27)).alloc (.cells #[vx_Rounds', vx_Days', .int .i64 x_Rest, vx_Closed'] 27)) w.heap.size [vx_Rounds, vx_Days, .int .i64 x_Rest, vx_Closed]) := BoxN.below (BoxN.made (Below.refl _ _) rfl) ((Below.refl _ _).alloc (Nat.le_refl _) _)
  have BY0 : Hid (BoxN ((w.alloc (.cells #[vx_Rounds, vx_Days, .int .i64 x_Rest, vx_Closed] 27)).alloc (.cells #[vx_Rounds', vx_Days', .int .i64 x_Rest, vx_Closed'] 27)) (w.heap.size + 1) [vx_Rounds', vx_Days', .int .i64 x_Rest, vx_Closed']) := BoxN.made (Below.refl _ _) (by simp)
  clear h h' P0 Q0 P1 Q1 P2 Q2 P3 Q3
  have c0 := BX0.out.2 0 _ rfl
  have c1 := BX0.out.2 1 _ rfl
  have c2 := BX0.out.2 2 _ rfl
  have c3 := BX0.out.2 3 _ rfl
  have e0 := BY0.out.2 0 _ rfl
  have e1 := BY0.out.2 1 _ rfl
  have e2 := BY0.out.2 2 _ rfl
  have e3 := BY0.out.2 3 _ rfl
  have bl := BX0.out.1
  have bm := BY0.out.1
  go_enter Tryd.func18, Tryd.ntmps18
  go_wp2_with fail
  refine (y_eq_PairSS vx_Rounds vx_Rounds' d.1 _ (RdA.below HP0.out HB0.out) (RdA.below HQ0.out HB0.out)).mono ?_
  rintro e w1 ⟨rfl, b1⟩
  have HB1 := Lib.hid (HB0.out.trans (b1.mono HB0.out.size))
  have BX1 := Lib.hid (BX0.out.below b1)
  have BY1 := Lib.hid (BY0.out.below b1)
  clear c0 c1 c2 c3 e0 e1 e2 e3 bl bm BX0 BY0 b1
  have c0 := BX1.out.2 0 _ rfl
  have c1 := BX1.out.2 1 _ rfl
  have c2 := BX1.out.2 2 _ rfl
  have c3 := BX1.out.2 3 _ rfl
  have e0 := BY1.out.2 0 _ rfl
  have e1 := BY1.out.2 1 _ rfl
  have e2 := BY1.out.2 2 _ rfl
  have e3 := BY1.out.2 3 _ rfl
  have bl := BX1.out.1
  have bm := BY1.out.1
  go_wp2_with fail
  refine (y_eq_IntS vx_Days vx_Days' d.2.1 _ (RdA.below HP1.out HB1.out) (RdA.below HQ1.out HB1.out)).mono ?_
  rintro e w2 ⟨rfl, b2⟩
  have HB2 := Lib.hid (HB1.out.trans (b2.mono HB1.out.size))
  have BX2 := Lib.hid (BX1.out.below b2)
  have BY2 := Lib.hid (BY1.out.below b2)
  clear c0 c1 c2 c3 e0 e1 e2 e3 bl bm BX1 BY1 b2
  have c0 := BX2.out.2 0 _ rfl
  have c1 := BX2.out.2 1 _ rfl
  have c2 := BX2.out.2 2 _ rfl
  have c3 := BX2.out.2 3 _ rfl
  have e0 := BY2.out.2 0 _ rfl
  have e1 := BY2.out.2 1 _ rfl
  have e2 := BY2.out.2 2 _ rfl
  have e3 := BY2.out.2 3 _ rfl
  have bl := BX2.out.1
  have bm := BY2.out.1
  go_wp2_with fail
  refine (y_eq_ClosedS vx_Closed vx_Closed' d.2.2.2 _ (RdA.below HP3.out HB2.out) (RdA.below HQ3.out HB2.out)).mono ?_
  rintro e w3 ⟨rfl, b3⟩
  have HB3 := Lib.hid (HB2.out.trans (b3.mono HB2.out.size))
  have BX3 := Lib.hid (BX2.out.below b3)
  have BY3 := Lib.hid (BY2.out.below b3)
  clear c0 c1 c2 c3 e0 e1 e2 e3 bl bm BX2 BY2 b3
  have c0 := BX3.out.2 0 _ rfl
  have c1 := BX3.out.2 1 _ rfl
  have c2 := BX3.out.2 2 _ rfl
  have c3 := BX3.out.2 3 _ rfl
  have e0 := BY3.out.2 0 _ rfl
  have e1 := BY3.out.2 1 _ rfl
  have e2 := BY3.out.2 2 _ rfl
  have e3 := BY3.out.2 3 _ rfl
  have bl := BX3.out.1
  have bm := BY3.out.1
  have HE := Lib.hid HB3.out
  go_wp2
  go_ret
  exact ⟨rfl, HE.out⟩
set_option maxRecDepth 100000 in
set_option maxHeartbeats 4000000 in
theorem y_to_Season (vx_Rounds : Value) (vx_Days : Value) (x_Rest : Int) (vx_Closed : Value) (d : tSeason.D) (w : World) (h : RdA tSeason w [vx_Rounds, vx_Days, .int .i64 x_Rest, vx_Closed] d) (hw : tSeason.wt d ≤ 1048576) : Calls Tryd.prog 16 #[.agg #[vx_Rounds, vx_Days, .int .i64 x_Rest, vx_Closed]] w (fun e w' => ∃ vx_Rounds' vx_Days' vx_Closed' : Value, e = .returned (.agg #[vx_Rounds', vx_Days', .int .i64 x_Rest, vx_Closed']) ∧ OwN tSeason w' w.heap.size w'.heap.size [vx_Rounds', vx_Days', .int .i64 x_Rest, vx_Closed'] d ∧ Below w.heap.size w w') := by
  have P0 : RdA tPairSS w [vx_Rounds] d.1 := (rd_split h).1
  have Pt0 := (rd_split h).2
  have P1 : RdA tIntS w [vx_Days] d.2.1 := (rd_split Pt0).1
  have Pt1 := (rd_split Pt0).2
  have P2 : RdA tInt w [.int .i64 x_Rest] d.2.2.1 := (rd_split Pt1).1
  have Pt2 := (rd_split Pt1).2
  have P3 : RdA tClosedS w [vx_Closed] d.2.2.2 := Pt2
  clear Pt0 Pt1 Pt2
  have HP0 := Lib.hid P0
  have HP1 := Lib.hid P1
  have HP2 := Lib.hid P2
  have HP3 := Lib.hid P3
  have hwt : tSeason.wt d = (tPairSS.wt d.1 + (tIntS.wt d.2.1 + (tInt.wt d.2.2.1 + tClosedS.wt d.2.2.2))) := rfl
  rw [hwt] at hw
  have hw0 : tPairSS.wt d.1 ≤ 1048576 := by omega
  have hw1 : tIntS.wt d.2.1 ≤ 1048576 := by omega
  have hw3 : tClosedS.wt d.2.2.2 ≤ 1048576 := by omega
  have HW0 := Lib.hid hw0
  have HW1 := Lib.hid hw1
  have HW3 := Lib.hid hw3
  clear hw hwt hw0 hw1 hw3
  have HB0 : Hid (Below w.heap.size w (((w.alloc (.cells #[vx_Rounds, vx_Days, .int .i64 x_Rest, vx_Closed] 42)).alloc (.cells #[.slice none 0 0, .slice none 0 0, .int .i64 0, .slice none 0 0] 27)).alloc (.cells #[.slice none 0 0, .slice none 0 0, .int .i64 0, .slice none 0 0] 27))) := (((Below.refl _ _).alloc (Nat.le_refl _) _).alloc (by simp) _).alloc (by simp <;> omega) _
  have BX0 : Hid (BoxN (((w.alloc (.cells #[vx_Rounds, vx_Days, .int .i64 x_Rest, vx_Closed] 42)).alloc (.cells #[.slice none 0 0, .slice none 0 0, .int .i64 0, .slice none 0 0] 27)).alloc (.cells #[.slice none 0 0, .slice none 0 0, .int .i64 0, .slice none 0 0] 27)) w.heap.size [vx_Rounds, vx_Days, .int .i64 x_Rest, vx_Closed]) := BoxN.below (BoxN.below (BoxN.made (Below.refl _ _) rfl) ((Below.refl _ _).alloc (Nat.le_refl _) _)) ((Below.refl _ _).alloc (Nat.le_refl _) _)
  have RS0 : Hid (ResAt (((w.alloc (.cells #[vx_Rounds, vx_Days, .int .i64 x_Rest, vx_Closed] 42)).alloc (.cells #[.slice none 0 0, .slice none 0 0, .int .i64 0, .slice none 0 0] 27)).alloc (.cells #[.slice none 0 0, .slice none 0 0, .int .i64 0, .slice none 0 0] 27)) (w.heap.size + 1) 4) := ResAt.below (ResAt.made' (by simp) rfl) ((Below.refl _ _).alloc (Nat.le_refl _) _)
  have BO0 : Hid (BoxF (((w.alloc (.cells #[vx_Rounds, vx_Days, .int .i64 x_Rest, vx_Closed] 42)).alloc (.cells #[.slice none 0 0, .slice none 0 0, .int .i64 0, .slice none 0 0] 27)).alloc (.cells #[.slice none 0 0, .slice none 0 0, .int .i64 0, .slice none 0 0] 27)) (w.heap.size + 2) [.slice none 0 0, .slice none 0 0, .int .i64 0, .slice none 0 0]) := BoxF.made (Below.refl _ _) (by simp)
  clear h P0 P1 P2 P3
  have c0 := BX0.out.2 0 _ rfl
  have c1 := BX0.out.2 1 _ rfl
  have c2 := BX0.out.2 2 _ rfl
  have c3 := BX0.out.2 3 _ rfl
  have o0 := BO0.out.2 0 _ rfl
  have o1 := BO0.out.2 1 _ rfl
  have o2 := BO0.out.2 2 _ rfl
  have o3 := BO0.out.2 3 _ rfl
  have bl := BX0.out.1
  have bm := BO0.out.1
  have bn := RS0.out.lt
  obtain ⟨⟨z0, q0⟩, y0⟩ := RS0.out.at 0 (by omega)
  obtain ⟨⟨z1, q1⟩, y1⟩ := RS0.out.at 1 (by omega)
  obtain ⟨⟨z2, q2⟩, y2⟩ := RS0.out.at 2 (by omega)
  obtain ⟨⟨z3, q3⟩, y3⟩ := RS0.out.at 3 (by omega)
  go_enter Tryd.func16, Tryd.ntmps16
  go_wp2_with fail
  clear c0 o0 q0 y0 c1 o1 q1 y1 c2 o2 q2 y2 c3 o3 q3 y3 bl bm bn
  refine (y_to_PairSS vx_Rounds d.1 _ (RdA.below HP0.out HB0.out) HW0.out).mono ?_
  rintro e w1 ⟨u0_0, rfl, ho1, b1⟩
  have hs1 := b1.size
  have hS1 : w.heap.size + 3 ≤ w1.heap.size := by simp at hs1; omega
  have HBc1 := Lib.hid (HB0.out.trans (b1.mono HB0.out.size))
  have BXc1 := Lib.hid (BX0.out.below b1)
  have RSc1 := Lib.hid (RS0.out.below b1)
  have BOc1 := Lib.hid (BO0.out.below b1)
  have O0_c1 := Lib.hid (ho1.mono (lo' := w.heap.size + 3) (hi' := w1.heap.size) (by simp) (Nat.le_refl _) (Nat.le_refl _))
  clear HB0 BX0 RS0 BO0 hs1 b1 ho1
  obtain ⟨au0_0, nu0_0, ku0_0, hu0_0⟩ := rd_slice O0_c1.out.rd
  subst hu0_0
  have c0 := BXc1.out.2 0 _ rfl
  have c1 := BXc1.out.2 1 _ rfl
  have c2 := BXc1.out.2 2 _ rfl
  have c3 := BXc1.out.2 3 _ rfl
  have o0 := BOc1.out.2 0 _ rfl
  have o1 := BOc1.out.2 1 _ rfl
  have o2 := BOc1.out.2 2 _ rfl
  have o3 := BOc1.out.2 3 _ rfl
  have bl := BXc1.out.1
  have bm := BOc1.out.1
  have bn := RSc1.out.lt
  obtain ⟨⟨z0, q0⟩, y0⟩ := RSc1.out.at 0 (by omega)
  obtain ⟨⟨z1, q1⟩, y1⟩ := RSc1.out.at 1 (by omega)
  obtain ⟨⟨z2, q2⟩, y2⟩ := RSc1.out.at 2 (by omega)
  obtain ⟨⟨z3, q3⟩, y3⟩ := RSc1.out.at 3 (by omega)
  go_wp2_with fail
  clear c0 o0 q0 y0 c1 o1 q1 y1 c2 o2 q2 y2 c3 o3 q3 y3 bl bm bn
  have HBs1 := Lib.hid (HBc1.out.setCell (p := ⟨w.heap.size + 2, 0, none⟩) (by simp) (.slice au0_0 nu0_0 ku0_0))
  have BXs1 := Lib.hid (BXc1.out.elsewhere (D := w.heap.size + 2) 0 (.slice au0_0 nu0_0 ku0_0) (by omega))
  have RSs1 := Lib.hid (RSc1.out.elsewhere (D := w.heap.size + 2) 0 (.slice au0_0 nu0_0 ku0_0) (by omega))
  have BOs1 := Lib.hid (BOc1.out.set 0 (.slice au0_0 nu0_0 ku0_0) (by simp))
  have O0_s1 := Lib.hid (O0_c1.out.touch ((Touch.refl (w.heap.size + 2) (w.heap.size + 3) _).setCell ⟨w.heap.size + 2, 0, none⟩ (.slice au0_0 nu0_0 ku0_0) (by simp) (by simp)) (.inr (by omega)))
  clear HBc1 BXc1 RSc1 BOc1 O0_c1
  refine (y_to_IntS vx_Days d.2.1 _ (RdA.below HP1.out HBs1.out) HW1.out).mono ?_
  rintro e w2 ⟨u1_0, rfl, ho2, b2⟩
  have hs2 := b2.size
  have hS2 : w1.heap.size ≤ w2.heap.size := by simp at hs2; exact hs2
  have HBc2 := Lib.hid (HBs1.out.trans (b2.mono HBs1.out.size))
  have BXc2 := Lib.hid (BXs1.out.below b2)
  have RSc2 := Lib.hid (RSs1.out.below b2)
  have BOc2 := Lib.hid (BOs1.out.below b2)
  have O0_c2 := Lib.hid (O0_s1.out.below b2)
  have O1_c2 := Lib.hid (ho2.mono (lo' := w1.heap.size) (hi' := w2.heap.size) (by simp) (Nat.le_refl _) (Nat.le_refl _))
  clear HBs1 BXs1 RSs1 BOs1 O0_s1 hs2 b2 ho2
  obtain ⟨au1_0, nu1_0, ku1_0, hu1_0⟩ := rd_slice O1_c2.out.rd
  subst hu1_0
  have c0 := BXc2.out.2 0 _ rfl
  have c1 := BXc2.out.2 1 _ rfl
  have c2 := BXc2.out.2 2 _ rfl
  have c3 := BXc2.out.2 3 _ rfl
  have o0 := BOc2.out.2 0 _ rfl
  have o1 := BOc2.out.2 1 _ rfl
  have o2 := BOc2.out.2 2 _ rfl
  have o3 := BOc2.out.2 3 _ rfl
  have bl := BXc2.out.1
  have bm := BOc2.out.1
  have bn := RSc2.out.lt
  obtain ⟨⟨z0, q0⟩, y0⟩ := RSc2.out.at 0 (by omega)
  obtain ⟨⟨z1, q1⟩, y1⟩ := RSc2.out.at 1 (by omega)
  obtain ⟨⟨z2, q2⟩, y2⟩ := RSc2.out.at 2 (by omega)
  obtain ⟨⟨z3, q3⟩, y3⟩ := RSc2.out.at 3 (by omega)
  go_wp2_with fail
  clear c0 o0 q0 y0 c1 o1 q1 y1 c2 o2 q2 y2 c3 o3 q3 y3 bl bm bn
  have HBs2 := Lib.hid (HBc2.out.setCell (p := ⟨w.heap.size + 2, 1, none⟩) (by simp) (.slice au1_0 nu1_0 ku1_0))
  have BXs2 := Lib.hid (BXc2.out.elsewhere (D := w.heap.size + 2) 1 (.slice au1_0 nu1_0 ku1_0) (by omega))
  have RSs2 := Lib.hid (RSc2.out.elsewhere (D := w.heap.size + 2) 1 (.slice au1_0 nu1_0 ku1_0) (by omega))
  have BOs2 := Lib.hid (BOc2.out.set 1 (.slice au1_0 nu1_0 ku1_0) (by simp))
  have O0_s2 := Lib.hid (O0_c2.out.touch ((Touch.refl (w.heap.size + 2) (w.heap.size + 3) _).setCell ⟨w.heap.size + 2, 1, none⟩ (.slice au1_0 nu1_0 ku1_0) (by simp) (by simp)) (.inr (by omega)))
  have O1_s2 := Lib.hid (O1_c2.out.touch ((Touch.refl (w.heap.size + 2) (w.heap.size + 3) _).setCell ⟨w.heap.size + 2, 1, none⟩ (.slice au1_0 nu1_0 ku1_0) (by simp) (by simp)) (.inr (by omega)))
  clear HBc2 BXc2 RSc2 BOc2 O0_c2 O1_c2
  have HBs3 := Lib.hid (HBs2.out.setCell (p := ⟨w.heap.size + 2, 2, none⟩) (by simp) (.int .i64 x_Rest))
  have BXs3 := Lib.hid (BXs2.out.elsewhere (D := w.heap.size + 2) 2 (.int .i64 x_Rest) (by omega))
  have RSs3 := Lib.hid (RSs2.out.elsewhere (D := w.heap.size + 2) 2 (.int .i64 x_Rest) (by omega))
  have BOs3 := Lib.hid (BOs2.out.set 2 (.int .i64 x_Rest) (by simp))
  have O0_s3 := Lib.hid (O0_s2.out.touch ((Touch.refl (w.heap.size + 2) (w.heap.size + 3) _).setCell ⟨w.heap.size + 2, 2, none⟩ (.int .i64 x_Rest) (by simp) (by simp)) (.inr (by omega)))
  have O1_s3 := Lib.hid (O1_s2.out.touch ((Touch.refl (w.heap.size + 2) (w.heap.size + 3) _).setCell ⟨w.heap.size + 2, 2, none⟩ (.int .i64 x_Rest) (by simp) (by simp)) (.inr (by omega)))
  clear HBs2 BXs2 RSs2 BOs2 O0_s2 O1_s2
  refine (y_to_ClosedS vx_Closed d.2.2.2 _ (RdA.below HP3.out HBs3.out) HW3.out).mono ?_
  rintro e w3 ⟨u3_0, rfl, ho3, b3⟩
  have hs3 := b3.size
  have hS3 : w2.heap.size ≤ w3.heap.size := by simp at hs3; exact hs3
  have HBc3 := Lib.hid (HBs3.out.trans (b3.mono HBs3.out.size))
  have BXc3 := Lib.hid (BXs3.out.below b3)
  have RSc3 := Lib.hid (RSs3.out.below b3)
  have BOc3 := Lib.hid (BOs3.out.below b3)
  have O0_c3 := Lib.hid (O0_s3.out.below b3)
  have O1_c3 := Lib.hid (O1_s3.out.below b3)
  have O3_c3 := Lib.hid (ho3.mono (lo' := w2.heap.size) (hi' := w3.heap.size) (by simp) (Nat.le_refl _) (Nat.le_refl _))
  clear HBs3 BXs3 RSs3 BOs3 O0_s3 O1_s3 hs3 b3 ho3
  obtain ⟨au3_0, nu3_0, ku3_0, hu3_0⟩ := rd_slice O3_c3.out.rd
  subst hu3_0
  have c0 := BXc3.out.2 0 _ rfl
  have c1 := BXc3.out.2 1 _ rfl
  have c2 := BXc3.out.2 2 _ rfl
  have c3 := BXc3.out.2 3 _ rfl
  have o0 := BOc3.out.2 0 _ rfl
  have o1 := BOc3.out.2 1 _ rfl
  have o2 := BOc3.out.2 2 _ rfl
  have o3 := BOc3.out.2 3 _ rfl
  have bl := BXc3.out.1
  have bm := BOc3.out.1
  have bn := RSc3.out.lt
  obtain ⟨⟨z0, q0⟩, y0⟩ := RSc3.out.at 0 (by omega)
  obtain ⟨⟨z1, q1⟩, y1⟩ := RSc3.out.at 1 (by omega)
  obtain ⟨⟨z2, q2⟩, y2⟩ := RSc3.out.at 2 (by omega)
  obtain ⟨⟨z3, q3⟩, y3⟩ := RSc3.out.at 3 (by omega)
  go_wp2
  (try simp only [Exit.inBlock, Exit.then])
  refine post_named fun w99 hw99 => ?_
  clear c0 o0 q0 y0 c1 o1 q1 y1 c2 o2 q2 y2 c3 o3 q3 y3 bl bm bn
  have HBs4 := Lib.hid (HBc3.out.setCell (p := ⟨w.heap.size + 2, 3, none⟩) (by simp) (.slice au3_0 nu3_0 ku3_0))
  have BXs4 := Lib.hid (BXc3.out.elsewhere (D := w.heap.size + 2) 3 (.slice au3_0 nu3_0 ku3_0) (by omega))
  have RSs4 := Lib.hid (RSc3.out.elsewhere (D := w.heap.size + 2) 3 (.slice au3_0 nu3_0 ku3_0) (by omega))
  have BOs4 := Lib.hid (BOc3.out.set 3 (.slice au3_0 nu3_0 ku3_0) (by simp))
  have O0_s4 := Lib.hid (O0_c3.out.touch ((Touch.refl (w.heap.size + 2) (w.heap.size + 3) _).setCell ⟨w.heap.size + 2, 3, none⟩ (.slice au3_0 nu3_0 ku3_0) (by simp) (by simp)) (.inr (by omega)))
  have O1_s4 := Lib.hid (O1_c3.out.touch ((Touch.refl (w.heap.size + 2) (w.heap.size + 3) _).setCell ⟨w.heap.size + 2, 3, none⟩ (.slice au3_0 nu3_0 ku3_0) (by simp) (by simp)) (.inr (by omega)))
  have O3_s4 := Lib.hid (O3_c3.out.touch ((Touch.refl (w.heap.size + 2) (w.heap.size + 3) _).setCell ⟨w.heap.size + 2, 3, none⟩ (.slice au3_0 nu3_0 ku3_0) (by simp) (by simp)) (.inr (by omega)))
  clear HBc3 BXc3 RSc3 BOc3 O0_c3 O1_c3 O3_c3
  have HX9 := RSs4.out.put (vs := [.slice au0_0 nu0_0 ku0_0, .slice au1_0 nu1_0 ku1_0, .int .i64 x_Rest, .slice au3_0 nu3_0 ku3_0]) rfl
  have HB9 := Below.putCs (C := w.heap.size) (B := w.heap.size + 1) (by omega) [.slice au0_0 nu0_0 ku0_0, .slice au1_0 nu1_0 ku1_0, .int .i64 x_Rest, .slice au3_0 nu3_0 ku3_0] 0 _ _ HBs4.out
  have O0_9 := O0_s4.out.touch (Touch.putCs (lo := w.heap.size + 1) (hi := w.heap.size + 2) (B := w.heap.size + 1) (by omega) (by omega) [.slice au0_0 nu0_0 ku0_0, .slice au1_0 nu1_0 ku1_0, .int .i64 x_Rest, .slice au3_0 nu3_0 ku3_0] 0 _ _ (Touch.refl _ _ _)) (.inr (by omega))
  have O1_9 := O1_s4.out.touch (Touch.putCs (lo := w.heap.size + 1) (hi := w.heap.size + 2) (B := w.heap.size + 1) (by omega) (by omega) [.slice au0_0 nu0_0 ku0_0, .slice au1_0 nu1_0 ku1_0, .int .i64 x_Rest, .slice au3_0 nu3_0 ku3_0] 0 _ _ (Touch.refl _ _ _)) (.inr (by omega))
  have O3_9 := O3_s4.out.touch (Touch.putCs (lo := w.heap.size + 1) (hi := w.heap.size + 2) (B := w.heap.size + 1) (by omega) (by omega) [.slice au0_0 nu0_0 ku0_0, .slice au1_0 nu1_0 ku1_0, .int .i64 x_Rest, .slice au3_0 nu3_0 ku3_0] 0 _ _ (Touch.refl _ _ _)) (.inr (by omega))
  have e99 : w99 = putCs _ (w.heap.size + 1) 0 [.slice au0_0 nu0_0 ku0_0, .slice au1_0 nu1_0 ku1_0, .int .i64 x_Rest, .slice au3_0 nu3_0 ku3_0] := hw99.out
  rw [← e99] at HX9 HB9 O0_9 O1_9 O3_9
  clear hw99 e99
  have h9 : w3.heap.size ≤ w99.heap.size := O3_9.hi_le
  have HD : OwN tSeason w99 (w.heap.size + 3) w3.heap.size [.slice au0_0 nu0_0 ku0_0, .slice au1_0 nu1_0 ku1_0, .int .i64 x_Rest, .slice au3_0 nu3_0 ku3_0] (d.1, d.2.1, x_Rest, d.2.2.2) := (OwN.two O0_9 (OwN.two O1_9 (OwN.two (OwN.int w99 x_Rest (lo := w2.heap.size) (hi := w2.heap.size) (by omega)) O3_9 (by omega) (by omega)) (by omega) (by omega)) (by omega) (by omega))
  have hd2 : d.2.2.1 = x_Rest := scalar_int HP2.out
  have hdd : ((d.1, d.2.1, x_Rest, d.2.2.2) : tSeason.D) = d := by
    rw [← hd2]
    rfl
  rw [hdd] at HD
  have HD9 := Lib.hid (HD.mono (lo' := w.heap.size) (hi' := w99.heap.size) (by omega) h9 (Nat.le_refl _))
  have HB99 := Lib.hid HB9
  have HX99 := Lib.hid HX9
  clear HB9 HX9 HD hdd hd2
  have x0 := (HX99.out.2 0 _ rfl).1
  have x1 := (HX99.out.2 1 _ rfl).1
  have x2 := (HX99.out.2 2 _ rfl).1
  have x3 := (HX99.out.2 3 _ rfl).1
  have x_lt := HX99.out.1
  refine bodyPost_ret (v := .agg #[.slice au0_0 nu0_0 ku0_0, .slice au1_0 nu1_0 ku1_0, .int .i64 x_Rest, .slice au3_0 nu3_0 ku3_0]) ?_ rfl ⟨.slice au0_0 nu0_0 ku0_0, .slice au1_0 nu1_0 ku1_0, .slice au3_0 nu3_0 ku3_0, rfl, HD9.out, HB99.out⟩
  rw [results_cell rfl]
  go_simp
def cnt_Season (d : tSeason.D) : Nat := (tPairSS.mks d.1 + (tIntS.mks d.2.1 + (0 + tClosedS.mks d.2.2.2)))
def top_Season (k : Int) (d : tSeason.D) : tSeason.D := (tPairSS.mkd (k) d.1, tIntS.mkd (k + (tPairSS.mks d.1 : Nat)) d.2.1, d.2.2.1, tClosedS.mkd (k + (tPairSS.mks d.1 : Nat) + (tIntS.mks d.2.1 : Nat)) d.2.2.2)
set_option maxRecDepth 100000 in
set_option maxHeartbeats 2000000 in
theorem yb_mk_Season (vx_Rounds : Value) (vx_Days : Value) (x_Rest : Int) (vx_Closed : Value) (d : tSeason.D) (k : Int) (lo : Nat) (bs : List Nat) (w : World) (h : tSeason.Ow w lo [vx_Rounds, vx_Days, .int .i64 x_Rest, vx_Closed] d bs) (hnd : bs.Nodup) (h0 : 0 < k) (hk : k + cnt_Season d ≤ 1000000000000) : Calls Tryd.prog 19 #[.agg #[vx_Rounds, vx_Days, .int .i64 x_Rest, vx_Closed], .int .i64 k] w (MarkC tSeason [vx_Rounds, vx_Days, .int .i64 x_Rest, vx_Closed] (top_Season k d) (cnt_Season d) k bs w) := by
  obtain ⟨b0, bt0, hbs0, p0, ht0⟩ := ow_split h
  have P0 : tPairSS.Ow w lo [vx_Rounds] d.1 b0 := p0
  clear p0
  obtain ⟨b1, bt1, hbs1, p1, ht1⟩ := ow_split ht0
  have P1 : tIntS.Ow w lo [vx_Days] d.2.1 b1 := p1
  clear p1
  obtain ⟨b2, b3, hbs2, p2, ht2⟩ := ow_split ht1
  have P2 : tInt.Ow w lo [.int .i64 x_Rest] d.2.2.1 b2 := p2
  clear p2
  have P3 : tClosedS.Ow w lo [vx_Closed] d.2.2.2 b3 := ht2
  subst hbs2
  subst hbs1
  subst hbs0
  have HP0 := Lib.hid P0
  have HP1 := Lib.hid P1
  have HP2 := Lib.hid P2
  have HP3 := Lib.hid P3
  have HLT := Lib.hid (tSeason.ow_lt h)
  have HMEM0 : Hid (∀ q, q ∈ b0 → q ∈ b0 ++ (b1 ++ (b2 ++ (b3)))) := fun q hq => by simp only [List.mem_append]; simp [hq]
  have HMEM1 : Hid (∀ q, q ∈ b1 → q ∈ b0 ++ (b1 ++ (b2 ++ (b3)))) := fun q hq => by simp only [List.mem_append]; simp [hq]
  have HMEM3 : Hid (∀ q, q ∈ b3 → q ∈ b0 ++ (b1 ++ (b2 ++ (b3)))) := fun q hq => by simp only [List.mem_append]; simp [hq]
  have HA0_1 : Hid (∀ q, q ∈ b0 → q ∉ b1) := fun q hq hq2 => by
    have h7 := hnd
    simp only [List.nodup_append] at h7
    exact (h7.2.2 q hq q (by first | exact hq2 | (simp only [List.mem_append]; simp [hq2]))) rfl
  have HA1_0 : Hid (∀ q, q ∈ b1 → q ∉ b0) := fun q hq hq2 => HA0_1.out q hq2 hq
  have HA0_3 : Hid (∀ q, q ∈ b0 → q ∉ b3) := fun q hq hq2 => by
    have h7 := hnd
    simp only [List.nodup_append] at h7
    exact (h7.2.2 q hq q (by first | exact hq2 | (simp only [List.mem_append]; simp [hq2]))) rfl
  have HA3_0 : Hid (∀ q, q ∈ b3 → q ∉ b0) := fun q hq hq2 => HA0_3.out q hq2 hq
  have HA1_3 : Hid (∀ q, q ∈ b1 → q ∉ b3) := fun q hq hq2 => by
    have h7 := hnd
    simp only [List.nodup_append] at h7
    exact (h7.2.1.2.2 q hq q (by first | exact hq2 | (simp only [List.mem_append]; simp [hq2]))) rfl
  have HA3_1 : Hid (∀ q, q ∈ b3 → q ∉ b1) := fun q hq hq2 => HA1_3.out q hq2 hq
  have ND0 : Hid (b0.Nodup) := by
    have h7 := hnd
    simp only [List.nodup_append] at h7
    exact h7.1
  have ND1 : Hid (b1.Nodup) := by
    have h7 := hnd
    simp only [List.nodup_append] at h7
    exact h7.2.1.1
  have ND3 : Hid (b3.Nodup) := by
    have h7 := hnd
    simp only [List.nodup_append] at h7
    exact h7.2.1.2.1.2.1
  have hc : cnt_Season d = (tPairSS.mks d.1 + (tIntS.mks d.2.1 + (0 + tClosedS.mks d.2.2.2))) := rfl
  unfold MarkC
  rw [hc]
  rw [hc] at hk
  obtain ⟨N0, hN0⟩ : ∃ z, tPairSS.mks d.1 = z := ⟨_, rfl⟩
  obtain ⟨N1, hN1⟩ : ∃ z, tIntS.mks d.2.1 = z := ⟨_, rfl⟩
  obtain ⟨N3, hN3⟩ : ∃ z, tClosedS.mks d.2.2.2 = z := ⟨_, rfl⟩
  have HN0 := Lib.hid hN0
  have HN1 := Lib.hid hN1
  have HN3 := Lib.hid hN3
  rw [hN0, hN1, hN3] at hk
  rw [hN0, hN1, hN3]
  have HE0 : Hid (KeepB (b0 ++ (b1 ++ (b2 ++ (b3)))) w (w.alloc (.cells #[vx_Rounds, vx_Days, .int .i64 x_Rest, vx_Closed] 27))) := KeepB.of_below ((Below.refl _ _).alloc (Nat.le_refl _) _)
  have BX0 : Hid (BoxN (w.alloc (.cells #[vx_Rounds, vx_Days, .int .i64 x_Rest, vx_Closed] 27)) w.heap.size [vx_Rounds, vx_Days, .int .i64 x_Rest, vx_Closed]) := BoxN.made (Below.refl _ _) rfl
  have Q0_0 := Lib.hid (KeepB.ow (bs := []) HP0.out (KeepB.of_below ((Below.refl _ _).alloc (Nat.le_refl _) (.cells #[vx_Rounds, vx_Days, .int .i64 x_Rest, vx_Closed] 27))) (fun q _ hq => by cases hq))
  have Q1_0 := Lib.hid (KeepB.ow (bs := []) HP1.out (KeepB.of_below ((Below.refl _ _).alloc (Nat.le_refl _) (.cells #[vx_Rounds, vx_Days, .int .i64 x_Rest, vx_Closed] 27))) (fun q _ hq => by cases hq))
  have Q3_0 := Lib.hid (KeepB.ow (bs := []) HP3.out (KeepB.of_below ((Below.refl _ _).alloc (Nat.le_refl _) (.cells #[vx_Rounds, vx_Days, .int .i64 x_Rest, vx_Closed] 27))) (fun q _ hq => by cases hq))
  clear hc h hnd P0 P1 P2 P3 hN0 hN1 hN3
  have c0 := BX0.out.2 0 _ rfl
  have c1 := BX0.out.2 1 _ rfl
  have c2 := BX0.out.2 2 _ rfl
  have c3 := BX0.out.2 3 _ rfl
  have bl := BX0.out.1
  go_enter Tryd.func19, Tryd.ntmps19
  go_wp2_with fail
  refine (yb_mk_PairSS vx_Rounds d.1 (k) lo b0 _ Q0_0.out ND0.out (by omega) (by have := HN0.out; omega)).mono ?_
  rintro e w1 ⟨rfl, hr1, hk1⟩
  have HR0_1 := Lib.hid hr1
  have HE1 := Lib.hid (KeepB.mono (KeepB.trans HE0.out hk1) (b2 := b0 ++ (b1 ++ (b2 ++ (b3)))) (fun q hq => (List.mem_append.1 hq).elim id (HMEM0.out q)))
  have BX1 := Lib.hid (KeepB.box BX0.out hk1 (fun hq => by have := (HLT.out _ (HMEM0.out _ hq)).2; omega))
  have Q1_1 := Lib.hid (KeepB.ow Q1_0.out hk1 HA1_0.out)
  have Q3_1 := Lib.hid (KeepB.ow Q3_0.out hk1 HA3_0.out)
  rw [HN0.out]
  clear c0 c1 c2 c3 bl BX0 hr1 hk1 HE0 Q0_0 Q1_0 Q3_0
  have c0 := BX1.out.2 0 _ rfl
  have c1 := BX1.out.2 1 _ rfl
  have c2 := BX1.out.2 2 _ rfl
  have c3 := BX1.out.2 3 _ rfl
  have bl := BX1.out.1
  go_wp2_with fail
  refine (yb_mk_IntS vx_Days d.2.1 (k + (N0 : Int)) lo b1 _ Q1_1.out ND1.out (by omega) (by have := HN1.out; omega)).mono ?_
  rintro e w2 ⟨rfl, hr2, hk2⟩
  have HR1_2 := Lib.hid hr2
  have HE2 := Lib.hid (KeepB.mono (KeepB.trans HE1.out hk2) (b2 := b0 ++ (b1 ++ (b2 ++ (b3)))) (fun q hq => (List.mem_append.1 hq).elim id (HMEM1.out q)))
  have BX2 := Lib.hid (KeepB.box BX1.out hk2 (fun hq => by have := (HLT.out _ (HMEM1.out _ hq)).2; omega))
  have HR0_2 := Lib.hid (KeepB.rd HR0_1.out hk2 HA0_1.out)
  have Q3_2 := Lib.hid (KeepB.ow Q3_1.out hk2 HA3_1.out)
  rw [HN1.out]
  clear c0 c1 c2 c3 bl BX1 hr2 hk2 HE1 HR0_1 Q1_1 Q3_1
  have c0 := BX2.out.2 0 _ rfl
  have c1 := BX2.out.2 1 _ rfl
  have c2 := BX2.out.2 2 _ rfl
  have c3 := BX2.out.2 3 _ rfl
  have bl := BX2.out.1
  go_wp2_with fail
  refine (yb_mk_ClosedS vx_Closed d.2.2.2 (k + (N0 : Int) + (N1 : Int)) lo b3 _ Q3_2.out ND3.out (by omega) (by have := HN3.out; omega)).mono ?_
  rintro e w3 ⟨rfl, hr3, hk3⟩
  have HR3_3 := Lib.hid hr3
  have HE3 := Lib.hid (KeepB.mono (KeepB.trans HE2.out hk3) (b2 := b0 ++ (b1 ++ (b2 ++ (b3)))) (fun q hq => (List.mem_append.1 hq).elim id (HMEM3.out q)))
  have BX3 := Lib.hid (KeepB.box BX2.out hk3 (fun hq => by have := (HLT.out _ (HMEM3.out _ hq)).2; omega))
  have HR0_3 := Lib.hid (KeepB.rd HR0_2.out hk3 HA0_3.out)
  have HR1_3 := Lib.hid (KeepB.rd HR1_2.out hk3 HA1_3.out)
  rw [HN3.out]
  clear c0 c1 c2 c3 bl BX2 hr3 hk3 HE2 HR0_2 HR1_2 Q3_2
  have c0 := BX3.out.2 0 _ rfl
  have c1 := BX3.out.2 1 _ rfl
  have c2 := BX3.out.2 2 _ rfl
  have c3 := BX3.out.2 3 _ rfl
  have bl := BX3.out.1
  have HRR : Hid (tSeason.Rd w3 (fun q => q ∈ b0 ++ (b1 ++ (b2 ++ (b3)))) [vx_Rounds, vx_Days, .int .i64 x_Rest, vx_Closed] (top_Season k d)) := by
    unfold top_Season
    rw [HN0.out, HN1.out]
    exact ⟨[vx_Rounds], _, rfl, (tPairSS.rd_mono HR0_3.out HMEM0.out), ⟨[vx_Days], _, rfl, (tIntS.rd_mono HR1_3.out HMEM1.out), ⟨[.int .i64 x_Rest], _, rfl, (scal_int HP2.out), (tClosedS.rd_mono HR3_3.out HMEM3.out)⟩⟩⟩
  have HEE := Lib.hid HE3.out
  go_wp2
  go_ret
  exact ⟨ret_int (by omega), HRR.out, HEE.out⟩
theorem form_Season {w : World} {B : Nat → Prop} {cs : List Value} {d : tSeason.D} (h : tSeason.Rd w B cs d) : ∃ (vx_Rounds : Value) (vx_Days : Value) (x_Rest : Int) (vx_Closed : Value), cs = [vx_Rounds, vx_Days, .int .i64 x_Rest, vx_Closed] := by
  obtain ⟨c0, r0, e0, h0, t0⟩ := h
  obtain ⟨vx_Rounds, _, g0, _⟩ := h0
  obtain ⟨c1, r1, e1, h1, t1⟩ := t0
  obtain ⟨vx_Days, _, g1, _⟩ := h1
  obtain ⟨c2, r2, e2, h2, t2⟩ := t1
  have g2 : c2 = [.int .i64 d.2.2.1] := h2
  have h3 := t2
  obtain ⟨vx_Closed, _, g3, _⟩ := h3
  exact ⟨vx_Rounds, vx_Days, d.2.2.1, vx_Closed, by rw [e0, e1, e2, g0, g1, g2, g3]; rfl⟩
theorem cntle_Season (d : tSeason.D) : cnt_Season d ≤ tSeason.mks d := by
  have e1 : cnt_Season d = (tPairSS.mks d.1 + (tIntS.mks d.2.1 + (0 + tClosedS.mks d.2.2.2))) := rfl
  have e2 : tSeason.mks d = (tPairSS.mks d.1 + (tIntS.mks d.2.1 + (tInt.mks d.2.2.1 + tClosedS.mks d.2.2.2))) := rfl
  rw [e1, e2]
  omega
end Go.Proofs.YtcbpgbiannpfpaaDoor
set_option linter.unusedVariables false
namespace Go.Proofs.YtcbpgbiannpfpaaDoor
open Go.RowKit

theorem sea_rd {w : World} {v0 v1 v3 : Value} {x : Int} {d : tSeason.D} (h : RdA tSeason w [v0, v1, .int .i64 x, v3] d) : RdA tPairSS w [v0] d.1 ∧ IntRow w v1 (List.length (α := Int) d.2.1) (getI d.2.1) ∧ RdA tClosedS w [v3] d.2.2.2 := by
  have h0 : RdA tPairSS w [v0] d.1 := (rd_split h).1
  have t0 := (rd_split h).2
  have h1 : RdA tIntS w [v1] d.2.1 := (rd_split t0).1
  have t1 := (rd_split t0).2
  have h3 : RdA tClosedS w [v3] d.2.2.2 := (rd_split t1).2
  exact ⟨h0, rd_IntS.1 h1, h3⟩
theorem sea_wt {d : tSeason.D} (h : tSeason.wt d ≤ 1048576) : tPairSS.wt d.1 ≤ 1048576 := by
  have e : tSeason.wt d = tPairSS.wt d.1 + (tIntS.wt d.2.1 + (tInt.wt d.2.2.1 + tClosedS.wt d.2.2.2)) := rfl
  omega
theorem sea_len {d : tSeason.D} (h : tSeason.wt d ≤ 1048576) : List.length (α := PairL) d.1 ≤ 1048576 := by
  have e : tPairSS.wt d.1 = List.length (α := PairL) d.1 + (List.map tPairS.wt d.1).sum := rfl
  have := sea_wt h
  omega
theorem mks_ints (T : List Int) : tIntS.mks T = 1 * List.length (α := Int) T := sum_const (f := tInt.mks) (fun _ => rfl) _
theorem firstF_len {rest : Int} {C : ClosL} {L : List Int} {D : List PairL} {T : List Int} (h : firstF rest C L D [] = some T) : T.length = List.length (α := PairL) D := by
  rw [(firstF_find D [] T h).1]; exact Nat.zero_add _
theorem marks_cal {R : Bool} {D : List PairL} {L : List Int} {rest : Int} {C : ClosL} (h : List.length (α := PairL) D ≤ 1048576) : tIntS.mks ((calF R D L rest C).getD []) ≤ 100000000000 := by
  rw [mks_ints]
  unfold calF
  split
  · cases hf : firstF rest C L D [] with
    | none => show 1 * 0 ≤ _; omega
    | some T => have := firstF_len hf; show 1 * T.length ≤ _; omega
  · show 1 * 0 ≤ _; omega
theorem marks_blk {R : Bool} {D : List PairL} {L : List Int} {C : ClosL} (h : List.length (α := PairL) D ≤ 1048576) : tIntS.mks (blkL R D L C) ≤ 100000000000 := by
  rw [mks_ints]
  unfold blkL
  split
  · have h1 := idxL_len (blkB D L C) (List.length (α := PairL) D)
    show 1 * (idxL (blkB D L C) (List.length (α := PairL) D)).length ≤ _
    omega
  · show 1 * 0 ≤ _; omega
theorem DatesM.owN {w w' : World} {o : Option (List Int)} {e : Ending} (h : DatesM w o e w') : ∃ v, e = .returned (.tuple #[v, .bool o.isSome]) ∧ OwN tIntS w' w.heap.size w'.heap.size [v] (o.getD []) ∧ Below w.heap.size w w' := by
  obtain ⟨v, he, ho, hb⟩ := h
  exact ⟨v, he, own_ints ho (fun q hq => (ho.lt q hq).2) (Nat.le_refl _), hb⟩
end Go.Proofs.YtcbpgbiannpfpaaDoor
