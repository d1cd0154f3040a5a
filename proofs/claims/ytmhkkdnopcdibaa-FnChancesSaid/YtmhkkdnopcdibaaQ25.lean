/-
  Packed: DrwImplA, DrwImplB, DrwImplC.
-/
import Derived.Test.YtmhkkdnopcdibaaLaysE
import Derived.Test.YtmhkkdnopcdibaaQ4
import Derived.Test.YtmhkkdnopcdibaaQ16
import Derived.Test.YtmhkkdnopcdibaaQ24
set_option linter.unusedVariables false
namespace Go.Proofs.Ytmhkkdnopcdibaa
open Go.RowKit

def EnteredD (f : Nat) : Prop := ∀ (args : Array Value) (w : World), Sem.run Try.prog (callFunc f args) w = .ok (.enter f args) w
theorem getD_at {T : List (List Int)} {k : Nat} {r : List Int} (h : T[k]? = some r) : T.getD k [] = r := by rw [List.getD_eq_getElem?_getD, h]; rfl
set_option maxRecDepth 100000 in
set_option maxHeartbeats 2000000 in
theorem indexRowsB (f : Nat) (hf : EnteredD f) (pv : Value) (v : Value) (T : List (List Int)) (p : List Int → Bool) (w : World) (h : RdA tIntSS w [v] T)
    (hp : ∀ (r : List Int) (x : Option Addr) (k : Nat) (wa : World), Below w.heap.size w wa → IntRow wa (.slice x r.length k) r.length (getI r) → Calls Try.prog f #[pv, .slice x r.length k] wa fun e w'' => e = .returned (.bool (p r)) ∧ Below wa.heap.size wa w'') :
    Calls Try.prog 82 #[v, .func (.func f) #[pv] #[]] w fun e w' => e = .returned (.int .i64 (firstI (fun i => p (T.getD i [])) T.length 0)) ∧ Below w.heap.size w w' := by
  obtain ⟨pa, pc, rfl, hpn⟩ := pots_form h
  obtain ⟨np, hnp⟩ : ∃ np, List.length (α := List Int) T = np := ⟨_, rfl⟩
  have HNP := Lib.hid hnp
  have HP := Lib.hid hp
  have HVR := Lib.hid h
  rw [hnp] at hpn HVR
  have hnp2 : T.length = np := hnp
  rw [hnp2]
  clear h hp hnp hnp2
  generalize hr : firstI (fun i => p (T.getD i [])) np 0 = R
  have HR := Lib.hid hr
  clear hr
  go_enter Try.func82, Try.ntmps82
  go_wp2
  go_loopw [8] (fun i wr => ∃ k : Nat, k ≤ np ∧ i = .int .i64 k ∧ Hid (firstI (fun i => p (T.getD i [])) (np - k) k = R) ∧ Below w.heap.size w wr) (fun i _ => np - (RowKit.intOf i).toNat)
  case atStart => exact ⟨0, Nat.zero_le _, rfl, HR.out, Below.refl _ _⟩
  case round =>
    obtain ⟨k, hk, rfl, hpf, hb⟩ := hrel
    by_cases hlt : k < np
    · obtain ⟨r, hr⟩ : ∃ r : List Int, T[k]? = some r := ⟨_, List.getElem?_eq_getElem (by rw [HNP.out]; exact hlt)⟩
      obtain ⟨b, off, x, xc, rfl, hcap, q0, hrr, hm63⟩ := pot_cells (by rw [HNP.out]; exact HVR.out.below hb) hr
      rw [HNP.out] at hcap
      have hj1 : (k : Int) < (np : Int) := by omega
      have hstep := firstI_step (p := fun i => p (T.getD i [])) hlt
      rw [hpf.out] at hstep
      simp only [getD_at hr] at hstep
      have HY := Lib.hid (fun (e : p r = true) => hstep.trans (if_pos e))
      have HN := Lib.hid (fun (e : p r = false) => hstep.trans (if_neg (by rw [e]; simp)))
      clear hstep
      have hsz := hb.size
      have C2 := Lib.hid (HP.out r x xc wr hb hrr)
      clear HVR hpf HR HP hrr hr
      obtain ⟨m, hm⟩ : ∃ m, r.length = m := ⟨_, rfl⟩
      rw [hm] at q0 C2
      clear hm hm63
      have hrun := hf #[pv, .slice x m xc] wr
      generalize p r = y at *
      cases y with
      | true =>
        obtain rfl := HY.out rfl
        clear HY HN
        go_wp2_with fail
        refine C2.out.mono ?_
        rintro e w2 ⟨rfl, b2⟩
        have HE := Lib.hid (hb.trans (b2.mono hsz))
        clear C2 b2
        go_wp2
        go_ret
        exact ⟨rfl, HE.out⟩
      | false =>
        have HS := Lib.hid (HN.out rfl).symm
        clear HY HN
        go_wp2_with fail
        refine C2.out.mono ?_
        rintro e w2 ⟨rfl, b2⟩
        have HE := Lib.hid (hb.trans (b2.mono hsz))
        clear C2 b2
        go_wp2
        go_roundw
        case rel => exact ⟨k + 1, by omega, by go_num, HS.out, HE.out⟩
        case measure => simp [RowKit.intOf]; omega
    · obtain rfl : k = np := by omega
      have hR : R = -1 := by rw [← hpf.out, Nat.sub_self]; rfl
      subst hR
      clear hpf HR
      go_wp2
      go_ret
      exact ⟨rfl, hb⟩
set_option maxRecDepth 100000 in
set_option maxHeartbeats 2000000 in
theorem anyRowsB (f : Nat) (hf : EnteredD f) (pv : Value) (v : Value) (T : List (List Int)) (p : List Int → Bool) (R : Bool) (w : World) (hR : R = true ↔ ∃ j, j < T.length ∧ p (T.getD j []) = true) (h : RdA tIntSS w [v] T)
    (hp : ∀ (r : List Int) (x : Option Addr) (k : Nat) (wa : World), Below w.heap.size w wa → IntRow wa (.slice x r.length k) r.length (getI r) → Calls Try.prog f #[pv, .slice x r.length k] wa fun e w'' => e = .returned (.bool (p r)) ∧ Below wa.heap.size wa w'') :
    Calls Try.prog 46 #[v, .func (.func f) #[pv] #[]] w fun e w' => e = .returned (.bool R) ∧ Below w.heap.size w w' := by
  have H := Lib.hid (indexRowsB f hf pv v T p w h hp)
  have hq : R = decide (0 ≤ firstI (fun i => p (T.getD i [])) T.length 0) := by
    rw [Bool.eq_iff_iff, hR, decide_eq_true_eq, firstI_pos]
    exact ⟨fun ⟨j, h1, h2⟩ => ⟨j, by omega, by omega, h2⟩, fun ⟨j, _, h1, h2⟩ => ⟨j, by omega, h2⟩⟩
  generalize firstI (fun i => p (T.getD i [])) T.length 0 = q at *
  subst hq
  obtain ⟨pa, pc, rfl, hpn⟩ := pots_form h
  generalize List.length (α := List Int) T = np at *
  clear h hR hp
  go_enter Try.func46, Try.ntmps46
  go_wp2_with (go_at_call 82; refine H.out.mono ?_; rintro e w' ⟨rfl, b1⟩)
  go_ret
  exact ⟨rfl, b1⟩
set_option maxRecDepth 100000 in
set_option maxHeartbeats 2000000 in
theorem indexRowsC (f : Nat) (hf : EnteredD f) (P : Option Addr) (v : Value) (T : List (List Int)) (p : List Int → Bool) (w : World) (h : RdA tIntSS w [v] T)
    (hp : ∀ (r : List Int) (x : Option Addr) (k : Nat) (wa : World), Below w.heap.size w wa → IntRow wa (.slice x r.length k) r.length (getI r) → Calls Try.prog f #[.slice x r.length k, .pointer P] wa fun e w'' => e = .returned (.bool (p r)) ∧ Below wa.heap.size wa w'') :
    Calls Try.prog 82 #[v, .func (.func f) #[] #[.pointer P]] w fun e w' => e = .returned (.int .i64 (firstI (fun i => p (T.getD i [])) T.length 0)) ∧ Below w.heap.size w w' := by
  obtain ⟨pa, pc, rfl, hpn⟩ := pots_form h
  obtain ⟨np, hnp⟩ : ∃ np, List.length (α := List Int) T = np := ⟨_, rfl⟩
  have HNP := Lib.hid hnp
  have HP := Lib.hid hp
  have HVR := Lib.hid h
  rw [hnp] at hpn HVR
  have hnp2 : T.length = np := hnp
  rw [hnp2]
  clear h hp hnp hnp2
  generalize hr : firstI (fun i => p (T.getD i [])) np 0 = R
  have HR := Lib.hid hr
  clear hr
  go_enter Try.func82, Try.ntmps82
  go_wp2
  go_loopw [8] (fun i wr => ∃ k : Nat, k ≤ np ∧ i = .int .i64 k ∧ Hid (firstI (fun i => p (T.getD i [])) (np - k) k = R) ∧ Below w.heap.size w wr) (fun i _ => np - (RowKit.intOf i).toNat)
  case atStart => exact ⟨0, Nat.zero_le _, rfl, HR.out, Below.refl _ _⟩
  case round =>
    obtain ⟨k, hk, rfl, hpf, hb⟩ := hrel
    by_cases hlt : k < np
    · obtain ⟨r, hr⟩ : ∃ r : List Int, T[k]? = some r := ⟨_, List.getElem?_eq_getElem (by rw [HNP.out]; exact hlt)⟩
      obtain ⟨b, off, x, xc, rfl, hcap, q0, hrr, hm63⟩ := pot_cells (by rw [HNP.out]; exact HVR.out.below hb) hr
      rw [HNP.out] at hcap
      have hj1 : (k : Int) < (np : Int) := by omega
      have hstep := firstI_step (p := fun i => p (T.getD i [])) hlt
      rw [hpf.out] at hstep
      simp only [getD_at hr] at hstep
      have HY := Lib.hid (fun (e : p r = true) => hstep.trans (if_pos e))
      have HN := Lib.hid (fun (e : p r = false) => hstep.trans (if_neg (by rw [e]; simp)))
      clear hstep
      have hsz := hb.size
      have C2 := Lib.hid (HP.out r x xc wr hb hrr)
      clear HVR hpf HR HP hrr hr
      obtain ⟨m, hm⟩ : ∃ m, r.length = m := ⟨_, rfl⟩
      rw [hm] at q0 C2
      clear hm hm63
      have hrun := hf #[.slice x m xc, .pointer P] wr
      generalize p r = y at *
      cases y with
      | true =>
        obtain rfl := HY.out rfl
        clear HY HN
        go_wp2_with fail
        refine C2.out.mono ?_
        rintro e w2 ⟨rfl, b2⟩
        have HE := Lib.hid (hb.trans (b2.mono hsz))
        clear C2 b2
        go_wp2
        go_ret
        exact ⟨rfl, HE.out⟩
      | false =>
        have HS := Lib.hid (HN.out rfl).symm
        clear HY HN
        go_wp2_with fail
        refine C2.out.mono ?_
        rintro e w2 ⟨rfl, b2⟩
        have HE := Lib.hid (hb.trans (b2.mono hsz))
        clear C2 b2
        go_wp2
        go_roundw
        case rel => exact ⟨k + 1, by omega, by go_num, HS.out, HE.out⟩
        case measure => simp [RowKit.intOf]; omega
    · obtain rfl : k = np := by omega
      have hR : R = -1 := by rw [← hpf.out, Nat.sub_self]; rfl
      subst hR
      clear hpf HR
      go_wp2
      go_ret
      exact ⟨rfl, hb⟩
set_option maxRecDepth 100000 in
set_option maxHeartbeats 2000000 in
theorem anyRowsC (f : Nat) (hf : EnteredD f) (P : Option Addr) (v : Value) (T : List (List Int)) (p : List Int → Bool) (R : Bool) (w : World) (hR : R = true ↔ ∃ j, j < T.length ∧ p (T.getD j []) = true) (h : RdA tIntSS w [v] T)
    (hp : ∀ (r : List Int) (x : Option Addr) (k : Nat) (wa : World), Below w.heap.size w wa → IntRow wa (.slice x r.length k) r.length (getI r) → Calls Try.prog f #[.slice x r.length k, .pointer P] wa fun e w'' => e = .returned (.bool (p r)) ∧ Below wa.heap.size wa w'') :
    Calls Try.prog 46 #[v, .func (.func f) #[] #[.pointer P]] w fun e w' => e = .returned (.bool R) ∧ Below w.heap.size w w' := by
  have H := Lib.hid (indexRowsC f hf P v T p w h hp)
  have hq : R = decide (0 ≤ firstI (fun i => p (T.getD i [])) T.length 0) := by
    rw [Bool.eq_iff_iff, hR, decide_eq_true_eq, firstI_pos]
    exact ⟨fun ⟨j, h1, h2⟩ => ⟨j, by omega, by omega, h2⟩, fun ⟨j, _, h1, h2⟩ => ⟨j, by omega, h2⟩⟩
  generalize firstI (fun i => p (T.getD i [])) T.length 0 = q at *
  subst hq
  obtain ⟨pa, pc, rfl, hpn⟩ := pots_form h
  generalize List.length (α := List Int) T = np at *
  clear h hR hp
  go_enter Try.func46, Try.ntmps46
  go_wp2_with (go_at_call 82; refine H.out.mono ?_; rintro e w' ⟨rfl, b1⟩)
  go_ret
  exact ⟨rfl, b1⟩
def noPotB (gr : Int) (n : Nat) : Bool := decide (n = 0) || decide (gr < (n : Int))
set_option maxRecDepth 100000 in
set_option maxHeartbeats 2000000 in
theorem isNoPot_impl (pa : Option Addr) (np pc : Nat) (gr most : Int) (x : Option Addr) (n k : Nat) (w : World) (hn : n ≤ 9223372036854775807) :
    Calls Try.prog 47 #[.agg #[.slice pa np pc, .int .i64 gr, .int .i64 most], .slice x n k] w fun e w' => e = .returned (.bool (noPotB gr n)) ∧ Below w.heap.size w w' := by
  unfold noPotB
  have HB : Hid (Below w.heap.size w (w.alloc (.cells #[.slice pa np pc, .int .i64 gr, .int .i64 most] 26))) := (Below.refl _ _).alloc (Nat.le_refl _) _
  obtain ⟨r, hr⟩ : ∃ r, decide (gr < (n : Int)) = r := ⟨_, rfl⟩
  by_cases h0 : n = 0
  · have g0 : ((n : Int) == 0) = true := by simp [h0]
    have e : (decide (n = 0) || decide (gr < (n : Int))) = true := by simp [h0]
    rw [e]
    clear e h0 hr
    go_enter Try.func47, Try.ntmps47
    go_wp2
    go_ret
    exact ⟨rfl, HB.out⟩
  · have g0 : ((n : Int) == 0) = false := by simp [h0]
    have e : (decide (n = 0) || decide (gr < (n : Int))) = r := by rw [hr]; simp [h0]
    rw [e]
    clear e h0
    go_enter Try.func47, Try.ntmps47
    go_wp2
    go_ret
    exact ⟨rfl, HB.out⟩
end Go.Proofs.Ytmhkkdnopcdibaa
set_option linter.unusedVariables false
namespace Go.Proofs.Ytmhkkdnopcdibaa
open Go.RowKit Go.Shelf

theorem growInts (n : Nat) (w : World) (hn : n ≤ 1048576) : Calls Try.prog 84 #[.slice none 0 0, .int .i64 n] w (IntsL w []) := by
  obtain ⟨i0, hi, hz0, hz1, hz2⟩ := info_parts Try.infoI
  by_cases h0 : n = 0
  · have h := Any8.slices_Grow_room Try.growL none 0 0 n w (by omega) (by omega) (by omega) (by omega)
    change Calls Try.prog 84 _ _ _ at h
    refine h.mono ?_
    rintro e w' ⟨rfl, rfl⟩
    exact ⟨_, rfl, World.ownsRow_nil _ _ _ _, Below.refl _ _⟩
  · have h := Any8.slices_Grow_grow Try.growL i0 (.int .i64 0) hi hz0 (by rw [hz1]; decide) none 0 0 n [] w (by omega) (by omega) (by rw [hz2]; omega) (by omega) (by simp) (fun _ => rfl) (fun a ha => by cases ha)
    change Calls Try.prog 84 _ _ _ at h
    refine h.mono ?_
    rintro e w' ⟨rfl, rfl⟩
    refine ⟨_, rfl, ⟨rfl, .inr ⟨w.heap.size, _, _, rfl, Nat.le_refl _, heap_alloc_new w.drew _, Nat.zero_le _, grownCap_le_maxLen _ _ _ _ (by unfold maxLen; omega), ?_, by simp⟩⟩, ?_⟩
    · have h9 := grownCap_ge w (0 + n) 0 3
      change (#[] ++ Builtin.zeroCells #[Value.int .i64 0] (0 + n - 0) ++ Builtin.zeroCells #[Value.int .i64 0] (grownCap w (0 + n) 0 3 - (0 + n))).size = grownCap w (0 + n) 0 3 * 1
      rw [Array.size_append, Array.size_append, size_zeroCells, size_zeroCells]
      simp only [List.size_toArray, List.length_cons, List.length_nil]
      omega
    · exact (Below.refl w.heap.size w).drew.alloc (Nat.le_refl _) _
theorem lenSum_take {T : List (List Int)} {k : Nat} {r : List Int} (h : T[k]? = some r) : ((T.take (k + 1)).flatten).length = ((T.take k).flatten).length + r.length := by
  rw [List.take_add_one, h, List.flatten_append, List.length_append]; simp
set_option maxRecDepth 100000 in
set_option maxHeartbeats 4000000 in
theorem concatInts (v : Value) (T : List (List Int)) (w : World) (h : RdA tIntSS w [v] T) (hw : tIntSS.wt T ≤ 1048576) :
    Calls Try.prog 49 #[v] w (IntsL w T.flatten) := by
  obtain ⟨i0, hi, hz0, hz1, hz2⟩ := info_parts Try.infoI
  obtain ⟨pa, pc, rfl, hpn⟩ := pots_form h
  have hfl := Nat.le_trans (flat_wt (T := T)) hw
  obtain ⟨np, hnp⟩ : ∃ np, List.length (α := List Int) T = np := ⟨_, rfl⟩
  have HNP := Lib.hid hnp
  have HFL : Hid (∀ k, ((T.take k).flatten).length ≤ 1048576) := fun k => Nat.le_trans (flat_takeD k) hfl
  have HS := Lib.hid h
  rw [hnp] at hpn HS ⊢
  clear h hw hnp hfl
  go_enter Try.func49, Try.ntmps49
  go_wp2
  go_loop [3, 11] (fun sv iv => ∃ (k s : Nat), k ≤ np ∧ iv = .int .i64 k ∧ sv = .int .i64 s ∧ Hid (s = ((T.take k).flatten).length)) (fun _ iv => np - (RowKit.intOf iv).toNat)
  case atStart => exact ⟨0, 0, Nat.zero_le _, rfl, rfl, rfl⟩
  case round =>
    obtain ⟨k, s, hk9, rfl, rfl, HV⟩ := hrel
    have hs9 := HFL.out k
    rw [← HV.out] at hs9
    by_cases hlt : k < np
    · obtain ⟨r, hr⟩ : ∃ r : List Int, T[k]? = some r := ⟨_, List.getElem?_eq_getElem (by rw [HNP.out]; exact hlt)⟩
      obtain ⟨b, off, x, xc, rfl, hcap, q0, hrr, hm63⟩ := pot_cells (by rw [HNP.out]; exact HS.out) hr
      rw [HNP.out] at hcap
      have hj1 : (k : Int) < (np : Int) := by omega
      have hl9 := HFL.out (k + 1)
      have HVN := Lib.hid (lenSum_take hr)
      rw [HVN.out, ← HV.out] at hl9
      rw [← HV.out] at HVN
      clear hrr hr HV
      obtain ⟨m, hm⟩ : ∃ m, r.length = m := ⟨_, rfl⟩
      rw [hm] at q0 hm63 hl9 HVN
      clear hm
      go_wp2
      go_round
      case rel => exact ⟨k + 1, s + m, by omega, by go_num, by go_num, HVN.out.symm⟩
      case measure => simp [RowKit.intOf]; omega
    obtain rfl : k = np := by omega
    have HG := Lib.hid (growInts s w (by omega))
    go_wp2_with fail
    refine HG.out.mono ?_
    rintro e w1 h9
    obtain ⟨gv, rfl, og, bg⟩ := h9
    have HB0 := Lib.hid bg
    have ON := Lib.hid og
    clear og bg HG HV hs9
    go_wp2
    go_loopw [6, 27] (fun ov iv wr => ∃ (j : Nat) (out : List Int), j ≤ k ∧ iv = .int .i64 j ∧ Hid (out = (T.take j).flatten) ∧ out.length ≤ 1048576 ∧ Hid (wr.ownsRow w.heap.size 3 1 ov out.length (out.map (Value.int .i64))) ∧ Hid (Below w.heap.size w wr)) (fun _ iv _ => k - (RowKit.intOf iv).toNat)
    case atStart => exact ⟨0, [], Nat.zero_le _, rfl, rfl, Nat.zero_le _, ON, HB0⟩
    case round =>
      clear ON HB0
      obtain ⟨j, out, hj9, rfl, HV, hl6, HO, HBr⟩ := hrel
      obtain ⟨oa, oc, hof⟩ := owns_form HO.out
      subst hof
      by_cases hlt : j < k
      · have HSr := Lib.hid (HS.out.below HBr.out)
        obtain ⟨r, hr⟩ : ∃ r : List Int, T[j]? = some r := ⟨_, List.getElem?_eq_getElem (by rw [HNP.out]; exact hlt)⟩
        obtain ⟨b, off, x, xc, rfl, hcap, q0, hrr, hm63⟩ := pot_cells (by rw [HNP.out]; exact HSr.out) hr
        rw [HNP.out] at hcap
        have hj1 : (j : Int) < (k : Int) := by omega
        have HVN : Hid (out ++ r = (T.take (j + 1)).flatten) := by show _ = _; rw [HV.out, List.take_add_one, hr, List.flatten_append]; simp
        have hl9 : out.length + r.length ≤ 1048576 := by have h9 := HFL.out (j + 1); rw [← HVN.out, List.length_append] at h9; exact h9
        have HRC := Lib.hid hrr.rec
        have hsz : w.heap.size ≤ wr.heap.size := HBr.out.size
        have HFI : Hid (flatR (fun i => [Value.int .i64 (getI r i)]) r.length = r.map (Value.int .i64)) := flat_intsD r
        clear hrr hr HV
        obtain ⟨m, hm⟩ : ∃ m, r.length = m := ⟨_, rfl⟩
        have HM := Lib.hid hm
        rw [hm] at q0 hm63 hl9 HRC HFI
        clear hm
        go_wp2_with (at_builtin; refine wpList_appendR rfl (.tmp 31) (.tmp 32) 31 rfl w.heap.size 3 Try.underlying31 hi hz0 hz1 hz2 rfl (by decide) rfl HO.out rfl HRC.out (fun i hi => rfl) (fun i hi u hu => by simp at hu; subst hu; rfl) hl9 (by omega) hsz ?_; intro vv w5 o5 g5 at5; have O5 := Lib.hid o5; have G5 := Lib.hid g5; clear o5 g5 at5)
        have HBN : Hid (Below w.heap.size w w5) := HBr.out.grown G5.out HBr.out.size (fun q hq => (HO.out.lt q hq).1)
        have HON : Hid (w5.ownsRow w.heap.size 3 1 vv (out ++ r).length ((out ++ r).map (Value.int .i64))) := by
          have h9 := O5.out
          rw [HFI.out] at h9
          rw [List.length_append, HM.out, List.map_append]
          exact h9
        have hln : (out ++ r).length ≤ 1048576 := by rw [List.length_append, HM.out]; exact hl9
        clear O5 G5
        go_roundw
        case rel => exact ⟨j + 1, out ++ r, by omega, by go_num, HVN, hln, HON, HBN⟩
        case measure => simp [RowKit.intOf]; omega
      obtain rfl : j = k := by omega
      have HE : Hid (out = T.flatten) := by show _ = _; rw [HV.out, List.take_of_length_le (by have := HNP.out; omega)]
      go_wp2
      go_ret
      rw [← HE.out]
      exact ⟨_, rfl, HO.out, HBr.out⟩
end Go.Proofs.Ytmhkkdnopcdibaa
set_option linter.unusedVariables false
namespace Go.Proofs.Ytmhkkdnopcdibaa
open Go.RowKit Go.Maps

set_option maxRecDepth 100000 in
set_option maxHeartbeats 2000000 in
theorem isTeamD_impl (fa : Option Addr) (nf fc : Nat) (t : Int) (w : World) (hn : nf ≤ 9223372036854775807) :
    Calls Try.prog 83 #[.agg #[.slice fa nf fc, .int .i64 0, .int .i64 0, .int .i64 0, .slice none 0 0, .bool false, .slice none 0 0, .slice none 0 0, .slice none 0 0], .int .i64 t] w fun e w' => e = .returned (.bool (decide (0 ≤ t ∧ t < nf))) ∧ Below w.heap.size w w' := by
  have HB : Hid (Below w.heap.size w (w.alloc (.cells #[.slice fa nf fc, .int .i64 0, .int .i64 0, .int .i64 0, .slice none 0 0, .bool false, .slice none 0 0, .slice none 0 0, .slice none 0 0] 73))) := (Below.refl _ _).alloc (Nat.le_refl _) _
  by_cases h0 : 0 ≤ t
  case neg =>
    have e : decide (0 ≤ t ∧ t < nf) = false := decide_eq_false fun h => h0 h.1
    have g1 : decide (0 ≤ t) = false := decide_eq_false h0
    rw [e]
    clear e h0
    go_enter Try.func83, Try.ntmps83
    go_wp2
    go_ret
    exact ⟨rfl, HB.out⟩
  have g1 : decide (0 ≤ t) = true := decide_eq_true h0
  obtain ⟨r, hr⟩ : ∃ r, decide (t < (nf : Int)) = r := ⟨_, rfl⟩
  have e : decide (0 ≤ t ∧ t < nf) = r := by rw [← hr]; simp [h0]
  rw [e]
  clear e h0
  go_enter Try.func83, Try.ntmps83
  go_wp2
  go_ret
  exact ⟨rfl, HB.out⟩
theorem getI_take {L : List Int} {k : Nat} (h : k < L.length) : L.take (k + 1) = L.take k ++ [getI L k] := by
  rw [List.take_add_one, List.getElem?_eq_getElem h]
  simp [getI, h]
def litsD (L : List Int) (k : Nat) (M : List Lit) : Prop := ∀ kl, kl ∈ M ↔ ∃ x, x ∈ L.take k ∧ kl = .int .i64 x
theorem litsD.next {L : List Int} {k : Nat} {M : List Lit} (h : litsD L k M) (hk : k < L.length) : litsD L (k + 1) (.int .i64 (getI L k) :: M) := fun kl => by
  rw [List.mem_cons, h kl, getI_take hk]
  constructor
  · rintro (rfl | ⟨x, hx, rfl⟩)
    · exact ⟨_, List.mem_append_right _ (List.mem_singleton.2 rfl), rfl⟩
    · exact ⟨x, List.mem_append_left _ hx, rfl⟩
  · rintro ⟨x, hx, rfl⟩
    rcases List.mem_append.1 hx with h | h
    · exact .inr ⟨x, h, rfl⟩
    · rw [List.mem_singleton] at h; exact .inl (by rw [h])
theorem litsD.has {L : List Int} {k : Nat} {M : List Lit} {x : Int} (h : litsD L k M) : Lit.int .i64 x ∈ M ↔ x ∈ L.take k := by
  rw [h]
  constructor
  · rintro ⟨y, hy, e⟩
    simp only [Lit.int.injEq, true_and] at e
    rw [e]; exact hy
  · exact fun hx => ⟨x, hx, rfl⟩
set_option maxRecDepth 100000 in
set_option maxHeartbeats 4000000 in
theorem areDiffD_impl (fa : Option Addr) (nf fc : Nat) (gv : Value) (L : List Int) (R : Bool) (w : World) (hn : nf ≤ 1048576) (hR : R = true ↔ diffP nf L) (hg : IntRow w gv L.length (getI L)) (hl6 : L.length ≤ 1048576) :
    Calls Try.prog 48 #[.agg #[.slice fa nf fc, .int .i64 0, .int .i64 0, .int .i64 0, .slice none 0 0, .bool false, .slice none 0 0, .slice none 0 0, .slice none 0 0], gv] w fun e w' => e = .returned (.bool R) ∧ Below w.heap.size w w' := by
  obtain ⟨xa, xc, rfl, hx64, _⟩ := hg.form
  obtain ⟨m, hm⟩ : ∃ m, L.length = m := ⟨_, rfl⟩
  have HM := Lib.hid hm
  have HN : Hid (¬ diffP nf L → R = false) := boolF hR
  have HY : Hid (diffP nf L → R = true) := boolT hR
  have HDF : Hid (diffP nf L ↔ ∀ i, i < m → (0 ≤ getI L i ∧ getI L i ≤ (nf : Int) - 1) ∧ ¬ getI L i ∈ L.take i) := by show diffP _ _ ↔ _; rw [← hm]; exact Iff.rfl
  have HG := Lib.hid hg
  rw [hm] at HG hx64 hl6 ⊢
  obtain ⟨W0, hW0⟩ : ∃ W0, w.alloc (.cells #[.slice fa nf fc, .int .i64 0, .int .i64 0, .int .i64 0, .slice none 0 0, .bool false, .slice none 0 0, .slice none 0 0, .slice none 0 0] 73) = W0 := ⟨_, rfl⟩
  have HB : Hid (Below w.heap.size w W0) := by rw [← hW0]; exact (Below.refl _ _).alloc (Nat.le_refl _) _
  have HX : Hid (BoxN W0 w.heap.size [.slice fa nf fc, .int .i64 0, .int .i64 0, .int .i64 0, .slice none 0 0, .bool false, .slice none 0 0, .slice none 0 0, .slice none 0 0]) := by rw [← hW0]; exact BoxN.made (Below.refl _ _) rfl
  have HM0 : Hid (BoolMap Try.prog (W0.alloc (.map #[] 0)) 3 4 W0.heap.size 0 []) := BoolMap.made _ _ _ _
  have hmm := @run_makeMap Try.prog
  clear hR hg hm
  have hz0 : w.heap.size < W0.heap.size := HX.out.1
  go_enter Try.func48, Try.ntmps48
  go_wp2
  clear hW0
  go_loopw [11] (fun i wr => ∃ (k : Nat) (M : List Lit), k ≤ m ∧ i = .int .i64 k ∧ Hid (BoolMap Try.prog wr 3 4 W0.heap.size k M) ∧ Hid (litsD L k M) ∧ Hid (∀ j, j < k → (0 ≤ getI L j ∧ getI L j ≤ (nf : Int) - 1) ∧ ¬ getI L j ∈ L.take j) ∧ Hid (Below W0.heap.size W0 wr)) (fun i _ => m - (RowKit.intOf i).toNat)
  case atStart => exact ⟨0, [], Nat.zero_le _, rfl, HM0, fun kl => by simp, fun j hj => absurd hj (by omega), (Below.refl _ _).alloc (Nat.le_refl _) _⟩
  case round =>
    clear HM0
    obtain ⟨k, M, hk, rfl, HMM, HL, HOK, HBr⟩ := hrel
    by_cases hlt : k < m
    · have hIR := HG.out.below (HB.out.trans (HBr.out.mono HB.out.size)) (Nat.le_refl _)
      obtain ⟨bo, off, rfl, hcap, c1⟩ := int_at hIR hlt
      have hj1 : (k : Int) < (m : Int) := by omega
      have HXr := Lib.hid (HX.out.below HBr.out)
      have HLk := Lib.hid (HL.out.next (by rw [HM.out]; exact hlt))
      have HH : Hid (Lit.int .i64 (getI L k) ∈ M ↔ getI L k ∈ L.take k) := HL.out.has
      have HNk : Hid (¬ ((0 ≤ getI L k ∧ getI L k ≤ (nf : Int) - 1) ∧ ¬ getI L k ∈ L.take k) → R = false) := fun h => HN.out fun hp => h (HDF.out.1 hp k hlt)
      have HSk : Hid ((0 ≤ getI L k ∧ getI L k ≤ (nf : Int) - 1) ∧ ¬ getI L k ∈ L.take k → ∀ j, j < k + 1 → (0 ≤ getI L j ∧ getI L j ≤ (nf : Int) - 1) ∧ ¬ getI L j ∈ L.take j) := fun h j hj => by
        by_cases hjk : j = k
        · subst hjk; exact h
        · exact HOK.out j (by omega)
      clear hIR HL HOK
      obtain ⟨hp, hhp⟩ : ∃ hp : Prop, getI L k ∈ L.take k ↔ hp := ⟨_, Iff.rfl⟩
      have HHP := Lib.hid hhp
      have HH2 : Hid (Lit.int .i64 (getI L k) ∈ M ↔ hp) := HH.out.trans HHP.out
      have HNk2 : Hid (¬ ((0 ≤ getI L k ∧ getI L k ≤ (nf : Int) - 1) ∧ ¬ hp) → R = false) := fun h => HNk.out fun h2 => h ⟨h2.1, fun h3 => h2.2 (HHP.out.2 h3)⟩
      have HSk2 : Hid ((0 ≤ getI L k ∧ getI L k ≤ (nf : Int) - 1) ∧ ¬ hp → ∀ j, j < k + 1 → (0 ≤ getI L j ∧ getI L j ≤ (nf : Int) - 1) ∧ ¬ getI L j ∈ L.take j) := fun h => HSk.out ⟨h.1, fun h3 => h.2 (HHP.out.1 h3)⟩
      clear hhp HHP HH HNk HSk
      obtain ⟨x, hx⟩ : ∃ x, getI L k = x := ⟨_, rfl⟩
      rw [hx] at c1 HLk HH2 HNk2 HSk2
      clear hx
      have d0 := HXr.out.2 0 _ rfl
      have d1 := HXr.out.2 1 _ rfl
      have d2 := HXr.out.2 2 _ rfl
      have d3 := HXr.out.2 3 _ rfl
      have d4 := HXr.out.2 4 _ rfl
      have d5 := HXr.out.2 5 _ rfl
      have d6 := HXr.out.2 6 _ rfl
      have d7 := HXr.out.2 7 _ rfl
      have d8 := HXr.out.2 8 _ rfl
      have hmt := HMM.out.lt
      by_cases hin : 0 ≤ x ∧ x ≤ (nf : Int) - 1
      case neg =>
        obtain rfl := HNk2.out fun h => hin h.1
        have C1 := isTeamD_impl fa nf fc x wr (by omega)
        have e2 : decide (0 ≤ x ∧ x < (nf : Int)) = false := decide_eq_false (by omega)
        rw [e2] at C1
        have HC1 := Lib.hid C1
        clear C1 HN HY HNk2 HSk2 HLk HH2 hin e2
        go_wp2_with fail
        refine HC1.out.mono ?_
        rintro e w2 ⟨rfl, b2⟩
        have HE := Lib.hid (HB.out.trans ((HBr.out.trans (b2.mono HBr.out.size)).mono HB.out.size))
        clear b2 HC1
        go_wp2
        go_ret
        exact ⟨rfl, HE.out⟩
      have C1 := isTeamD_impl fa nf fc x wr (by omega)
      have e2 : decide (0 ≤ x ∧ x < (nf : Int)) = true := decide_eq_true (by omega)
      rw [e2] at C1
      have HC1 := Lib.hid C1
      have hwf : (Lit.int .i64 x).wf = true := WalkArith.wf_i64 (by omega)
      have HK : Hid (keyOf Try.prog 3 (.int .i64 x) = some (.int .i64 x)) := keyOf_int_mk Try.underlying3 hwf
      have HIN := Lib.hid hin
      clear C1 e2 hwf hin
      by_cases hps : hp
      case pos =>
        obtain rfl := HNk2.out fun h => h.2 hps
        have HR := Lib.hid (HH2.out.2 hps)
        clear HN HY HNk2 HSk2 HLk HH2
        go_wp2_with fail
        refine HC1.out.mono ?_
        rintro e w2 ⟨rfl, b2⟩
        have hrun := ((HMM.out.below b2 (Nat.le_refl _)).run kInt Try.underlying123 Try.underlying4 (zBool _) HK.out).1 HR.out
        have HE := Lib.hid (HB.out.trans ((HBr.out.trans (b2.mono HBr.out.size)).mono HB.out.size))
        clear b2 HC1 HR
        go_wp2
        go_ret
        exact ⟨rfl, HE.out⟩
      have HR : Hid (Lit.int .i64 x ∉ M) := fun h => hps (HH2.out.1 h)
      have HS := Lib.hid (HSk2.out ⟨HIN.out, hps⟩)
      clear HNk2 HSk2 HH2 hps
      go_wp2_with fail
      refine HC1.out.mono ?_
      rintro e w2 ⟨rfl, b2⟩
      have HM2 := Lib.hid (HMM.out.below b2 (Nat.le_refl _))
      have hrun := (HM2.out.run kInt Try.underlying123 Try.underlying4 (zBool _) HK.out).2 HR.out
      have HB2 := Lib.hid (HBr.out.trans (b2.mono HBr.out.size))
      have hm2 := HM2.out.lt
      have hsz2 := HB2.out.size
      clear b2 HC1 HR HBr HXr d0 d1 d2 d3 d4 d5 d6 d7 d8 c1 HMM
      have kk1 : WideAt.IsKeyLit (.int .i64 x) := trivial
      go_wp2_with (at_mapUpdate; refine wpList_boolTrue rfl (.tmp 24) (.tmp 25) (.const (.bool true)) 123 rfl 3 4 kInt Try.underlying123 Try.underlying4 W0.heap.size k M rfl HM2.out (by unfold maxLen; omega) _ (.int .i64 x) rfl rfl HK.out kk1 ?_; intro w3 m3 g3)
      have HB3 : Hid (Below W0.heap.size W0 w3) := HB2.out.grown g3 hsz2 (fun q hq => by simp only [Option.some.injEq] at hq; omega)
      have HM3 := Lib.hid m3
      clear m3 g3 hrun
      go_roundw
      case rel => exact ⟨k + 1, _, by omega, by go_num, HM3, HLk, HS, HB3⟩
      case measure => simp [RowKit.intOf]; omega
    · obtain rfl : k = m := by omega
      obtain rfl := HY.out (HDF.out.2 HOK.out)
      have HE := Lib.hid (HB.out.trans (HBr.out.mono HB.out.size))
      clear HN HY HOK HBr
      go_wp2
      go_ret
      exact ⟨rfl, HE.out⟩
theorem fieldP_small {nf : Nat} {F : Nat → TeamD} (h : fieldP nf F) : nf ≤ 8 := by have := h.1; omega
set_option maxRecDepth 100000 in
set_option maxHeartbeats 8000000 in
theorem potsOk_impl (vf : Value) (nf : Nat) (F : Nat → TeamD) (vp : Value) (gr most : Int) (T : List (List Int)) (R : Bool) (w : World) (hR : R = true ↔ potsP nf F T gr most) (hf : TeamRow w vf nf F) (hs : ∀ i, (F i).nm.size ≤ maxLen) (h : RdA tIntSS w [vp] T) (hw : tIntSS.wt T ≤ 1048576) :
    Calls Try.prog 14 #[vf, .agg #[vp, .int .i64 gr, .int .i64 most]] w fun e w' => e = .returned (.bool R) ∧ Below w.heap.size w w' := by
  obtain ⟨pa, pc, rfl, hpn⟩ := pots_form h
  obtain ⟨fa, fc, rfl, hfn, _⟩ := hf.form
  have hfl6 := Nat.le_trans (flat_wt (T := T)) hw
  obtain ⟨np, hnp⟩ : ∃ np, List.length (α := List Int) T = np := ⟨_, rfl⟩
  have HNP := Lib.hid hnp
  obtain ⟨r1, hr1⟩ := boolEx (fieldP nf F)
  obtain ⟨r5, hr5⟩ := boolEx (∃ j, j < T.length ∧ noPotB gr (T.getD j []).length = true)
  obtain ⟨r6, hr6⟩ := boolEx (diffP nf T.flatten)
  obtain ⟨U, hU⟩ : ∃ U, w.alloc (.cells #[.slice pa (List.length (α := List Int) T) pc, .int .i64 gr, .int .i64 most] 26) = U := ⟨_, rfl⟩
  have bU : Below w.heap.size w U := by rw [← hU]; exact (Below.refl _ _).alloc (Nat.le_refl _) _
  have HS : Hid (PotsAt U w.heap.size pa (List.length (α := List Int) T) pc gr most T) := by rw [← hU]; exact PotsAt.made h
  have HB := Lib.hid bU
  have CF := Lib.hid (fieldOk_impl (.slice fa nf fc) nf F r1 U (hf.below bU (Nat.le_refl _)) hs hr1)
  have CC : Hid (∀ wa, RdA tIntSS wa [.slice pa (List.length (α := List Int) T) pc] T → Calls Try.prog 46 #[.slice pa (List.length (α := List Int) T) pc, .func (.func 47) #[.agg #[.slice pa (List.length (α := List Int) T) pc, .int .i64 gr, .int .i64 most]] #[]] wa fun e w' => e = .returned (.bool r5) ∧ Below wa.heap.size wa w') :=
    fun wa h => anyRowsB 47 (enters_of Try.func47 (by kernel_rfl) rfl) (.agg #[.slice pa (List.length (α := List Int) T) pc, .int .i64 gr, .int .i64 most]) (.slice pa (List.length (α := List Int) T) pc) T (fun r => noPotB gr r.length) r5 wa hr5 h
      (fun r x k wb _ hrow => isNoPot_impl pa _ pc gr most x r.length k wb (by obtain ⟨_, _, _, h9, _⟩ := hrow.form; exact h9))
  have CT : Hid (∀ wa, RdA tIntSS wa [.slice pa (List.length (α := List Int) T) pc] T → Calls Try.prog 49 #[.slice pa (List.length (α := List Int) T) pc] wa (IntsL wa T.flatten)) := fun wa h => concatInts _ T wa h hw
  have CD : Hid (nf ≤ 1048576 → ∀ gv wa, IntRow wa gv T.flatten.length (getI T.flatten) → Calls Try.prog 48 #[.agg #[.slice fa nf fc, .int .i64 0, .int .i64 0, .int .i64 0, .slice none 0 0, .bool false, .slice none 0 0, .slice none 0 0, .slice none 0 0], gv] wa fun e w' => e = .returned (.bool r6) ∧ Below wa.heap.size wa w') :=
    fun hn gv wa hg => areDiffD_impl fa nf fc gv T.flatten r6 wa hn hr6 hg hfl6
  have HN8 : Hid (r1 = true → nf ≤ 8) := fun h => fieldP_small (hr1.1 h)
  have HQ : Hid (R = true ↔ r1 = true ∧ (1 ≤ gr ∧ gr ≤ 4) ∧ (1 ≤ most ∧ most ≤ 8) ∧ (1 ≤ (np : Int) ∧ (np : Int) ≤ 3) ∧ r5 = false ∧ r6 = true) := by
    refine hR.trans ?_
    unfold potsP
    rw [hr1, ← hnp, hr6]
    have key : (r5 = false) ↔ (∀ i, i < T.length → 1 ≤ ((T.getD i []).length : Int) ∧ ((T.getD i []).length : Int) ≤ gr) := by
      rw [← Bool.not_eq_true, hr5]
      constructor
      · intro h i hi
        have h2 : ¬ noPotB gr (T.getD i []).length = true := fun h3 => h ⟨i, hi, h3⟩
        unfold noPotB at h2
        simp only [Bool.or_eq_true, decide_eq_true_eq] at h2
        omega
      · rintro h ⟨j, hj, h3⟩
        have h2 := h j hj
        unfold noPotB at h3
        simp only [Bool.or_eq_true, decide_eq_true_eq] at h3
        omega
    rw [key]
  have HF := Lib.hid (boolF HQ.out)
  have HT := Lib.hid (boolT HQ.out)
  rw [hnp] at hpn hU HS CC CT ⊢
  clear h hf hR hr1 hr5 hr6 hnp bU hw hs HQ
  have c0 := HS.out.1.2 0 _ rfl
  have c1 := HS.out.1.2 1 _ rfl
  have c2 := HS.out.1.2 2 _ rfl
  go_enter Try.func14, Try.ntmps14
  go_wp2_with fail
  clear hU c0 c1 c2
  refine CF.out.mono ?_
  rintro e w1 ⟨rfl, b⟩
  have HS1 := Lib.hid (HS.out.below b)
  have HB1 := Lib.hid (HB.out.trans (b.mono HB.out.size))
  clear b HS HB CF
  have c0 := HS1.out.1.2 0 _ rfl
  have c1 := HS1.out.1.2 1 _ rfl
  have c2 := HS1.out.1.2 2 _ rfl
  cases r1 with
  | false =>
    obtain rfl := HF.out (fun h => by have := h.1; cases this)
    go_wp2
    go_ret
    exact ⟨rfl, HB1.out⟩
  | true =>
  by_cases qb1 : 1 ≤ gr
  case neg =>
    obtain rfl := HF.out (fun h => qb1 h.2.1.1)
    have gb1 : decide (1 ≤ gr) = false := decide_eq_false qb1
    clear qb1
    go_wp2
    go_ret
    exact ⟨rfl, HB1.out⟩
  have gb1 : decide (1 ≤ gr) = true := decide_eq_true qb1
  by_cases qb2 : gr ≤ 4
  case neg =>
    obtain rfl := HF.out (fun h => qb2 h.2.1.2)
    have gb2 : decide (gr ≤ 4) = false := decide_eq_false qb2
    clear qb2
    go_wp2
    go_ret
    exact ⟨rfl, HB1.out⟩
  have gb2 : decide (gr ≤ 4) = true := decide_eq_true qb2
  by_cases qb3 : 1 ≤ most
  case neg =>
    obtain rfl := HF.out (fun h => qb3 h.2.2.1.1)
    have gb3 : decide (1 ≤ most) = false := decide_eq_false qb3
    clear qb3
    go_wp2
    go_ret
    exact ⟨rfl, HB1.out⟩
  have gb3 : decide (1 ≤ most) = true := decide_eq_true qb3
  by_cases qb4 : most ≤ 8
  case neg =>
    obtain rfl := HF.out (fun h => qb4 h.2.2.1.2)
    have gb4 : decide (most ≤ 8) = false := decide_eq_false qb4
    clear qb4
    go_wp2
    go_ret
    exact ⟨rfl, HB1.out⟩
  have gb4 : decide (most ≤ 8) = true := decide_eq_true qb4
  by_cases qb5 : 1 ≤ (np : Int)
  case neg =>
    obtain rfl := HF.out (fun h => qb5 h.2.2.2.1.1)
    have gb5 : decide (1 ≤ (np : Int)) = false := decide_eq_false qb5
    have kb5 : decide (1 ≤ np) = false := decide_eq_false (by omega)
    clear qb5
    go_wp2
    go_ret
    exact ⟨rfl, HB1.out⟩
  have gb5 : decide (1 ≤ (np : Int)) = true := decide_eq_true qb5
  have kb5 : decide (1 ≤ np) = true := decide_eq_true (by omega)
  by_cases qb6 : (np : Int) ≤ 3
  case neg =>
    obtain rfl := HF.out (fun h => qb6 h.2.2.2.1.2)
    have gb6 : decide ((np : Int) ≤ 3) = false := decide_eq_false qb6
    have kb6 : decide (np ≤ 3) = false := decide_eq_false (by omega)
    clear qb6
    go_wp2
    go_ret
    exact ⟨rfl, HB1.out⟩
  have gb6 : decide ((np : Int) ≤ 3) = true := decide_eq_true qb6
  have kb6 : decide (np ≤ 3) = true := decide_eq_true (by omega)
  have HF2 : Hid (¬ (r5 = false ∧ r6 = true) → R = false) := fun h => HF.out fun hp => h hp.2.2.2.2
  have HT2 : Hid ((r5 = false ∧ r6 = true) → R = true) := fun h => HT.out ⟨by first | rfl | trivial, ⟨qb1, qb2⟩, ⟨qb3, qb4⟩, ⟨qb5, qb6⟩, h⟩
  have hn8 := HN8.out (by first | rfl | trivial)
  have HN9 : Hid (nf ≤ 1048576) := by show _ ≤ _; omega
  clear HF HT HN8 hn8 qb1 qb2 qb3 qb4 qb5 qb6
  have CC1 := Lib.hid (CC.out w1 HS1.out.2)
  clear CC
  go_wp2_with fail
  clear c0 c1 c2
  refine CC1.out.mono ?_
  rintro e w2 ⟨rfl, b⟩
  have HS2 := Lib.hid (HS1.out.below b)
  have HB2 := Lib.hid (HB1.out.trans (b.mono HB1.out.size))
  clear b HS1 HB1 CC1
  have c0 := HS2.out.1.2 0 _ rfl
  cases r5 with
  | true =>
    obtain rfl := HF2.out (fun h => by cases h.1)
    go_wp2
    go_ret
    exact ⟨rfl, HB2.out⟩
  | false =>
  have CT1 := Lib.hid (CT.out w2 HS2.out.2)
  clear CT
  go_wp2_with fail
  clear c0
  refine CT1.out.mono ?_
  rintro e w3 h9
  obtain ⟨vt, rfl, htr, hown, b⟩ := IntsL.made h9 (by omega)
  have HB3 := Lib.hid (HB2.out.trans (b.mono HB2.out.size))
  have CD1 := Lib.hid (CD.out HN9.out _ _ htr)
  clear h9 htr hown b CT1 CD HB2 HS2
  go_wp2_with fail
  refine CD1.out.mono ?_
  rintro e w4 ⟨rfl, b⟩
  have HB4 := Lib.hid (HB3.out.trans (b.mono HB3.out.size))
  clear b CD1 HB3
  cases r6 with
  | true =>
    obtain rfl := HT2.out ⟨by first | rfl | trivial, by first | rfl | trivial⟩
    go_wp2
    go_ret
    exact ⟨rfl, HB4.out⟩
  | false =>
    obtain rfl := HF2.out (fun h => by cases h.2)
    go_wp2
    go_ret
    exact ⟨rfl, HB4.out⟩
end Go.Proofs.Ytmhkkdnopcdibaa
