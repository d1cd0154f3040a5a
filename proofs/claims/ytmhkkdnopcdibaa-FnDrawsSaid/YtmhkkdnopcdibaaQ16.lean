/-
  Packed: Draw3, Draw2.
-/
import Derived.Test.YtmhkkdnopcdibaaQ2
import Derived.Test.YtmhkkdnopcdibaaQ3
import Derived.Test.YtmhkkdnopcdibaaQ6
import Derived.Test.YtmhkkdnopcdibaaQ7
import Derived.Test.YtmhkkdnopcdibaaQ9
import Derived.Test.YtmhkkdnopcdibaaQ15
set_option linter.unusedVariables false
namespace Go.Proofs.Ytmhkkdnopcdibaa
open Go.RowKit

theorem flat_intsD (L : List Int) : flatR (fun i => [Value.int .i64 (getI L i)]) L.length = L.map (Value.int .i64) := by
  have key : ∀ m, flatR (fun i => [Value.int .i64 (getI L i)]) m = (List.range m).map fun i => Value.int .i64 (getI L i) := fun m => by
    unfold flatR
    induction List.range m with
    | nil => rfl
    | cons a r ih => rw [List.flatMap_cons, ih]; rfl
  rw [key]
  apply List.ext_getElem?
  intro i
  rw [List.getElem?_map, List.getElem?_map]
  by_cases h : i < L.length
  · rw [List.getElem?_range h, List.getElem?_eq_getElem h]
    simp [getI, h]
  · rw [List.getElem?_eq_none (by simpa using h), List.getElem?_eq_none (by omega)]
    rfl
theorem take_rowD {w : World} {a : Option Addr} {n c : Nat} {O : List Int} (h : IntRow w (.slice a n c) n (getI O)) (hn : O.length = n) {k : Nat} (hk : k < n) : IntRow w (.slice a k c) (O.take k).length (getI (O.take k)) := by
  obtain ⟨b, off, rfl, hcap, _⟩ := int_at h hk
  rcases h with ⟨_, _, he, h0⟩ | ⟨b', off', c', he, h0, hn6, hc, hcap'⟩
  · omega
  simp only [Value.slice.injEq, Option.some.injEq, Addr.mk.injEq, and_true, true_and] at he
  obtain ⟨⟨rfl, rfl⟩, rfl⟩ := he
  have hl : (O.take k).length = k := by rw [List.length_take]; omega
  rw [hl]
  exact (IntRow.take k (by omega) hn6 hcap hc).congr fun i hi => by unfold getI; rw [List.getD_eq_getElem?_getD, List.getD_eq_getElem?_getD, List.getElem?_take, if_pos hi]
theorem pot_cells {w : World} {a : Option Addr} {c : Nat} {T : List (List Int)} (h : RdA tIntSS w [.slice a (List.length (α := List Int) T) c] T) {i : Nat} {r : List Int} (hr : T[i]? = some r) :
    ∃ b off x k, a = some ⟨b, off, none⟩ ∧ T.length ≤ c ∧ w.cell? ⟨b, off + i, none⟩ = some (.slice x r.length k) ∧ IntRow w (.slice x r.length k) r.length (getI r) ∧ r.length ≤ 9223372036854775807 := by
  obtain ⟨b, off, cap, u, h1, h2, h3, h4⟩ := rd_cell (e := tIntS) rfl h hr
  simp only [Value.slice.injEq] at h1
  obtain ⟨rfl, _, rfl⟩ := h1
  obtain ⟨x, k, rfl, h5⟩ := rd_row_form (e := tInt) h4
  exact ⟨b, off, x, k, rfl, h2, h3.2 0 _ rfl, rd_IntS.1 h4, h5⟩
theorem pots_form {w : World} {v : Value} {T : List (List Int)} (h : RdA tIntSS w [v] T) : ∃ a c, v = .slice a T.length c ∧ T.length ≤ 9223372036854775807 := rd_row_form h
def PotsAt (w : World) (X : Nat) (pa : Option Addr) (np pc : Nat) (gr most : Int) (T : List (List Int)) : Prop :=
  BoxN w X [.slice pa np pc, .int .i64 gr, .int .i64 most] ∧ RdA tIntSS w [.slice pa np pc] T
theorem PotsAt.below {w w' : World} {X : Nat} {pa : Option Addr} {np pc : Nat} {gr most : Int} {T : List (List Int)} (h : PotsAt w X pa np pc gr most T) (b : Below w.heap.size w w') : PotsAt w' X pa np pc gr most T := ⟨h.1.below b, h.2.below b⟩
theorem PotsAt.made {w : World} {pa : Option Addr} {np pc : Nat} {gr most : Int} {T : List (List Int)} {t : TypeId} (h : RdA tIntSS w [.slice pa np pc] T) : PotsAt (w.alloc (.cells #[.slice pa np pc, .int .i64 gr, .int .i64 most] t)) w.heap.size pa np pc gr most T :=
  have b : Below w.heap.size w (w.alloc (.cells #[.slice pa np pc, .int .i64 gr, .int .i64 most] t)) := (Below.refl _ _).alloc (Nat.le_refl _) _
  ⟨BoxN.made (Below.refl _ _) rfl, h.below b⟩
theorem flat_takeD {T : List (List Int)} : ∀ k, ((T.take k).flatten).length ≤ (T.flatten).length := fun k => by
  have h : T.flatten = (T.take k).flatten ++ (T.drop k).flatten := by rw [← List.flatten_append, List.take_append_drop]
  rw [h, List.length_append]
  omega
theorem flat_wt {T : List (List Int)} : (T.flatten).length ≤ tIntSS.wt T := by
  have h : tIntSS.wt T = List.length (α := List Int) T + (List.map tIntS.wt T).sum := rfl
  have h2 : (T.flatten).length = (List.map tIntS.wt T).sum := by
    clear h
    induction (T : List (List Int)) with
    | nil => rfl
    | cons a r ih =>
      have h3 := wt_IntS a
      show (a ++ r.flatten).length = tIntS.wt a + _
      rw [List.length_append, ih, h3]
      rfl
  omega
set_option maxRecDepth 100000 in
set_option maxHeartbeats 4000000 in
theorem l12Teams_spec (vp : Value) (gr most : Int) (T : List (List Int)) (w : World) (h : RdA tIntSS w [vp] T) (hw : tIntSS.wt T ≤ 1048576) :
    Calls Try.prog 59 #[.agg #[vp, .int .i64 gr, .int .i64 most]] w (IntsL w T.flatten) := by
  obtain ⟨i0, hi, hz0, hz1, hz2⟩ := info_parts Try.infoI
  obtain ⟨pa, pc, rfl, hpn⟩ := pots_form h
  have hfl := Nat.le_trans (flat_wt (T := T)) hw
  obtain ⟨np, hnp⟩ : ∃ np, List.length (α := List Int) T = np := ⟨_, rfl⟩
  have HNP := Lib.hid hnp
  obtain ⟨U, hU⟩ : ∃ U, w.alloc (.cells #[.slice pa (List.length (α := List Int) T) pc, .int .i64 gr, .int .i64 most] 26) = U := ⟨_, rfl⟩
  have HS : Hid (PotsAt U w.heap.size pa (List.length (α := List Int) T) pc gr most T) := by rw [← hU]; exact PotsAt.made h
  have HB : Hid (Below w.heap.size w U) := by rw [← hU]; exact (Below.refl _ _).alloc (Nat.le_refl _) _
  have HFL : Hid (∀ k, ((T.take k).flatten).length ≤ 1048576) := fun k => Nat.le_trans (flat_takeD k) hfl
  rw [hnp] at hpn hU HS ⊢
  clear h hw hnp hfl
  have c0 := HS.out.1.2 0 _ rfl
  go_enter Try.func59, Try.ntmps59
  have ON : Hid ((U.alloc (.cells #[] 3)).ownsRow w.heap.size 3 1 (.slice (some ⟨U.heap.size, 0, none⟩) 0 0) 0 []) := World.ownsRow_lit (e := 3) (size := 1) U #[] 0 HB.out.size (by decide) rfl
  have HB0 : Hid (Below U.heap.size U (U.alloc (.cells #[] 3))) := (Below.refl _ _).alloc (Nat.le_refl _) _
  have hU9 : w.heap.size < U.heap.size := HS.out.1.1
  go_wp2
  clear hU c0
  go_loopw [3, 10] (fun ov iv wr => ∃ (k : Nat) (out : List Int), k ≤ np ∧ iv = .int .i64 k ∧ Hid (out = (T.take k).flatten) ∧ out.length ≤ 1048576 ∧ Hid (wr.ownsRow w.heap.size 3 1 ov out.length (out.map (Value.int .i64))) ∧ Hid (∀ q, ov.ownBlock = some q → U.heap.size ≤ q) ∧ Hid (Below U.heap.size U wr)) (fun _ iv _ => np - (RowKit.intOf iv).toNat)
  case atStart => exact ⟨0, [], Nat.zero_le _, rfl, rfl, by simp, ON, fun q hq => by simp only [Value.ownBlock, Option.some.injEq] at hq; omega, HB0⟩
  case round =>
    clear ON HB0
    obtain ⟨k, out, hk9, rfl, HV, hl6, HO, HQ, HBr⟩ := hrel
    obtain ⟨oa, oc, hof⟩ := owns_form HO.out
    subst hof
    by_cases hlt : k < np
    · have HSr := Lib.hid (HS.out.below HBr.out)
      obtain ⟨r, hr⟩ : ∃ r : List Int, T[k]? = some r := ⟨_, List.getElem?_eq_getElem (by rw [HNP.out]; exact hlt)⟩
      obtain ⟨b, off, x, xc, rfl, hcap, q0, hrr, hm63⟩ := pot_cells (by rw [HNP.out]; exact HSr.out.2) hr
      rw [HNP.out] at hcap
      have hj1 : (k : Int) < (np : Int) := by omega
      have HVN : Hid (out ++ r = (T.take (k + 1)).flatten) := by show _ = _; rw [HV.out, List.take_add_one, hr, List.flatten_append]; simp
      have hl9 : out.length + r.length ≤ 1048576 := by have h9 := HFL.out (k + 1); rw [← HVN.out, List.length_append] at h9; exact h9
      have HRC := Lib.hid hrr.rec
      have hsz : w.heap.size ≤ wr.heap.size := (HB.out.trans (HBr.out.mono HB.out.size)).size
      have HFI : Hid (flatR (fun i => [Value.int .i64 (getI r i)]) r.length = r.map (Value.int .i64)) := flat_intsD r
      clear hrr hr HV
      obtain ⟨m, hm⟩ : ∃ m, r.length = m := ⟨_, rfl⟩
      have HM := Lib.hid hm
      rw [hm] at q0 hm63 hl9 HRC HFI
      clear hm
      go_wp2_with (at_builtin; refine wpList_appendR rfl (.tmp 14) (.tmp 15) 31 rfl w.heap.size 3 Try.underlying31 hi hz0 hz1 hz2 rfl (by decide) rfl HO.out rfl HRC.out (fun i hi => rfl) (fun i hi u hu => by simp at hu; subst hu; rfl) hl9 (by omega) hsz ?_; intro vv w5 o5 g5 at5; have O5 := Lib.hid o5; have G5 := Lib.hid g5; have A5 := Lib.hid at5; clear o5 g5 at5)
      have HBN : Hid (Below U.heap.size U w5) := HBr.out.grown G5.out HBr.out.size (fun q hq => HQ.out q hq)
      have HON : Hid (w5.ownsRow w.heap.size 3 1 vv (out ++ r).length ((out ++ r).map (Value.int .i64))) := by
        have h9 := O5.out
        rw [HFI.out] at h9
        rw [List.length_append, HM.out, List.map_append]
        exact h9
      have HQN : Hid (∀ q, vv.ownBlock = some q → U.heap.size ≤ q) := fun q hq => by
        rcases A5.out q hq with h | h
        · exact HQ.out q h
        · exact Nat.le_trans HBr.out.size h
      have hln : (out ++ r).length ≤ 1048576 := by rw [List.length_append, HM.out]; exact hl9
      clear O5 G5 A5
      go_roundw
      case rel => exact ⟨k + 1, out ++ r, by omega, by go_num, HVN, hln, HON, HQN, HBN⟩
      case measure => simp [RowKit.intOf]; omega
    obtain rfl : k = np := by omega
    have HE : Hid (out = T.flatten) := by show _ = _; rw [HV.out, List.take_of_length_le (by have := HNP.out; omega)]
    go_wp2
    go_ret
    rw [← HE.out]
    exact ⟨_, rfl, HO.out, HB.out.trans (HBr.out.mono HB.out.size)⟩
def diffP (n : Int) (L : List Int) : Prop := ∀ i, i < L.length → (0 ≤ getI L i ∧ getI L i ≤ n - 1) ∧ ¬ getI L i ∈ L.take i
def potsP (nf : Nat) (F : Nat → TeamD) (T : List (List Int)) (gr most : Int) : Prop :=
  fieldP nf F ∧ (1 ≤ gr ∧ gr ≤ 4) ∧ (1 ≤ most ∧ most ≤ 8) ∧ (1 ≤ (T.length : Int) ∧ (T.length : Int) ≤ 3) ∧ (∀ i, i < T.length → 1 ≤ ((T.getD i []).length : Int) ∧ ((T.getD i []).length : Int) ≤ gr) ∧ diffP nf T.flatten
set_option maxRecDepth 100000 in
set_option maxHeartbeats 8000000 in
theorem potsOk_spec (vf : Value) (nf : Nat) (F : Nat → TeamD) (vp : Value) (gr most : Int) (T : List (List Int)) (R : Bool) (w : World) (hR : R = true ↔ potsP nf F T gr most) (hf : TeamRow w vf nf F) (hs : ∀ i, (F i).nm.size ≤ maxLen) (h : RdA tIntSS w [vp] T) (hw : tIntSS.wt T ≤ 1048576) :
    Calls Try.prog 24 #[vf, .agg #[vp, .int .i64 gr, .int .i64 most]] w fun e w' => e = .returned (.bool R) ∧ Below w.heap.size w w' := by
  obtain ⟨pa, pc, rfl, hpn⟩ := pots_form h
  obtain ⟨fa, fc, rfl, hfn, _⟩ := hf.form
  obtain ⟨np, hnp⟩ : ∃ np, List.length (α := List Int) T = np := ⟨_, rfl⟩
  have HNP := Lib.hid hnp
  obtain ⟨r1, hr1⟩ := boolEx (fieldP nf F)
  obtain ⟨r2, hr2⟩ := boolEx (1 ≤ gr ∧ gr ≤ 4)
  obtain ⟨r3, hr3⟩ := boolEx (1 ≤ most ∧ most ≤ 8)
  obtain ⟨r4, hr4⟩ := boolEx (1 ≤ (np : Int) ∧ (np : Int) ≤ 3)
  obtain ⟨U, hU⟩ : ∃ U, w.alloc (.cells #[.slice pa (List.length (α := List Int) T) pc, .int .i64 gr, .int .i64 most] 26) = U := ⟨_, rfl⟩
  have bU : Below w.heap.size w U := by rw [← hU]; exact (Below.refl _ _).alloc (Nat.le_refl _) _
  have HS : Hid (PotsAt U w.heap.size pa (List.length (α := List Int) T) pc gr most T) := by rw [← hU]; exact PotsAt.made h
  have HB := Lib.hid bU
  have CF := Lib.hid (fieldOk_spec (.slice fa nf fc) nf F r1 U (hf.below bU (Nat.le_refl _)) hs hr1)
  have CL : Hid (∀ wa, RdA tIntSS wa [.slice pa (List.length (α := List Int) T) pc] T → Calls Try.prog 59 #[.agg #[.slice pa (List.length (α := List Int) T) pc, .int .i64 gr, .int .i64 most]] wa (IntsL wa T.flatten)) := fun wa h => l12Teams_spec _ gr most T wa h hw
  have hfl6 := Nat.le_trans (flat_wt (T := T)) hw
  have HQ : Hid (R = true ↔ r1 = true ∧ r2 = true ∧ r3 = true ∧ r4 = true ∧ (∀ i, i < np → 1 ≤ ((T.getD i []).length : Int) ∧ ((T.getD i []).length : Int) ≤ gr) ∧ diffP nf T.flatten) := by
    refine hR.trans ?_
    unfold potsP
    rw [hr1, hr2, hr3, hr4, ← hnp]
  have HF : Hid (¬ (r1 = true ∧ r2 = true ∧ r3 = true ∧ r4 = true ∧ (∀ i, i < np → 1 ≤ ((T.getD i []).length : Int) ∧ ((T.getD i []).length : Int) ≤ gr) ∧ diffP nf T.flatten) → R = false) := boolF HQ.out
  have HT : Hid ((r1 = true ∧ r2 = true ∧ r3 = true ∧ r4 = true ∧ (∀ i, i < np → 1 ≤ ((T.getD i []).length : Int) ∧ ((T.getD i []).length : Int) ≤ gr) ∧ diffP nf T.flatten) → R = true) := boolT HQ.out
  have HR2 := Lib.hid hr2
  have HR3 := Lib.hid hr3
  have HR4 := Lib.hid hr4
  have CI : Hid (∀ (x lo hi : Int) (r : Bool) (wa : World), (r = true ↔ lo ≤ x ∧ x ≤ hi) → Calls Try.prog 58 #[.int .i64 x, .int .i64 lo, .int .i64 hi] wa fun e w' => e = .returned (.bool r) ∧ wa = w') := fun x lo hi r wa hr => by
    cases r with
    | true => exact (l01In_yes _ _ _ _ (hr.1 rfl)).mono fun e w' h => h
    | false => exact (l01In_no _ _ _ _ (fun h => by have := hr.2 h; cases this)).mono fun e w' h => h
  rw [hnp] at hpn hU HS CL ⊢
  clear h hf hR hr1 hr2 hr3 hr4 hnp bU hw hs HQ
  have c0 := HS.out.1.2 0 _ rfl
  have c1 := HS.out.1.2 1 _ rfl
  have c2 := HS.out.1.2 2 _ rfl
  go_enter Try.func24, Try.ntmps24
  go_wp2_with fail
  clear hU c0 c1 c2
  refine CF.out.mono ?_
  rintro e w1 ⟨rfl, b⟩
  have HS1 := Lib.hid (HS.out.below b)
  have HB1 := Lib.hid (HB.out.trans (b.mono HB.out.size))
  clear b HS HB CF
  have c0 := HS1.out.1.2 0 _ rfl
  have c1 := HS1.out.1.2 1 _ rfl
  have c2 := HS1.out.1.2 2 _ rfl
  cases r1 with
  | false =>
    obtain rfl := HF.out (fun h => by have := h.1; cases this)
    go_wp2
    go_ret
    exact ⟨rfl, HB1.out⟩
  | true =>
  go_wp2_with fail
  refine (CI.out _ _ _ r2 _ HR2.out).mono ?_
  rintro e wx ⟨rfl, rfl⟩
  cases r2 with
  | false =>
    obtain rfl := HF.out (fun h => by have := h.2.1; cases this)
    go_wp2
    go_ret
    exact ⟨rfl, HB1.out⟩
  | true =>
  go_wp2_with fail
  refine (CI.out _ _ _ r3 _ HR3.out).mono ?_
  rintro e wx ⟨rfl, rfl⟩
  cases r3 with
  | false =>
    obtain rfl := HF.out (fun h => by have := h.2.2.1; cases this)
    go_wp2
    go_ret
    exact ⟨rfl, HB1.out⟩
  | true =>
  go_wp2_with fail
  refine (CI.out _ _ _ r4 _ HR4.out).mono ?_
  rintro e wx ⟨rfl, rfl⟩
  cases r4 with
  | false =>
    obtain rfl := HF.out (fun h => by have := h.2.2.2.1; cases this)
    go_wp2
    go_ret
    exact ⟨rfl, HB1.out⟩
  | true =>
  have HNo : Hid (∀ i, i < np → ¬ (1 ≤ ((T.getD i []).length : Int) ∧ ((T.getD i []).length : Int) ≤ gr) → R = false) := fun i hi h => HF.out fun hp => h (hp.2.2.2.2.1 i hi)
  have HND : Hid (¬ diffP nf T.flatten → R = false) := fun h => HF.out fun hp => h hp.2.2.2.2.2
  have HYes : Hid ((∀ i, i < np → 1 ≤ ((T.getD i []).length : Int) ∧ ((T.getD i []).length : Int) ≤ gr) → diffP nf T.flatten → R = true) := fun h1 h2 => HT.out ⟨by first | rfl | trivial, by first | rfl | trivial, by first | rfl | trivial, by first | rfl | trivial, h1, h2⟩
  clear HF HT HR2 HR3 HR4
  go_wp2
  clear c0 c1 c2
  go_loopw [35] (fun iv wr => ∃ k : Nat, k ≤ np ∧ iv = .int .i64 k ∧ Hid (∀ i, i < k → 1 ≤ ((T.getD i []).length : Int) ∧ ((T.getD i []).length : Int) ≤ gr) ∧ Hid (Below w1.heap.size w1 wr)) (fun iv _ => np - (RowKit.intOf iv).toNat)
  case atStart => exact ⟨0, Nat.zero_le _, rfl, fun i hi => absurd hi (Nat.not_lt_zero _), Below.refl _ _⟩
  case round =>
    obtain ⟨k, hk9, rfl, HV, HBr⟩ := hrel
    have HSr := Lib.hid (HS1.out.below HBr.out)
    have c0 := HSr.out.1.2 0 _ rfl
    have c1 := HSr.out.1.2 1 _ rfl
    have c2 := HSr.out.1.2 2 _ rfl
    by_cases hlt : k < np
    · obtain ⟨r, hr⟩ : ∃ r : List Int, T[k]? = some r := ⟨_, List.getElem?_eq_getElem (by rw [HNP.out]; exact hlt)⟩
      obtain ⟨b, off, x, xc, rfl, hcap, q0, hrr, hm63⟩ := pot_cells (by rw [HNP.out]; exact HSr.out.2) hr
      rw [HNP.out] at hcap
      have hj1 : (k : Int) < (np : Int) := by omega
      have hg9 : T.getD k [] = r := by rw [List.getD_eq_getElem?_getD, hr]; rfl
      have HF := Lib.hid (HNo.out k hlt)
      have HVN : Hid ((1 ≤ ((T.getD k []).length : Int) ∧ ((T.getD k []).length : Int) ≤ gr) → ∀ i, i < k + 1 → 1 ≤ ((T.getD i []).length : Int) ∧ ((T.getD i []).length : Int) ≤ gr) := fun h i hi => by
        by_cases e : i = k
        · subst e; exact h
        · exact HV.out i (by omega)
      rw [hg9] at HF HVN
      obtain ⟨m, hm⟩ : ∃ m, r.length = m := ⟨_, rfl⟩
      rw [hm] at q0 hm63 HF HVN
      clear hm hrr hr hg9 HV
      obtain ⟨r5, hr5⟩ := boolEx (1 ≤ (m : Int) ∧ (m : Int) ≤ gr)
      have HR5 := Lib.hid hr5
      clear hr5
      go_wp2_with fail
      refine (CI.out _ _ _ r5 _ HR5.out).mono ?_
      rintro e wx ⟨rfl, rfl⟩
      cases r5 with
      | false =>
        obtain rfl := HF.out (fun h => by have := HR5.out.2 h; cases this)
        clear HF HVN
        go_wp2
        go_ret
        exact ⟨rfl, HB1.out.trans (HBr.out.mono HB1.out.size)⟩
      | true =>
        have HVx := Lib.hid (HVN.out (HR5.out.1 (by first | rfl | trivial)))
        clear HF HVN
        go_wp2
        go_roundw
        case rel => exact ⟨k + 1, by omega, by go_num, HVx, HBr⟩
        case measure => simp [RowKit.intOf]; omega
    obtain rfl : k = np := by omega
    have CLr := Lib.hid (CL.out _ HSr.out.2)
    have HB2 : Hid (Below w.heap.size w wr) := HB1.out.trans (HBr.out.mono HB1.out.size)
    go_wp2_with fail
    refine CLr.out.mono ?_
    rintro e w3 h9
    obtain ⟨vt, rfl, htr, _, b⟩ := IntsL.made h9 (by omega)
    obtain ⟨ta, tc, rfl, _, _⟩ := htr.form
    have HB3 := Lib.hid (HB2.out.trans (b.mono HB2.out.size))
    have HTR := Lib.hid htr
    clear h9 htr b c0 c1 c2 CLr CL
    have HYD := Lib.hid (HYes.out HV.out)
    clear HYes HNo
    generalize hLL : T.flatten = L at *
    clear hLL
    obtain ⟨m, hm⟩ : ∃ m, L.length = m := ⟨_, rfl⟩
    have HM := Lib.hid hm
    rw [hm] at HTR hfl6 ⊢
    clear hm
    go_wp2
    go_loopw [50] (fun iv wr => ∃ i : Nat, i ≤ m ∧ iv = .int .i64 i ∧ Hid (∀ j, j < i → (0 ≤ getI L j ∧ getI L j ≤ (nf : Int) - 1) ∧ ¬ getI L j ∈ L.take j) ∧ Hid (Below w3.heap.size w3 wr)) (fun iv _ => m - (RowKit.intOf iv).toNat)
    case atStart => exact ⟨0, Nat.zero_le _, rfl, fun j hj => absurd hj (Nat.not_lt_zero _), Below.refl _ _⟩
    case round =>
      obtain ⟨i, hi9, rfl, HW, HB4⟩ := hrel
      by_cases hlt : i < m
      · have HRr := Lib.hid (HTR.out.below HB4.out (Nat.le_refl _))
        have HTK := Lib.hid (take_rowD HRr.out HM.out hlt)
        obtain ⟨b, off, rfl, hcap, q0⟩ := int_at HRr.out hlt
        have hj1 : (i : Int) < (m : Int) := by omega
        have HF : Hid (¬ ((0 ≤ getI L i ∧ getI L i ≤ (nf : Int) - 1) ∧ ¬ getI L i ∈ L.take i) → R = false) := fun h => HND.out fun hp => h (hp i (by rw [HM.out]; exact hlt))
        have HVN : Hid (((0 ≤ getI L i ∧ getI L i ≤ (nf : Int) - 1) ∧ ¬ getI L i ∈ L.take i) → ∀ j, j < i + 1 → (0 ≤ getI L j ∧ getI L j ≤ (nf : Int) - 1) ∧ ¬ getI L j ∈ L.take j) := fun h j hj => by
          by_cases e : j = i
          · subst e; exact h
          · exact HW.out j (by omega)
        obtain ⟨r6, hr6⟩ := boolEx (0 ≤ getI L i ∧ getI L i ≤ (nf : Int) - 1)
        obtain ⟨r7, hr7⟩ := boolEx (getI L i ∈ L.take i)
        have CH := Lib.hid (l02Has_mem (.slice (some ⟨b, off, none⟩) i tc) (L.take i) (getI L i) r7 wr hr7 HTK.out)
        have HR6 := Lib.hid hr6
        have HR7 := Lib.hid hr7
        clear HTK hr6 hr7 HW
        generalize getI L i = x at *
        go_wp2_with fail
        refine (CI.out _ _ _ r6 _ HR6.out).mono ?_
        rintro e wx ⟨rfl, rfl⟩
        cases r6 with
        | false =>
          obtain rfl := HF.out (fun h => by have := HR6.out.2 h.1; cases this)
          clear HF HVN
          go_wp2
          go_ret
          exact ⟨rfl, HB3.out.trans (HB4.out.mono HB3.out.size)⟩
        | true =>
        have hr1 := HR6.out.1 (by first | rfl | trivial)
        go_wp2_with fail
        refine CH.out.mono ?_
        rintro e wx ⟨rfl, rfl⟩
        cases r7 with
        | true =>
          obtain rfl := HF.out (fun h => h.2 (HR7.out.1 (by first | rfl | trivial)))
          clear HF HVN
          go_wp2
          go_ret
          exact ⟨rfl, HB3.out.trans (HB4.out.mono HB3.out.size)⟩
        | false =>
          have HVx := Lib.hid (HVN.out ⟨hr1, fun h => by have := HR7.out.2 h; cases this⟩)
          clear HF HVN
          go_wp2
          go_roundw
          case rel => exact ⟨i + 1, by omega, by go_num, HVx, HB4⟩
          case measure => simp [RowKit.intOf]; omega
      obtain rfl : i = m := by omega
      obtain rfl := HYD.out (fun j hj => HW.out j (by rw [← HM.out]; exact hj))
      go_wp2
      go_ret
      exact ⟨rfl, HB3.out.trans (HB4.out.mono HB3.out.size)⟩
end Go.Proofs.Ytmhkkdnopcdibaa
set_option linter.unusedVariables false
namespace Go.Proofs.Ytmhkkdnopcdibaa
open Go.RowKit

def sumNN (f : Nat → Nat) : Nat → Nat
  | 0 => 0
  | k + 1 => sumNN f k + f k
theorem sumNN_le {f : Nat → Nat} {B : Nat} : ∀ k, (∀ g, g < k → f g ≤ B) → sumNN f k ≤ k * B
  | 0, _ => Nat.zero_le _
  | k + 1, h => by
    have h1 := sumNN_le k fun g hg => h g (by omega)
    have h2 := h k (by omega)
    show sumNN f k + f k ≤ (k + 1) * B
    rw [Nat.succ_mul]
    omega
def cntF (d : DrwD) : Nat → (Nat → Nat → Bool) → (Nat → Nat → Int) → Nat → Nat
  | 0, _, _, i => if i = d.N then 1 else 0
  | f + 1, P, C, i => if i = d.N then 1 else sumNN (fun g => if fitB d P C i g = true then cntF d f (putP d P i g true) (putC d C i g true) (i + 1) else 0) d.G
theorem cntF_le (d : DrwD) (hG : d.G ≤ 4) : ∀ (f : Nat) (P : Nat → Nat → Bool) (C : Nat → Nat → Int) (i : Nat), cntF d f P C i ≤ 4 ^ f
  | 0, P, C, i => by unfold cntF; split <;> simp
  | f + 1, P, C, i => by
    unfold cntF
    split
    · exact Nat.one_le_pow _ _ (by decide)
    · refine Nat.le_trans (sumNN_le (B := 4 ^ f) d.G fun g hg => ?_) ?_
      · split
        · exact cntF_le d hG f _ _ _
        · exact Nat.zero_le _
      · rw [Nat.pow_succ, Nat.mul_comm]
        exact Nat.mul_le_mul_left _ hG
theorem fit_free {d : DrwD} {P : Nat → Nat → Bool} {C : Nat → Nat → Int} {i g : Nat} (h : fitB d P C i g = true) : P g (d.pot i) = false ∧ C g (d.cl i) < d.most := by
  unfold fitB at h
  rw [Bool.and_eq_true, Bool.not_eq_true', decide_eq_true_eq] at h
  exact h
theorem putP_back {d : DrwD} {P : Nat → Nat → Bool} {i g : Nat} (h : P g (d.pot i) = false) : putP d (putP d P i g true) i g false = P := by
  funext a b
  unfold putP
  by_cases e : a = g ∧ b = d.pot i
  · rw [if_pos e, e.1, e.2, h]
  · rw [if_neg e, if_neg e]
theorem putC_back {d : DrwD} {C : Nat → Nat → Int} {i g : Nat} : putC d (putC d C i g true) i g false = C := by
  funext a b
  unfold putC
  by_cases e : a = g ∧ b = d.cl i
  · rw [if_pos e, if_neg (by simp), if_pos ⟨rfl, rfl⟩, if_pos rfl, e.1, e.2]
    omega
  · rw [if_neg e, if_neg e]
def clubB (d : DrwD) (C : Nat → Nat → Int) (i : Nat) : Prop := ∀ g k, g < d.G → k < 6 → 0 ≤ C g k ∧ C g k ≤ i
theorem clubB.put {d : DrwD} {C : Nat → Nat → Int} {i g : Nat} (h : clubB d C i) (hg : g < d.G) (hc : d.cl i < 6) : clubB d (putC d C i g true) (i + 1) := fun a k ha hk => by
  unfold putC
  have h1 := h a k ha hk
  have h2 := h g _ hg hc
  by_cases e : a = g ∧ k = d.cl i
  · rw [if_pos e, if_pos rfl]; omega
  · rw [if_neg e]; omega
set_option maxRecDepth 100000 in
set_option maxHeartbeats 8000000 in
theorem l12Count_spec (lo hi X : Nat) (d : DrwD) : ∀ (f : Nat) (i : Nat) (P : Nat → Nat → Bool) (C : Nat → Nat → Int) (w : World), i + f = d.N → DrwAt w lo hi X d P C → clubB d C i →
    Calls Try.prog 67 #[.pointer (some ⟨X, 0, none⟩), .int .i64 i] w fun e w' => e = .returned (.int .i64 (cntF d f P C i : Nat)) ∧ DrwAt w' lo hi X d P C ∧ Touch lo hi w w' := by
  intro f
  induction f with
  | zero =>
    intro i P C w hN h hC
    have HH := Lib.hid h
    have c2 := h.box.2 2 _ rfl
    have e1 : cntF d 0 P C i = 1 := if_pos (by omega)
    rw [e1]
    have g1 : ((i : Int) == (d.N : Int)) = true := by simp; omega
    clear h e1
    go_enter Try.func67, Try.ntmps67
    go_wp2
    go_ret
    exact ⟨rfl, HH.out, Touch.refl _ _ _⟩
  | succ f IH =>
  intro i P C w hN h hC
  have hi9 : i < d.N := by omega
  have HIH := Lib.hid IH
  have HH := Lib.hid h
  have HC := Lib.hid hC
  have h4 : d.G ≤ 4 := h.caps.2.2.2.2.1
  have h12 : d.N ≤ 12 := h.caps.2.2.2.1
  have hcl6 := (h.club i hi9).2
  have e1 : cntF d (f + 1) P C i = sumNN (fun g => if fitB d P C i g = true then cntF d f (putP d P i g true) (putC d C i g true) (i + 1) else 0) d.G := if_neg (by omega)
  have HLE : Hid (∀ k, k ≤ d.G → sumNN (fun g => if fitB d P C i g = true then cntF d f (putP d P i g true) (putC d C i g true) (i + 1) else 0) k ≤ 67108864) := fun k hk => by
    refine Nat.le_trans (sumNN_le (B := 4 ^ f) k fun g hg => ?_) ?_
    · show (if _ then _ else _) ≤ _
      split
      · exact cntF_le d h4 f _ _ _
      · exact Nat.zero_le _
    · have h9 : 4 ^ f ≤ 4 ^ 12 := Nat.pow_le_pow_right (by decide) (by omega)
      have h8 : k * 4 ^ f ≤ 4 * 4 ^ 12 := Nat.mul_le_mul (by omega) h9
      exact Nat.le_trans h8 (by decide)
  have HST : Hid (∀ g, sumNN (fun g => if fitB d P C i g = true then cntF d f (putP d P i g true) (putC d C i g true) (i + 1) else 0) (g + 1) = sumNN (fun g => if fitB d P C i g = true then cntF d f (putP d P i g true) (putC d C i g true) (i + 1) else 0) g + (if fitB d P C i g = true then cntF d f (putP d P i g true) (putC d C i g true) (i + 1) else 0)) := fun g => rfl
  have HS0 : Hid (sumNN (fun g => if fitB d P C i g = true then cntF d f (putP d P i g true) (putC d C i g true) (i + 1) else 0) 0 = 0) := rfl
  rw [e1]
  generalize sumNN (fun g => if fitB d P C i g = true then cntF d f (putP d P i g true) (putC d C i g true) (i + 1) else 0) = SS at *
  have c2 := h.box.2 2 _ rfl
  have c4 := h.box.2 4 _ rfl
  have g1 : ((i : Int) == (d.N : Int)) = false := by simp; omega
  clear h e1 IH hC
  obtain ⟨G, hGG⟩ : ∃ G, d.G = G := ⟨_, rfl⟩
  have HG := Lib.hid hGG
  rw [hGG] at c4 h4 HLE ⊢
  clear hGG
  go_enter Try.func67, Try.ntmps67
  go_wp2
  clear c2 c4 g1
  go_loopw [5, 19] (fun nv gv wr => ∃ (g n : Nat), g ≤ G ∧ gv = .int .i64 g ∧ nv = .int .i64 n ∧ Hid (n = SS g) ∧ Hid (DrwAt wr lo hi X d P C) ∧ Hid (Touch lo hi w wr)) (fun _ gv _ => G - (RowKit.intOf gv).toNat)
  case atStart => exact ⟨0, 0, Nat.zero_le _, rfl, rfl, HS0.out.symm, HH, Touch.refl _ _ _⟩
  case round =>
    clear HH
    obtain ⟨g, n, hg9, rfl, rfl, HV, HD, HT⟩ := hrel
    by_cases hlt : g < G
    · have hj1 : (g : Int) < (G : Int) := by omega
      have hgG : g < d.G := by rw [HG.out]; exact hlt
      have hb1 := HLE.out g hg9
      have hb2 := HLE.out (g + 1) hlt
      rw [HST.out] at hb2
      rw [← HV.out] at hb1 hb2
      have HVN := Lib.hid (HST.out g)
      rw [← HV.out] at HVN
      have CF := Lib.hid (l12Fits_spec wr lo hi X d P C i g HD.out hi9 hgG)
      have HFF : Hid (fitB d P C i g = true → P g (d.pot i) = false) := fun h => (fit_free h).1
      obtain ⟨ft, hft⟩ : ∃ b, fitB d P C i g = b := ⟨_, rfl⟩
      rw [hft] at CF HVN HFF hb2
      clear hft HST
      go_wp2_with fail
      refine CF.out.mono ?_
      rintro e w1 ⟨rfl, b⟩
      have HD1 := Lib.hid (HD.out.below b)
      have HT1 := Lib.hid (HT.out.trans (Touch.of_below b))
      clear b CF
      cases ft with
      | false =>
        have HVx : Hid (n = SS (g + 1)) := by show _ = _; rw [HVN.out, if_neg (by simp)]; rfl
        clear HVN HFF hb2
        go_wp2
        go_roundw
        case rel => exact ⟨g + 1, n, by omega, by go_num, rfl, HVx, HD1, HT1⟩
        case measure => simp [RowKit.intOf]; omega
      | true =>
        rw [if_pos rfl] at hb2
        have HVx : Hid (n + cntF d f (putP d P i g true) (putC d C i g true) (i + 1) = SS (g + 1)) := by show _ = _; rw [HVN.out, if_pos rfl]
        have hcb := HC.out g _ hgG hcl6
        have CP := Lib.hid (l12Put_spec w1 lo hi X d P C i g true HD1.out hi9 hgG (by omega))
        have HPB : Hid (putP d (putP d P i g true) i g false = P) := putP_back (HFF.out rfl)
        have HCB : Hid (putC d (putC d C i g true) i g false = C) := putC_back
        have HCN := Lib.hid (HC.out.put hgG hcl6)
        clear HVN HFF
        go_wp2_with fail
        refine CP.out.mono ?_
        rintro e w2 ⟨rfl, hd2, ht2⟩
        have HD2 := Lib.hid hd2
        have HT2 := Lib.hid (HT1.out.trans ht2)
        clear hd2 ht2 CP HD1 HT1
        have CC := Lib.hid (HIH.out (i + 1) _ _ w2 (by omega) HD2.out HCN.out)
        have hcn := HCN.out g _ hgG hcl6
        have CP2 := Lib.hid (fun wa ha => l12Put_spec wa lo hi X d (putP d P i g true) (putC d C i g true) i g false ha hi9 hgG (by omega))
        rw [HPB.out, HCB.out] at CP2
        clear HPB HCB hcn
        generalize cntF d f (putP d P i g true) (putC d C i g true) (i + 1) = k at *
        go_wp2_with fail
        refine CC.out.mono ?_
        rintro e w3 ⟨rfl, hd3, ht3⟩
        have HD3 := Lib.hid hd3
        have HT3 := Lib.hid (HT2.out.trans ht3)
        clear hd3 ht3 CC HD2 HT2
        go_wp2_with fail
        refine (CP2.out _ HD3.out).mono ?_
        rintro e w4 ⟨rfl, hd4, ht4⟩
        have HD4 := Lib.hid hd4
        have HT4 := Lib.hid (HT3.out.trans ht4)
        clear hd4 ht4 CP2 HD3 HT3
        go_wp2
        go_roundw
        case rel => exact ⟨g + 1, n + k, by omega, by go_num, by go_num, HVx, HD4, HT4⟩
        case measure => simp [RowKit.intOf]; omega
    obtain rfl : g = G := by omega
    go_wp2
    go_ret
    exact ⟨by rw [← HV.out]; rfl, HD.out, HT.out⟩
def begF (d : DrwD) : List Int → Nat → (Nat → Nat → Bool) → (Nat → Nat → Int) → Option ((Nat → Nat → Bool) × (Nat → Nat → Int))
  | [], _, P, C => some (P, C)
  | x :: L, i, P, C => if (0 ≤ x ∧ x ≤ (d.G : Int) - 1) ∧ fitB d P C i x.toNat = true then begF d L (i + 1) (putP d P i x.toNat true) (putC d C i x.toNat true) else none
theorem begF_cons (d : DrwD) (x : Int) (L : List Int) (i : Nat) (P : Nat → Nat → Bool) (C : Nat → Nat → Int) : begF d (x :: L) i P C = if (0 ≤ x ∧ x ≤ (d.G : Int) - 1) ∧ fitB d P C i x.toNat = true then begF d L (i + 1) (putP d P i x.toNat true) (putC d C i x.toNat true) else none := rfl
def begB (d : DrwD) (L : List Int) (P : Nat → Nat → Bool) (C : Nat → Nat → Int) : Option ((Nat → Nat → Bool) × (Nat → Nat → Int)) := if L.length ≤ d.N then begF d L 0 P C else none
set_option maxRecDepth 100000 in
set_option maxHeartbeats 8000000 in
theorem l12Begin_spec (lo hi X : Nat) (d : DrwD) (P0 : Nat → Nat → Bool) (C0 : Nat → Nat → Int) (v : Value) (L : List Int) (w : World) (h : DrwAt w lo hi X d P0 C0) (hC : clubB d C0 0) (hv : IntRow w v L.length (getI L)) (hin : 0 < L.length → InW 0 lo v) :
    Calls Try.prog 66 #[.pointer (some ⟨X, 0, none⟩), v] w fun e w' => e = .returned (.bool (begB d L P0 C0).isSome) ∧ Touch lo hi w w' ∧ ∀ P C, begB d L P0 C0 = some (P, C) → DrwAt w' lo hi X d P C ∧ clubB d C L.length := by
  obtain ⟨a, c, rfl, hl9, _⟩ := hv.form
  obtain ⟨m, hm⟩ : ∃ m, L.length = m := ⟨_, rfl⟩
  have HM := Lib.hid hm
  have HBB : Hid (begB d L P0 C0 = if m ≤ d.N then begF d (L.drop 0) 0 P0 C0 else none) := by rw [← hm]; exact rfl
  have c2 := h.box.2 2 _ rfl
  have h4 : d.G ≤ 4 := h.caps.2.2.2.2.1
  have h12 : d.N ≤ 12 := h.caps.2.2.2.1
  rw [hm] at hv hl9 hin ⊢
  have HL := Lib.hid hv
  have HI := Lib.hid hin
  have HD := Lib.hid h
  have HC := Lib.hid hC
  clear h hC hv hin hm
  obtain ⟨RR, hRR⟩ : ∃ RR, begB d L P0 C0 = RR := ⟨_, rfl⟩
  rw [hRR] at HBB
  rw [hRR]
  clear hRR
  obtain ⟨N, hN⟩ : ∃ N, d.N = N := ⟨_, rfl⟩
  have HN := Lib.hid hN
  rw [hN] at c2 h12 HBB
  clear hN
  go_enter Try.func66, Try.ntmps66
  by_cases hmN : m ≤ N
  case neg =>
    have HR : Hid (RR = none) := HBB.out.trans (if_neg hmN)
    have g1 : decide ((N : Int) < (m : Int)) = true := decide_eq_true (by omega)
    have g1' : decide (N < m) = true := decide_eq_true (by omega)
    go_wp2
    go_ret
    exact ⟨by rw [HR.out]; rfl, Touch.refl _ _ _, fun P C h => by rw [HR.out] at h; cases h⟩
  have HB0 : Hid (begF d (L.drop 0) 0 P0 C0 = RR) := (HBB.out.trans (if_pos hmN)).symm
  have g1 : decide ((N : Int) < (m : Int)) = false := decide_eq_false (by omega)
  have g1' : decide (N < m) = false := decide_eq_false (by omega)
  clear HBB
  go_wp2
  clear c2 g1 g1'
  go_loopw [17] (fun iv wr => ∃ (i : Nat) (P : Nat → Nat → Bool) (C : Nat → Nat → Int), i ≤ m ∧ iv = .int .i64 i ∧ Hid (begF d (L.drop i) i P C = RR) ∧ Hid (DrwAt wr lo hi X d P C) ∧ Hid (clubB d C i) ∧ Hid (Touch lo hi w wr)) (fun iv _ => m - (RowKit.intOf iv).toNat)
  case atStart => exact ⟨0, P0, C0, Nat.zero_le _, rfl, HB0, HD, HC, Touch.refl _ _ _⟩
  case round =>
    clear HB0 HD HC
    obtain ⟨i, P, C, hi9, rfl, HV, HD, HC, HT⟩ := hrel
    by_cases hlt : i < m
    · have HLr := Lib.hid (HL.out.touch HT.out (fun h0 => HI.out h0) (.inl (Nat.le_refl _)))
      obtain ⟨b, off, rfl, hcap, q0⟩ := int_at HLr.out hlt
      have hj1 : (i : Int) < (m : Int) := by omega
      have hLi : L[i]? = some (getI L i) := by rw [List.getElem?_eq_getElem (by rw [HM.out]; exact hlt)]; simp [getI, show i < L.length by rw [HM.out]; exact hlt]
      have HV2 := HV.out
      have hdr : L.drop i = getI L i :: L.drop (i + 1) := by
        obtain ⟨hl, he⟩ := List.getElem?_eq_some_iff.1 hLi
        rw [← he]
        exact List.drop_eq_getElem_cons hl
      rw [hdr, begF_cons] at HV2
      have HV3 := Lib.hid HV2
      have hiN : i < d.N := by rw [HN.out]; omega
      have c4 := HD.out.box.2 4 _ rfl
      clear HV HV2 hLi hdr
      obtain ⟨x, hx⟩ : ∃ x, getI L i = x := ⟨_, rfl⟩
      rw [hx] at q0 HV3
      clear hx
      obtain ⟨r1, hr1⟩ := boolEx (0 ≤ x ∧ x ≤ (d.G : Int) - 1)
      have HR1 := Lib.hid hr1
      clear hr1
      go_wp2_with fail
      have CI : Hid (∀ wa, Calls Try.prog 58 #[.int .i64 x, .int .i64 0, .int .i64 ((d.G : Int) - 1)] wa fun e w' => e = .returned (.bool r1) ∧ wa = w') := fun wa => by
        cases r1 with
        | true => exact (l01In_yes _ _ _ _ (HR1.out.1 rfl)).mono fun e w' h => h
        | false => exact (l01In_no _ _ _ _ (fun h => by have := HR1.out.2 h; cases this)).mono fun e w' h => h
      refine (CI.out _).mono ?_
      rintro e wx ⟨rfl, rfl⟩
      clear c4
      cases r1 with
      | false =>
        have HR : Hid (RR = none) := by show _ = _; rw [← HV3.out, if_neg (fun h => by have := HR1.out.2 h.1; cases this)]
        go_wp2
        go_ret
        exact ⟨by rw [HR.out]; rfl, HT.out, fun P C h => by rw [HR.out] at h; cases h⟩
      | true =>
        have hx9 := HR1.out.1 (by first | rfl | trivial)
        obtain ⟨g, rfl⟩ : ∃ g : Nat, x = g := ⟨x.toNat, by omega⟩
        have hgG : g < d.G := by omega
        have CF := Lib.hid (l12Fits_spec wr lo hi X d P C i g HD.out hiN hgG)
        have hcl6 := (HD.out.club i hiN).2
        have HV4 : Hid ((if (0 ≤ (g : Int) ∧ (g : Int) ≤ (d.G : Int) - 1) ∧ fitB d P C i g = true then begF d (L.drop (i + 1)) (i + 1) (putP d P i g true) (putC d C i g true) else none) = RR) := by have h9 := HV3.out; rw [Int.toNat_natCast] at h9; exact h9
        have HX9 := Lib.hid hx9
        clear HV3 HR1 hx9
        obtain ⟨ft, hft⟩ : ∃ b, fitB d P C i g = b := ⟨_, rfl⟩
        rw [hft] at CF HV4
        clear hft
        go_wp2_with fail
        refine CF.out.mono ?_
        rintro e w1 ⟨rfl, b1⟩
        have HD1 := Lib.hid (HD.out.below b1)
        have HT1 := Lib.hid (HT.out.trans (Touch.of_below b1))
        clear b1 CF
        cases ft with
        | false =>
          have HR : Hid (RR = none) := by show _ = _; rw [← HV4.out, if_neg (fun h => by cases h.2)]
          go_wp2
          go_ret
          exact ⟨by rw [HR.out]; rfl, HT1.out, fun P C h => by rw [HR.out] at h; cases h⟩
        | true =>
          have HVN : Hid (begF d (L.drop (i + 1)) (i + 1) (putP d P i g true) (putC d C i g true) = RR) := by show _ = _; rw [← HV4.out, if_pos ⟨HX9.out, rfl⟩]
          have hcb := HC.out g _ hgG hcl6
          have CP := Lib.hid (l12Put_spec w1 lo hi X d P C i g true HD1.out hiN hgG (by omega))
          have HCN := Lib.hid (HC.out.put hgG hcl6)
          clear HV4
          go_wp2_with fail
          refine CP.out.mono ?_
          rintro e w2 ⟨rfl, hd2, ht2⟩
          have HD2 := Lib.hid hd2
          have HT2 := Lib.hid (HT1.out.trans ht2)
          clear hd2 ht2 CP HD1 HT1
          go_wp2
          go_roundw
          case rel => exact ⟨i + 1, _, _, by omega, by go_num, HVN, HD2, HCN, HT2⟩
          case measure => simp [RowKit.intOf]; omega
    obtain rfl : i = m := by omega
    have HR : Hid (RR = some (P, C)) := by show _ = _; rw [← HV.out, List.drop_of_length_le (by have := HM.out; omega)]; rfl
    go_wp2
    go_ret
    exact ⟨by rw [HR.out]; rfl, HT.out, fun P' C' h => by rw [HR.out] at h; cases h; exact ⟨HD.out, HC.out⟩⟩
end Go.Proofs.Ytmhkkdnopcdibaa
