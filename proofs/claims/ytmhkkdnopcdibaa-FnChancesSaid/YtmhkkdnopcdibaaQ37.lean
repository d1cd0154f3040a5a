/-
  Packed: DrwImplR.
-/
import Derived.Test.YtmhkkdnopcdibaaQ34
import Derived.Test.YtmhkkdnopcdibaaQ36
set_option linter.unusedVariables false
namespace Go.Proofs.Ytmhkkdnopcdibaa
open Go.RowKit

set_option maxRecDepth 100000 in
set_option maxHeartbeats 8000000 in
theorem chancesOf_impl (vf : Value) (nf : Nat) (F : Nat → TeamD) (vp : Value) (gr most : Int) (T : List (List Int)) (x : Int) (R : List Int) (w : World) (hR : potsP nf F T gr most → R = chL F T gr most x) (hR0 : ¬ potsP nf F T gr most → R = []) (hf : TeamRow w vf nf F) (hs : ∀ i, (F i).nm.size ≤ maxLen) (h : RdA tIntSS w [vp] T) (hw : tIntSS.wt T ≤ 1048576) :
    Calls Try.prog 21 #[vf, .agg #[vp, .int .i64 gr, .int .i64 most], .int .i64 x] w (IntsL w R) := by
  obtain ⟨pa, pc, rfl, hpn⟩ := pots_form h
  obtain ⟨U, hU⟩ : ∃ U, w.alloc (.cells #[.slice pa (List.length (α := List Int) T) pc, .int .i64 gr, .int .i64 most] 26) = U := ⟨_, rfl⟩
  have bU : Below w.heap.size w U := by rw [← hU]; exact (Below.refl _ _).alloc (Nat.le_refl _) _
  have HS : Hid (PotsAt U w.heap.size pa (List.length (α := List Int) T) pc gr most T) := by rw [← hU]; exact PotsAt.made h
  have HB := Lib.hid bU
  have hf1 := hf.below bU (Nat.le_refl _)
  obtain ⟨fa, fc, rfl, hfn, _⟩ := hf.form
  by_cases hp : potsP nf F T gr most
  case neg =>
    obtain rfl : R = [] := hR0 hp
    have CF := Lib.hid (drawingOf_no (.slice fa nf fc) nf F (.slice pa (List.length (α := List Int) T) pc) gr most T U hp hf1 hs HS.out.2 hw)
    generalize List.length (α := List Int) T = np at *
    have c0 := HS.out.1.2 0 _ rfl
    have c1 := HS.out.1.2 1 _ rfl
    have c2 := HS.out.1.2 2 _ rfl
    clear hp hR hR0 h hf hf1 hs hw bU
    go_enter Try.func21, Try.ntmps21
    go_wp2_with fail
    clear hU c0 c1 c2
    refine CF.out.mono ?_
    rintro e w1 ⟨rfl, b⟩
    have HB1 := Lib.hid (HB.out.trans (b.mono HB.out.size))
    clear b CF
    go_wp2
    go_ret
    exact ⟨_, rfl, World.ownsRow_nil _ _ _ _, HB1.out.alloc HB1.out.size _⟩
  have CF := Lib.hid (drawingOf_yes (.slice fa nf fc) nf F (.slice pa (List.length (α := List Int) T) pc) gr most T U hp hf1 hs HS.out.2 hw)
  have HOK := Lib.hid (drw_ok hp)
  have HHT : Hid (∀ (rr : Bool), (rr = true ↔ x ∈ T.flatten) → ∀ wa, Below U.heap.size U wa → Calls Try.prog 53 #[.agg #[.slice pa (List.length (α := List Int) T) pc, .int .i64 gr, .int .i64 most], .int .i64 x] wa fun e w' => e = .returned (.bool rr) ∧ Below wa.heap.size wa w') :=
    fun rr hrr wa hb => hasTeam_impl (.slice pa (List.length (α := List Int) T) pc) T gr most x rr wa hrr (RdA.below HS.out.2 hb)
  have HUB : Hid (∀ wa, Below U.heap.size U wa → BoxN wa w.heap.size [.slice pa (List.length (α := List Int) T) pc, .int .i64 gr, .int .i64 most]) := fun wa hb => HS.out.1.below hb
  obtain ⟨rr, hrr⟩ := boolEx (x ∈ T.flatten)
  have HRY : Hid (R = if rr = true then (List.range (drwD F T gr most).G).map (fun _ => ((cntP (drwD F T gr most) [] / (drwD F T gr most).G : Nat) : Int)) else []) := by
    show R = _
    rw [hR hp]
    unfold chL
    have hcast : ∀ m, m < T.flatten.length → ((teamAt T m : Nat) : Int) = getI T.flatten m := fun m hm => by
      have := (hp.2.2.2.2.2 m hm).1
      show ((getI T.flatten m).toNat : Int) = _
      omega
    have hiff : 0 ≤ placeI (fun i => ((teamAt T i : Nat) : Int)) x T.flatten.length 0 ↔ rr = true := by
      rw [hrr, placeI_has, ← has_mem12]
      exact ⟨fun ⟨j, h1, h2⟩ => ⟨j, h1, by rw [← hcast j h1]; exact h2⟩, fun ⟨j, h1, h2⟩ => ⟨j, h1, by show ((teamAt T j : Nat) : Int) = x; rw [hcast j h1]; exact h2⟩⟩
    by_cases hc : rr = true
    · rw [if_pos (hiff.2 hc), if_pos hc]
      have hlt := placeI_lt (fun i => ((teamAt T i : Nat) : Int)) x T.flatten.length 0
      have h0 := hiff.2 hc
      show (List.range (drwD F T gr most).G).map _ = _
      refine List.map_congr_left fun g hg => ?_
      rw [ch_each HOK.out (by show _ < T.flatten.length; omega) (List.mem_range.1 hg)]
    · rw [if_neg (fun h9 => hc (hiff.1 h9)), if_neg hc]
  have HHT2 : Hid (∀ wa, Below U.heap.size U wa → Calls Try.prog 53 #[.agg #[.slice pa (List.length (α := List Int) T) pc, .int .i64 gr, .int .i64 most], .int .i64 x] wa fun e w' => e = .returned (.bool rr) ∧ Below wa.heap.size wa w') := HHT.out rr hrr
  have HUV := HB
  clear HHT hrr
  generalize drwD F T gr most = d at *
  generalize List.length (α := List Int) T = np at *
  have c0 := HS.out.1.2 0 _ rfl
  have c1 := HS.out.1.2 1 _ rfl
  have c2 := HS.out.1.2 2 _ rfl
  clear hp hR hR0 h hf hf1 hs hw bU
  go_enter Try.func21, Try.ntmps21
  go_wp2_with fail
  clear hU c0 c1 c2
  refine CF.out.mono ?_
  rintro e w1 ⟨tv, rfl, ht, b⟩
  obtain ⟨ta, tc, rfl⟩ := ht.form
  have HB1 := Lib.hid (HB.out.trans (b.mono HB.out.size))
  have HUU := Lib.hid b
  obtain ⟨V, hV⟩ : ∃ V, w1.alloc (.cells #[.slice ta d.N tc, .int .i64 d.G, .int .i64 d.most] 61) = V := ⟨_, rfl⟩
  have bV : Below w1.heap.size w1 V := by rw [← hV]; exact (Below.refl _ _).alloc (Nat.le_refl _) _
  have HUV : Hid (Below U.heap.size U V) := HUU.out.trans (bV.mono HUU.out.size)
  have HX : Hid (BoxN V w1.heap.size [.slice ta d.N tc, .int .i64 d.G, .int .i64 d.most]) := by rw [← hV]; exact BoxN.made (Below.refl _ _) rfl
  have HBV : Hid (Below w.heap.size w V) := HB1.out.trans (bV.mono HB1.out.size)
  have HT : Hid (TurnsAt V (.slice ta d.N tc) d) := RecRow.below ht bV (Nat.le_refl _)
  have CA : Hid (∀ (wa : World) (vp : Value) (L : List Int), Below V.heap.size V wa → IntRow wa vp L.length (getI L) → Calls Try.prog 44 #[.agg #[.slice ta d.N tc, .int .i64 d.G, .int .i64 d.most], vp] wa fun e w' => e = .returned (.int .i64 (cntP d L)) ∧ Below wa.heap.size wa w') := fun wa vp L hb hv =>
    countFrom_impl ta tc d HOK.out vp L wa (RecRow.below HT.out hb (Nat.le_refl _)) hv
  have HWE := Lib.hid hV
  clear b ht CF HS HB hV bV HB1 HT
  go_upto_region 2 with fail
  rw [HWE.out]
  clear HWE
  have hXV : w1.heap.size < V.heap.size := HX.out.1
  have hwV := HBV.out.size
  generalize w1.heap.size = X at *
  have c0 := HX.out.2 0 _ rfl
  have c1 := HX.out.2 1 _ rfl
  have c2 := HX.out.2 2 _ rfl
  have e0 := (HUB.out V HUV.out).2 0 _ rfl
  have e1 := (HUB.out V HUV.out).2 1 _ rfl
  have e2 := (HUB.out V HUV.out).2 2 _ rfl
  have CT := Lib.hid (HHT2.out V HUV.out)
  go_wp2_with fail
  refine CT.out.mono ?_
  rintro e w2 ⟨rfl, b⟩
  have HXV : Hid (∀ wa, Below V.heap.size V wa → BoxN wa X [.slice ta d.N tc, .int .i64 d.G, .int .i64 d.most]) := fun wa hb => HX.out.below hb
  have HV2 := Lib.hid b
  clear b c0 c1 c2 e0 e1 e2 CT HX HUB HHT2 HUV
  cases rr with
  | false =>
    have hRN : Hid (R = []) := HRY.out
    have HBF : Hid (Below w.heap.size w w2) := HBV.out.trans (HV2.out.mono hwV)
    clear HRY
    go_wp2
    go_ret
    rw [hRN.out]
    exact ⟨_, rfl, World.ownsRow_nil _ _ _ _, HBF.out⟩
  | true =>
    obtain ⟨cn, hcn⟩ : ∃ cn, cntP d [] = cn := ⟨_, rfl⟩
    have hcs := cntP_small HOK.out []
    rw [hcn] at hcs
    have C0 : Hid (∀ wa, Below V.heap.size V wa → Calls Try.prog 44 #[.agg #[.slice ta d.N tc, .int .i64 d.G, .int .i64 d.most], .slice none 0 0] wa fun e w' => e = .returned (.int .i64 cn) ∧ Below wa.heap.size wa w') := fun wa hb => by
      have := CA.out wa (.slice none 0 0) [] hb (.inl ⟨none, 0, rfl, rfl⟩)
      rw [hcn] at this
      exact this
    have HRN : Hid (R = (List.range d.G).map fun _ => ((cn / d.G : Nat) : Int)) := by
      have h9 : R = (List.range d.G).map fun _ => ((cntP d [] / d.G : Nat) : Int) := HRY.out
      rw [hcn] at h9
      exact h9
    have hG4 := HOK.out.G
    clear HRY CA hcn
    go_upto_region 4 with fail
    obtain ⟨G, hG⟩ : ∃ G, d.G = G := ⟨_, rfl⟩
    rw [hG] at hG4 HXV C0 HRN
    clear hG
    obtain ⟨Sc, HSd⟩ : ∃ Sc : World → Prop, Sc = fun w' => BoxN w' X [.slice ta d.N tc, .int .i64 G, .int .i64 d.most] := ⟨_, rfl⟩
    have OS : Hid (∀ wa, Sc wa → BoxN wa X [.slice ta d.N tc, .int .i64 G, .int .i64 d.most]) := by subst HSd; exact fun wa h => h
    have KS : Hid (∀ wa, Below V.heap.size V wa → Sc wa) := by subst HSd; exact fun wa h => HXV.out wa h
    clear HSd
    have HVd : Hid (Below V.heap.size V w2.drew) := HV2.out.drew
    have hq0 : ¬ ((G : Int) = 0) := by omega
    have hq1 : ((G : Int) == 0) = false := by simp; omega
    obtain ⟨q, hq⟩ : ∃ q, cn / G = q := ⟨_, rfl⟩
    rw [hq] at HRN
    have hqs : q ≤ cn := by rw [← hq]; exact Nat.div_le_self cn G
    have hqe : (cn : Int) / (G : Int) = (q : Int) := by rw [← hq]; simp
    have hqw : IntKind.i64.wrap (q : Int) = (q : Int) := IntWalk.i64_in _ (by constructor <;> omega)
    have hqz : ¬ G = 0 := by omega
    clear hq
    refine wp_region_held_drew (S := Sc) (by kernel_rfl) ?_ (fun hHeld => ?_)
    · exact KS.out _ HVd.out
    refine wpAnyH_take (i := 0) (v := ?_) rfl (by kernel_rfl) (by kernel_rfl) (by kernel_rfl) (fun _ _ _ h => h) (Or.inl ⟨by rfl, ?_⟩) (by assumption) ?_
    rotate_left
    · (intro wa hSw; have hI := OS.out _ hSw; have c0 := hI.2 0 _ rfl; have c1 := hI.2 1 _ rfl; have c2 := hI.2 2 _ rfl; go_simp; try with_reducible rfl)
    simp only [Act.put, List.getElem_toArray, List.getElem_cons_zero, List.setIfInBounds_toArray, List.set_cons_zero, List.set_cons_succ]
    refine wpAnyH_take (i := 2) (v := ?_) rfl (by kernel_rfl) (by kernel_rfl) (by kernel_rfl) (fun _ _ _ h => h) (Or.inl ⟨by rfl, ?_⟩) (by assumption) ?_
    rotate_left
    · (intro wa hSw; go_simp; try with_reducible rfl)
    simp only [Act.put, List.getElem_toArray, List.getElem_cons_zero, List.getElem_cons_succ, List.setIfInBounds_toArray, List.set_cons_zero, List.set_cons_succ]
    refine wpAnyH_take (i := 3) (v := ?_) rfl (by kernel_rfl) (by kernel_rfl) (by kernel_rfl) (fun _ _ _ h => h) (Or.inl ⟨by rfl, ?_⟩) (by assumption) ?_
    rotate_left
    · (intro wa hSw; have hI := OS.out _ hSw; have c0 := hI.2 0 _ rfl; have c1 := hI.2 1 _ rfl; have c2 := hI.2 2 _ rfl; go_simp; try with_reducible rfl)
    simp only [Act.put, List.getElem_toArray, List.getElem_cons_zero, List.getElem_cons_succ, List.setIfInBounds_toArray, List.set_cons_zero, List.set_cons_succ]
    refine wpAnyH_take (i := 6) (v := ?_) rfl (by kernel_rfl) (by kernel_rfl) (by kernel_rfl) (fun _ _ _ h => h) (Or.inl ⟨by rfl, ?_⟩) (by assumption) ?_
    rotate_left
    · (intro wa hSw; go_simp; try with_reducible rfl)
    simp only [Act.put, List.getElem_toArray, List.getElem_cons_zero, List.getElem_cons_succ, List.setIfInBounds_toArray, List.set_cons_zero, List.set_cons_succ]
    refine wpAnyH_take (i := 7) (v := ?_) rfl (by kernel_rfl) (by kernel_rfl) (by kernel_rfl) (fun _ _ _ h => h) (Or.inl ⟨by rfl, ?_⟩) (by assumption) ?_
    rotate_left
    · (intro wa hSw; have hI := OS.out _ hSw; have c0 := hI.2 0 _ rfl; have c1 := hI.2 1 _ rfl; have c2 := hI.2 2 _ rfl; go_simp; try with_reducible rfl)
    simp only [Act.put, List.getElem_toArray, List.getElem_cons_zero, List.getElem_cons_succ, List.setIfInBounds_toArray, List.set_cons_zero, List.set_cons_succ]
    refine wpAnyH_ready (rs := [1]) (by kernel_rfl) (by simp) ?_
    refine AllReadyH.cons (o := _) rfl (fun K hK => ?_) AllReadyH.nil
    go_simp
    refine (C0.out _ HVd.out).mono ?_
    rintro e w3 ⟨rfl, b⟩
    have HV3 : Hid (Below V.heap.size V w3) := HVd.out.trans (b.mono HVd.out.size)
    clear b
    (try go_wp2_with fail)
    refine hK.out _ _ ?_ (fun hHeld1 => ?_)
    · exact KS.out _ HV3.out
    clear hK K hHeld
    try simp only [Act.put, List.getElem_toArray, List.getElem_cons_zero, List.getElem_cons_succ, List.setIfInBounds_toArray, List.set_cons_zero, List.set_cons_succ]
    refine wpAnyH_take (i := 4) (v := .int .i64 (q : Int)) rfl (by kernel_rfl) (by kernel_rfl) (by kernel_rfl) (fun _ _ _ h => h) (Or.inl ⟨by rfl, ?_⟩) (by assumption) ?_
    · (intro wa hSw; go_simp <;> simp [hqz, hqe, hqw])
    simp only [Act.put, List.getElem_toArray, List.getElem_cons_zero, List.getElem_cons_succ, List.setIfInBounds_toArray, List.set_cons_zero, List.set_cons_succ]
    refine wpAnyH_ready (rs := [5]) (by kernel_rfl) (by simp) ?_
    refine AllReadyH.cons (o := _) rfl (fun K hK => ?_) AllReadyH.nil
    go_simp
    (try go_wp2_with fail)
    have HV4 : Hid (Below V.heap.size V (w3.alloc (.cells #[.int .i64 (q : Int)] 3))) := HV3.out.alloc HV3.out.size _
    have HC4 : Hid (CellsAt (w3.alloc (.cells #[.int .i64 (q : Int)] 3)) w3.heap.size 0 [.int .i64 (q : Int)]) := ⟨by simp, fun j u hu => by rw [Nat.zero_add]; rw [cell_of_row _ w3.heap.size j _ 3 (0, 0) (heap_alloc_new w3 _)]; simpa using hu⟩
    refine hK.out _ _ ?_ (fun hHeld => ?_)
    · exact KS.out _ HV4.out
    clear hK K hHeld1
    try simp only [Act.put, List.getElem_toArray, List.getElem_cons_zero, List.getElem_cons_succ, List.setIfInBounds_toArray, List.set_cons_zero, List.set_cons_succ]
    refine wpAnyH_ready (rs := [8]) (by kernel_rfl) (by simp) ?_
    refine AllReadyH.cons (o := _) rfl (fun K hK => ?_) AllReadyH.nil
    go_simp
    refine (repeatI_impl G (by omega) w3.heap.size [.int .i64 (q : Int)] rfl (by intro u hu; simp at hu; subst hu; rfl) _ HC4.out).mono ?_
    rintro e w5 ⟨gg, xs, rfl, ho5, hc5, b5⟩
    have HV5 : Hid (Below V.heap.size V w5) := HV4.out.trans (b5.mono HV4.out.size)
    have HXS : Hid (xs = R.map (Value.int .i64)) := by
      have hl := ho5.1
      show xs = _
      rw [HRN.out, List.map_map]
      apply List.ext_getElem?
      intro j
      by_cases hj : j < G
      · have h9 := hc5 j hj 0 _ rfl
        rw [Nat.mul_one, Nat.add_zero] at h9
        rw [h9]
        simp [hj]
      · rw [List.getElem?_eq_none (by omega), List.getElem?_eq_none (by simp; omega)]
    have HRL : Hid (R.length = G) := by show _ = _; rw [HRN.out]; simp
    have HO5 := Lib.hid ho5
    have hz5 : w.heap.size ≤ (w3.alloc (.cells #[.int .i64 (q : Int)] 3)).heap.size := Nat.le_trans hwV HV4.out.size
    have HZ5 := Lib.hid hz5
    clear ho5 hc5 b5 hz5
    (try go_wp2_with fail)
    refine hK.out _ _ ?_ (fun hHeld1 => ?_)
    · exact KS.out _ HV5.out
    clear hK K hHeld
    try simp only [Act.put, List.getElem_toArray, List.getElem_cons_zero, List.getElem_cons_succ, List.setIfInBounds_toArray, List.set_cons_zero, List.set_cons_succ]
    refine wpAnyH_take (i := 9) (v := ?_) rfl (by kernel_rfl) (by kernel_rfl) (by kernel_rfl) (fun _ _ _ h => h) (Or.inl ⟨by rfl, ?_⟩) (by assumption) ?_
    rotate_left
    · (intro wa hSw; go_simp; try with_reducible rfl)
    simp only [Act.put, List.getElem_toArray, List.getElem_cons_zero, List.getElem_cons_succ, List.setIfInBounds_toArray, List.set_cons_zero, List.set_cons_succ]
    refine wpAnyH_done (by kernel_rfl) ?_ _
    have HBF : Hid (Below w.heap.size w w5) := HBV.out.trans (HV5.out.mono hwV)
    clear hHeld1 KS OS HVd HV3 HV4 HC4 HV5
    go_wp2_with fail
    go_ret
    exact ⟨_, rfl, by rw [HRL.out, ← HXS.out]; exact owns_mono HO5.out HZ5.out, HBF.out⟩
end Go.Proofs.Ytmhkkdnopcdibaa
