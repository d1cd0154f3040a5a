/-
  Packed: DrwPlain2, DrwImplP, DrwSym, CopyR, RepeatInt, DrwImplQ, DrwImplR.
-/
import Derived.Deep.DeepAppendRoom
import Derived.Deep.AppendLies
import Derived.Laws.IdiomCopy
import Derived.Test.YtmhkkdnopcdibaaShelf
import Derived.Test.YtmhkkdnopcdibaaQ1
import Derived.Test.YtmhkkdnopcdibaaQ3
import Derived.Test.YtmhkkdnopcdibaaQ5
import Derived.Test.YtmhkkdnopcdibaaQ8
import Derived.Test.YtmhkkdnopcdibaaQ10
import Derived.Test.YtmhkkdnopcdibaaQ11
import Derived.Test.YtmhkkdnopcdibaaQ12
import Derived.Test.YtmhkkdnopcdibaaQ17
set_option linter.unusedVariables false
namespace Go.Proofs.Ytmhkkdnopcdibaa
open Go.RowKit

def IdxO (d : DrwD) (L : List Int) (R i idx : Nat) : Prop :=
  ∃ P C, PreS d (L.take i) i P C ∧ idx + idxF d (L.drop i) i P C = R ∧ (begF d (L.drop i) i P C).isSome = true ∧ idx ≤ 67108864 * i
def IdxI (d : DrwD) (L : List Int) (R i g y : Nat) : Prop :=
  ∃ P C idx, PreS d (L.take i) i P C ∧ idx + idxF d (L.drop i) i P C = R ∧ (begF d (L.drop i) i P C).isSome = true ∧ idx ≤ 67108864 * i ∧ y = idx + befS d i P C g ∧ g ≤ (getI L i).toNat
theorem IdxO.begin {d : DrwD} {L : List Int} {R i idx : Nat} (h : IdxO d L R i idx) : IdxI d L R i 0 idx := by
  obtain ⟨P, C, h1, h2, h3, h4⟩ := h
  exact ⟨P, C, idx, h1, h2, h3, h4, by rw [befS_zero]; rfl, Nat.zero_le _⟩
theorem drop_at {L : List Int} {i : Nat} (hi : i < L.length) : L.drop i = getI L i :: L.drop (i + 1) := by
  rw [List.drop_eq_getElem_cons hi, getI_ok hi]
theorem take_at {L : List Int} {i : Nat} (hi : i < L.length) : L.take (i + 1) = L.take i ++ [getI L i] := by
  rw [List.take_add_one, List.getElem?_eq_getElem hi, getI_ok hi]
  rfl
theorem IdxI.fits {d : DrwD} {L : List Int} {R i g y : Nat} (h : IdxI d L R i g y) (hi : i < L.length) : 0 ≤ getI L i ∧ getI L i ≤ (d.G : Int) - 1 := by
  obtain ⟨P, C, idx, h1, h2, h3, h4, h5, h6⟩ := h
  rw [drop_at hi, begF_cons] at h3
  split at h3
  · rename_i hc; exact hc.1
  · cases h3
theorem IdxI.next {d : DrwD} (ok : DrwOk d) {L : List Int} {R i g y : Nat} (h : IdxI d L R i g y) (hi : i < L.length) (hN : L.length = d.N) (hg : g < (getI L i).toNat) : IdxI d L R i (g + 1) (y + cntP d (L.take i ++ [(g : Int)])) := by
  have hf := h.fits hi
  obtain ⟨P, C, idx, h1, h2, h3, h4, h5, h6⟩ := h
  have hm := h1.more ok (by omega) (show g < d.G by omega)
  exact ⟨P, C, idx, h1, h2, h3, h4, by omega, hg⟩
theorem IdxI.small {d : DrwD} (ok : DrwOk d) {L : List Int} {R i g y : Nat} (h : IdxI d L R i g y) (hi : i < L.length) (hN : L.length = d.N) : y ≤ 67108864 * (i + 1) := by
  have hf := h.fits hi
  obtain ⟨P, C, idx, h1, h2, h3, h4, h5, h6⟩ := h
  have hG := ok.G
  have hN8 := ok.N
  have h7 := befS_le d hG.2 (by omega) i P C g (by omega)
  omega
theorem IdxI.done {d : DrwD} (ok : DrwOk d) {L : List Int} {R i g y : Nat} (h : IdxI d L R i g y) (hi : i < L.length) (hN : L.length = d.N) (hg : g = (getI L i).toNat) : IdxO d L R (i + 1) y := by
  have hf := h.fits hi
  have hs := h.small ok hi hN
  obtain ⟨P, C, idx, h1, h2, h3, h4, h5, h6⟩ := h
  rw [drop_at hi, begF_cons] at h3
  rw [drop_at hi, idxF_cons] at h2
  split at h3
  · rename_i hc
    have hn := h1.next ok (by omega) (show (getI L i).toNat < d.G by omega) hc.2
    rw [show (((getI L i).toNat : Nat) : Int) = getI L i by omega, ← take_at hi] at hn
    refine ⟨_, _, hn, ?_, h3, hs⟩
    rw [h5, hg]
    unfold befS
    rw [Nat.add_assoc]
    exact h2
  · cases h3
theorem IdxO.last {d : DrwD} {L : List Int} {R idx : Nat} (h : IdxO d L R L.length idx) : idx = R := by
  obtain ⟨P, C, h1, h2, h3, h4⟩ := h
  rw [List.drop_length] at h2
  exact h2
theorem owns_front {w : World} {base : Nat} {e : TypeId} {g n cap : Nat} {xs : List Value} {x : Value} (h : w.ownsRow base e 1 (.slice (some ⟨g, 0, none⟩) (n + 1) cap) (n + 1) (xs ++ [x])) : w.ownsRow base e 1 (.slice (some ⟨g, 0, none⟩) n cap) n xs := by
  obtain ⟨h1, h2⟩ := h
  rw [List.length_append, List.length_singleton] at h1
  refine ⟨by omega, ?_⟩
  rcases h2 with ⟨h3, _⟩ | ⟨b, c, cur, h3, hb, hg, hnc, hm, hs, ht⟩
  · cases h3
  · simp only [Value.slice.injEq, Option.some.injEq, Addr.mk.injEq, and_true, true_and] at h3
    obtain ⟨rfl, rfl⟩ := h3
    refine .inr ⟨g, cap, cur, rfl, hb, hg, by omega, hm, hs, ?_⟩
    have h4 := congrArg (List.take (n * 1)) ht
    rw [List.take_take, Nat.min_eq_left (by omega), List.take_append_of_le_length (by omega)] at h4
    rw [h4]
    exact List.take_of_length_le (by omega)
end Go.Proofs.Ytmhkkdnopcdibaa
set_option linter.unusedVariables false
namespace Go.Proofs.Ytmhkkdnopcdibaa
open Go.RowKit

set_option maxRecDepth 100000 in
set_option maxHeartbeats 8000000 in
theorem indexOfDraw_impl (vf : Value) (nf : Nat) (F : Nat → TeamD) (vp : Value) (gr most : Int) (T : List (List Int)) (vd : Value) (L : List Int) (R : Int) (w : World) (hR : potsP nf F T gr most ∧ isB F T gr most L = true → R = (idxF (drwD F T gr most) L 0 noP noC : Nat)) (hR0 : ¬ (potsP nf F T gr most ∧ isB F T gr most L = true) → R = -1) (hf : TeamRow w vf nf F) (hs : ∀ i, (F i).nm.size ≤ maxLen) (h : RdA tIntSS w [vp] T) (hw : tIntSS.wt T ≤ 1048576) (hd : IntRow w vd L.length (getI L)) :
    Calls Try.prog 18 #[vf, .agg #[vp, .int .i64 gr, .int .i64 most], vd] w fun e w' => e = .returned (.int .i64 R) ∧ Below w.heap.size w w' := by
  obtain ⟨pa, pc, rfl, hpn⟩ := pots_form h
  obtain ⟨da, dc, rfl, hdn, _⟩ := hd.form
  obtain ⟨U, hU⟩ : ∃ U, w.alloc (.cells #[.slice pa (List.length (α := List Int) T) pc, .int .i64 gr, .int .i64 most] 26) = U := ⟨_, rfl⟩
  have bU : Below w.heap.size w U := by rw [← hU]; exact (Below.refl _ _).alloc (Nat.le_refl _) _
  have HS : Hid (PotsAt U w.heap.size pa (List.length (α := List Int) T) pc gr most T) := by rw [← hU]; exact PotsAt.made h
  have HB := Lib.hid bU
  have HD : Hid (IntRow U (.slice da L.length dc) L.length (getI L)) := hd.below bU (Nat.le_refl _)
  have hf1 := hf.below bU (Nat.le_refl _)
  obtain ⟨fa, fc, rfl, hfn, _⟩ := hf.form
  by_cases hp : potsP nf F T gr most
  case neg =>
    obtain rfl : R = -1 := hR0 fun h => hp h.1
    have CF := Lib.hid (drawingOf_no (.slice fa nf fc) nf F (.slice pa (List.length (α := List Int) T) pc) gr most T U hp hf1 hs HS.out.2 hw)
    generalize List.length (α := List Int) T = np at *
    generalize L.length = m at *
    have c0 := HS.out.1.2 0 _ rfl
    have c1 := HS.out.1.2 1 _ rfl
    have c2 := HS.out.1.2 2 _ rfl
    clear hp hR hR0 h hd hf hf1 hs hw bU
    go_enter Try.func18, Try.ntmps18
    go_wp2_with fail
    clear hU c0 c1 c2
    refine CF.out.mono ?_
    rintro e w1 ⟨rfl, b⟩
    have HB1 := Lib.hid (HB.out.trans (b.mono HB.out.size))
    clear b CF
    go_wp2
    go_ret
    exact ⟨rfl, HB1.out.alloc HB1.out.size _⟩
  have CF := Lib.hid (drawingOf_yes (.slice fa nf fc) nf F (.slice pa (List.length (α := List Int) T) pc) gr most T U hp hf1 hs HS.out.2 hw)
  have HOK := Lib.hid (drw_ok hp)
  have hN1 := pots_ne hp
  have HR1 : Hid (((foldP (drwD F T gr most) L).isSome && decide (L.length = (drwD F T gr most).N)) = true → R = (idxF (drwD F T gr most) L 0 noP noC : Nat) ∧ L.length = (drwD F T gr most).N ∧ (begF (drwD F T gr most) L 0 noP noC).isSome = true) := fun h9 => by
    rw [fold_beg HOK.out] at h9
    have h8 : isB F T gr most L = true := by unfold isB; rw [Bool.and_comm]; exact h9
    have h7 := h8
    unfold isB begB at h7
    rw [Bool.and_eq_true, decide_eq_true_eq] at h7
    rw [if_pos (show L.length ≤ (drwD F T gr most).N from Nat.le_of_eq h7.1)] at h7
    exact ⟨hR ⟨hp, h8⟩, h7.1, h7.2⟩
  have HR2 : Hid (((foldP (drwD F T gr most) L).isSome && decide (L.length = (drwD F T gr most).N)) = false → R = -1) := fun h9 => hR0 fun h => by
    rw [fold_beg HOK.out] at h9
    have h8 : isB F T gr most L = false := by unfold isB; rw [Bool.and_comm]; exact h9
    rw [h8] at h
    exact absurd h.2 (by decide)
  generalize drwD F T gr most = d at *
  obtain ⟨m, hm⟩ : ∃ m, L.length = m := ⟨_, rfl⟩
  have HM := Lib.hid hm
  rw [hm] at hdn HR1 HR2 ⊢
  generalize List.length (α := List Int) T = np at *
  have c0 := HS.out.1.2 0 _ rfl
  have c1 := HS.out.1.2 1 _ rfl
  have c2 := HS.out.1.2 2 _ rfl
  clear hp hR hR0 h hd hf hf1 hs hw bU hm hN1
  go_enter Try.func18, Try.ntmps18
  go_wp2_with fail
  clear hU c0 c1 c2
  refine CF.out.mono ?_
  rintro e w1 ⟨tv, rfl, ht, b⟩
  obtain ⟨ta, tc, rfl⟩ := ht.form
  have HT1 := Lib.hid ht
  have HB1 := Lib.hid (HB.out.trans (b.mono HB.out.size))
  have HD1 : Hid (IntRow w1 (.slice da m dc) m (getI L)) := by
    have h9 := HD.out.below b (Nat.le_refl _)
    rw [HM.out] at h9
    exact h9
  obtain ⟨V, hV⟩ : ∃ V, w1.alloc (.cells #[.slice ta d.N tc, .int .i64 d.G, .int .i64 d.most] 61) = V := ⟨_, rfl⟩
  have bV : Below w1.heap.size w1 V := by rw [← hV]; exact (Below.refl _ _).alloc (Nat.le_refl _) _
  have HX : Hid (BoxN V w1.heap.size [.slice ta d.N tc, .int .i64 d.G, .int .i64 d.most]) := by rw [← hV]; exact BoxN.made (Below.refl _ _) rfl
  have HBV : Hid (Below w.heap.size w V) := HB1.out.trans (bV.mono HB1.out.size)
  have HT : Hid (TurnsAt V (.slice ta d.N tc) d) := RecRow.below HT1.out bV (Nat.le_refl _)
  have HDV : Hid (IntRow V (.slice da m dc) m (getI L)) := HD1.out.below bV (Nat.le_refl _)
  have CA : Hid (∀ (wa : World) (vp : Value) (L : List Int), Below V.heap.size V wa → IntRow wa vp L.length (getI L) → Calls Try.prog 44 #[.agg #[.slice ta d.N tc, .int .i64 d.G, .int .i64 d.most], vp] wa fun e w' => e = .returned (.int .i64 (cntP d L)) ∧ Below wa.heap.size wa w') := fun wa vp L hb hv =>
    countFrom_impl ta tc d HOK.out vp L wa (RecRow.below HT.out hb (Nat.le_refl _)) hv
  obtain ⟨r1, hr1⟩ : ∃ r1, ((foldP d L).isSome && decide (m = d.N)) = r1 := ⟨_, rfl⟩
  have CH : Hid (Calls Try.prog 52 #[.agg #[.slice ta d.N tc, .int .i64 d.G, .int .i64 d.most], .slice da m dc] V fun e w' => e = .returned (.bool r1) ∧ Below V.heap.size V w') := by
    have h9 := has_impl ta tc d HOK.out (.slice da m dc) L r1 V (by rw [HM.out]; exact hr1.symm) HT.out
    rw [HM.out] at h9
    exact h9 HDV.out
  rw [hr1] at HR1 HR2
  have HWE := Lib.hid hV
  clear b ht CF HS HB HD HD1 hV bV HB1 HT HT1 hr1
  go_upto_region 2 with fail
  rw [HWE.out]
  clear HWE
  have hXV : w1.heap.size < V.heap.size := HX.out.1
  have hwV := HBV.out.size
  generalize w1.heap.size = X at *
  have c0 := HX.out.2 0 _ rfl
  have c1 := HX.out.2 1 _ rfl
  have c2 := HX.out.2 2 _ rfl
  go_wp2_with fail
  refine CH.out.mono ?_
  rintro e w2 ⟨rfl, b⟩
  have HXV : Hid (∀ wa, Below V.heap.size V wa → BoxN wa X [.slice ta d.N tc, .int .i64 d.G, .int .i64 d.most]) := fun wa hb => HX.out.below hb
  have HDW : Hid (∀ wa, Below V.heap.size V wa → IntRow wa (.slice da m dc) m (getI L)) := fun wa hb => HDV.out.below hb (Nat.le_refl _)
  have HV2 := Lib.hid b
  clear b c0 c1 c2 CH HX HDV
  cases r1 with
  | false =>
    obtain rfl : R = -1 := HR2.out rfl
    have HBF : Hid (Below w.heap.size w w2) := HBV.out.trans (HV2.out.mono hwV)
    clear HR1 HR2
    go_wp2
    go_ret
    exact ⟨rfl, HBF.out⟩
  | true =>
    obtain ⟨hRe, hmN, hbg⟩ := HR1.out rfl
    obtain ⟨Rn, hR⟩ : ∃ Rn, idxF d L 0 noP noC = Rn := ⟨_, rfl⟩
    rw [hR] at hRe
    have HRE := Lib.hid hRe
    have HI0 : Hid (IdxO d L Rn 0 0) := ⟨noP, noC, PreS.nil d, by rw [List.drop_zero, Nat.zero_add]; exact hR, hbg, Nat.zero_le _⟩
    have HLN : Hid (L.length = d.N) := by show _ = _; rw [HM.out, hmN]
    clear hRe
    have hN8 := HOK.out.N
    have hm8 : m ≤ 8 := by omega
    clear hR hbg HR1 HR2 hmN hN8
    obtain ⟨i0, hi, hz0, hz1, hz2⟩ := info_parts Try.infoI
    have hVY : V.heap.size ≤ w2.heap.size := HV2.out.size
    go_wp2_with (at_make; refine wpList_make_own _ rfl _ _ 31 rfl V.heap.size 3 i0 (.int .i64 0) 1 Try.underlying31 hi hz0 hz1 .i64 .i64 m m rfl rfl rfl (by rw [hz2]; omega) (by unfold maxLen; omega) hVY ?_; intro w3 hown hg3)
    have HO3 : Hid (w3.ownsRow V.heap.size 3 1 (.slice (some ⟨w2.heap.size, 0, none⟩) 0 m) 0 ((L.take 0).map (Value.int .i64))) := hown
    have HV3 : Hid (Below V.heap.size V w3) := HV2.out.grown hg3 hVY (fun q h => by cases h)
    clear hown hg3 HV2
    generalize w2.heap.size = Y at *
    go_wp2_with fail
    go_loopw [9, 10, 33] (fun s9 s10 iv wr => ∃ (i idx : Nat), i ≤ m ∧ s9 = .int .i64 idx ∧ s10 = .slice (some ⟨Y, 0, none⟩) i m ∧ iv = .int .i64 i ∧ Hid (IdxO d L Rn i idx) ∧ Hid (wr.ownsRow V.heap.size 3 1 (.slice (some ⟨Y, 0, none⟩) i m) i ((L.take i).map (Value.int .i64))) ∧ Hid (Below V.heap.size V wr)) (fun _ _ iv _ => m - (RowKit.intOf iv).toNat)
    case atStart => exact ⟨0, 0, Nat.zero_le _, rfl, rfl, rfl, HI0, HO3, HV3⟩
    case round =>
      clear HI0 HO3 HV3
      obtain ⟨i, idx, hi9, rfl, rfl, rfl, HIO, HOW, HVW⟩ := hrel
      by_cases hlt : i < m
      · obtain ⟨bo, off, rfl, hcap, q1⟩ := int_at (HDW.out wr HVW.out) hlt
        have hj : (i : Int) < (m : Int) := by omega
        have hfit := (HIO.out.begin).fits (by rw [HM.out]; exact hlt)
        obtain ⟨xn, hxn⟩ : ∃ xn : Nat, getI L i = (xn : Int) := ⟨(getI L i).toNat, by omega⟩
        rw [hxn] at q1 hfit
        have hG4 := HOK.out.G
        have hx8 : xn ≤ 9223372036854775807 := by omega
        clear hG4
        have HXE := Lib.hid hxn
        have HII : Hid (IdxI d L Rn i 0 idx) := HIO.out.begin
        clear hxn HIO
        go_wp2_with fail
        clear q1
        go_loopw [9, 38] (fun s9 s38 wr => ∃ (g y : Nat), g ≤ xn ∧ s38 = .int .i64 g ∧ s9 = .int .i64 y ∧ Hid (IdxI d L Rn i g y) ∧ Hid (wr.ownsRow V.heap.size 3 1 (.slice (some ⟨Y, 0, none⟩) i m) i ((L.take i).map (Value.int .i64))) ∧ Hid (Below V.heap.size V wr)) (fun _ s38 _ => xn - (RowKit.intOf s38).toNat)
        case atStart => exact ⟨0, idx, Nat.zero_le _, rfl, rfl, HII, HOW, HVW⟩
        case round =>
          clear HII HOW HVW
          obtain ⟨g, y, hg9, rfl, rfl, HII, HOW, HVW⟩ := hrel
          by_cases hlt2 : g < xn
          · have hj2 : (g : Int) < (xn : Int) := by omega
            have hIN := HII.out.next HOK.out (by rw [HM.out]; exact hlt) HLN.out (by rw [HXE.out]; omega)
            have hys := HII.out.small HOK.out (by rw [HM.out]; exact hlt) HLN.out
            have hcs := cntP_small HOK.out (L.take i ++ [(g : Int)])
            obtain ⟨cn, hcn⟩ : ∃ cn, cntP d (L.take i ++ [(g : Int)]) = cn := ⟨_, rfl⟩
            rw [hcn] at hIN hcs
            have HCE := Lib.hid hcn
            have HIN := Lib.hid hIN
            have hwr : IntKind.i64.wrap ((y : Int) + (cn : Int)) = ((y + cn : Nat) : Int) := by
              rw [IntWalk.i64_in _ (by constructor <;> omega)]
              push_cast
              rfl
            clear hIN hcn HII
            go_upto_region 12 with fail
            obtain ⟨Sc, HSd⟩ : ∃ Sc : World → Prop, Sc = fun w' => BoxN w' X [.slice ta d.N tc, .int .i64 d.G, .int .i64 d.most] := ⟨_, rfl⟩
            have OS : Hid (∀ wa, Sc wa → BoxN wa X [.slice ta d.N tc, .int .i64 d.G, .int .i64 d.most]) := by subst HSd; exact fun wa h => h
            have KS : Hid (∀ wa, Below V.heap.size V wa → Sc wa) := by subst HSd; exact fun wa h => HXV.out wa h
            clear HSd
            have HVd : Hid (Below V.heap.size V wr.drew) := HVW.out.drew
            have HVa : Hid (Below V.heap.size V (wr.drew.alloc (.cells #[.int .i64 (g : Int)] 3))) := HVd.out.alloc HVd.out.size _
            have HOa : Hid ((wr.drew.alloc (.cells #[.int .i64 (g : Int)] 3)).ownsRow V.heap.size 3 1 (.slice (some ⟨Y, 0, none⟩) i m) i ((L.take i).map (Value.int .i64))) := owns_below (w := wr.drew) HOW.out ((Below.refl _ _).alloc (Nat.le_refl _) _) (Nat.le_refl _)
            have HNW : Hid (∀ j u, [Value.int .i64 (g : Int)][j]? = some u → (wr.drew.alloc (.cells #[.int .i64 (g : Int)] 3)).cell? ((⟨wr.drew.heap.size, 0, none⟩ : Addr).add j) = some u) := World.news_of_block (cs := #[.int .i64 (g : Int)]) (heap_alloc_new _ _)
            refine wp_region_held_drew (S := Sc) (by kernel_rfl) ?_ (fun hHeld => ?_)
            · exact KS.out _ HVd.out
            refine wpAnyH_take (i := 0) (v := ?_) rfl (by kernel_rfl) (by kernel_rfl) (by kernel_rfl) (fun _ _ _ h => h) (Or.inl ⟨by rfl, ?_⟩) (by assumption) ?_
            rotate_left
            · (intro wa hSw; go_simp; try with_reducible rfl)
            simp only [Act.put, List.getElem_toArray, List.getElem_cons_zero, List.setIfInBounds_toArray, List.set_cons_zero, List.set_cons_succ]
            refine wpAnyH_take (i := 1) (v := ?_) rfl (by kernel_rfl) (by kernel_rfl) (by kernel_rfl) (fun _ _ _ h => h) (Or.inl ⟨by rfl, ?_⟩) (by assumption) ?_
            rotate_left
            · (intro wa hSw; have hI := OS.out _ hSw; have c0 := hI.2 0 _ rfl; have c1 := hI.2 1 _ rfl; have c2 := hI.2 2 _ rfl; go_simp; try with_reducible rfl)
            simp only [Act.put, List.getElem_toArray, List.getElem_cons_zero, List.getElem_cons_succ, List.setIfInBounds_toArray, List.set_cons_zero, List.set_cons_succ]
            refine wpAnyH_take (i := 2) (v := ?_) rfl (by kernel_rfl) (by kernel_rfl) (by kernel_rfl) (fun _ _ _ h => h) (Or.inl ⟨by rfl, ?_⟩) (by assumption) ?_
            rotate_left
            · (intro wa hSw; go_simp; try with_reducible rfl)
            simp only [Act.put, List.getElem_toArray, List.getElem_cons_zero, List.getElem_cons_succ, List.setIfInBounds_toArray, List.set_cons_zero, List.set_cons_succ]
            refine wpAnyH_take (i := 3) (v := ?_) rfl (by kernel_rfl) (by kernel_rfl) (by kernel_rfl) (fun _ _ _ h => h) (Or.inl ⟨by rfl, ?_⟩) (by assumption) ?_
            rotate_left
            · (intro wa hSw; go_simp; try with_reducible rfl)
            simp only [Act.put, List.getElem_toArray, List.getElem_cons_zero, List.getElem_cons_succ, List.setIfInBounds_toArray, List.set_cons_zero, List.set_cons_succ]
            refine wpAnyH_ready (rs := [4]) (by kernel_rfl) (by simp) ?_
            refine AllReadyH.cons (o := _) rfl (fun K hK => ?_) AllReadyH.nil
            go_simp
            (try go_wp2_with fail)
            refine hK.out _ _ ?_ (fun hHeld1 => ?_)
            · exact KS.out _ HVa.out
            clear hK K hHeld
            try simp only [Act.put, List.getElem_toArray, List.getElem_cons_zero, List.getElem_cons_succ, List.setIfInBounds_toArray, List.set_cons_zero, List.set_cons_succ]
            refine wpAnyH_ready (rs := [5]) (by kernel_rfl) (by simp) ?_
            refine AllReadyH.cons (o := _) rfl (fun K hK => ?_) AllReadyH.nil
            rw [if_pos (by rfl)]
            refine wp_append_own_spare _ (.tmp 43) (.tmp 45) 31 rfl V.heap.size 3 i0 1 Try.underlying31 hi hz1 Y i m _ (by rfl) HOa.out ⟨wr.drew.heap.size, 0, none⟩ 1 1 [.int .i64 (g : Int)] (by rfl) rfl HNW.out (by intro u hu; simp at hu; subst hu; rfl) (by omega) ?_
            intro w5 ho5 hg5
            have HV5 : Hid (Below V.heap.size V w5) := HVa.out.grown hg5 HVa.out.size (fun q h => by cases h; exact hVY)
            have HO5 := Lib.hid ho5
            have C5 := Lib.hid (CA.out w5 (.slice (some ⟨Y, 0, none⟩) (i + 1) m) (L.take i ++ [(g : Int)]) HV5.out (IntRow.of_list (base := V.heap.size) (e := 3) (by rw [List.length_append, List.length_take, List.length_singleton, Nat.min_eq_left (by have := HM.out; omega), List.map_append]; exact ho5) (by rw [List.length_append, List.length_take, List.length_singleton]; omega)))
            rw [HCE.out] at C5
            clear ho5 hg5
            refine hK.out _ _ ?_ (fun hHeld => ?_)
            · exact KS.out _ HV5.out
            clear hK K hHeld1
            try simp only [Act.put, List.getElem_toArray, List.getElem_cons_zero, List.getElem_cons_succ, List.setIfInBounds_toArray, List.set_cons_zero, List.set_cons_succ]
            refine wpAnyH_ready (rs := [6]) (by kernel_rfl) (by simp) ?_
            refine AllReadyH.cons (o := _) rfl (fun K hK => ?_) AllReadyH.nil
            go_simp
            refine C5.out.mono ?_
            rintro e w6 ⟨rfl, b⟩
            have HV6 : Hid (Below V.heap.size V w6) := HV5.out.trans (b.mono HV5.out.size)
            have HO6 := Lib.hid (owns_below HO5.out b (Nat.le_refl _))
            (try go_wp2_with fail)
            refine hK.out _ _ ?_ (fun hHeld1 => ?_)
            · exact KS.out _ HV6.out
            clear hK K hHeld
            try simp only [Act.put, List.getElem_toArray, List.getElem_cons_zero, List.getElem_cons_succ, List.setIfInBounds_toArray, List.set_cons_zero, List.set_cons_succ]
            refine wpAnyH_take (i := 7) (v := .int .i64 ((y + cn : Nat) : Int)) rfl (by kernel_rfl) (by kernel_rfl) (by kernel_rfl) (fun _ _ _ h => h) (Or.inl ⟨by rfl, ?_⟩) (by assumption) ?_
            · (intro wa hSw; go_simp)
            simp only [Act.put, List.getElem_toArray, List.getElem_cons_zero, List.getElem_cons_succ, List.setIfInBounds_toArray, List.set_cons_zero, List.set_cons_succ]
            refine wpAnyH_take (i := 8) (v := ?_) rfl (by kernel_rfl) (by kernel_rfl) (by kernel_rfl) (fun _ _ _ h => h) (Or.inl ⟨by rfl, ?_⟩) (by assumption) ?_
            rotate_left
            · (intro wa hSw; go_simp; try with_reducible rfl)
            simp only [Act.put, List.getElem_toArray, List.getElem_cons_zero, List.getElem_cons_succ, List.setIfInBounds_toArray, List.set_cons_zero, List.set_cons_succ]
            refine wpAnyH_done (by kernel_rfl) ?_ _
            have HO7 : Hid (w6.ownsRow V.heap.size 3 1 (.slice (some ⟨Y, 0, none⟩) i m) i ((L.take i).map (Value.int .i64))) := owns_front HO6.out
            clear hHeld1 KS OS HVd HVa HOa HNW HV5 HO5 C5 HO6 b
            go_wp2_with fail
            go_roundw
            case rel => exact ⟨g + 1, y + cn, by omega, by go_num, by first | rfl | go_num, HIN, HO7, HV6⟩
            case measure => simp [RowKit.intOf]; omega
          · have hge : g = xn := by omega
            subst hge
            have HIO : Hid (IdxO d L Rn (i + 1) y) := HII.out.done HOK.out (by rw [HM.out]; exact hlt) HLN.out (by rw [HXE.out]; omega)
            have HTK : Hid (L.take (i + 1) = L.take i ++ [(g : Int)]) := by show _ = _; rw [take_at (by rw [HM.out]; exact hlt), HXE.out]
            clear HII
            go_wp2_with (at_builtin; refine wpList_append_own_spare _ rfl (.tmp 50) (.tmp 52) 31 rfl V.heap.size 3 i0 1 Try.underlying31 hi hz1 Y i m _ rfl (HOW.out.alloc _) ⟨wr.heap.size, 0, none⟩ 1 1 [.int .i64 (g : Int)] rfl rfl (cell_one_new _ _ _) (by intro u hu; simp at hu; subst hu; rfl) (by omega) ?_; intro w5 ho5 hg5)
            have HO5 : Hid (w5.ownsRow V.heap.size 3 1 (.slice (some ⟨Y, 0, none⟩) (i + 1) m) (i + 1) ((L.take (i + 1)).map (Value.int .i64))) := by
              rw [HTK.out, List.map_append]
              exact ho5
            have HV5 : Hid (Below V.heap.size V w5) := (HVW.out.alloc HVW.out.size _).grown hg5 (by simp; have := HVW.out.size; omega) (fun q h => by cases h; exact hVY)
            clear ho5 hg5 HTK
            go_roundw
            case rel => exact ⟨i + 1, y, by omega, rfl, rfl, by go_num, HIO, HO5, HV5⟩
            case measure => simp [RowKit.intOf]; omega
      · have hie : i = m := by omega
        subst hie
        have hRR : idx = Rn := by
          have h9 := HIO.out
          rw [← HM.out] at h9
          exact h9.last
        have HBF : Hid (Below w.heap.size w wr) := HBV.out.trans (HVW.out.mono hwV)
        have HRF : Hid ((idx : Int) = R) := by show _ = _; rw [hRR, HRE.out]
        clear HIO HOW HVW hRR
        go_wp2
        go_ret
        exact ⟨by rw [HRF.out]; rfl, HBF.out⟩
end Go.Proofs.Ytmhkkdnopcdibaa
set_option linter.unusedVariables false
namespace Go.Proofs.Ytmhkkdnopcdibaa
open Go.RowKit

def sw (b g : Nat) : Nat := if g = 0 then b else if g = b then 0 else g
theorem sw_sw (b g : Nat) : sw b (sw b g) = g := by
  unfold sw
  by_cases h0 : g = 0
  · subst h0
    by_cases hb : b = 0
    · subst hb; simp
    · simp [hb]
  · by_cases hb : g = b
    · subst hb; simp [h0]
    · simp [h0, hb]
theorem sw_inj {b k g : Nat} : sw b k = sw b g ↔ k = g := ⟨fun h => by rw [← sw_sw b k, h, sw_sw], fun h => by rw [h]⟩
theorem sum_sw (F : Nat → Nat) (G b : Nat) (hG : G ≤ 4) (hb : b < G) : sumNN (fun g => F (sw b g)) G = sumNN F G := by
  have h : (G = 1 ∧ b = 0) ∨ (G = 2 ∧ (b = 0 ∨ b = 1)) ∨ (G = 3 ∧ (b = 0 ∨ b = 1 ∨ b = 2)) ∨ (G = 4 ∧ (b = 0 ∨ b = 1 ∨ b = 2 ∨ b = 3)) := by omega
  rcases h with ⟨rfl, rfl⟩ | ⟨rfl, rfl | rfl⟩ | ⟨rfl, rfl | rfl | rfl⟩ | ⟨rfl, rfl | rfl | rfl | rfl⟩ <;> simp [sumNN, sw] <;> omega
def swP (b : Nat) (P : Nat → Nat → Bool) : Nat → Nat → Bool := fun g p => P (sw b g) p
def swC (b : Nat) (C : Nat → Nat → Int) : Nat → Nat → Int := fun g c => C (sw b g) c
theorem put_swP (d : DrwD) (b i g : Nat) (P : Nat → Nat → Bool) : putP d (swP b P) i g true = swP b (putP d P i (sw b g) true) := by
  funext k p
  show (if k = g ∧ p = d.pot i then true else P (sw b k) p) = (if sw b k = sw b g ∧ p = d.pot i then true else P (sw b k) p)
  by_cases h : k = g ∧ p = d.pot i
  · rw [if_pos h, if_pos ⟨sw_inj.2 h.1, h.2⟩]
  · rw [if_neg h, if_neg (fun h9 => h ⟨sw_inj.1 h9.1, h9.2⟩)]
theorem put_swC (d : DrwD) (b i g : Nat) (C : Nat → Nat → Int) : putC d (swC b C) i g true = swC b (putC d C i (sw b g) true) := by
  funext k c
  show (if k = g ∧ c = d.cl i then C (sw b g) (d.cl i) + 1 else C (sw b k) c) = (if sw b k = sw b g ∧ c = d.cl i then C (sw b g) (d.cl i) + 1 else C (sw b k) c)
  by_cases h : k = g ∧ c = d.cl i
  · rw [if_pos h, if_pos ⟨sw_inj.2 h.1, h.2⟩]
  · rw [if_neg h, if_neg (fun h9 => h ⟨sw_inj.1 h9.1, h9.2⟩)]
theorem cnt_sw (d : DrwD) (b : Nat) (hG : d.G ≤ 4) (hb : b < d.G) : ∀ (f : Nat) (P : Nat → Nat → Bool) (C : Nat → Nat → Int) (i : Nat), cntF d f (swP b P) (swC b C) i = cntF d f P C i
  | 0, P, C, i => rfl
  | f + 1, P, C, i => by
    show (if i = d.N then 1 else sumNN (fun g => if fitB d (swP b P) (swC b C) i g = true then cntF d f (putP d (swP b P) i g true) (putC d (swC b C) i g true) (i + 1) else 0) d.G) = (if i = d.N then 1 else sumNN (fun g => if fitB d P C i g = true then cntF d f (putP d P i g true) (putC d C i g true) (i + 1) else 0) d.G)
    by_cases hi : i = d.N
    · rw [if_pos hi, if_pos hi]
    · rw [if_neg hi, if_neg hi, ← sum_sw (fun g => if fitB d P C i g = true then cntF d f (putP d P i g true) (putC d C i g true) (i + 1) else 0) d.G b hG hb]
      refine sumNN_congr _ fun g _ => ?_
      have e : fitB d (swP b P) (swC b C) i g = fitB d P C i (sw b g) := rfl
      rw [e, put_swP, put_swC, cnt_sw d b hG hb f]
theorem ch_sw (d : DrwD) (b : Nat) (hG : d.G ≤ 4) (hb : b < d.G) : ∀ (f : Nat) (P : Nat → Nat → Bool) (C : Nat → Nat → Int) (i h : Nat), chF d f (swP b P) (swC b C) i h = chF d f P C i (sw b h)
  | 0, P, C, i, h => by
    show (if fitB d (swP b P) (swC b C) i h = true then cntF d (d.N - (i + 1)) (putP d (swP b P) i h true) (putC d (swC b C) i h true) (i + 1) else 0) = (if fitB d P C i (sw b h) = true then cntF d (d.N - (i + 1)) (putP d P i (sw b h) true) (putC d C i (sw b h) true) (i + 1) else 0)
    have e : fitB d (swP b P) (swC b C) i h = fitB d P C i (sw b h) := rfl
    rw [e, put_swP, put_swC, cnt_sw d b hG hb]
  | f + 1, P, C, i, h => by
    show sumNN (fun g => if fitB d (swP b P) (swC b C) i g = true then chF d f (putP d (swP b P) i g true) (putC d (swC b C) i g true) (i + 1) h else 0) d.G = sumNN (fun g => if fitB d P C i g = true then chF d f (putP d P i g true) (putC d C i g true) (i + 1) (sw b h) else 0) d.G
    rw [← sum_sw (fun g => if fitB d P C i g = true then chF d f (putP d P i g true) (putC d C i g true) (i + 1) (sw b h) else 0) d.G b hG hb]
    refine sumNN_congr _ fun g _ => ?_
    have e : fitB d (swP b P) (swC b C) i g = fitB d P C i (sw b g) := rfl
    rw [e, put_swP, put_swC, ch_sw d b hG hb f]
theorem sum_constD (c : Nat) : ∀ G, sumNN (fun _ => c) G = G * c
  | 0 => by rw [Nat.zero_mul]; rfl
  | G + 1 => by
    show sumNN (fun _ => c) G + c = _
    rw [sum_constD c G, Nat.succ_mul]
theorem ch_each {d : DrwD} (ok : DrwOk d) {f h : Nat} (hf : f < d.N) (hh : h < d.G) : chF d f noP noC 0 h = cntP d [] / d.G := by
  have hG := ok.G
  have e0 : ∀ b, b < d.G → chF d f noP noC 0 b = chF d f noP noC 0 0 := fun b hb => by
    have h1 := ch_sw d b hG.2 hb f noP noC 0 0
    have e1 : swP b noP = noP := rfl
    have e2 : swC b noC = noC := rfl
    rw [e1, e2] at h1
    rw [h1]
    rfl
  have h1 := sum_ch d f noP noC 0 (by omega)
  rw [sumNN_congr d.G (g := fun _ => chF d f noP noC 0 0) (fun k hk => e0 k hk), sum_constD] at h1
  have h2 := (PreS.nil d).cnt ok (Nat.zero_le _)
  rw [h2, ← h1, e0 h hh, Nat.mul_div_cancel_left _ (by omega)]
end Go.Proofs.Ytmhkkdnopcdibaa
set_option linter.unusedVariables false
namespace Go.Proofs.Ytmhkkdnopcdibaa
open Go.RowKit

theorem owns_setCells {base : Nat} {e : TypeId} {size g n cap : Nat} (cs : List Value) : ∀ {w : World} {xs : List Value} (_ : w.ownsRow base e size (.slice (some ⟨g, 0, none⟩) n cap) n xs) (s : Nat),
    (w.setCells g s cs).ownsRow base e size (.slice (some ⟨g, 0, none⟩) n cap) n (setsFrom xs s cs) := by
  induction cs with
  | nil => intro w xs h s; exact h
  | cons u us ih => intro w xs h s; exact ih (h.stored s u).1 (s + 1)
theorem below_setCells {B0 g : Nat} {a : World} (cs : List Value) : ∀ {w : World} (_ : Below B0 a w) (_ : B0 ≤ g) (s : Nat), Below B0 a (w.setCells g s cs) := by
  induction cs with
  | nil => intro w h _ s; exact h
  | cons u us ih => intro w h hB s; exact ih (Below.setCell h (p := ⟨g, s, none⟩) hB u) hB (s + 1)
theorem run_copyR {P : Program} (w : World) (dT sT ty elem : TypeId) (i : TypeInfo) (k g o dLen dCap : Nat) (a : Addr) (sLen sCap : Nat) (cs : List Value)
    (hu : P.underlying dT = some (.slice elem)) (hi : P.info? elem = some i) (hk : i.size = k) (hn : cs.length = Nat.min sLen dLen * k)
    (hsrc : ∀ j v, cs[j]? = some v → w.cell? (a.add j) = some v) (hc : ∀ j, j < cs.length → (w.cell? ⟨g, o + j, none⟩).isSome = true) (hf : ∀ j, j < cs.length → w.frozen? ⟨g, o + j, none⟩ = false) (h1 : ∀ v ∈ cs, v.oneCell' = true) :
    (Builtin.copy_ #[dT, sT] ty #[.slice (some ⟨g, o, none⟩) dLen dCap, .slice (some a) sLen sCap]).run P w = .ok (goInt (Nat.min sLen dLen)) (w.setCells g o cs) := by
  have hl := run_loadCells_list (P := P) w a cs hsrc
  have hst := run_storeCells_cells (P := P) g o cs 0 w (by simpa using hc) (by simpa using hf) h1
  subst hk
  simp [Builtin.copy_, run_underlying hu, Builtin.lenOf, Builtin.firstCells, sizeOf, typeInfo, hi, ← hn, hl, hst]
section
variable {P : Program} {ops : Array Oper} {o : Oper} {a : Act} {w : World}
theorem upon_copyR {K : Act → World → Prop} {Q : Exit → Act → World → Prop} (d s : Operand) (dT sT : TypeId)
    (ho : o.op = .call { callee := .builtin .copy, args := #[d, s], argTypes := #[dT, sT] }) {base : Nat} {e : TypeId} {i : TypeInfo} {k : Nat} (hu : P.underlying dT = some (.slice e)) (hi : P.info? e = some i) (hk : i.size = k)
    {g n cap : Nat} {xs : List Value} (hown : w.ownsRow base e k (.slice (some ⟨g, 0, none⟩) n cap) n xs) (off dLen dCap : Nat) (ad : Addr) (sLen sCap : Nat)
    (hd : a.eval d = .slice (some ⟨g, off, none⟩) dLen dCap) (hs : a.eval s = .slice (some ad) sLen sCap) (cs : List Value) (q : Nat) (hq : q = Nat.min sLen dLen) (hn : cs.length = q * k)
    (hsrc : ∀ j v, cs[j]? = some v → w.cell? (ad.add j) = some v) (hfit : off + cs.length ≤ n * k) (h1 : ∀ v ∈ cs, v.oneCell' = true)
    (h : ∀ w', w'.ownsRow base e k (.slice (some ⟨g, 0, none⟩) n cap) n (setsFrom xs off cs) → Below base w w' → K (a.put o.dst (.int .i64 q)) w') :
    Oper.wp P o a w K Q := by
  subst hq
  have hlt := (hown.lt g rfl).1
  have hlen := hown.1
  have hrun := run_copyR (P := P) w dT sT o.type e i k g off dLen dCap ad sLen sCap cs hu hi hk hn hsrc
    (fun j hj => by rw [hown.cellAt _ (by omega)]; rw [List.getElem?_eq_getElem (by omega)]; rfl) (fun j hj => hown.frozenAt _) h1
  unfold Oper.wp
  simp [execOp, ho, resolve, invoke, builtin, hd, hs, hrun, Result.andThen]
  exact h _ (owns_setCells cs hown off) (below_setCells cs (Below.refl _ _) hlt off)
theorem step_copyR {K : Act → World → Prop} {Q : Exit → Act → World → Prop} {E : Prop} (hgd : o.guard = none) (d s : Operand) (dT sT : TypeId)
    (ho : o.op = .call { callee := .builtin .copy, args := #[d, s], argTypes := #[dT, sT] }) {base : Nat} {e : TypeId} {i : TypeInfo} {k : Nat} (hu : P.underlying dT = some (.slice e)) (hi : P.info? e = some i) (hk : i.size = k)
    {g n cap : Nat} {xs : List Value} (hown : w.ownsRow base e k (.slice (some ⟨g, 0, none⟩) n cap) n xs) (off dLen dCap : Nat) (ad : Addr) (sLen sCap : Nat)
    (hd : a.eval d = .slice (some ⟨g, off, none⟩) dLen dCap) (hs : a.eval s = .slice (some ad) sLen sCap) (cs : List Value) (q : Nat) (hq : q = Nat.min sLen dLen) (hn : cs.length = q * k)
    (hsrc : ∀ j v, cs[j]? = some v → w.cell? (ad.add j) = some v) (hfit : off + cs.length ≤ n * k) (h1 : ∀ v ∈ cs, v.oneCell' = true)
    (h : ∀ w', w'.ownsRow base e k (.slice (some ⟨g, 0, none⟩) n cap) n (setsFrom xs off cs) → Below base w w' → K (a.put o.dst (.int .i64 q)) w') :
    if Region.wanted o (yielded ops a.tmps) = true then Oper.wp P o a w K Q else E := by
  have hw : Region.wanted o (yielded ops a.tmps) = true := by simp [Region.wanted, hgd]
  rw [if_pos hw]
  exact upon_copyR d s dT sT ho hu hi hk hown off dLen dCap ad sLen sCap hd hs cs q hq hn hsrc hfit h1 h
theorem wpList_copyR {rest : List Oper} {Q : Exit → Act → World → Prop} (hgd : o.guard = none) (d s : Operand) (dT sT : TypeId)
    (ho : o.op = .call { callee := .builtin .copy, args := #[d, s], argTypes := #[dT, sT] }) {base : Nat} {e : TypeId} {i : TypeInfo} {k : Nat} (hu : P.underlying dT = some (.slice e)) (hi : P.info? e = some i) (hk : i.size = k)
    {g n cap : Nat} {xs : List Value} (hown : w.ownsRow base e k (.slice (some ⟨g, 0, none⟩) n cap) n xs) (off dLen dCap : Nat) (ad : Addr) (sLen sCap : Nat)
    (hd : a.eval d = .slice (some ⟨g, off, none⟩) dLen dCap) (hs : a.eval s = .slice (some ad) sLen sCap) (cs : List Value) (q : Nat) (hq : q = Nat.min sLen dLen) (hn : cs.length = q * k)
    (hsrc : ∀ j v, cs[j]? = some v → w.cell? (ad.add j) = some v) (hfit : off + cs.length ≤ n * k) (h1 : ∀ v ∈ cs, v.oneCell' = true)
    (h : ∀ w', w'.ownsRow base e k (.slice (some ⟨g, 0, none⟩) n cap) n (setsFrom xs off cs) → Below base w w' → wpList P ops Q rest (a.put o.dst (.int .i64 q)) w') :
    wpList P ops Q (o :: rest) a w := by
  refine wpList_plain hgd fun K hK => ?_
  exact upon_copyR d s dT sT ho hu hi hk hown off dLen dCap ad sLen sCap hd hs cs q hq hn hsrc hfit h1 (fun w' h1 h2 => hK _ _ (h w' h1 h2))
end
theorem cells_add {w : World} {B off : Nat} {cs : List Value} (h : CellsAt w B off cs) : ∀ j v, cs[j]? = some v → w.cell? ((⟨B, off, none⟩ : Addr).add j) = some v := fun j v hv => by
  have hadd : (⟨B, off, none⟩ : Addr).add j = ⟨B, off + j, none⟩ := by unfold Addr.add; split <;> simp_all
  rw [hadd]
  exact h.2 j v hv
def rep (cs : List Value) (q : Nat) : List Value := flatR (fun _ => cs) q
theorem rep_len {k : Nat} {cs : List Value} (h : cs.length = k) (q : Nat) : (rep cs q).length = q * k := flatR_len k _ q fun _ _ => h
theorem rep_cells {k : Nat} {cs : List Value} (h : cs.length = k) (q : Nat) : RecCells k q (rep cs q) (fun _ => cs) := flatR_cells k _ q fun _ _ => h
theorem cells_more {k n m q : Nat} {xs cs : List Value} (h : RecCells k m xs (fun _ => cs)) (hl : xs.length = n * k) (hcl : cs.length = k) (hmq : m + q ≤ n) :
    RecCells k (m + q) (setsFrom xs (m * k) (rep cs q)) (fun _ => cs) := by
  have hmul : m * k + q * k ≤ n * k := by rw [← Nat.add_mul]; exact Nat.mul_le_mul_right k hmq
  have hrl := rep_len hcl q
  intro i hi j u hu
  have hj : j < k := by rw [← hcl]; exact (List.getElem?_eq_some_iff.1 hu).1
  by_cases him : i < m
  · rw [setsFrom_out]
    · exact h i him j u hu
    · left
      have := Nat.mul_le_mul_right k (show i + 1 ≤ m by omega)
      rw [Nat.succ_mul] at this
      omega
  · obtain ⟨d, rfl⟩ : ∃ d, i = m + d := ⟨i - m, by omega⟩
    rw [show (m + d) * k + j = m * k + (d * k + j) by rw [Nat.add_mul]; omega]
    exact setsFrom_in _ _ _ _ u (by omega) (rep_cells hcl q d (by omega) j u hu)
theorem first_cells {k : Nat} {xs cs : List Value} (hcl : cs.length = k) (hl : k ≤ xs.length) : RecCells k 1 (setsFrom xs 0 cs) (fun _ => cs) := by
  intro i hi j u hu
  obtain rfl : i = 0 := by omega
  rw [Nat.zero_mul]
  exact setsFrom_in cs xs 0 j u (by omega) hu
theorem rep_one {cs : List Value} {q : Nat} {v : Value} (h1 : ∀ v ∈ cs, v.oneCell' = true) (h : v ∈ rep cs q) : v.oneCell' = true := by
  unfold rep flatR at h
  rw [List.mem_flatMap] at h
  obtain ⟨_, _, h⟩ := h
  exact h1 v h
theorem rep_at {w : World} {base g n cap m q k : Nat} {e : TypeId} {xs cs : List Value} (ho : w.ownsRow base e k (.slice (some ⟨g, 0, none⟩) n cap) n xs) (h : RecCells k m xs (fun _ => cs)) (hcl : cs.length = k) (hk : 0 < k) (hq : q ≤ m) (hm : m ≤ n) :
    ∀ j v, (rep cs q)[j]? = some v → w.cell? ((⟨g, 0, none⟩ : Addr).add j) = some v := by
  intro j v hv
  have hadd : (⟨g, 0, none⟩ : Addr).add j = ⟨g, j, none⟩ := by unfold Addr.add; split <;> simp_all
  obtain ⟨h1, h2⟩ := flatR_get k _ q (fun _ _ => hcl) hk j v hv
  have h3 := h (j / k) (by omega) (j % k) v h2
  rw [Nat.mul_comm, Nat.div_add_mod] at h3
  have hlen := ho.1
  have hj : j < xs.length := (List.getElem?_eq_some_iff.1 h3).1
  rw [hadd, ho.cellAt _ (by omega)]
  exact h3
end Go.Proofs.Ytmhkkdnopcdibaa
set_option linter.unusedVariables false
namespace Go.Proofs.Ytmhkkdnopcdibaa
open Go.RowKit

set_option maxRecDepth 100000 in
set_option maxHeartbeats 1000000 in
theorem repeatI_impl (n : Nat) (hn : 1 ≤ n ∧ n ≤ 8) (B : Nat) (cs : List Value) (hl : cs.length = 1) (h1 : ∀ v ∈ cs, v.oneCell' = true) (w : World) (hB : CellsAt w B 0 cs) :
    Calls Try.prog 54 #[.slice (some ⟨B, 0, none⟩) 1 1, .int .i64 n] w fun e w' => ∃ gg xs, e = .returned (.slice (some ⟨gg, 0, none⟩) n n) ∧ w'.ownsRow w.heap.size 3 1 (.slice (some ⟨gg, 0, none⟩) n n) n xs ∧
      RecCells 1 n xs (fun _ => cs) ∧ Below w.heap.size w w' := by
  obtain ⟨hn1, hn8⟩ := hn
  obtain ⟨i0, hi, hz0, hz1, hz2⟩ := info_parts Try.infoI
  have hw1 : IntKind.u64.wrap (n : Int) = n := by simp [IntKind.wrap, IntKind.bits, IntKind.signed]; omega
  have CM : Hid (∀ w1, Calls Try.prog 87 #[.int .u64 1, .int .u64 n] w1 fun e w' => e = .returned (.tuple #[.int .u64 0, .int .u64 n]) ∧ w' = w1) := fun w1 => by
    have h := Try.bits_Mul 1 n (by decide) (by omega) w1
    rw [Nat.one_mul, Nat.div_eq_of_lt (by omega), Nat.mod_eq_of_lt (by omega)] at h
    exact h
  have g0 : decide ((n : Int) < 0) = false := decide_eq_false (by omega)
  have g1 : decide (9223372036854775807 < (n : Int)) = false := decide_eq_false (by omega)
  have hn0 : (0 : Int) ≤ n := by omega
  have HBc := Lib.hid hB
  have H1 := Lib.hid h1
  clear hB h1
  go_enter Try.func54, Try.ntmps54
  go_wp2_with (first | (go_at_call 87; refine (CM.out _).mono ?_; rintro e w1 ⟨rfl, hw⟩; rw [hw]; clear hw) | (at_make; refine wpList_make_full _ rfl _ _ 31 rfl w.heap.size 3 i0 (.int .i64 0) 1 Try.underlying31 hi hz0 hz1 .i64 .i64 n n n rfl rfl rfl rfl (by rw [hz2]; omega) (by unfold maxLen; omega) (Nat.le_refl _) ?_; intro w1 hown hg1) | (with_reducible show wpList _ _ _ ((⟨some 33, _, _, _, _, _⟩ : Oper) :: _) _ _; refine wpList_copyR (o := ⟨some 33, _, _, _, _, _⟩) rfl (.tmp 31) (.tmp 32) 31 31 rfl Try.underlying31 hi hz1 hown 0 n n ⟨B, 0, none⟩ 1 1 rfl rfl cs 1 (by show 1 = min 1 n; omega) (by omega) (cells_add (HBc.out.below ((Below.refl _ _).grown hg1 (Nat.le_refl _) (fun k hk => by cases hk)))) (by omega) H1.out ?_; intro w2 ho2 hb2))
  have HO2 := Lib.hid ho2
  have HC2 := Lib.hid (first_cells (xs := (madeCells (Value.int .i64 0).cells (n * 1)).toList) hl (by have := hown.1; omega))
  have HB2 := Lib.hid (((Below.refl w.heap.size w).grown hg1 (Nat.le_refl _) (fun k hk => by cases hk)).trans hb2)
  clear ho2 hb2 hown hg1 HBc CM hw1
  go_loopw [8] (fun i wr => ∃ (m : Nat) (xs : List Value), 1 ≤ m ∧ m ≤ n ∧ i = .int .i64 m ∧ Hid (wr.ownsRow w.heap.size 3 1 (.slice (some ⟨w.heap.size, 0, none⟩) n n) n xs) ∧ Hid (RecCells 1 m xs (fun _ => cs)) ∧ Hid (Below w.heap.size w wr)) (fun i _ => n - (RowKit.intOf i).toNat)
  case atStart => exact ⟨1, _, Nat.le_refl _, hn1, rfl, HO2, HC2, HB2⟩
  case round =>
    clear HO2 HC2 HB2
    obtain ⟨m, xs, hm1, hmn, rfl, HO, HC, HB⟩ := hrel
    by_cases hlt : m < n
    · have hmi : (m : Int) < n := by omega
      have hm0 : (0 : Int) ≤ m := by omega
      have hmn' : (m : Int) ≤ n := by omega
      obtain ⟨q, hq⟩ : ∃ q, q = min m (n - m) := ⟨_, rfl⟩
      have hq1 : 1 ≤ q := by omega
      have hqm : q ≤ m := by omega
      have hqn : m + q ≤ n := by omega
      have HQ := Lib.hid hq
      have hwr : IntKind.i64.wrap ((m : Int) + q) = m + q := by simp [IntKind.wrap, IntKind.bits, IntKind.signed]; omega
      clear hq
      have HOd := Lib.hid (owns_below HO.out (Below.refl wr.heap.size wr).drew (Nat.le_refl _))
      have HBd := Lib.hid (HB.out.drew)
      obtain ⟨gg, hgg⟩ : ∃ gg, gg = w.heap.size := ⟨_, rfl⟩
      have Hgg := Lib.hid hgg
      clear hgg
      go_wp2_with fail
      refine Await.begin (S := Until 7 (fun _ => True)) (by kernel_rfl) ?_ (fun hS => ?_)
      · exact Until.of trivial
      refine Await.pure (i := 0) (v := ?_) rfl (by kernel_rfl) (by kernel_rfl) (by kernel_rfl) (by kernel_rfl) (fun _ _ _ h => h) (Or.inl ⟨by rfl, ?_⟩) (by assumption) ?_
      rotate_left
      · (intro wa _; go_simp; try with_reducible rfl)
      simp only [Act.put, List.getElem_toArray, List.getElem_cons_zero, List.setIfInBounds_toArray, List.set_cons_zero, List.set_cons_succ]
      refine Await.pure (i := 1) (v := ?_) rfl (by kernel_rfl) (by kernel_rfl) (by kernel_rfl) (by kernel_rfl) (fun _ _ _ h => h) (Or.inl ⟨by rfl, ?_⟩) (by assumption) ?_
      rotate_left
      · (intro wa _; go_simp; try with_reducible rfl)
      simp only [Act.put, List.getElem_toArray, List.getElem_cons_zero, List.getElem_cons_succ, List.setIfInBounds_toArray, List.set_cons_zero, List.set_cons_succ]
      refine Await.pure (i := 2) (v := ?_) rfl (by kernel_rfl) (by kernel_rfl) (by kernel_rfl) (by kernel_rfl) (fun _ _ _ h => h) (Or.inl ⟨by rfl, ?_⟩) (by assumption) ?_
      rotate_left
      · (intro wa _; go_simp; try with_reducible rfl)
      simp only [Act.put, List.getElem_toArray, List.getElem_cons_zero, List.getElem_cons_succ, List.setIfInBounds_toArray, List.set_cons_zero, List.set_cons_succ]
      refine Await.pure (i := 3) (v := .slice (some ⟨w.heap.size, m * 1, none⟩) (n - m) (n - m)) rfl (by kernel_rfl) (by kernel_rfl) (by kernel_rfl) (by kernel_rfl) (fun _ _ _ h => h) (Or.inl ⟨by rfl, ?_⟩) (by assumption) ?_
      · (intro wa _; go_simp; try omega)
      simp only [Act.put, List.getElem_toArray, List.getElem_cons_zero, List.getElem_cons_succ, List.setIfInBounds_toArray, List.set_cons_zero, List.set_cons_succ]
      refine Await.pure (i := 4) (v := ?_) rfl (by kernel_rfl) (by kernel_rfl) (by kernel_rfl) (by kernel_rfl) (fun _ _ _ h => h) (Or.inl ⟨by rfl, ?_⟩) (by assumption) ?_
      rotate_left
      · (intro wa _; go_simp; try with_reducible rfl)
      simp only [Act.put, List.getElem_toArray, List.getElem_cons_zero, List.getElem_cons_succ, List.setIfInBounds_toArray, List.set_cons_zero, List.set_cons_succ]
      refine Await.pure (i := 5) (v := ?_) rfl (by kernel_rfl) (by kernel_rfl) (by kernel_rfl) (by kernel_rfl) (fun _ _ _ h => h) (Or.inl ⟨by rfl, ?_⟩) (by assumption) ?_
      rotate_left
      · (intro wa _; go_simp; try with_reducible rfl)
      simp only [Act.put, List.getElem_toArray, List.getElem_cons_zero, List.getElem_cons_succ, List.setIfInBounds_toArray, List.set_cons_zero, List.set_cons_succ]
      refine Await.pure (i := 6) (v := .slice (some ⟨w.heap.size, 0, none⟩) m n) rfl (by kernel_rfl) (by kernel_rfl) (by kernel_rfl) (by kernel_rfl) (fun _ _ _ h => h) (Or.inl ⟨by rfl, ?_⟩) (by assumption) ?_
      · (intro wa _; go_simp; try omega)
      simp only [Act.put, List.getElem_toArray, List.getElem_cons_zero, List.getElem_cons_succ, List.setIfInBounds_toArray, List.set_cons_zero, List.set_cons_succ]
      refine Await.step (i := 7) (o := _) (by kernel_rfl) rfl (fun K1 hK1' => ?_)
      refine step_copyR rfl (.tmp 41) (.tmp 44) 31 31 rfl Try.underlying31 hi hz1 HOd.out (m * 1) (n - m) (n - m) ⟨w.heap.size, 0, none⟩ m n rfl rfl (rep cs q) q HQ.out (rep_len hl q) (rep_at HOd.out HC.out hl (by decide) hqm hmn) (by rw [rep_len hl q]; omega) (fun v hv => rep_one H1.out hv) ?_
      intro w3 ho3 hb3
      refine hK1'.out _ _ ?_ (fun hS => ?_)
      · exact Until.over (by kernel_rfl)
      clear hK1' K1
      clear hS
      have hS : Until 7 (fun _ : World => True) #[true, true, true, true, true, true, true, true, false, false] w3 := Until.of trivial
      refine Await.pure (i := 8) (v := ?_) rfl (by kernel_rfl) (by kernel_rfl) (by kernel_rfl) (by kernel_rfl) (fun _ _ _ h => h) (Or.inl ⟨by rfl, ?_⟩) (by assumption) ?_
      rotate_left
      · (intro wa _; go_simp; try with_reducible rfl)
      simp only [Act.put, List.getElem_toArray, List.getElem_cons_zero, List.getElem_cons_succ, List.setIfInBounds_toArray, List.set_cons_zero, List.set_cons_succ]
      refine Await.pure (i := 9) (v := ?_) rfl (by kernel_rfl) (by kernel_rfl) (by kernel_rfl) (by kernel_rfl) (fun _ _ _ h => h) (Or.inl ⟨by rfl, ?_⟩) (by assumption) ?_
      rotate_left
      · (intro wa _; go_simp; try with_reducible rfl)
      simp only [Act.put, List.getElem_toArray, List.getElem_cons_zero, List.getElem_cons_succ, List.setIfInBounds_toArray, List.set_cons_zero, List.set_cons_succ]
      refine Await.done (by kernel_rfl) ?_ _
      have HC3 := Lib.hid (cells_more HC.out HOd.out.1 hl hqn)
      have HO3 := Lib.hid ho3
      have HB3 := Lib.hid (HBd.out.trans hb3)
      clear hS ho3 hb3 HOd HBd HO HC HB
      go_wp2
      go_roundw
      case rel => exact ⟨m + q, _, by omega, hqn, by go_num, HO3, HC3, HB3⟩
      case measure => simp [RowKit.intOf]; omega
    · obtain rfl : m = n := by omega
      go_wp2
      go_ret
      exact ⟨_, xs, rfl, HO.out, HC.out, HB.out⟩

end Go.Proofs.Ytmhkkdnopcdibaa
set_option linter.unusedVariables false
namespace Go.Proofs.Ytmhkkdnopcdibaa
open Go.RowKit

def inRow (x : Int) (r : List Int) : Bool := decide (0 ≤ placeI (getI r) x r.length 0)
theorem has_mem12 (x : Int) (L : List Int) : hasP (getI L) x L.length ↔ x ∈ L := by
  unfold hasP
  rw [List.mem_iff_getElem]
  exact ⟨fun ⟨j, h1, h2⟩ => ⟨j, h1, by rw [← getI_ok h1]; exact h2⟩, fun ⟨j, h1, h2⟩ => ⟨j, h1, by rw [getI_ok h1]; exact h2⟩⟩
theorem inRow_iff (x : Int) (r : List Int) : inRow x r = true ↔ x ∈ r := by
  unfold inRow
  rw [decide_eq_true_eq, placeI_has, has_mem12]
theorem any_row (x : Int) (T : List (List Int)) : (∃ j, j < T.length ∧ inRow x (T.getD j []) = true) ↔ x ∈ T.flatten := by
  rw [List.mem_flatten]
  constructor
  · rintro ⟨j, h1, h2⟩
    rw [inRow_iff, List.getD_eq_getElem?_getD, List.getElem?_eq_getElem h1] at h2
    exact ⟨_, List.getElem_mem h1, h2⟩
  · rintro ⟨r, h1, h2⟩
    obtain ⟨j, hj, rfl⟩ := List.mem_iff_getElem.1 h1
    exact ⟨j, hj, by rw [inRow_iff, List.getD_eq_getElem?_getD, List.getElem?_eq_getElem hj]; exact h2⟩
set_option maxRecDepth 100000 in
set_option maxHeartbeats 2000000 in
theorem hasTeam1_impl (x : Int) (B : Nat) (r : List Int) (a : Option Addr) (k : Nat) (w : World) (hb : BoxN w B [.int .i64 x]) (h : IntRow w (.slice a r.length k) r.length (getI r)) :
    Calls Try.prog 85 #[.slice a r.length k, .pointer (some ⟨B, 0, none⟩)] w fun e w' => e = .returned (.bool (inRow x r)) ∧ Below w.heap.size w w' := by
  obtain ⟨R, hR⟩ : ∃ R, inRow x r = R := ⟨_, rfl⟩
  have H := Lib.hid (slicesContains_int (.slice a r.length k) r.length (getI r) x R w (by rw [← hR, inRow_iff, has_mem12]) h)
  have c0 := hb.2 0 _ rfl
  rw [hR]
  have hl := h.form
  obtain ⟨_, _, _, hl, _⟩ := hl
  generalize r.length = n at *
  clear hb h hR
  go_enter Try.func85, Try.ntmps85
  go_wp2_with (go_at_call 86; refine H.out.mono ?_; rintro e w' ⟨rfl, rfl⟩)
  go_ret
  exact ⟨rfl, Below.refl _ _⟩
set_option maxRecDepth 100000 in
set_option maxHeartbeats 2000000 in
theorem hasTeam_impl (v : Value) (T : List (List Int)) (gr most x : Int) (R : Bool) (w : World) (hR : R = true ↔ x ∈ T.flatten) (h : RdA tIntSS w [v] T) :
    Calls Try.prog 53 #[.agg #[v, .int .i64 gr, .int .i64 most], .int .i64 x] w fun e w' => e = .returned (.bool R) ∧ Below w.heap.size w w' := by
  obtain ⟨pa, pc, rfl, hpn⟩ := pots_form h
  obtain ⟨W, hW⟩ : ∃ W, (w.alloc (.cells #[.slice pa (List.length (α := List Int) T) pc, .int .i64 gr, .int .i64 most] 26)).alloc (.cells #[.int .i64 x] 3) = W := ⟨_, rfl⟩
  have b1 : Below w.heap.size w (w.alloc (.cells #[.slice pa (List.length (α := List Int) T) pc, .int .i64 gr, .int .i64 most] 26)) := (Below.refl _ _).alloc (Nat.le_refl _) _
  have bW : Below w.heap.size w W := by rw [← hW]; exact b1.alloc b1.size _
  have HBX : Hid (BoxN W (w.heap.size + 1) [.int .i64 x]) := by
    rw [← hW]
    have := BoxN.made (u := w.alloc (.cells #[.slice pa (List.length (α := List Int) T) pc, .int .i64 gr, .int .i64 most] 26)) (Below.refl _ _) (B := w.heap.size + 1) (cs := #[.int .i64 x]) (t := 3) (by simp)
    exact this
  have HP0 : Hid (BoxN W w.heap.size [.slice pa (List.length (α := List Int) T) pc, .int .i64 gr, .int .i64 most]) := by
    rw [← hW]
    exact (BoxN.made (Below.refl _ _) rfl).below ((Below.refl _ _).alloc (Nat.le_refl _) _)
  have HRD : Hid (RdA tIntSS W [.slice pa (List.length (α := List Int) T) pc] T) := RdA.below h bW
  have CR := Lib.hid (anyRowsC 85 (enters_of Try.func85 (by kernel_rfl) rfl) (some ⟨w.heap.size + 1, 0, none⟩) (.slice pa (List.length (α := List Int) T) pc) T (inRow x) R W (by rw [hR, any_row]) HRD.out
    (fun r a k wa hb hrow => hasTeam1_impl x (w.heap.size + 1) r a k wa (HBX.out.below hb) hrow))
  have HB := Lib.hid bW
  have c0 := HP0.out.2 0 _ rfl
  generalize List.length (α := List Int) T = np at *
  have HWE := Lib.hid hW
  clear hW h bW b1 hR
  go_enter Try.func53, Try.ntmps53
  go_upto_region 1 with fail
  rw [HWE.out]
  clear HWE
  go_wp2_with fail
  refine CR.out.mono ?_
  rintro e w2 ⟨rfl, b⟩
  have HB2 := Lib.hid (HB.out.trans (b.mono HB.out.size))
  clear b CR c0
  go_wp2
  go_ret
  exact ⟨rfl, HB2.out⟩
end Go.Proofs.Ytmhkkdnopcdibaa
set_option linter.unusedVariables false
namespace Go.Proofs.Ytmhkkdnopcdibaa
open Go.RowKit

set_option maxRecDepth 100000 in
set_option maxHeartbeats 8000000 in
theorem chancesOf_impl (vf : Value) (nf : Nat) (F : Nat → TeamD) (vp : Value) (gr most : Int) (T : List (List Int)) (x : Int) (R : List Int) (w : World) (hR : potsP nf F T gr most → R = chL F T gr most x) (hR0 : ¬ potsP nf F T gr most → R = []) (hf : TeamRow w vf nf F) (hs : ∀ i, (F i).nm.size ≤ maxLen) (h : RdA tIntSS w [vp] T) (hw : tIntSS.wt T ≤ 1048576) :
    Calls Try.prog 21 #[vf, .agg #[vp, .int .i64 gr, .int .i64 most], .int .i64 x] w (IntsL w R) := by
  obtain ⟨pa, pc, rfl, hpn⟩ := pots_form h
  obtain ⟨U, hU⟩ : ∃ U, w.alloc (.cells #[.slice pa (List.length (α := List Int) T) pc, .int .i64 gr, .int .i64 most] 26) = U := ⟨_, rfl⟩
  have bU : Below w.heap.size w U := by rw [← hU]; exact (Below.refl _ _).alloc (Nat.le_refl _) _
  have HS : Hid (PotsAt U w.heap.size pa (List.length (α := List Int) T) pc gr most T) := by rw [← hU]; exact PotsAt.made h
  have HB := Lib.hid bU
  have hf1 := hf.below bU (Nat.le_refl _)
  obtain ⟨fa, fc, rfl, hfn, _⟩ := hf.form
  by_cases hp : potsP nf F T gr most
  case neg =>
    obtain rfl : R = [] := hR0 hp
    have CF := Lib.hid (drawingOf_no (.slice fa nf fc) nf F (.slice pa (List.length (α := List Int) T) pc) gr most T U hp hf1 hs HS.out.2 hw)
    generalize List.length (α := List Int) T = np at *
    have c0 := HS.out.1.2 0 _ rfl
    have c1 := HS.out.1.2 1 _ rfl
    have c2 := HS.out.1.2 2 _ rfl
    clear hp hR hR0 h hf hf1 hs hw bU
    go_enter Try.func21, Try.ntmps21
    go_wp2_with fail
    clear hU c0 c1 c2
    refine CF.out.mono ?_
    rintro e w1 ⟨rfl, b⟩
    have HB1 := Lib.hid (HB.out.trans (b.mono HB.out.size))
    clear b CF
    go_wp2
    go_ret
    exact ⟨_, rfl, World.ownsRow_nil _ _ _ _, HB1.out.alloc HB1.out.size _⟩
  have CF := Lib.hid (drawingOf_yes (.slice fa nf fc) nf F (.slice pa (List.length (α := List Int) T) pc) gr most T U hp hf1 hs HS.out.2 hw)
  have HOK := Lib.hid (drw_ok hp)
  have HHT : Hid (∀ (rr : Bool), (rr = true ↔ x ∈ T.flatten) → ∀ wa, Below U.heap.size U wa → Calls Try.prog 53 #[.agg #[.slice pa (List.length (α := List Int) T) pc, .int .i64 gr, .int .i64 most], .int .i64 x] wa fun e w' => e = .returned (.bool rr) ∧ Below wa.heap.size wa w') :=
    fun rr hrr wa hb => hasTeam_impl (.slice pa (List.length (α := List Int) T) pc) T gr most x rr wa hrr (RdA.below HS.out.2 hb)
  have HUB : Hid (∀ wa, Below U.heap.size U wa → BoxN wa w.heap.size [.slice pa (List.length (α := List Int) T) pc, .int .i64 gr, .int .i64 most]) := fun wa hb => HS.out.1.below hb
  obtain ⟨rr, hrr⟩ := boolEx (x ∈ T.flatten)
  have HRY : Hid (R = if rr = true then (List.range (drwD F T gr most).G).map (fun _ => ((cntP (drwD F T gr most) [] / (drwD F T gr most).G : Nat) : Int)) else []) := by
    show R = _
    rw [hR hp]
    unfold chL
    have hcast : ∀ m, m < T.flatten.length → ((teamAt T m : Nat) : Int) = getI T.flatten m := fun m hm => by
      have := (hp.2.2.2.2.2 m hm).1
      show ((getI T.flatten m).toNat : Int) = _
      omega
    have hiff : 0 ≤ placeI (fun i => ((teamAt T i : Nat) : Int)) x T.flatten.length 0 ↔ rr = true := by
      rw [hrr, placeI_has, ← has_mem12]
      exact ⟨fun ⟨j, h1, h2⟩ => ⟨j, h1, by rw [← hcast j h1]; exact h2⟩, fun ⟨j, h1, h2⟩ => ⟨j, h1, by show ((teamAt T j : Nat) : Int) = x; rw [hcast j h1]; exact h2⟩⟩
    by_cases hc : rr = true
    · rw [if_pos (hiff.2 hc), if_pos hc]
      have hlt := placeI_lt (fun i => ((teamAt T i : Nat) : Int)) x T.flatten.length 0
      have h0 := hiff.2 hc
      show (List.range (drwD F T gr most).G).map _ = _
      refine List.map_congr_left fun g hg => ?_
      rw [ch_each HOK.out (by show _ < T.flatten.length; omega) (List.mem_range.1 hg)]
    · rw [if_neg (fun h9 => hc (hiff.1 h9)), if_neg hc]
  have HHT2 : Hid (∀ wa, Below U.heap.size U wa → Calls Try.prog 53 #[.agg #[.slice pa (List.length (α := List Int) T) pc, .int .i64 gr, .int .i64 most], .int .i64 x] wa fun e w' => e = .returned (.bool rr) ∧ Below wa.heap.size wa w') := HHT.out rr hrr
  have HUV := HB
  clear HHT hrr
  generalize drwD F T gr most = d at *
  generalize List.length (α := List Int) T = np at *
  have c0 := HS.out.1.2 0 _ rfl
  have c1 := HS.out.1.2 1 _ rfl
  have c2 := HS.out.1.2 2 _ rfl
  clear hp hR hR0 h hf hf1 hs hw bU
  go_enter Try.func21, Try.ntmps21
  go_wp2_with fail
  clear hU c0 c1 c2
  refine CF.out.mono ?_
  rintro e w1 ⟨tv, rfl, ht, b⟩
  obtain ⟨ta, tc, rfl⟩ := ht.form
  have HB1 := Lib.hid (HB.out.trans (b.mono HB.out.size))
  have HUU := Lib.hid b
  obtain ⟨V, hV⟩ : ∃ V, w1.alloc (.cells #[.slice ta d.N tc, .int .i64 d.G, .int .i64 d.most] 61) = V := ⟨_, rfl⟩
  have bV : Below w1.heap.size w1 V := by rw [← hV]; exact (Below.refl _ _).alloc (Nat.le_refl _) _
  have HUV : Hid (Below U.heap.size U V) := HUU.out.trans (bV.mono HUU.out.size)
  have HX : Hid (BoxN V w1.heap.size [.slice ta d.N tc, .int .i64 d.G, .int .i64 d.most]) := by rw [← hV]; exact BoxN.made (Below.refl _ _) rfl
  have HBV : Hid (Below w.heap.size w V) := HB1.out.trans (bV.mono HB1.out.size)
  have HT : Hid (TurnsAt V (.slice ta d.N tc) d) := RecRow.below ht bV (Nat.le_refl _)
  have CA : Hid (∀ (wa : World) (vp : Value) (L : List Int), Below V.heap.size V wa → IntRow wa vp L.length (getI L) → Calls Try.prog 44 #[.agg #[.slice ta d.N tc, .int .i64 d.G, .int .i64 d.most], vp] wa fun e w' => e = .returned (.int .i64 (cntP d L)) ∧ Below wa.heap.size wa w') := fun wa vp L hb hv =>
    countFrom_impl ta tc d HOK.out vp L wa (RecRow.below HT.out hb (Nat.le_refl _)) hv
  have HWE := Lib.hid hV
  clear b ht CF HS HB hV bV HB1 HT
  go_upto_region 2 with fail
  rw [HWE.out]
  clear HWE
  have hXV : w1.heap.size < V.heap.size := HX.out.1
  have hwV := HBV.out.size
  generalize w1.heap.size = X at *
  have c0 := HX.out.2 0 _ rfl
  have c1 := HX.out.2 1 _ rfl
  have c2 := HX.out.2 2 _ rfl
  have e0 := (HUB.out V HUV.out).2 0 _ rfl
  have e1 := (HUB.out V HUV.out).2 1 _ rfl
  have e2 := (HUB.out V HUV.out).2 2 _ rfl
  have CT := Lib.hid (HHT2.out V HUV.out)
  go_wp2_with fail
  refine CT.out.mono ?_
  rintro e w2 ⟨rfl, b⟩
  have HXV : Hid (∀ wa, Below V.heap.size V wa → BoxN wa X [.slice ta d.N tc, .int .i64 d.G, .int .i64 d.most]) := fun wa hb => HX.out.below hb
  have HV2 := Lib.hid b
  clear b c0 c1 c2 e0 e1 e2 CT HX HUB HHT2 HUV
  cases rr with
  | false =>
    have hRN : Hid (R = []) := HRY.out
    have HBF : Hid (Below w.heap.size w w2) := HBV.out.trans (HV2.out.mono hwV)
    clear HRY
    go_wp2
    go_ret
    rw [hRN.out]
    exact ⟨_, rfl, World.ownsRow_nil _ _ _ _, HBF.out⟩
  | true =>
    obtain ⟨cn, hcn⟩ : ∃ cn, cntP d [] = cn := ⟨_, rfl⟩
    have hcs := cntP_small HOK.out []
    rw [hcn] at hcs
    have C0 : Hid (∀ wa, Below V.heap.size V wa → Calls Try.prog 44 #[.agg #[.slice ta d.N tc, .int .i64 d.G, .int .i64 d.most], .slice none 0 0] wa fun e w' => e = .returned (.int .i64 cn) ∧ Below wa.heap.size wa w') := fun wa hb => by
      have := CA.out wa (.slice none 0 0) [] hb (.inl ⟨none, 0, rfl, rfl⟩)
      rw [hcn] at this
      exact this
    have HRN : Hid (R = (List.range d.G).map fun _ => ((cn / d.G : Nat) : Int)) := by
      have h9 : R = (List.range d.G).map fun _ => ((cntP d [] / d.G : Nat) : Int) := HRY.out
      rw [hcn] at h9
      exact h9
    have hG4 := HOK.out.G
    clear HRY CA hcn
    go_upto_region 4 with fail
    obtain ⟨G, hG⟩ : ∃ G, d.G = G := ⟨_, rfl⟩
    rw [hG] at hG4 HXV C0 HRN
    clear hG
    obtain ⟨Sc, HSd⟩ : ∃ Sc : World → Prop, Sc = fun w' => BoxN w' X [.slice ta d.N tc, .int .i64 G, .int .i64 d.most] := ⟨_, rfl⟩
    have OS : Hid (∀ wa, Sc wa → BoxN wa X [.slice ta d.N tc, .int .i64 G, .int .i64 d.most]) := by subst HSd; exact fun wa h => h
    have KS : Hid (∀ wa, Below V.heap.size V wa → Sc wa) := by subst HSd; exact fun wa h => HXV.out wa h
    clear HSd
    have HVd : Hid (Below V.heap.size V w2.drew) := HV2.out.drew
    have hq0 : ¬ ((G : Int) = 0) := by omega
    have hq1 : ((G : Int) == 0) = false := by simp; omega
    obtain ⟨q, hq⟩ : ∃ q, cn / G = q := ⟨_, rfl⟩
    rw [hq] at HRN
    have hqs : q ≤ cn := by rw [← hq]; exact Nat.div_le_self cn G
    have hqe : (cn : Int) / (G : Int) = (q : Int) := by rw [← hq]; simp
    have hqw : IntKind.i64.wrap (q : Int) = (q : Int) := IntWalk.i64_in _ (by constructor <;> omega)
    have hqz : ¬ G = 0 := by omega
    clear hq
    refine wp_region_held_drew (S := Sc) (by kernel_rfl) ?_ (fun hHeld => ?_)
    · exact KS.out _ HVd.out
    refine wpAnyH_take (i := 0) (v := ?_) rfl (by kernel_rfl) (by kernel_rfl) (by kernel_rfl) (fun _ _ _ h => h) (Or.inl ⟨by rfl, ?_⟩) (by assumption) ?_
    rotate_left
    · (intro wa hSw; have hI := OS.out _ hSw; have c0 := hI.2 0 _ rfl; have c1 := hI.2 1 _ rfl; have c2 := hI.2 2 _ rfl; go_simp; try with_reducible rfl)
    simp only [Act.put, List.getElem_toArray, List.getElem_cons_zero, List.setIfInBounds_toArray, List.set_cons_zero, List.set_cons_succ]
    refine wpAnyH_take (i := 2) (v := ?_) rfl (by kernel_rfl) (by kernel_rfl) (by kernel_rfl) (fun _ _ _ h => h) (Or.inl ⟨by rfl, ?_⟩) (by assumption) ?_
    rotate_left
    · (intro wa hSw; go_simp; try with_reducible rfl)
    simp only [Act.put, List.getElem_toArray, List.getElem_cons_zero, List.getElem_cons_succ, List.setIfInBounds_toArray, List.set_cons_zero, List.set_cons_succ]
    refine wpAnyH_take (i := 3) (v := ?_) rfl (by kernel_rfl) (by kernel_rfl) (by kernel_rfl) (fun _ _ _ h => h) (Or.inl ⟨by rfl, ?_⟩) (by assumption) ?_
    rotate_left
    · (intro wa hSw; have hI := OS.out _ hSw; have c0 := hI.2 0 _ rfl; have c1 := hI.2 1 _ rfl; have c2 := hI.2 2 _ rfl; go_simp; try with_reducible rfl)
    simp only [Act.put, List.getElem_toArray, List.getElem_cons_zero, List.getElem_cons_succ, List.setIfInBounds_toArray, List.set_cons_zero, List.set_cons_succ]
    refine wpAnyH_take (i := 6) (v := ?_) rfl (by kernel_rfl) (by kernel_rfl) (by kernel_rfl) (fun _ _ _ h => h) (Or.inl ⟨by rfl, ?_⟩) (by assumption) ?_
    rotate_left
    · (intro wa hSw; go_simp; try with_reducible rfl)
    simp only [Act.put, List.getElem_toArray, List.getElem_cons_zero, List.getElem_cons_succ, List.setIfInBounds_toArray, List.set_cons_zero, List.set_cons_succ]
    refine wpAnyH_take (i := 7) (v := ?_) rfl (by kernel_rfl) (by kernel_rfl) (by kernel_rfl) (fun _ _ _ h => h) (Or.inl ⟨by rfl, ?_⟩) (by assumption) ?_
    rotate_left
    · (intro wa hSw; have hI := OS.out _ hSw; have c0 := hI.2 0 _ rfl; have c1 := hI.2 1 _ rfl; have c2 := hI.2 2 _ rfl; go_simp; try with_reducible rfl)
    simp only [Act.put, List.getElem_toArray, List.getElem_cons_zero, List.getElem_cons_succ, List.setIfInBounds_toArray, List.set_cons_zero, List.set_cons_succ]
    refine wpAnyH_ready (rs := [1]) (by kernel_rfl) (by simp) ?_
    refine AllReadyH.cons (o := _) rfl (fun K hK => ?_) AllReadyH.nil
    go_simp
    refine (C0.out _ HVd.out).mono ?_
    rintro e w3 ⟨rfl, b⟩
    have HV3 : Hid (Below V.heap.size V w3) := HVd.out.trans (b.mono HVd.out.size)
    clear b
    (try go_wp2_with fail)
    refine hK.out _ _ ?_ (fun hHeld1 => ?_)
    · exact KS.out _ HV3.out
    clear hK K hHeld
    try simp only [Act.put, List.getElem_toArray, List.getElem_cons_zero, List.getElem_cons_succ, List.setIfInBounds_toArray, List.set_cons_zero, List.set_cons_succ]
    refine wpAnyH_take (i := 4) (v := .int .i64 (q : Int)) rfl (by kernel_rfl) (by kernel_rfl) (by kernel_rfl) (fun _ _ _ h => h) (Or.inl ⟨by rfl, ?_⟩) (by assumption) ?_
    · (intro wa hSw; go_simp <;> simp [hqz, hqe, hqw])
    simp only [Act.put, List.getElem_toArray, List.getElem_cons_zero, List.getElem_cons_succ, List.setIfInBounds_toArray, List.set_cons_zero, List.set_cons_succ]
    refine wpAnyH_ready (rs := [5]) (by kernel_rfl) (by simp) ?_
    refine AllReadyH.cons (o := _) rfl (fun K hK => ?_) AllReadyH.nil
    go_simp
    (try go_wp2_with fail)
    have HV4 : Hid (Below V.heap.size V (w3.alloc (.cells #[.int .i64 (q : Int)] 3))) := HV3.out.alloc HV3.out.size _
    have HC4 : Hid (CellsAt (w3.alloc (.cells #[.int .i64 (q : Int)] 3)) w3.heap.size 0 [.int .i64 (q : Int)]) := ⟨by simp, fun j u hu => by rw [Nat.zero_add]; rw [cell_of_row _ w3.heap.size j _ 3 (0, 0) (heap_alloc_new w3 _)]; simpa using hu⟩
    refine hK.out _ _ ?_ (fun hHeld => ?_)
    · exact KS.out _ HV4.out
    clear hK K hHeld1
    try simp only [Act.put, List.getElem_toArray, List.getElem_cons_zero, List.getElem_cons_succ, List.setIfInBounds_toArray, List.set_cons_zero, List.set_cons_succ]
    refine wpAnyH_ready (rs := [8]) (by kernel_rfl) (by simp) ?_
    refine AllReadyH.cons (o := _) rfl (fun K hK => ?_) AllReadyH.nil
    go_simp
    refine (repeatI_impl G (by omega) w3.heap.size [.int .i64 (q : Int)] rfl (by intro u hu; simp at hu; subst hu; rfl) _ HC4.out).mono ?_
    rintro e w5 ⟨gg, xs, rfl, ho5, hc5, b5⟩
    have HV5 : Hid (Below V.heap.size V w5) := HV4.out.trans (b5.mono HV4.out.size)
    have HXS : Hid (xs = R.map (Value.int .i64)) := by
      have hl := ho5.1
      show xs = _
      rw [HRN.out, List.map_map]
      apply List.ext_getElem?
      intro j
      by_cases hj : j < G
      · have h9 := hc5 j hj 0 _ rfl
        rw [Nat.mul_one, Nat.add_zero] at h9
        rw [h9]
        simp [hj]
      · rw [List.getElem?_eq_none (by omega), List.getElem?_eq_none (by simp; omega)]
    have HRL : Hid (R.length = G) := by show _ = _; rw [HRN.out]; simp
    have HO5 := Lib.hid ho5
    have hz5 : w.heap.size ≤ (w3.alloc (.cells #[.int .i64 (q : Int)] 3)).heap.size := Nat.le_trans hwV HV4.out.size
    have HZ5 := Lib.hid hz5
    clear ho5 hc5 b5 hz5
    (try go_wp2_with fail)
    refine hK.out _ _ ?_ (fun hHeld1 => ?_)
    · exact KS.out _ HV5.out
    clear hK K hHeld
    try simp only [Act.put, List.getElem_toArray, List.getElem_cons_zero, List.getElem_cons_succ, List.setIfInBounds_toArray, List.set_cons_zero, List.set_cons_succ]
    refine wpAnyH_take (i := 9) (v := ?_) rfl (by kernel_rfl) (by kernel_rfl) (by kernel_rfl) (fun _ _ _ h => h) (Or.inl ⟨by rfl, ?_⟩) (by assumption) ?_
    rotate_left
    · (intro wa hSw; go_simp; try with_reducible rfl)
    simp only [Act.put, List.getElem_toArray, List.getElem_cons_zero, List.getElem_cons_succ, List.setIfInBounds_toArray, List.set_cons_zero, List.set_cons_succ]
    refine wpAnyH_done (by kernel_rfl) ?_ _
    have HBF : Hid (Below w.heap.size w w5) := HBV.out.trans (HV5.out.mono hwV)
    clear hHeld1 KS OS HVd HV3 HV4 HC4 HV5
    go_wp2_with fail
    go_ret
    exact ⟨_, rfl, by rw [HRL.out, ← HXS.out]; exact owns_mono HO5.out HZ5.out, HBF.out⟩
end Go.Proofs.Ytmhkkdnopcdibaa
