/-
  Packed: DrwImplO, DrwPlain2, DrwImplP.
-/
import Derived.Deep.DeepAppendRoom
import Derived.Deep.AppendLies
import Derived.Test.YtmhkkdnopcdibaaQ19
import Derived.Test.YtmhkkdnopcdibaaQ20
import Derived.Test.YtmhkkdnopcdibaaQ34
set_option linter.unusedVariables false
namespace Go.Proofs.Ytmhkkdnopcdibaa
open Go.RowKit

theorem SumI.row {w : World} {sb N : Nat} {V : Nat → Nat} (h : SumI w sb N V) {k : Nat} (h0 : 0 < k) (hk : k ≤ N) (hN : N ≤ 8) : IntRow w (.slice (some ⟨sb, 0, none⟩) k N) k (getI (vl V k)) :=
  .inr ⟨sb, 0, N, rfl, h0, by omega, fun i hi => by rw [vl_get V hi, Nat.zero_add]; exact (h.2 i (by omega)).1, hk⟩
theorem SumI.own8 {w : World} {sb G base : Nat} {S : Nat → Nat} (h : SumI w sb G S) (hG : G ≤ 8) (hb : base ≤ sb) : w.ownsRow base 3 1 (.slice (some ⟨sb, 0, none⟩) G G) G ((List.range G).map fun g => Value.int .i64 (S g : Nat)) := by
  obtain ⟨c, h1, h2, h3⟩ := h.1
  refine ⟨by simp, .inr ⟨sb, G, c, rfl, hb, h1, Nat.le_refl _, by unfold maxLen; omega, by rw [h2, Nat.mul_one], ?_⟩⟩
  rw [Nat.mul_one]
  apply List.ext_getElem?
  intro i
  rw [List.getElem?_take, List.getElem?_map]
  by_cases hi : i < G
  · rw [if_pos hi, List.getElem?_range hi]
    have h4 := h3 i hi
    simpa using h4
  · rw [if_neg hi, List.getElem?_eq_none (by simpa using hi)]
    rfl
def cellN (w : World) (a : Addr) : Nat := match w.cell? a with | some v => (RowKit.intOf v).toNat | none => 0
set_option maxRecDepth 100000 in
set_option maxHeartbeats 8000000 in
theorem nthDraw_impl (vf : Value) (nf : Nat) (F : Nat → TeamD) (vp : Value) (gr most : Int) (T : List (List Int)) (c x : Int) (w : World) (hc : potsP nf F T gr most → c = cdN F T gr most []) (hc0 : ¬ potsP nf F T gr most → c = 0) (hf : TeamRow w vf nf F) (hs : ∀ i, (F i).nm.size ≤ maxLen) (h : RdA tIntSS w [vp] T) (hw : tIntSS.wt T ≤ 1048576) :
    Calls Try.prog 15 #[vf, .agg #[vp, .int .i64 gr, .int .i64 most], .int .i64 x] w (NthM w (nthL F T gr most c x)) := by
  obtain ⟨pa, pc, rfl, hpn⟩ := pots_form h
  obtain ⟨U, hU⟩ : ∃ U, w.alloc (.cells #[.slice pa (List.length (α := List Int) T) pc, .int .i64 gr, .int .i64 most] 26) = U := ⟨_, rfl⟩
  have bU : Below w.heap.size w U := by rw [← hU]; exact (Below.refl _ _).alloc (Nat.le_refl _) _
  have HS : Hid (PotsAt U w.heap.size pa (List.length (α := List Int) T) pc gr most T) := by rw [← hU]; exact PotsAt.made h
  have HB := Lib.hid bU
  have hf1 := hf.below bU (Nat.le_refl _)
  obtain ⟨fa, fc, rfl, hfn, _⟩ := hf.form
  by_cases hp : potsP nf F T gr most
  case neg =>
    obtain rfl : c = 0 := hc0 hp
    have CF := Lib.hid (drawingOf_no (.slice fa nf fc) nf F (.slice pa (List.length (α := List Int) T) pc) gr most T U hp hf1 hs HS.out.2 hw)
    have hnl : nthL F T gr most 0 x = none := if_neg (by omega)
    rw [hnl]
    generalize List.length (α := List Int) T = np at *
    have c0 := HS.out.1.2 0 _ rfl
    have c1 := HS.out.1.2 1 _ rfl
    have c2 := HS.out.1.2 2 _ rfl
    clear hp hc hc0 h hf hf1 hs hw bU hnl
    go_enter Try.func15, Try.ntmps15
    go_wp2_with fail
    clear hU c0 c1 c2
    refine CF.out.mono ?_
    rintro e w1 ⟨rfl, b⟩
    have HB1 := Lib.hid (HB.out.trans (b.mono HB.out.size))
    clear b CF
    go_wp2
    refine bodyPost_ret (v := .tuple #[.slice none 0 0, .bool false]) (by simp [results, Try.results15, go_sem]) rfl ?_
    exact ⟨rfl, HB1.out.alloc HB1.out.size _⟩
  have CF := Lib.hid (drawingOf_yes (.slice fa nf fc) nf F (.slice pa (List.length (α := List Int) T) pc) gr most T U hp hf1 hs HS.out.2 hw)
  have HOK := Lib.hid (drw_ok hp)
  have hRR : c = (cntP (drwD F T gr most) [] : Int) := (hc hp).trans (cntP_eq hp [])
  have HRR := Lib.hid hRR
  have hpos := pots_ne hp
  have HNL : Hid (nthL F T gr most c x = if 0 ≤ x ∧ x ≤ c - 1 then some (atF (drwD F T gr most) (drwD F T gr most).N noP noC 0 x.toNat) else none) := rfl
  generalize nthL F T gr most c x = NL at *
  clear hRR
  generalize drwD F T gr most = d at *
  generalize List.length (α := List Int) T = np at *
  have c0 := HS.out.1.2 0 _ rfl
  have c1 := HS.out.1.2 1 _ rfl
  have c2 := HS.out.1.2 2 _ rfl
  clear hp hc hc0 h hf hf1 hs hw bU
  go_enter Try.func15, Try.ntmps15
  go_wp2_with fail
  clear hU c0 c1 c2
  refine CF.out.mono ?_
  rintro e w1 ⟨tv, rfl, ht, b⟩
  obtain ⟨ta, tc, rfl⟩ := ht.form
  have HB1 := Lib.hid (HB.out.trans (b.mono HB.out.size))
  obtain ⟨V, hV⟩ : ∃ V, w1.alloc (.cells #[.slice ta d.N tc, .int .i64 d.G, .int .i64 d.most] 61) = V := ⟨_, rfl⟩
  have bV : Below w1.heap.size w1 V := by rw [← hV]; exact (Below.refl _ _).alloc (Nat.le_refl _) _
  have HX : Hid (BoxN V w1.heap.size [.slice ta d.N tc, .int .i64 d.G, .int .i64 d.most]) := by rw [← hV]; exact BoxN.made (Below.refl _ _) rfl
  have HBV : Hid (Below w.heap.size w V) := HB1.out.trans (bV.mono HB1.out.size)
  have HT : Hid (TurnsAt V (.slice ta d.N tc) d) := RecRow.below ht bV (Nat.le_refl _)
  have CA : Hid (∀ (wa : World) (vp : Value) (L : List Int), Below V.heap.size V wa → IntRow wa vp L.length (getI L) → Calls Try.prog 44 #[.agg #[.slice ta d.N tc, .int .i64 d.G, .int .i64 d.most], vp] wa fun e w' => e = .returned (.int .i64 (cntP d L)) ∧ Below wa.heap.size wa w') := fun wa vp L hb hv =>
    countFrom_impl ta tc d HOK.out vp L wa (RecRow.below HT.out hb (Nat.le_refl _)) hv
  have HWE := Lib.hid hV
  clear b ht CF HS HB hV bV HB1 HT
  go_upto_region 2 with fail
  rw [HWE.out]
  clear HWE
  have hXV : w1.heap.size < V.heap.size := HX.out.1
  have hwV := HBV.out.size
  generalize w1.heap.size = X at *
  have c0 := HX.out.2 0 _ rfl
  have c1 := HX.out.2 1 _ rfl
  have c2 := HX.out.2 2 _ rfl
  by_cases hx0 : x < 0
  · have g0 : decide (x < 0) = true := decide_eq_true hx0
    have hnn : Hid (NL = none) := by show NL = none; rw [HNL.out, if_neg (by omega)]
    clear HNL HOK
    go_wp2
    refine bodyPost_ret (v := .tuple #[.slice none 0 0, .bool false]) (by simp [results, Try.results15, go_sem]) rfl ?_
    rw [hnn.out]
    exact ⟨rfl, HBV.out⟩
  have g0 : decide (x < 0) = false := decide_eq_false hx0
  have C0 := Lib.hid (CA.out V (.slice none 0 0) [] (Below.refl _ _) (.inl ⟨none, 0, rfl, rfl⟩))
  rw [← HRR.out] at C0
  go_wp2_with fail
  refine C0.out.mono ?_
  rintro e w2 ⟨rfl, b⟩
  have HXVV := HX
  have HBVK := HBV
  have HX2 := Lib.hid (HX.out.below b)
  have HBV2 := Lib.hid (HBV.out.trans (b.mono HBV.out.size))
  have HV2 := Lib.hid b
  clear b C0 c0 c1 c2 HX HBV
  by_cases hxc : c ≤ x
  · have g1 : decide (c ≤ x) = true := decide_eq_true hxc
    have hnn : Hid (NL = none) := by show NL = none; rw [HNL.out, if_neg (by omega)]
    clear HNL HOK
    go_wp2
    refine bodyPost_ret (v := .tuple #[.slice none 0 0, .bool false]) (by simp [results, Try.results15, go_sem]) rfl ?_
    rw [hnn.out]
    exact ⟨rfl, HBV2.out⟩
  have g1 : decide (c ≤ x) = false := decide_eq_false hxc
  obtain ⟨xn, rfl⟩ : ∃ xn : Nat, x = xn := ⟨x.toNat, by omega⟩
  obtain ⟨A, hA⟩ : ∃ A, atF d d.N noP noC 0 xn = A := ⟨_, rfl⟩
  have HNA : Hid (NL = some A) := by show NL = some A; rw [HNL.out, if_pos (by omega), Int.toNat_natCast, hA]
  have HO0 : Hid (NthO d A 0 (fun _ => 0) xn) := by
    refine ⟨noP, noC, PreS.nil d, ?_, hA, fun _ _ => rfl⟩
    have h1 := (PreS.nil d).cnt HOK.out (Nat.zero_le _)
    have h2 := HRR.out
    rw [h1] at h2
    omega
  have hN8 := HOK.out.N
  have HYB : Hid (∀ (y2 : Nat) {i : Nat} {Vg : Nat → Nat} {g : Nat}, Hid (NthI d A i Vg g y2) → y2 ≤ 9223372036854775807) := fun y2 i Vg g h => by
    obtain ⟨P, C, x, _, h2, _, _, _, _, h7, _⟩ := h.out
    have h3 := cntF_le d HOK.out.G.2 (d.N - i) P C i
    have h4 : 4 ^ (d.N - i) ≤ 4 ^ 8 := Nat.pow_le_pow_right (by decide) (by omega)
    have h5 : (4 : Nat) ^ 8 = 65536 := by decide
    omega
  have mk : ∀ w, (Instr.makeSlice 31 (.int .i64 (d.N : Int)) (.int .i64 (d.N : Int))).run Try.prog w = .ok (.slice (some ⟨w.heap.size, 0, none⟩) d.N d.N) (w.alloc (.cells (madeCells #[.int .i64 0] d.N) 3)) := fun w => run_make_row' _ _ _ 8 Try.underlying31 Try.infoI rfl .i64 .i64 d.N (by omega) (by omega) w
  obtain ⟨W, hW⟩ : ∃ W, w2.alloc (.cells (madeCells #[.int .i64 0] d.N) 3) = W := ⟨_, rfl⟩
  have bW : Below w2.heap.size w2 W := by rw [← hW]; exact (Below.refl _ _).alloc (Nat.le_refl _) _
  have HSI : Hid (SumI W w2.heap.size d.N (fun _ => 0)) := by rw [← hW]; exact SumI.of (World.rowIs_made w2 (.int .i64 0) d.N 3)
  have HVW : Hid (Below V.heap.size V W) := HV2.out.trans (bW.mono HV2.out.size)
  have hVY : V.heap.size ≤ w2.heap.size := HV2.out.size
  have HWE := Lib.hid hW
  have c0 := HX2.out.2 0 _ rfl
  have c1 := HX2.out.2 1 _ rfl
  have c2 := HX2.out.2 2 _ rfl
  have HXV : Hid (∀ wa, Below V.heap.size V wa → BoxN wa X [.slice ta d.N tc, .int .i64 d.G, .int .i64 d.most]) := fun wa hb => HXVV.out.below hb
  clear bW hW HNL hA HX2 HV2 HRR
  go_upto_region 5 with fail
  rw [HWE.out]
  clear HWE c0 c1 c2 mk
  generalize w2.heap.size = Y at *
  go_wp2_with fail
  go_loopw [2, 38] (fun s2 iv wr => ∃ (i y : Nat) (Vf : Nat → Nat), i ≤ d.N ∧ s2 = .int .i64 y ∧ iv = .int .i64 i ∧ Hid (NthO d A i Vf y) ∧ Hid (SumI wr Y d.N Vf) ∧ Hid (Below V.heap.size V wr)) (fun _ iv _ => d.N - (RowKit.intOf iv).toNat)
  case atStart => exact ⟨0, xn, _, Nat.zero_le _, rfl, rfl, HO0, HSI, HVW⟩
  case round =>
    clear HO0 HSI HVW
    obtain ⟨i, y, Vf, hi9, rfl, rfl, HO, HSI, HVW⟩ := hrel
    by_cases hlt : i < d.N
    · have hj : (i : Int) < (d.N : Int) := by omega
      have hj2 : (i : Int) + 1 ≤ (d.N : Int) := by omega
      have hx := HXV.out wr HVW.out
      have c0 := hx.2 0 _ rfl
      have c1 := hx.2 1 _ rfl
      have c2 := hx.2 2 _ rfl
      have hrow := HSI.out.row (k := i + 1) (by omega) (by omega) hN8
      have C1 := CA.out wr (.slice (some ⟨Y, 0, none⟩) (i + 1) d.N) (vl Vf (i + 1)) HVW.out (by rw [vl_len]; exact hrow)
      obtain ⟨n, hn⟩ : ∃ n, cntP d (vl Vf (i + 1)) = n := ⟨_, rfl⟩
      rw [hn] at C1
      have HC1 := Lib.hid C1
      have HNE := Lib.hid hn
      clear hn C1 hrow hx
      go_wp2_with fail
      refine HC1.out.mono ?_
      rintro e w3 ⟨rfl, b⟩
      have HI0 : Hid (NthI d A i Vf 0 y) := HO.out.begin HOK.out
      have HS3 := Lib.hid (HSI.out.below b)
      have HV3 : Hid (Below V.heap.size V w3) := HVW.out.trans (b.mono HVW.out.size)
      rw [← HNE.out]
      clear b c0 c1 c2 HO HSI HVW HC1 HNE
      go_wp2_with fail
      go_loopw [2, 13] (fun s2 s13 wr => ∃ (g y n : Nat) (Vg : Nat → Nat), s2 = .int .i64 y ∧ s13 = .int .i64 n ∧ Hid (cntP d (vl Vg (i + 1)) = n) ∧ Hid (NthI d A i Vg g y) ∧ Hid (SumI wr Y d.N Vg) ∧ Hid (Below V.heap.size V wr)) (fun _ _ wr => d.G - cellN wr ⟨Y, i, none⟩)
      case atStart => exact ⟨0, y, _, Vf, rfl, rfl, rfl, HI0, HS3, HV3⟩
      case round =>
        clear HI0 HS3 HV3
        obtain ⟨g, y2, n2, Vg, rfl, rfl, HCN, HI, HSI, HVW⟩ := hrel
        by_cases hle : n2 ≤ y2
        · have g2 : decide ((n2 : Int) ≤ (y2 : Int)) = true := decide_eq_true (by omega)
          have g3 : decide (n2 ≤ y2) = true := decide_eq_true hle
          have hIn := HI.out.next HOK.out hlt (by rw [HCN.out]; exact hle)
          rw [HCN.out] at hIn
          have hVi : Vg i = g := by obtain ⟨_, _, _, _, _, _, h, _⟩ := HI.out; exact h
          have hgG : g < d.G := by obtain ⟨_, _, _, _, _, _, _, h, _⟩ := HI.out; exact h
          have hG4 := HOK.out.G
          have k0 := (HSI.out.2 i hlt).1
          have f0 := (HSI.out.2 i hlt).2
          rw [hVi] at k0
          have hcn : cellN wr ⟨Y, i, none⟩ = g := by simp [cellN, k0, RowKit.intOf]
          obtain ⟨wS, hwS⟩ : ∃ wS, wr.setCell ⟨Y, i, none⟩ (.int .i64 ((g : Int) + 1)) = wS := ⟨_, rfl⟩
          have HSS : Hid (SumI wS Y d.N (fun a => if a = i then g + 1 else Vg a)) := by rw [← hwS]; exact HSI.out.set (z := g + 1) hlt
          have HVS : Hid (Below V.heap.size V wS) := by rw [← hwS]; exact HVW.out.setCell hVY _
          have hx := HXV.out wS HVS.out
          have d0 := HXV.out wr HVW.out
          have hrow := HSS.out.row (k := i + 1) (by omega) (by omega) hN8
          have C1 := CA.out wS (.slice (some ⟨Y, 0, none⟩) (i + 1) d.N) (vl (fun a => if a = i then g + 1 else Vg a) (i + 1)) HVS.out (by rw [vl_len]; exact hrow)
          have HIn := Lib.hid hIn
          clear hIn
          generalize (fun a => if a = i then g + 1 else Vg a) = Vh at *
          obtain ⟨n3, hn3⟩ : ∃ n3, cntP d (vl Vh (i + 1)) = n3 := ⟨_, rfl⟩
          rw [hn3] at C1
          have HC1 := Lib.hid C1
          have HN3 := Lib.hid hn3
          have HWE := Lib.hid hwS
          have c0 := hx.2 0 _ rfl
          have c1 := hx.2 1 _ rfl
          have c2 := hx.2 2 _ rfl
          have hYi : (i : Int) < (i : Int) + 1 := by omega
          have hyc : y2 ≤ 9223372036854775807 := HYB.out y2 HI
          have hsub : IntKind.i64.wrap ((y2 : Int) - (n2 : Int)) = ((y2 - n2 : Nat) : Int) := by rw [IntWalk.i64_in _ (by constructor <;> omega)]; omega
          clear hn3 C1 hwS hrow hx d0 hVi HI HSI HVW HCN
          go_upto_region 11 with fail
          rw [HWE.out]
          go_wp2_with fail
          refine HC1.out.mono ?_
          rintro e w5 ⟨rfl, b⟩
          have HS5 := Lib.hid (HSS.out.below b)
          have HV5 : Hid (Below V.heap.size V w5) := HVS.out.trans (b.mono HVS.out.size)
          have hc5 : cellN w5 ⟨Y, i, none⟩ = g + 1 := by
            have hV5 : Vh i = g + 1 := by obtain ⟨_, _, _, _, _, _, h, _⟩ := HIn.out; exact h
            have k5 := (HS5.out.2 i hlt).1
            rw [hV5] at k5
            simp [cellN, k5, RowKit.intOf]
          have HME : Hid (d.G - cellN w5 ⟨Y, i, none⟩ < d.G - cellN wr ⟨Y, i, none⟩) := by show _ < _; rw [hc5, hcn]; omega
          clear b HSS HVS HC1 HWE c0 c1 c2 k0 f0 hc5 hcn
          go_wp2
          go_roundw
          case rel => exact ⟨g + 1, y2 - n2, n3, Vh, by first | rfl | go_num, rfl, HN3, HIn, HS5, HV5⟩
          case measure => exact HME.out
        · have g2 : decide ((n2 : Int) ≤ (y2 : Int)) = false := decide_eq_false (by omega)
          have g3 : decide (n2 ≤ y2) = false := decide_eq_false hle
          have HON : Hid (NthO d A (i + 1) Vg y2) := HI.out.done HOK.out hlt (by rw [HCN.out]; omega)
          clear HI HCN
          go_wp2
          go_roundw
          case rel => exact ⟨i + 1, y2, Vg, by omega, rfl, by go_num, HON, HSI, HVW⟩
          case measure => simp [RowKit.intOf]; omega
    · have hie : i = d.N := by omega
      subst hie
      have hAA := HO.out.last
      have hown := HSI.out.own8 (base := w.heap.size) hN8 (by omega)
      have HAL : Hid (A.length = d.N) := by show _ = _; rw [← hAA, vl_len]
      have HOW : Hid (wr.ownsRow w.heap.size 3 1 (.slice (some ⟨Y, 0, none⟩) d.N d.N) d.N (A.map (Value.int .i64))) := by
        rw [← hAA]
        unfold vl
        rw [List.map_map]
        exact hown
      have HBF : Hid (Below w.heap.size w wr) := HBVK.out.trans (HVW.out.mono hwV)
      clear hAA hown HO HSI HVW
      go_wp2
      refine bodyPost_ret (v := .tuple #[.slice (some ⟨Y, 0, none⟩) d.N d.N, .bool true]) (by simp [results, Try.results15, go_sem]) rfl ?_
      rw [HNA.out]
      exact ⟨_, rfl, by rw [HAL.out]; exact HOW.out, HBF.out⟩
end Go.Proofs.Ytmhkkdnopcdibaa
set_option linter.unusedVariables false
namespace Go.Proofs.Ytmhkkdnopcdibaa
open Go.RowKit

def IdxO (d : DrwD) (L : List Int) (R i idx : Nat) : Prop :=
  ∃ P C, PreS d (L.take i) i P C ∧ idx + idxF d (L.drop i) i P C = R ∧ (begF d (L.drop i) i P C).isSome = true ∧ idx ≤ 67108864 * i
def IdxI (d : DrwD) (L : List Int) (R i g y : Nat) : Prop :=
  ∃ P C idx, PreS d (L.take i) i P C ∧ idx + idxF d (L.drop i) i P C = R ∧ (begF d (L.drop i) i P C).isSome = true ∧ idx ≤ 67108864 * i ∧ y = idx + befS d i P C g ∧ g ≤ (getI L i).toNat
theorem IdxO.begin {d : DrwD} {L : List Int} {R i idx : Nat} (h : IdxO d L R i idx) : IdxI d L R i 0 idx := by
  obtain ⟨P, C, h1, h2, h3, h4⟩ := h
  exact ⟨P, C, idx, h1, h2, h3, h4, by rw [befS_zero]; rfl, Nat.zero_le _⟩
theorem drop_at {L : List Int} {i : Nat} (hi : i < L.length) : L.drop i = getI L i :: L.drop (i + 1) := by
  rw [List.drop_eq_getElem_cons hi, getI_ok hi]
theorem take_at {L : List Int} {i : Nat} (hi : i < L.length) : L.take (i + 1) = L.take i ++ [getI L i] := by
  rw [List.take_add_one, List.getElem?_eq_getElem hi, getI_ok hi]
  rfl
theorem IdxI.fits {d : DrwD} {L : List Int} {R i g y : Nat} (h : IdxI d L R i g y) (hi : i < L.length) : 0 ≤ getI L i ∧ getI L i ≤ (d.G : Int) - 1 := by
  obtain ⟨P, C, idx, h1, h2, h3, h4, h5, h6⟩ := h
  rw [drop_at hi, begF_cons] at h3
  split at h3
  · rename_i hc; exact hc.1
  · cases h3
theorem IdxI.next {d : DrwD} (ok : DrwOk d) {L : List Int} {R i g y : Nat} (h : IdxI d L R i g y) (hi : i < L.length) (hN : L.length = d.N) (hg : g < (getI L i).toNat) : IdxI d L R i (g + 1) (y + cntP d (L.take i ++ [(g : Int)])) := by
  have hf := h.fits hi
  obtain ⟨P, C, idx, h1, h2, h3, h4, h5, h6⟩ := h
  have hm := h1.more ok (by omega) (show g < d.G by omega)
  exact ⟨P, C, idx, h1, h2, h3, h4, by omega, hg⟩
theorem IdxI.small {d : DrwD} (ok : DrwOk d) {L : List Int} {R i g y : Nat} (h : IdxI d L R i g y) (hi : i < L.length) (hN : L.length = d.N) : y ≤ 67108864 * (i + 1) := by
  have hf := h.fits hi
  obtain ⟨P, C, idx, h1, h2, h3, h4, h5, h6⟩ := h
  have hG := ok.G
  have hN8 := ok.N
  have h7 := befS_le d hG.2 (by omega) i P C g (by omega)
  omega
theorem IdxI.done {d : DrwD} (ok : DrwOk d) {L : List Int} {R i g y : Nat} (h : IdxI d L R i g y) (hi : i < L.length) (hN : L.length = d.N) (hg : g = (getI L i).toNat) : IdxO d L R (i + 1) y := by
  have hf := h.fits hi
  have hs := h.small ok hi hN
  obtain ⟨P, C, idx, h1, h2, h3, h4, h5, h6⟩ := h
  rw [drop_at hi, begF_cons] at h3
  rw [drop_at hi, idxF_cons] at h2
  split at h3
  · rename_i hc
    have hn := h1.next ok (by omega) (show (getI L i).toNat < d.G by omega) hc.2
    rw [show (((getI L i).toNat : Nat) : Int) = getI L i by omega, ← take_at hi] at hn
    refine ⟨_, _, hn, ?_, h3, hs⟩
    rw [h5, hg]
    unfold befS
    rw [Nat.add_assoc]
    exact h2
  · cases h3
theorem IdxO.last {d : DrwD} {L : List Int} {R idx : Nat} (h : IdxO d L R L.length idx) : idx = R := by
  obtain ⟨P, C, h1, h2, h3, h4⟩ := h
  rw [List.drop_length] at h2
  exact h2
theorem owns_front {w : World} {base : Nat} {e : TypeId} {g n cap : Nat} {xs : List Value} {x : Value} (h : w.ownsRow base e 1 (.slice (some ⟨g, 0, none⟩) (n + 1) cap) (n + 1) (xs ++ [x])) : w.ownsRow base e 1 (.slice (some ⟨g, 0, none⟩) n cap) n xs := by
  obtain ⟨h1, h2⟩ := h
  rw [List.length_append, List.length_singleton] at h1
  refine ⟨by omega, ?_⟩
  rcases h2 with ⟨h3, _⟩ | ⟨b, c, cur, h3, hb, hg, hnc, hm, hs, ht⟩
  · cases h3
  · simp only [Value.slice.injEq, Option.some.injEq, Addr.mk.injEq, and_true, true_and] at h3
    obtain ⟨rfl, rfl⟩ := h3
    refine .inr ⟨g, cap, cur, rfl, hb, hg, by omega, hm, hs, ?_⟩
    have h4 := congrArg (List.take (n * 1)) ht
    rw [List.take_take, Nat.min_eq_left (by omega), List.take_append_of_le_length (by omega)] at h4
    rw [h4]
    exact List.take_of_length_le (by omega)
end Go.Proofs.Ytmhkkdnopcdibaa
set_option linter.unusedVariables false
namespace Go.Proofs.Ytmhkkdnopcdibaa
open Go.RowKit

set_option maxRecDepth 100000 in
set_option maxHeartbeats 8000000 in
theorem indexOfDraw_impl (vf : Value) (nf : Nat) (F : Nat → TeamD) (vp : Value) (gr most : Int) (T : List (List Int)) (vd : Value) (L : List Int) (R : Int) (w : World) (hR : potsP nf F T gr most ∧ isB F T gr most L = true → R = (idxF (drwD F T gr most) L 0 noP noC : Nat)) (hR0 : ¬ (potsP nf F T gr most ∧ isB F T gr most L = true) → R = -1) (hf : TeamRow w vf nf F) (hs : ∀ i, (F i).nm.size ≤ maxLen) (h : RdA tIntSS w [vp] T) (hw : tIntSS.wt T ≤ 1048576) (hd : IntRow w vd L.length (getI L)) :
    Calls Try.prog 18 #[vf, .agg #[vp, .int .i64 gr, .int .i64 most], vd] w fun e w' => e = .returned (.int .i64 R) ∧ Below w.heap.size w w' := by
  obtain ⟨pa, pc, rfl, hpn⟩ := pots_form h
  obtain ⟨da, dc, rfl, hdn, _⟩ := hd.form
  obtain ⟨U, hU⟩ : ∃ U, w.alloc (.cells #[.slice pa (List.length (α := List Int) T) pc, .int .i64 gr, .int .i64 most] 26) = U := ⟨_, rfl⟩
  have bU : Below w.heap.size w U := by rw [← hU]; exact (Below.refl _ _).alloc (Nat.le_refl _) _
  have HS : Hid (PotsAt U w.heap.size pa (List.length (α := List Int) T) pc gr most T) := by rw [← hU]; exact PotsAt.made h
  have HB := Lib.hid bU
  have HD : Hid (IntRow U (.slice da L.length dc) L.length (getI L)) := hd.below bU (Nat.le_refl _)
  have hf1 := hf.below bU (Nat.le_refl _)
  obtain ⟨fa, fc, rfl, hfn, _⟩ := hf.form
  by_cases hp : potsP nf F T gr most
  case neg =>
    obtain rfl : R = -1 := hR0 fun h => hp h.1
    have CF := Lib.hid (drawingOf_no (.slice fa nf fc) nf F (.slice pa (List.length (α := List Int) T) pc) gr most T U hp hf1 hs HS.out.2 hw)
    generalize List.length (α := List Int) T = np at *
    generalize L.length = m at *
    have c0 := HS.out.1.2 0 _ rfl
    have c1 := HS.out.1.2 1 _ rfl
    have c2 := HS.out.1.2 2 _ rfl
    clear hp hR hR0 h hd hf hf1 hs hw bU
    go_enter Try.func18, Try.ntmps18
    go_wp2_with fail
    clear hU c0 c1 c2
    refine CF.out.mono ?_
    rintro e w1 ⟨rfl, b⟩
    have HB1 := Lib.hid (HB.out.trans (b.mono HB.out.size))
    clear b CF
    go_wp2
    go_ret
    exact ⟨rfl, HB1.out.alloc HB1.out.size _⟩
  have CF := Lib.hid (drawingOf_yes (.slice fa nf fc) nf F (.slice pa (List.length (α := List Int) T) pc) gr most T U hp hf1 hs HS.out.2 hw)
  have HOK := Lib.hid (drw_ok hp)
  have hN1 := pots_ne hp
  have HR1 : Hid (((foldP (drwD F T gr most) L).isSome && decide (L.length = (drwD F T gr most).N)) = true → R = (idxF (drwD F T gr most) L 0 noP noC : Nat) ∧ L.length = (drwD F T gr most).N ∧ (begF (drwD F T gr most) L 0 noP noC).isSome = true) := fun h9 => by
    rw [fold_beg HOK.out] at h9
    have h8 : isB F T gr most L = true := by unfold isB; rw [Bool.and_comm]; exact h9
    have h7 := h8
    unfold isB begB at h7
    rw [Bool.and_eq_true, decide_eq_true_eq] at h7
    rw [if_pos (show L.length ≤ (drwD F T gr most).N from Nat.le_of_eq h7.1)] at h7
    exact ⟨hR ⟨hp, h8⟩, h7.1, h7.2⟩
  have HR2 : Hid (((foldP (drwD F T gr most) L).isSome && decide (L.length = (drwD F T gr most).N)) = false → R = -1) := fun h9 => hR0 fun h => by
    rw [fold_beg HOK.out] at h9
    have h8 : isB F T gr most L = false := by unfold isB; rw [Bool.and_comm]; exact h9
    rw [h8] at h
    exact absurd h.2 (by decide)
  generalize drwD F T gr most = d at *
  obtain ⟨m, hm⟩ : ∃ m, L.length = m := ⟨_, rfl⟩
  have HM := Lib.hid hm
  rw [hm] at hdn HR1 HR2 ⊢
  generalize List.length (α := List Int) T = np at *
  have c0 := HS.out.1.2 0 _ rfl
  have c1 := HS.out.1.2 1 _ rfl
  have c2 := HS.out.1.2 2 _ rfl
  clear hp hR hR0 h hd hf hf1 hs hw bU hm hN1
  go_enter Try.func18, Try.ntmps18
  go_wp2_with fail
  clear hU c0 c1 c2
  refine CF.out.mono ?_
  rintro e w1 ⟨tv, rfl, ht, b⟩
  obtain ⟨ta, tc, rfl⟩ := ht.form
  have HT1 := Lib.hid ht
  have HB1 := Lib.hid (HB.out.trans (b.mono HB.out.size))
  have HD1 : Hid (IntRow w1 (.slice da m dc) m (getI L)) := by
    have h9 := HD.out.below b (Nat.le_refl _)
    rw [HM.out] at h9
    exact h9
  obtain ⟨V, hV⟩ : ∃ V, w1.alloc (.cells #[.slice ta d.N tc, .int .i64 d.G, .int .i64 d.most] 61) = V := ⟨_, rfl⟩
  have bV : Below w1.heap.size w1 V := by rw [← hV]; exact (Below.refl _ _).alloc (Nat.le_refl _) _
  have HX : Hid (BoxN V w1.heap.size [.slice ta d.N tc, .int .i64 d.G, .int .i64 d.most]) := by rw [← hV]; exact BoxN.made (Below.refl _ _) rfl
  have HBV : Hid (Below w.heap.size w V) := HB1.out.trans (bV.mono HB1.out.size)
  have HT : Hid (TurnsAt V (.slice ta d.N tc) d) := RecRow.below HT1.out bV (Nat.le_refl _)
  have HDV : Hid (IntRow V (.slice da m dc) m (getI L)) := HD1.out.below bV (Nat.le_refl _)
  have CA : Hid (∀ (wa : World) (vp : Value) (L : List Int), Below V.heap.size V wa → IntRow wa vp L.length (getI L) → Calls Try.prog 44 #[.agg #[.slice ta d.N tc, .int .i64 d.G, .int .i64 d.most], vp] wa fun e w' => e = .returned (.int .i64 (cntP d L)) ∧ Below wa.heap.size wa w') := fun wa vp L hb hv =>
    countFrom_impl ta tc d HOK.out vp L wa (RecRow.below HT.out hb (Nat.le_refl _)) hv
  obtain ⟨r1, hr1⟩ : ∃ r1, ((foldP d L).isSome && decide (m = d.N)) = r1 := ⟨_, rfl⟩
  have CH : Hid (Calls Try.prog 52 #[.agg #[.slice ta d.N tc, .int .i64 d.G, .int .i64 d.most], .slice da m dc] V fun e w' => e = .returned (.bool r1) ∧ Below V.heap.size V w') := by
    have h9 := has_impl ta tc d HOK.out (.slice da m dc) L r1 V (by rw [HM.out]; exact hr1.symm) HT.out
    rw [HM.out] at h9
    exact h9 HDV.out
  rw [hr1] at HR1 HR2
  have HWE := Lib.hid hV
  clear b ht CF HS HB HD HD1 hV bV HB1 HT HT1 hr1
  go_upto_region 2 with fail
  rw [HWE.out]
  clear HWE
  have hXV : w1.heap.size < V.heap.size := HX.out.1
  have hwV := HBV.out.size
  generalize w1.heap.size = X at *
  have c0 := HX.out.2 0 _ rfl
  have c1 := HX.out.2 1 _ rfl
  have c2 := HX.out.2 2 _ rfl
  go_wp2_with fail
  refine CH.out.mono ?_
  rintro e w2 ⟨rfl, b⟩
  have HXV : Hid (∀ wa, Below V.heap.size V wa → BoxN wa X [.slice ta d.N tc, .int .i64 d.G, .int .i64 d.most]) := fun wa hb => HX.out.below hb
  have HDW : Hid (∀ wa, Below V.heap.size V wa → IntRow wa (.slice da m dc) m (getI L)) := fun wa hb => HDV.out.below hb (Nat.le_refl _)
  have HV2 := Lib.hid b
  clear b c0 c1 c2 CH HX HDV
  cases r1 with
  | false =>
    obtain rfl : R = -1 := HR2.out rfl
    have HBF : Hid (Below w.heap.size w w2) := HBV.out.trans (HV2.out.mono hwV)
    clear HR1 HR2
    go_wp2
    go_ret
    exact ⟨rfl, HBF.out⟩
  | true =>
    obtain ⟨hRe, hmN, hbg⟩ := HR1.out rfl
    obtain ⟨Rn, hR⟩ : ∃ Rn, idxF d L 0 noP noC = Rn := ⟨_, rfl⟩
    rw [hR] at hRe
    have HRE := Lib.hid hRe
    have HI0 : Hid (IdxO d L Rn 0 0) := ⟨noP, noC, PreS.nil d, by rw [List.drop_zero, Nat.zero_add]; exact hR, hbg, Nat.zero_le _⟩
    have HLN : Hid (L.length = d.N) := by show _ = _; rw [HM.out, hmN]
    clear hRe
    have hN8 := HOK.out.N
    have hm8 : m ≤ 8 := by omega
    clear hR hbg HR1 HR2 hmN hN8
    obtain ⟨i0, hi, hz0, hz1, hz2⟩ := info_parts Try.infoI
    have hVY : V.heap.size ≤ w2.heap.size := HV2.out.size
    go_wp2_with (at_make; refine wpList_make_own _ rfl _ _ 31 rfl V.heap.size 3 i0 (.int .i64 0) 1 Try.underlying31 hi hz0 hz1 .i64 .i64 m m rfl rfl rfl (by rw [hz2]; omega) (by unfold maxLen; omega) hVY ?_; intro w3 hown hg3)
    have HO3 : Hid (w3.ownsRow V.heap.size 3 1 (.slice (some ⟨w2.heap.size, 0, none⟩) 0 m) 0 ((L.take 0).map (Value.int .i64))) := hown
    have HV3 : Hid (Below V.heap.size V w3) := HV2.out.grown hg3 hVY (fun q h => by cases h)
    clear hown hg3 HV2
    generalize w2.heap.size = Y at *
    go_wp2_with fail
    go_loopw [9, 10, 33] (fun s9 s10 iv wr => ∃ (i idx : Nat), i ≤ m ∧ s9 = .int .i64 idx ∧ s10 = .slice (some ⟨Y, 0, none⟩) i m ∧ iv = .int .i64 i ∧ Hid (IdxO d L Rn i idx) ∧ Hid (wr.ownsRow V.heap.size 3 1 (.slice (some ⟨Y, 0, none⟩) i m) i ((L.take i).map (Value.int .i64))) ∧ Hid (Below V.heap.size V wr)) (fun _ _ iv _ => m - (RowKit.intOf iv).toNat)
    case atStart => exact ⟨0, 0, Nat.zero_le _, rfl, rfl, rfl, HI0, HO3, HV3⟩
    case round =>
      clear HI0 HO3 HV3
      obtain ⟨i, idx, hi9, rfl, rfl, rfl, HIO, HOW, HVW⟩ := hrel
      by_cases hlt : i < m
      · obtain ⟨bo, off, rfl, hcap, q1⟩ := int_at (HDW.out wr HVW.out) hlt
        have hj : (i : Int) < (m : Int) := by omega
        have hfit := (HIO.out.begin).fits (by rw [HM.out]; exact hlt)
        obtain ⟨xn, hxn⟩ : ∃ xn : Nat, getI L i = (xn : Int) := ⟨(getI L i).toNat, by omega⟩
        rw [hxn] at q1 hfit
        have hG4 := HOK.out.G
        have hx8 : xn ≤ 9223372036854775807 := by omega
        clear hG4
        have HXE := Lib.hid hxn
        have HII : Hid (IdxI d L Rn i 0 idx) := HIO.out.begin
        clear hxn HIO
        go_wp2_with fail
        clear q1
        go_loopw [9, 38] (fun s9 s38 wr => ∃ (g y : Nat), g ≤ xn ∧ s38 = .int .i64 g ∧ s9 = .int .i64 y ∧ Hid (IdxI d L Rn i g y) ∧ Hid (wr.ownsRow V.heap.size 3 1 (.slice (some ⟨Y, 0, none⟩) i m) i ((L.take i).map (Value.int .i64))) ∧ Hid (Below V.heap.size V wr)) (fun _ s38 _ => xn - (RowKit.intOf s38).toNat)
        case atStart => exact ⟨0, idx, Nat.zero_le _, rfl, rfl, HII, HOW, HVW⟩
        case round =>
          clear HII HOW HVW
          obtain ⟨g, y, hg9, rfl, rfl, HII, HOW, HVW⟩ := hrel
          by_cases hlt2 : g < xn
          · have hj2 : (g : Int) < (xn : Int) := by omega
            have hIN := HII.out.next HOK.out (by rw [HM.out]; exact hlt) HLN.out (by rw [HXE.out]; omega)
            have hys := HII.out.small HOK.out (by rw [HM.out]; exact hlt) HLN.out
            have hcs := cntP_small HOK.out (L.take i ++ [(g : Int)])
            obtain ⟨cn, hcn⟩ : ∃ cn, cntP d (L.take i ++ [(g : Int)]) = cn := ⟨_, rfl⟩
            rw [hcn] at hIN hcs
            have HCE := Lib.hid hcn
            have HIN := Lib.hid hIN
            have hwr : IntKind.i64.wrap ((y : Int) + (cn : Int)) = ((y + cn : Nat) : Int) := by
              rw [IntWalk.i64_in _ (by constructor <;> omega)]
              push_cast
              rfl
            clear hIN hcn HII
            go_upto_region 12 with fail
            obtain ⟨Sc, HSd⟩ : ∃ Sc : World → Prop, Sc = fun w' => BoxN w' X [.slice ta d.N tc, .int .i64 d.G, .int .i64 d.most] := ⟨_, rfl⟩
            have OS : Hid (∀ wa, Sc wa → BoxN wa X [.slice ta d.N tc, .int .i64 d.G, .int .i64 d.most]) := by subst HSd; exact fun wa h => h
            have KS : Hid (∀ wa, Below V.heap.size V wa → Sc wa) := by subst HSd; exact fun wa h => HXV.out wa h
            clear HSd
            have HVd : Hid (Below V.heap.size V wr.drew) := HVW.out.drew
            have HVa : Hid (Below V.heap.size V (wr.drew.alloc (.cells #[.int .i64 (g : Int)] 3))) := HVd.out.alloc HVd.out.size _
            have HOa : Hid ((wr.drew.alloc (.cells #[.int .i64 (g : Int)] 3)).ownsRow V.heap.size 3 1 (.slice (some ⟨Y, 0, none⟩) i m) i ((L.take i).map (Value.int .i64))) := owns_below (w := wr.drew) HOW.out ((Below.refl _ _).alloc (Nat.le_refl _) _) (Nat.le_refl _)
            have HNW : Hid (∀ j u, [Value.int .i64 (g : Int)][j]? = some u → (wr.drew.alloc (.cells #[.int .i64 (g : Int)] 3)).cell? ((⟨wr.drew.heap.size, 0, none⟩ : Addr).add j) = some u) := World.news_of_block (cs := #[.int .i64 (g : Int)]) (heap_alloc_new _ _)
            refine wp_region_held_drew (S := Sc) (by kernel_rfl) ?_ (fun hHeld => ?_)
            · exact KS.out _ HVd.out
            refine wpAnyH_take (i := 0) (v := ?_) rfl (by kernel_rfl) (by kernel_rfl) (by kernel_rfl) (fun _ _ _ h => h) (Or.inl ⟨by rfl, ?_⟩) (by assumption) ?_
            rotate_left
            · (intro wa hSw; go_simp; try with_reducible rfl)
            simp only [Act.put, List.getElem_toArray, List.getElem_cons_zero, List.setIfInBounds_toArray, List.set_cons_zero, List.set_cons_succ]
            refine wpAnyH_take (i := 1) (v := ?_) rfl (by kernel_rfl) (by kernel_rfl) (by kernel_rfl) (fun _ _ _ h => h) (Or.inl ⟨by rfl, ?_⟩) (by assumption) ?_
            rotate_left
            · (intro wa hSw; have hI := OS.out _ hSw; have c0 := hI.2 0 _ rfl; have c1 := hI.2 1 _ rfl; have c2 := hI.2 2 _ rfl; go_simp; try with_reducible rfl)
            simp only [Act.put, List.getElem_toArray, List.getElem_cons_zero, List.getElem_cons_succ, List.setIfInBounds_toArray, List.set_cons_zero, List.set_cons_succ]
            refine wpAnyH_take (i := 2) (v := ?_) rfl (by kernel_rfl) (by kernel_rfl) (by kernel_rfl) (fun _ _ _ h => h) (Or.inl ⟨by rfl, ?_⟩) (by assumption) ?_
            rotate_left
            · (intro wa hSw; go_simp; try with_reducible rfl)
            simp only [Act.put, List.getElem_toArray, List.getElem_cons_zero, List.getElem_cons_succ, List.setIfInBounds_toArray, List.set_cons_zero, List.set_cons_succ]
            refine wpAnyH_take (i := 3) (v := ?_) rfl (by kernel_rfl) (by kernel_rfl) (by kernel_rfl) (fun _ _ _ h => h) (Or.inl ⟨by rfl, ?_⟩) (by assumption) ?_
            rotate_left
            · (intro wa hSw; go_simp; try with_reducible rfl)
            simp only [Act.put, List.getElem_toArray, List.getElem_cons_zero, List.getElem_cons_succ, List.setIfInBounds_toArray, List.set_cons_zero, List.set_cons_succ]
            refine wpAnyH_ready (rs := [4]) (by kernel_rfl) (by simp) ?_
            refine AllReadyH.cons (o := _) rfl (fun K hK => ?_) AllReadyH.nil
            go_simp
            (try go_wp2_with fail)
            refine hK.out _ _ ?_ (fun hHeld1 => ?_)
            · exact KS.out _ HVa.out
            clear hK K hHeld
            try simp only [Act.put, List.getElem_toArray, List.getElem_cons_zero, List.getElem_cons_succ, List.setIfInBounds_toArray, List.set_cons_zero, List.set_cons_succ]
            refine wpAnyH_ready (rs := [5]) (by kernel_rfl) (by simp) ?_
            refine AllReadyH.cons (o := _) rfl (fun K hK => ?_) AllReadyH.nil
            rw [if_pos (by rfl)]
            refine wp_append_own_spare _ (.tmp 43) (.tmp 45) 31 rfl V.heap.size 3 i0 1 Try.underlying31 hi hz1 Y i m _ (by rfl) HOa.out ⟨wr.drew.heap.size, 0, none⟩ 1 1 [.int .i64 (g : Int)] (by rfl) rfl HNW.out (by intro u hu; simp at hu; subst hu; rfl) (by omega) ?_
            intro w5 ho5 hg5
            have HV5 : Hid (Below V.heap.size V w5) := HVa.out.grown hg5 HVa.out.size (fun q h => by cases h; exact hVY)
            have HO5 := Lib.hid ho5
            have C5 := Lib.hid (CA.out w5 (.slice (some ⟨Y, 0, none⟩) (i + 1) m) (L.take i ++ [(g : Int)]) HV5.out (IntRow.of_list (base := V.heap.size) (e := 3) (by rw [List.length_append, List.length_take, List.length_singleton, Nat.min_eq_left (by have := HM.out; omega), List.map_append]; exact ho5) (by rw [List.length_append, List.length_take, List.length_singleton]; omega)))
            rw [HCE.out] at C5
            clear ho5 hg5
            refine hK.out _ _ ?_ (fun hHeld => ?_)
            · exact KS.out _ HV5.out
            clear hK K hHeld1
            try simp only [Act.put, List.getElem_toArray, List.getElem_cons_zero, List.getElem_cons_succ, List.setIfInBounds_toArray, List.set_cons_zero, List.set_cons_succ]
            refine wpAnyH_ready (rs := [6]) (by kernel_rfl) (by simp) ?_
            refine AllReadyH.cons (o := _) rfl (fun K hK => ?_) AllReadyH.nil
            go_simp
            refine C5.out.mono ?_
            rintro e w6 ⟨rfl, b⟩
            have HV6 : Hid (Below V.heap.size V w6) := HV5.out.trans (b.mono HV5.out.size)
            have HO6 := Lib.hid (owns_below HO5.out b (Nat.le_refl _))
            (try go_wp2_with fail)
            refine hK.out _ _ ?_ (fun hHeld1 => ?_)
            · exact KS.out _ HV6.out
            clear hK K hHeld
            try simp only [Act.put, List.getElem_toArray, List.getElem_cons_zero, List.getElem_cons_succ, List.setIfInBounds_toArray, List.set_cons_zero, List.set_cons_succ]
            refine wpAnyH_take (i := 7) (v := .int .i64 ((y + cn : Nat) : Int)) rfl (by kernel_rfl) (by kernel_rfl) (by kernel_rfl) (fun _ _ _ h => h) (Or.inl ⟨by rfl, ?_⟩) (by assumption) ?_
            · (intro wa hSw; go_simp)
            simp only [Act.put, List.getElem_toArray, List.getElem_cons_zero, List.getElem_cons_succ, List.setIfInBounds_toArray, List.set_cons_zero, List.set_cons_succ]
            refine wpAnyH_take (i := 8) (v := ?_) rfl (by kernel_rfl) (by kernel_rfl) (by kernel_rfl) (fun _ _ _ h => h) (Or.inl ⟨by rfl, ?_⟩) (by assumption) ?_
            rotate_left
            · (intro wa hSw; go_simp; try with_reducible rfl)
            simp only [Act.put, List.getElem_toArray, List.getElem_cons_zero, List.getElem_cons_succ, List.setIfInBounds_toArray, List.set_cons_zero, List.set_cons_succ]
            refine wpAnyH_done (by kernel_rfl) ?_ _
            have HO7 : Hid (w6.ownsRow V.heap.size 3 1 (.slice (some ⟨Y, 0, none⟩) i m) i ((L.take i).map (Value.int .i64))) := owns_front HO6.out
            clear hHeld1 KS OS HVd HVa HOa HNW HV5 HO5 C5 HO6 b
            go_wp2_with fail
            go_roundw
            case rel => exact ⟨g + 1, y + cn, by omega, by go_num, by first | rfl | go_num, HIN, HO7, HV6⟩
            case measure => simp [RowKit.intOf]; omega
          · have hge : g = xn := by omega
            subst hge
            have HIO : Hid (IdxO d L Rn (i + 1) y) := HII.out.done HOK.out (by rw [HM.out]; exact hlt) HLN.out (by rw [HXE.out]; omega)
            have HTK : Hid (L.take (i + 1) = L.take i ++ [(g : Int)]) := by show _ = _; rw [take_at (by rw [HM.out]; exact hlt), HXE.out]
            clear HII
            go_wp2_with (at_builtin; refine wpList_append_own_spare _ rfl (.tmp 50) (.tmp 52) 31 rfl V.heap.size 3 i0 1 Try.underlying31 hi hz1 Y i m _ rfl (HOW.out.alloc _) ⟨wr.heap.size, 0, none⟩ 1 1 [.int .i64 (g : Int)] rfl rfl (cell_one_new _ _ _) (by intro u hu; simp at hu; subst hu; rfl) (by omega) ?_; intro w5 ho5 hg5)
            have HO5 : Hid (w5.ownsRow V.heap.size 3 1 (.slice (some ⟨Y, 0, none⟩) (i + 1) m) (i + 1) ((L.take (i + 1)).map (Value.int .i64))) := by
              rw [HTK.out, List.map_append]
              exact ho5
            have HV5 : Hid (Below V.heap.size V w5) := (HVW.out.alloc HVW.out.size _).grown hg5 (by simp; have := HVW.out.size; omega) (fun q h => by cases h; exact hVY)
            clear ho5 hg5 HTK
            go_roundw
            case rel => exact ⟨i + 1, y, by omega, rfl, rfl, by go_num, HIO, HO5, HV5⟩
            case measure => simp [RowKit.intOf]; omega
      · have hie : i = m := by omega
        subst hie
        have hRR : idx = Rn := by
          have h9 := HIO.out
          rw [← HM.out] at h9
          exact h9.last
        have HBF : Hid (Below w.heap.size w wr) := HBV.out.trans (HVW.out.mono hwV)
        have HRF : Hid ((idx : Int) = R) := by show _ = _; rw [hRR, HRE.out]
        clear HIO HOW HVW hRR
        go_wp2
        go_ret
        exact ⟨by rw [HRF.out]; rfl, HBF.out⟩
end Go.Proofs.Ytmhkkdnopcdibaa
