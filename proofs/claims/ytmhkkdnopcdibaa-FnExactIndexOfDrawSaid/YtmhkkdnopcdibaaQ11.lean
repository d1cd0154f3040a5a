/-
  Packed: Draw7, Draw8, Draw9, Draw10, DrawTy, FieldImpl.
-/
import Derived.Test.YtmhkkdnopcdibaaQ3
import Derived.Test.YtmhkkdnopcdibaaQ4
import Derived.Test.YtmhkkdnopcdibaaQ5
import Derived.Test.YtmhkkdnopcdibaaQ6
import Derived.Test.YtmhkkdnopcdibaaQ10
set_option linter.unusedVariables false
namespace Go.Proofs.Ytmhkkdnopcdibaa
open Go.RowKit

theorem DrwAt.belowHi {w w' : World} {lo hi X : Nat} {d : DrwD} {P : Nat → Nat → Bool} {C : Nat → Nat → Int} (h : DrwAt w lo hi X d P C) (hG : 0 < d.G) (b : Below hi w w') : DrwAt w' lo hi X d P C := by
  have hl : lo < hi := Nat.lt_of_le_of_lt h.mp.low.1 h.mp.low.2
  have key : ∀ (k o : Nat) (u : Value), k < hi → w.cell? ⟨k, o, none⟩ = some u → w'.cell? ⟨k, o, none⟩ = some u := fun k o u hk hc => (b.cell (p := ⟨k, o, none⟩) hk).trans hc
  have keyf : ∀ (k o : Nat), k < hi → w'.frozen? ⟨k, o, none⟩ = w.frozen? ⟨k, o, none⟩ := fun k o hk => b.frozen (p := ⟨k, o, none⟩) hk
  obtain ⟨l1, l2, l3, l4⟩ := h.low
  have mat : ∀ {gb cap : Nat} {r rc : Nat → Nat} {n m : Nat} {f : Nat → Nat → Value}, Mat w lo hi gb cap r rc n m f → Mat w' lo hi gb cap r rc n m f := fun hm =>
    ⟨hm.cap, hm.low, Nat.le_trans hm.high b.size, fun g hg => key _ _ _ hm.low.2 (hm.cell g hg), hm.rcap, hm.row, hm.diff, fun g j hg hj => ⟨key _ _ _ (hm.row g hg).2.1 (hm.val g j hg hj).1, (keyf _ _ (hm.row g hg).2.1).trans (hm.val g j hg hj).2⟩⟩
  exact ⟨⟨Nat.lt_of_lt_of_le h.box.1 b.size, fun j v hv => key _ _ _ (Nat.lt_trans l1 hl) (h.box.2 j v hv)⟩, h.low, h.caps, fun i hi => ⟨key _ _ _ (Nat.lt_trans l3 hl) (h.team i hi).1, (h.team i hi).2⟩, fun i hi => ⟨key _ _ _ (Nat.lt_trans l4 hl) (h.pot i hi).1, (h.pot i hi).2⟩, fun i hi => ⟨key _ _ _ (Nat.lt_trans l2 hl) (h.club i hi).1, (h.club i hi).2⟩, mat h.mp, mat h.mc, h.apart⟩
def pickG (S : Nat → Nat) (x G : Nat) : Nat := ((List.range G).find? fun g => decide (x < S (g + 1))).getD 0
theorem pickG_is {S : Nat → Nat} {x G g : Nat} (hg : g < G) (hx : x < S (g + 1)) (hb : ∀ k, k < g → ¬ x < S (k + 1)) : pickG S x G = g := by
  unfold pickG
  have h : (List.range G).find? (fun g => decide (x < S (g + 1))) = some g := by
    rw [List.find?_eq_some_iff_getElem]
    refine ⟨by simpa using hx, g, by simpa using hg, by simp, fun j hj => ?_⟩
    have := hb j hj
    simpa using this
  rw [h]
  rfl
def atF (d : DrwD) : Nat → (Nat → Nat → Bool) → (Nat → Nat → Int) → Nat → Nat → List Int
  | 0, _, _, _, _ => []
  | f + 1, P, C, i, x => ((pickG (befS d i P C) x d.G : Nat) : Int) :: atF d f (putP d P i (pickG (befS d i P C) x d.G) true) (putC d C i (pickG (befS d i P C) x d.G) true) (i + 1) (x - befS d i P C (pickG (befS d i P C) x d.G))
theorem DrwEq.bef {d d' : DrwD} (h : DrwEq d d') : befS d = befS d' := by
  funext i P C
  unfold befS
  rw [h.N, h.fit, h.cnt, h.putP, h.putC]
theorem DrwEq.at' {d d' : DrwD} (h : DrwEq d d') : atF d = atF d' := by
  funext f
  induction f with
  | zero => rfl
  | succ f IH =>
    funext P C i x
    unfold atF
    rw [h.G, h.bef, h.putP, h.putC, IH]
theorem cnt_bef {d : DrwD} {P : Nat → Nat → Bool} {C : Nat → Nat → Int} {i : Nat} (hi : i < d.N) : cntF d (d.N - i) P C i = befS d i P C d.G := by
  obtain ⟨f, hf⟩ : ∃ f, d.N - i = f + 1 := ⟨d.N - (i + 1), by omega⟩
  have e : d.N - (i + 1) = f := by omega
  rw [hf]
  show (if i = d.N then _ else _) = _
  rw [if_neg (by omega)]
  unfold befS
  rw [e]
theorem atF_step {d : DrwD} {P : Nat → Nat → Bool} {C : Nat → Nat → Int} {i x g : Nat} (hi : i < d.N) (hp : pickG (befS d i P C) x d.G = g) :
    atF d (d.N - i) P C i x = ((g : Nat) : Int) :: atF d (d.N - (i + 1)) (putP d P i g true) (putC d C i g true) (i + 1) (x - befS d i P C g) := by
  obtain ⟨f, hf⟩ : ∃ f, d.N - i = f + 1 := ⟨d.N - (i + 1), by omega⟩
  have e : d.N - (i + 1) = f := by omega
  rw [hf, e, ← hp]
  rfl
theorem atF_len (d : DrwD) : ∀ (f : Nat) (P : Nat → Nat → Bool) (C : Nat → Nat → Int) (i x : Nat), (atF d f P C i x).length = f
  | 0, _, _, _, _ => rfl
  | f + 1, P, C, i, x => by
    show (atF d f _ _ _ _).length + 1 = _
    rw [atF_len d f]
set_option maxRecDepth 100000 in
set_option maxHeartbeats 8000000 in
theorem l12At_spec (vf : Value) (nf : Nat) (F : Nat → TeamD) (vp : Value) (gr most : Int) (T : List (List Int)) (x : Nat) (w : World) (hp : potsP nf F T gr most) (hx : x < cntF (drwD F T gr most) T.flatten.length noP noC 0) (hf : TeamRow w vf nf F) (h : RdA tIntSS w [vp] T) (hw : tIntSS.wt T ≤ 1048576) :
    Calls Try.prog 68 #[vf, .agg #[vp, .int .i64 gr, .int .i64 most], .int .i64 x] w (IntsL w (atF (drwD F T gr most) T.flatten.length noP noC 0 x)) := by
  obtain ⟨i0, hi, hz0, hz1, hz2⟩ := info_parts Try.infoI
  obtain ⟨pa, pc, rfl, hpn⟩ := pots_form h
  obtain ⟨U, hU⟩ : ∃ U, w.alloc (.cells #[.slice pa (List.length (α := List Int) T) pc, .int .i64 gr, .int .i64 most] 26) = U := ⟨_, rfl⟩
  have bU : Below w.heap.size w U := by rw [← hU]; exact (Below.refl _ _).alloc (Nat.le_refl _) _
  have HS : Hid (PotsAt U w.heap.size pa (List.length (α := List Int) T) pc gr most T) := by rw [← hU]; exact PotsAt.made h
  have HB := Lib.hid bU
  have CN := Lib.hid (l12New_spec vf nf F (.slice pa (List.length (α := List Int) T) pc) gr most T U (hf.below bU (Nat.le_refl _)) HS.out.2 hw hp)
  obtain ⟨np, hnp⟩ : ∃ np, List.length (α := List Int) T = np := ⟨_, rfl⟩
  rw [hnp] at hpn hU HS CN ⊢
  have c0 := HS.out.1.2 0 _ rfl
  have c1 := HS.out.1.2 1 _ rfl
  have c2 := HS.out.1.2 2 _ rfl
  have HX := Lib.hid hx
  obtain ⟨RR, hRR⟩ : ∃ RR, atF (drwD F T gr most) T.flatten.length noP noC 0 x = RR := ⟨_, rfl⟩
  have HRR := Lib.hid hRR
  rw [hRR]
  have HG0 : Hid (1 ≤ gr ∧ gr ≤ 4) := hp.2.1
  clear h hf bU hw hp hx hnp hpn hRR
  go_enter Try.func68, Try.ntmps68
  go_wp2_with fail
  clear hU c0 c1 c2
  refine CN.out.mono ?_
  rintro e w2 ⟨lo, hi2, X, d, rfl, hq, hdr, b, hlo⟩
  have HB2 := Lib.hid (HB.out.trans (b.mono HB.out.size))
  have HLO : Hid (w.heap.size ≤ lo) := Nat.le_trans HB.out.size hlo
  have h4 : d.G ≤ 4 := hdr.caps.2.2.2.2.1
  have h12 : d.N ≤ 12 := hdr.caps.2.2.2.1
  have hG1 : 0 < d.G := by have h9 := hq.G; have h8 : (drwD F T gr most).G = gr.toNat := rfl; have := HG0.out; omega
  have hhi : hi2 ≤ w2.heap.size := hdr.mp.high
  have hlh : lo < hi2 := Nat.lt_of_le_of_lt hdr.mp.low.1 hdr.mp.low.2
  have HN : Hid (T.flatten.length = d.N) := hq.N.symm
  have HX0 : Hid (x < cntF d (d.N - 0) noP noC 0) := by have h9 := HX.out; rw [HN.out, ← hq.cnt] at h9; exact h9
  have HR0 : Hid (([] : List Int) ++ atF d (d.N - 0) noP noC 0 x = RR) := by have h9 := HRR.out; rw [HN.out, ← hq.at'] at h9; exact h9
  obtain ⟨W, hW⟩ : ∃ W, w2.alloc (.cells #[] 3) = W := ⟨_, rfl⟩
  have bW : Below w2.heap.size w2 W := by rw [← hW]; exact (Below.refl _ _).alloc (Nat.le_refl _) _
  have ON : Hid (W.ownsRow w2.heap.size 3 1 (.slice (some ⟨w2.heap.size, 0, none⟩) 0 0) 0 []) := by rw [← hW]; exact World.ownsRow_lit (e := 3) (size := 1) w2 #[] 0 (Nat.le_refl _) (by decide) rfl
  have HDW := Lib.hid (hdr.below bW)
  have HBW : Hid (Below lo w2 W) := bW.mono (by omega)
  have q2 := HDW.out.box.2 2 _ rfl
  have hsl : lo ≤ w2.heap.size := by omega
  clear hdr hq b hlo CN HX HRR bW
  obtain ⟨N, hNd⟩ : ∃ N, d.N = N := ⟨_, rfl⟩
  have HND := Lib.hid hNd
  rw [hNd] at h12 q2 HX0 HR0
  clear hNd
  go_wp2
  clear hW q2
  go_loopw [2, 8, 21] (fun xv ov iv wr => ∃ (i x : Nat) (out : List Int) (P : Nat → Nat → Bool) (C : Nat → Nat → Int), i ≤ N ∧ iv = .int .i64 i ∧ xv = .int .i64 x ∧ out.length = i ∧ Hid (out ++ atF d (N - i) P C i x = RR) ∧ Hid (x < cntF d (N - i) P C i) ∧ Hid (wr.ownsRow w2.heap.size 3 1 ov i (out.map (Value.int .i64))) ∧ Hid (DrwAt wr lo hi2 X d P C) ∧ Hid (clubB d C i) ∧ Hid (Below lo w2 wr)) (fun _ _ iv _ => N - (RowKit.intOf iv).toNat)
  case atStart => exact ⟨0, x, [], noP, noC, Nat.zero_le _, rfl, rfl, rfl, HR0, HX0, ON, HDW, clubB.none d, HBW⟩
  case round =>
    clear HR0 HX0 ON HDW HBW
    obtain ⟨i, x, out, P, C, hi9, rfl, rfl, hol, HV, HXC, HO, HD, HC, HBr⟩ := hrel
    by_cases hlt : i < N
    · have hj1 : (i : Int) < (N : Int) := by omega
      have hiN : i < d.N := by rw [HND.out]; exact hlt
      have hcl6 := (HD.out.club i hiN).2
      have HXB : Hid (x < befS d i P C d.G) := by have h9 := HXC.out; rw [← HND.out, cnt_bef hiN] at h9; exact h9
      have HLE : Hid (∀ k, k ≤ 4 → befS d i P C k ≤ 67108864) := befS_le d h4 (by rw [HND.out]; exact h12) i P C
      have HST := Lib.hid (befS_succ d i P C)
      have HAT : Hid (∀ g, pickG (befS d i P C) x d.G = g → out ++ ([((g : Nat) : Int)] ++ atF d (N - (i + 1)) (putP d P i g true) (putC d C i g true) (i + 1) (x - befS d i P C g)) = RR) := fun g hg => by
        have h9 := HV.out
        rw [← HND.out, atF_step hiN hg, HND.out] at h9
        exact h9
      have hx6 : x ≤ 67108864 := by have := HXB.out; have := HLE.out d.G h4; omega
      have HS0 : Hid (befS d i P C 0 = 0) := rfl
      have HPK : Hid (∀ g, g < d.G → x < befS d i P C (g + 1) → (∀ k, k < g → ¬ x < befS d i P C (k + 1)) → pickG (befS d i P C) x d.G = g) := fun g => pickG_is
      obtain ⟨SS, hSS⟩ : ∃ SS, befS d i P C = SS := ⟨_, rfl⟩
      rw [hSS] at HXB HLE HST HAT HS0 HPK
      clear hSS HV HXC
      have q4 := HD.out.box.2 4 _ rfl
      obtain ⟨G, hGd⟩ : ∃ G, d.G = G := ⟨_, rfl⟩
      have HGD := Lib.hid hGd
      rw [hGd] at q4 h4 hG1 HXB HPK
      clear hGd
      obtain ⟨oa, oc, hof⟩ := owns_form HO.out
      subst hof
      go_wp2
      clear q4
      generalize wr = w3 at *
      go_loopw [2, 8, 29] (fun xv ov gv wr => ∃ (g y : Nat), g ≤ G ∧ gv = .int .i64 g ∧ xv = .int .i64 y ∧ ov = .slice oa i oc ∧ Hid (y + SS g = x) ∧ Hid (∀ k, k < g → ¬ x < SS (k + 1)) ∧ Hid (wr.ownsRow w2.heap.size 3 1 (.slice oa i oc) i (out.map (Value.int .i64))) ∧ Hid (DrwAt wr lo hi2 X d P C) ∧ Hid (Below lo w2 wr)) (fun _ _ gv _ => G - (RowKit.intOf gv).toNat)
      case atStart => exact ⟨0, x, Nat.zero_le _, rfl, rfl, rfl, by show _ = _; rw [HS0.out]; rfl, fun k hk => absurd hk (Nat.not_lt_zero _), HO, HD, HBr⟩
      case round =>
        clear HO HD HBr
        obtain ⟨g, y, hg9, rfl, rfl, rfl, HY, HNB, HO, HD, HBr⟩ := hrel
        by_cases hlt2 : g < G
        · have hj2 : (g : Int) < (G : Int) := by omega
          have hgG : g < d.G := by rw [HGD.out]; exact hlt2
          have hb1 := HLE.out g (by omega)
          have hb2 := HLE.out (g + 1) (by omega)
          rw [HST.out] at hb2
          have hy6 : y ≤ 67108864 := by have := HY.out; omega
          have HSN := Lib.hid (HST.out g)
          have CF := Lib.hid (l12Fits_spec w3 lo hi2 X d P C i g)
          have CF2 := Lib.hid (l12Fits_spec wr lo hi2 X d P C i g HD.out hiN hgG)
          have HFF : Hid (fitB d P C i g = true → P g (d.pot i) = false) := fun h => (fit_free h).1
          obtain ⟨ft, hft⟩ : ∃ b, fitB d P C i g = b := ⟨_, rfl⟩
          rw [hft] at CF2 HSN HFF hb2
          clear hft CF
          go_wp2_with fail
          refine CF2.out.mono ?_
          rintro e w4 ⟨rfl, b4⟩
          have HD1 := Lib.hid (HD.out.below b4)
          have HB4 : Hid (Below lo w2 w4) := HBr.out.trans (b4.mono (Nat.le_trans hsl HBr.out.size))
          have HO1 := Lib.hid (owns_below HO.out b4 (Nat.le_refl _))
          clear b4 CF2 HD HBr HO
          cases ft with
          | false =>
            have HYx : Hid (y + SS (g + 1) = x) := by show _ = _; rw [HSN.out, if_neg (by simp), Nat.add_zero]; exact HY.out
            have HNx : Hid (∀ k, k < g + 1 → ¬ x < SS (k + 1)) := fun k hk => by
              by_cases e : k = g
              · rw [e]; have := HYx.out; omega
              · exact HNB.out k (by omega)
            clear HSN HFF hb2
            go_wp2
            go_roundw
            case rel => exact ⟨g + 1, y, by omega, by go_num, rfl, rfl, HYx, HNx, HO1, HD1, HB4⟩
            case measure => simp [RowKit.intOf]; omega
          | true =>
            rw [if_pos rfl] at hb2
            have HSx : Hid (SS (g + 1) = SS g + cntF d (d.N - (i + 1)) (putP d P i g true) (putC d C i g true) (i + 1)) := by show _ = _; rw [HSN.out, if_pos rfl]
            have hcb := HC.out g _ hgG hcl6
            have CP := Lib.hid (l12Put_spec w4 lo hi2 X d P C i g true HD1.out hiN hgG (by omega))
            have HPB : Hid (putP d (putP d P i g true) i g false = P) := putP_back (HFF.out rfl)
            have HCB : Hid (putC d (putC d C i g true) i g false = C) := putC_back
            have HCN := Lib.hid (HC.out.put hgG hcl6)
            have HI4 := Lib.hid (InW.of_owns HO1.out)
            clear HSN HFF
            go_wp2_with fail
            refine CP.out.mono ?_
            rintro e w5 ⟨rfl, hd2, ht2⟩
            have HD5 := Lib.hid hd2
            have HB5 : Hid (Below lo w2 w5) := HB4.out.trans (ht2.below (Nat.le_refl _) (Nat.le_trans hsl HB4.out.size))
            have HO5 := Lib.hid (owns_touch HO1.out ht2 HI4.out (.inr hhi))
            clear hd2 ht2 CP HD1 HB4 HO1 HI4
            have CC := Lib.hid (l12Count_spec lo hi2 X d (d.N - (i + 1)) (i + 1) _ _ w5 (by omega) HD5.out HCN.out)
            have hcn := HCN.out g _ hgG hcl6
            have CP2 := Lib.hid (fun wa ha => l12Put_spec wa lo hi2 X d (putP d P i g true) (putC d C i g true) i g false ha hiN hgG (by omega))
            rw [HPB.out, HCB.out] at CP2
            have HKK : Hid (cntF d (N - (i + 1)) (putP d P i g true) (putC d C i g true) (i + 1) = cntF d (d.N - (i + 1)) (putP d P i g true) (putC d C i g true) (i + 1)) := by show _ = _; rw [HND.out]
            have HI5 := Lib.hid (InW.of_owns HO5.out)
            clear HPB HCB hcn
            obtain ⟨kk, hkk⟩ : ∃ kk, cntF d (d.N - (i + 1)) (putP d P i g true) (putC d C i g true) (i + 1) = kk := ⟨_, rfl⟩
            rw [hkk] at CC HSx HKK hb2
            clear hkk
            go_wp2_with fail
            refine CC.out.mono ?_
            rintro e w6 ⟨rfl, hd3, ht3⟩
            have HD6 := Lib.hid hd3
            have HB6 : Hid (Below lo w2 w6) := HB5.out.trans (ht3.below (Nat.le_refl _) (Nat.le_trans hsl HB5.out.size))
            have HO6 := Lib.hid (owns_touch HO5.out ht3 HI5.out (.inr hhi))
            clear hd3 ht3 CC HD5 HB5 HO5 HI5
            by_cases hyk : y < kk
            · have g1 : decide ((y : Int) < (kk : Int)) = true := decide_eq_true (by omega)
              have g2 : decide (y < kk) = true := decide_eq_true hyk
              have HPg : Hid (out ++ ([((g : Nat) : Int)] ++ atF d (N - (i + 1)) (putP d P i g true) (putC d C i g true) (i + 1) (x - SS g)) = RR) := HAT.out g (by rw [HGD.out]; exact HPK.out g hlt2 (by have := HSx.out; have := HY.out; omega) HNB.out)
              have hxy : x - SS g = y := by have := HY.out; omega
              rw [hxy, ← List.append_assoc] at HPg
              have HXn : Hid (y < cntF d (N - (i + 1)) (putP d P i g true) (putC d C i g true) (i + 1)) := by show _ < _; rw [HKK.out]; exact hyk
              have hs6 : w2.heap.size ≤ w6.heap.size := HB6.out.size
              clear hxy
              go_wp2_with (at_builtin; refine wpList_pushL rfl (.tmp 48) (.tmp 50) 31 rfl w2.heap.size 3 Try.underlying31 hi hz0 hz1 hz2 rfl (by decide) [.int .i64 g] rfl (by intro u hu; simp at hu; subst hu; rfl) rfl (by show Value.slice (some ⟨_, 0, none⟩) 1 1 = _; simp) HO6.out (by unfold maxLen; omega) (by omega) hs6 ?_; intro gg9 cc9 w9 o9 g9 at9 lt9; have O9 := Lib.hid o9; have HB9 : Hid (Below w2.heap.size w6 w9) := Lib.hid ((Below.refl _ _).grown g9 hs6 (fun q hq => (HO6.out.lt q hq).1)); clear o9 g9 at9 lt9)
              have HD9 := Lib.hid (HD6.out.belowHi (by rw [HGD.out]; exact hG1) (HB9.out.mono hhi))
              have HBz : Hid (Below lo w2 w9) := HB6.out.trans (HB9.out.mono hsl)
              go_roundw
              case rel => exact ⟨i + 1, y, out ++ [(g : Int)], _, _, by omega, by go_num, rfl, by rw [List.length_append, List.length_singleton, hol], HPg, HXn, by rw [List.map_append]; exact O9, HD9, HCN, HBz⟩
              case measure => simp [RowKit.intOf]; omega
            · have g1 : decide ((y : Int) < (kk : Int)) = false := decide_eq_false (by omega)
              have g2 : decide (y < kk) = false := decide_eq_false hyk
              have HYx : Hid ((y - kk) + SS (g + 1) = x) := by show _ = _; have := HSx.out; have := HY.out; omega
              have HNx : Hid (∀ k, k < g + 1 → ¬ x < SS (k + 1)) := fun k hk => by
                by_cases e : k = g
                · rw [e]; have := HYx.out; omega
                · exact HNB.out k (by omega)
              have HI6 := Lib.hid (InW.of_owns HO6.out)
              have CPx := Lib.hid (CP2.out _ HD6.out)
              have hsub : (y : Int) - (kk : Int) = ((y - kk : Nat) : Int) := by omega
              clear CP2 HKK
              go_wp2_with fail
              refine CPx.out.mono ?_
              rintro e w7 ⟨rfl, hd4, ht4⟩
              have HD7 := Lib.hid hd4
              have HB7 : Hid (Below lo w2 w7) := HB6.out.trans (ht4.below (Nat.le_refl _) (Nat.le_trans hsl HB6.out.size))
              have HO7 := Lib.hid (owns_touch HO6.out ht4 HI6.out (.inr hhi))
              clear hd4 ht4 CPx
              go_wp2
              go_roundw
              case rel => exact ⟨g + 1, y - kk, by omega, by go_num, by first | rfl | exact congrArg (Value.int .i64) hsub, rfl, HYx, HNx, HO7, HD7, HB7⟩
              case measure => simp [RowKit.intOf]; omega
        exfalso
        obtain rfl : g = G := by omega
        have h9 := HXB.out
        have h8 := HY.out
        omega
    obtain rfl : N = i := by omega
    have HE : Hid (out = RR) := by
      have h9 := HV.out
      rw [Nat.sub_self] at h9
      show _ = _
      rw [← h9]
      exact (List.append_nil out).symm
    go_wp2
    go_ret
    rw [← HE.out]
    exact ⟨_, rfl, by rw [hol]; exact owns_mono HO.out HB2.out.size, HB2.out.trans (HBr.out.mono HLO.out)⟩
end Go.Proofs.Ytmhkkdnopcdibaa
set_option linter.unusedVariables false
namespace Go.Proofs.Ytmhkkdnopcdibaa
open Go.RowKit

theorem pots_twelve {nf : Nat} {F : Nat → TeamD} {T : List (List Int)} {gr most : Int} (hp : potsP nf F T gr most) : (drwD F T gr most).G ≤ 4 ∧ T.flatten.length ≤ 12 := by
  obtain ⟨_, hg, _, ht, hr, _⟩ := hp
  refine ⟨by show gr.toNat ≤ 4; omega, ?_⟩
  have h1 := flat_most (G := gr.toNat) T fun i hi => by have := (hr i hi).2; omega
  have h2 : T.length * gr.toNat ≤ 3 * 4 := Nat.mul_le_mul (by omega) (by omega)
  omega
theorem cdN_none (F : Nat → TeamD) (T : List (List Int)) (gr most : Int) : cdN F T gr most [] = (cntF (drwD F T gr most) T.flatten.length noP noC 0 : Nat) := by
  have h : begB (drwD F T gr most) [] noP noC = some (noP, noC) := if_pos (Nat.zero_le _)
  unfold cdN
  rw [h]
  rfl
def NthM (w : World) (R : Option (List Int)) (e : Ending) (w' : World) : Prop :=
  match R with
  | none => e = .returned (.tuple #[.slice none 0 0, .bool false]) ∧ Below w.heap.size w w'
  | some L => ∃ v, e = .returned (.tuple #[v, .bool true]) ∧ w'.ownsRow w.heap.size 3 1 v L.length (L.map (Value.int .i64)) ∧ Below w.heap.size w w'
def nthL (F : Nat → TeamD) (T : List (List Int)) (gr most c x : Int) : Option (List Int) := if 0 ≤ x ∧ x ≤ c - 1 then some (atF (drwD F T gr most) T.flatten.length noP noC 0 x.toNat) else none
set_option maxRecDepth 100000 in
set_option maxHeartbeats 4000000 in
theorem nthDraw_spec (vf : Value) (nf : Nat) (F : Nat → TeamD) (vp : Value) (gr most : Int) (T : List (List Int)) (c x : Int) (w : World) (hc : potsP nf F T gr most → c = cdN F T gr most []) (hc0 : ¬ potsP nf F T gr most → c = 0) (hf : TeamRow w vf nf F) (hs : ∀ i, (F i).nm.size ≤ maxLen) (h : RdA tIntSS w [vp] T) (hw : tIntSS.wt T ≤ 1048576) :
    Calls Try.prog 33 #[vf, .agg #[vp, .int .i64 gr, .int .i64 most], .int .i64 x] w (NthM w (nthL F T gr most c x)) := by
  obtain ⟨pa, pc, rfl, hpn⟩ := pots_form h
  obtain ⟨U, hU⟩ : ∃ U, w.alloc (.cells #[.slice pa (List.length (α := List Int) T) pc, .int .i64 gr, .int .i64 most] 26) = U := ⟨_, rfl⟩
  have bU : Below w.heap.size w U := by rw [← hU]; exact (Below.refl _ _).alloc (Nat.le_refl _) _
  have HS : Hid (PotsAt U w.heap.size pa (List.length (α := List Int) T) pc gr most T) := by rw [← hU]; exact PotsAt.made h
  have HB := Lib.hid bU
  have HF : Hid (TeamRow U vf nf F) := hf.below bU (Nat.le_refl _)
  have CF := Lib.hid (countDraws_spec l12New_spec vf nf F (.slice pa (List.length (α := List Int) T) pc) gr most T (.slice none 0 0) [] c U hc hc0 HF.out hs HS.out.2 hw (.inl ⟨none, 0, rfl, rfl⟩))
  have CA : Hid (∀ (y : Nat) (wa : World), potsP nf F T gr most → y < cntF (drwD F T gr most) T.flatten.length noP noC 0 → TeamRow wa vf nf F → RdA tIntSS wa [.slice pa (List.length (α := List Int) T) pc] T → Calls Try.prog 68 #[vf, .agg #[.slice pa (List.length (α := List Int) T) pc, .int .i64 gr, .int .i64 most], .int .i64 y] wa (IntsL wa (atF (drwD F T gr most) T.flatten.length noP noC 0 y))) := fun y wa h1 h2 h3 h4 => l12At_spec _ _ _ _ _ _ _ y wa h1 h2 h3 h4 hw
  have hcb : 0 ≤ c ∧ c ≤ 67108864 := by
    by_cases hp : potsP nf F T gr most
    · rw [hc hp, cdN_none]
      obtain ⟨h1, h2⟩ := pots_twelve hp
      have h3 := cntF_le (drwD F T gr most) h1 T.flatten.length noP noC 0
      have h5 : 4 ^ T.flatten.length ≤ 4 ^ 12 := Nat.pow_le_pow_right (by decide) h2
      have h6 : 4 ^ 12 ≤ 67108864 := by decide
      omega
    · rw [hc0 hp]; omega
  have HXR : Hid (0 ≤ x ∧ x ≤ c - 1 → potsP nf F T gr most ∧ x.toNat < cntF (drwD F T gr most) T.flatten.length noP noC 0) := fun hx => by
    by_cases hp : potsP nf F T gr most
    · refine ⟨hp, ?_⟩
      rw [hc hp, cdN_none] at hx
      omega
    · rw [hc0 hp] at hx; omega
  obtain ⟨r2, hr2⟩ := boolEx (0 ≤ x ∧ x ≤ c - 1)
  have HR2 := Lib.hid hr2
  have CI : Hid (∀ wa, Calls Try.prog 58 #[.int .i64 x, .int .i64 0, .int .i64 (c - 1)] wa fun e w' => e = .returned (.bool r2) ∧ wa = w') := fun wa => by
    cases r2 with
    | true => exact (l01In_yes _ _ _ _ (hr2.1 rfl)).mono fun e w' h => h
    | false => exact (l01In_no _ _ _ _ (fun h => by have := hr2.2 h; cases this)).mono fun e w' h => h
  have HNL : Hid (nthL F T gr most c x = if 0 ≤ x ∧ x ≤ c - 1 then some (atF (drwD F T gr most) T.flatten.length noP noC 0 x.toNat) else none) := rfl
  obtain ⟨RR, hRR⟩ : ∃ RR, nthL F T gr most c x = RR := ⟨_, rfl⟩
  rw [hRR] at HNL ⊢
  obtain ⟨np, hnp⟩ : ∃ np, List.length (α := List Int) T = np := ⟨_, rfl⟩
  rw [hnp] at hU HS CF CA ⊢
  have c0 := HS.out.1.2 0 _ rfl
  have c1 := HS.out.1.2 1 _ rfl
  have c2 := HS.out.1.2 2 _ rfl
  clear h hf hc hc0 hr2 bU hw hs hnp hpn hRR
  go_enter Try.func33, Try.ntmps33
  go_wp2_with fail
  clear hU c0 c1 c2
  refine CF.out.mono ?_
  rintro e w1 ⟨rfl, b⟩
  have HS1 := Lib.hid (HS.out.below b)
  have HF1 := Lib.hid (HF.out.below b (Nat.le_refl _))
  have HB1 := Lib.hid (HB.out.trans (b.mono HB.out.size))
  clear b HS HB CF HF
  have c0 := HS1.out.1.2 0 _ rfl
  have c1 := HS1.out.1.2 1 _ rfl
  have c2 := HS1.out.1.2 2 _ rfl
  go_wp2_with fail
  refine (CI.out _).mono ?_
  rintro e wx ⟨rfl, rfl⟩
  cases r2 with
  | false =>
    have HRx : Hid (RR = none) := by show _ = _; rw [HNL.out, if_neg (fun h => by have := HR2.out.2 h; cases this)]
    go_wp2
    refine bodyPost_ret (v := .tuple #[.slice none 0 0, .bool false]) (by simp [results, Try.results33, go_sem]) rfl ?_
    rw [HRx.out]
    exact ⟨rfl, HB1.out⟩
  | true =>
    have hx := HR2.out.1 (by first | rfl | trivial)
    have HRx : Hid (RR = some (atF (drwD F T gr most) T.flatten.length noP noC 0 x.toNat)) := by show _ = _; rw [HNL.out, if_pos hx]
    obtain ⟨hp, hxc⟩ := HXR.out hx
    obtain ⟨y, rfl⟩ : ∃ y : Nat, x = y := ⟨x.toNat, by omega⟩
    rw [Int.toNat_natCast] at HRx hxc
    have CA1 := Lib.hid (CA.out y w1 hp hxc HF1.out HS1.out.2)
    clear hp hxc hx CA HXR HNL HR2
    generalize atF (drwD F T gr most) T.flatten.length noP noC 0 y = LL at *
    go_wp2_with fail
    refine CA1.out.mono ?_
    rintro e w3 ⟨v, rfl, ho, b⟩
    have HO3 := Lib.hid ho
    have HB3 := Lib.hid (HB1.out.trans (b.mono HB1.out.size))
    have HSZ : Hid (w.heap.size ≤ w1.heap.size) := HB1.out.size
    clear ho b CA1 c0 c1 c2
    go_wp2
    refine bodyPost_ret (v := .tuple #[v, .bool true]) (by simp [results, Try.results33, go_sem]) rfl ?_
    rw [HRx.out]
    exact ⟨v, rfl, owns_mono HO3.out HSZ.out, HB3.out⟩
end Go.Proofs.Ytmhkkdnopcdibaa
set_option linter.unusedVariables false
namespace Go.Proofs.Ytmhkkdnopcdibaa
open Go.RowKit

theorem sumNN_mono (f : Nat → Nat) : ∀ {n k : Nat}, k ≤ n → sumNN f k ≤ sumNN f n
  | 0, k, h => by obtain rfl : k = 0 := by omega
                  exact Nat.le_refl _
  | n + 1, k, h => by
    by_cases e : k = n + 1
    · rw [e]; exact Nat.le_refl _
    · exact Nat.le_trans (sumNN_mono f (show k ≤ n by omega)) (Nat.le_add_right _ _)
def chF (d : DrwD) : Nat → (Nat → Nat → Bool) → (Nat → Nat → Int) → Nat → Nat → Nat
  | 0, P, C, i, h => if fitB d P C i h = true then cntF d (d.N - (i + 1)) (putP d P i h true) (putC d C i h true) (i + 1) else 0
  | f + 1, P, C, i, h => sumNN (fun g => if fitB d P C i g = true then chF d f (putP d P i g true) (putC d C i g true) (i + 1) h else 0) d.G
def SumI (w : World) (sb G : Nat) (S : Nat → Nat) : Prop := w.rowIs sb 3 G (fun g => .int .i64 (S g : Nat)) ∧ ∀ g, g < G → w.cell? ⟨sb, g, none⟩ = some (.int .i64 (S g : Nat)) ∧ w.frozen? ⟨sb, g, none⟩ = false
theorem SumI.of {w : World} {sb G : Nat} {S : Nat → Nat} (h : w.rowIs sb 3 G (fun g => .int .i64 (S g : Nat))) : SumI w sb G S := ⟨h, fun g hg => ⟨h.cell hg, h.frozen g⟩⟩
theorem SumI.congr {w : World} {sb G : Nat} {S S' : Nat → Nat} (h : SumI w sb G S) (e : ∀ g, g < G → S g = S' g) : SumI w sb G S' := SumI.of (h.1.congr fun g hg => by rw [e g hg])
theorem SumI.below {w w' : World} {sb G : Nat} {S : Nat → Nat} (h : SumI w sb G S) (b : Below w.heap.size w w') : SumI w' sb G S := SumI.of (h.1.of_block (b.block sb h.1.lt))
theorem SumI.touch {w w' : World} {lo hi sb G : Nat} {S : Nat → Nat} (h : SumI w sb G S) (t : Touch lo hi w w') (hs : hi ≤ sb) : SumI w' sb G S := SumI.of (h.1.of_block (t.block sb h.1.lt (.inr hs)))
theorem SumI.set {w : World} {sb G : Nat} {S : Nat → Nat} (h : SumI w sb G S) {g z : Nat} (hg : g < G) : SumI (w.setCell ⟨sb, g, none⟩ (.int .i64 (z : Nat))) sb G (fun a => if a = g then z else S a) :=
  SumI.of ((h.1.set g (.int .i64 (z : Nat))).congr fun a _ => by
    show (if a = g then Value.int .i64 (z : Nat) else _) = Value.int .i64 ((if a = g then z else S a : Nat) : Int)
    by_cases e : a = g
    · rw [if_pos e, if_pos e]
    · rw [if_neg e, if_neg e])
theorem SumI.owns {w : World} {sb G base : Nat} {S : Nat → Nat} (h : SumI w sb G S) (hG : G ≤ 4) (hb : base ≤ sb) : w.ownsRow base 3 1 (.slice (some ⟨sb, 0, none⟩) G G) G ((List.range G).map fun g => Value.int .i64 (S g : Nat)) := by
  obtain ⟨c, h1, h2, h3⟩ := h.1
  refine ⟨by simp, .inr ⟨sb, G, c, rfl, hb, h1, Nat.le_refl _, by unfold maxLen; omega, by rw [h2, Nat.mul_one], ?_⟩⟩
  rw [Nat.mul_one]
  apply List.ext_getElem?
  intro i
  rw [List.getElem?_take, List.getElem?_map]
  by_cases hi : i < G
  · rw [if_pos hi, List.getElem?_range hi]
    have h4 := h3 i hi
    simpa using h4
  · rw [if_neg hi, List.getElem?_eq_none (by simpa using hi)]
    rfl
theorem chF_le (d : DrwD) (hG : d.G ≤ 4) (hN : d.N ≤ 12) : ∀ (f : Nat) (P : Nat → Nat → Bool) (C : Nat → Nat → Int) (i h : Nat), chF d f P C i h ≤ 4 ^ f * 4 ^ 12
  | 0, P, C, i, h => by
    show (if _ then _ else _) ≤ _
    split
    · have h1 := cntF_le d hG (d.N - (i + 1)) (putP d P i h true) (putC d C i h true) (i + 1)
      have h2 : 4 ^ (d.N - (i + 1)) ≤ 4 ^ 12 := Nat.pow_le_pow_right (by decide) (by omega)
      rw [Nat.pow_zero, Nat.one_mul]
      omega
    · exact Nat.zero_le _
  | f + 1, P, C, i, h => by
    refine Nat.le_trans (sumNN_le (B := 4 ^ f * 4 ^ 12) d.G fun g hg => ?_) ?_
    · show (if _ then _ else _) ≤ _
      split
      · exact chF_le d hG hN f _ _ _ _
      · exact Nat.zero_le _
    · have e : (4 : Nat) ^ (f + 1) = 4 * 4 ^ f := by rw [Nat.pow_succ, Nat.mul_comm]
      rw [e, Nat.mul_assoc]
      exact Nat.mul_le_mul_right _ hG
set_option maxRecDepth 100000 in
set_option maxHeartbeats 8000000 in
theorem l12Chances_spec (lo hi X sb sc : Nat) (d : DrwD) (hsb : hi ≤ sb) (hsc : d.G ≤ sc) : ∀ (f i t : Nat) (P : Nat → Nat → Bool) (C : Nat → Nat → Int) (S : Nat → Nat) (w : World), t = i + f → i + f < d.N → DrwAt w lo hi X d P C → clubB d C i → SumI w sb d.G S → (∀ g, g < d.G → S g + chF d f P C i g ≤ 4611686018427387904) →
    Calls Try.prog 74 #[.pointer (some ⟨X, 0, none⟩), .int .i64 i, .int .i64 t, .slice (some ⟨sb, 0, none⟩) d.G sc] w fun e w' => e = .returned (.tuple #[]) ∧ DrwAt w' lo hi X d P C ∧ SumI w' sb d.G (fun g => S g + chF d f P C i g) ∧ Below lo w w' := by
  intro f
  induction f with
  | zero =>
    intro i t P C S w ht hN h hC hS hB
    have hiN : i < d.N := by omega
    have HH := Lib.hid h
    have HC := Lib.hid hC
    have HS := Lib.hid hS
    have HBB := Lib.hid hB
    have h4 : d.G ≤ 4 := h.caps.2.2.2.2.1
    have h12 : d.N ≤ 12 := h.caps.2.2.2.1
    have hcl6 := (h.club i hiN).2
    have hlh : lo < hi := Nat.lt_of_le_of_lt h.mp.low.1 h.mp.low.2
    have hls : lo ≤ w.heap.size := Nat.le_trans (Nat.le_of_lt hlh) h.mp.high
    have c4 := h.box.2 4 _ rfl
    have HSF : Hid (∀ g, chF d 0 P C i g = if fitB d P C i g = true then cntF d (d.N - (i + 1)) (putP d P i g true) (putC d C i g true) (i + 1) else 0) := fun g => rfl
    obtain ⟨ch, hch⟩ : ∃ ch, chF d 0 P C i = ch := ⟨_, rfl⟩
    rw [hch] at HBB HSF ⊢
    have g1 : ((i : Int) == (t : Int)) = true := by simp; omega
    clear h hC hS hB hch ht
    obtain ⟨G, hGG⟩ : ∃ G, d.G = G := ⟨_, rfl⟩
    have HG := Lib.hid hGG
    rw [hGG] at c4 h4 hsc HS HBB ⊢
    clear hGG
    go_enter Try.func74, Try.ntmps74
    go_wp2
    clear c4 g1
    go_loopw [18] (fun gv wr => ∃ (g : Nat), g ≤ G ∧ gv = .int .i64 g ∧ Hid (SumI wr sb G (fun a => if a < g then S a + ch a else S a)) ∧ Hid (DrwAt wr lo hi X d P C) ∧ Hid (Below lo w wr)) (fun gv _ => G - (RowKit.intOf gv).toNat)
    case atStart => exact ⟨0, Nat.zero_le _, rfl, HS.out.congr (fun a _ => by rw [if_neg (Nat.not_lt_zero _)]), HH, Below.refl _ _⟩
    case round =>
      clear HS HH
      obtain ⟨g, hg9, rfl, HS, HD, HBr⟩ := hrel
      by_cases hlt : g < G
      · have hj1 : (g : Int) < (G : Int) := by omega
        have hgG : g < d.G := by rw [HG.out]; exact hlt
        have CF := Lib.hid (l12Fits_spec wr lo hi X d P C i g HD.out hiN hgG)
        have HFF : Hid (fitB d P C i g = true → P g (d.pot i) = false) := fun h => (fit_free h).1
        have HCH := Lib.hid (HSF.out g)
        have hbd := HBB.out g hlt
        obtain ⟨ft, hft⟩ : ∃ b, fitB d P C i g = b := ⟨_, rfl⟩
        rw [hft] at CF HFF HCH
        clear hft
        go_wp2_with fail
        refine CF.out.mono ?_
        rintro e w1 ⟨rfl, b⟩
        have HD1 := Lib.hid (HD.out.below b)
        have HS1 := Lib.hid (HS.out.below b)
        have HB1 : Hid (Below lo w w1) := HBr.out.trans (b.mono (Nat.le_trans hls HBr.out.size))
        clear b CF HD HS HBr
        cases ft with
        | false =>
          have HSx : Hid (SumI w1 sb G (fun a => if a < g + 1 then S a + ch a else S a)) := HS1.out.congr fun a _ => by
            by_cases e : a = g
            · subst e
              rw [if_neg (Nat.lt_irrefl _), if_pos (Nat.lt_succ_self _), HCH.out, if_neg (by simp)]
              rfl
            · by_cases e2 : a < g
              · rw [if_pos e2, if_pos (by omega)]
              · rw [if_neg e2, if_neg (by omega)]
          clear HCH HFF
          go_wp2
          go_roundw
          case rel => exact ⟨g + 1, by omega, by go_num, HSx, HD1, HB1⟩
          case measure => simp [RowKit.intOf]; omega
        | true =>
          rw [HCH.out, if_pos rfl] at hbd
          have hcb := HC.out g _ hgG hcl6
          have CP := Lib.hid (l12Put_spec w1 lo hi X d P C i g true HD1.out hiN hgG (by omega))
          have HPB : Hid (putP d (putP d P i g true) i g false = P) := putP_back (HFF.out rfl)
          have HCB : Hid (putC d (putC d C i g true) i g false = C) := putC_back
          have HCN := Lib.hid (HC.out.put hgG hcl6)
          clear HFF
          go_wp2_with fail
          refine CP.out.mono ?_
          rintro e w2 ⟨rfl, hd2, ht2⟩
          have HD2 := Lib.hid hd2
          have HS2 := Lib.hid (HS1.out.touch ht2 hsb)
          have HB2 : Hid (Below lo w w2) := HB1.out.trans (ht2.below (Nat.le_refl _) (Nat.le_trans hls HB1.out.size))
          clear hd2 ht2 CP HD1 HS1 HB1
          have CC : Hid (∀ wa, DrwAt wa lo hi X d (putP d P i g true) (putC d C i g true) → Calls Try.prog 67 #[.pointer (some ⟨X, 0, none⟩), .int .i64 ((i : Int) + 1)] wa fun e w' => e = .returned (.int .i64 (cntF d (d.N - (i + 1)) (putP d P i g true) (putC d C i g true) (i + 1) : Nat)) ∧ DrwAt w' lo hi X d (putP d P i g true) (putC d C i g true) ∧ Touch lo hi wa w') := fun wa ha => l12Count_spec lo hi X d (d.N - (i + 1)) (i + 1) _ _ wa (by omega) ha HCN.out
          have hcn := HCN.out g _ hgG hcl6
          have CP2 := Lib.hid (fun wa ha => l12Put_spec wa lo hi X d (putP d P i g true) (putC d C i g true) i g false ha hiN hgG (by omega))
          rw [HPB.out, HCB.out] at CP2
          clear HPB HCB hcn
          obtain ⟨kk, hkk⟩ : ∃ kk, cntF d (d.N - (i + 1)) (putP d P i g true) (putC d C i g true) (i + 1) = kk := ⟨_, rfl⟩
          rw [hkk] at CC HCH hbd
          clear hkk
          have hsg : (if g < g then S g + ch g else S g) = S g := if_neg (Nat.lt_irrefl _)
          have s0 : w2.cell? ⟨sb, g, none⟩ = some (.int .i64 ((if g < g then S g + ch g else S g : Nat) : Int)) := (HS2.out.2 g hlt).1
          have f0 := (HS2.out.2 g hlt).2
          rw [hsg] at s0
          obtain ⟨sg, hSg⟩ : ∃ sg, S g = sg := ⟨_, rfl⟩
          rw [hSg] at s0 hbd
          have HSG := Lib.hid hSg
          clear hSg hsg
          have hw9 : IntKind.i64.wrap ((sg : Int) + (kk : Int)) = (sg : Int) + (kk : Int) := by rw [IntKind.wrap_i64]; omega
          have CCd := Lib.hid (CC.out w2.drew (HD2.out.below (Below.refl _ _).drew))
          have HKC : Hid (∀ wa, Touch lo hi w2 wa → wa.cell? ⟨sb, g, none⟩ = some (.int .i64 (sg : Int)) ∧ wa.frozen? ⟨sb, g, none⟩ = false) := fun wa ht => by
            have h9 : wa.cell? ⟨sb, g, none⟩ = some (.int .i64 ((if g < g then S g + ch g else S g : Nat) : Int)) ∧ wa.frozen? ⟨sb, g, none⟩ = false := (HS2.out.touch ht hsb).2 g hlt
            rw [if_neg (Nat.lt_irrefl _), HSG.out] at h9
            exact h9
          have hw8 : IntKind.i64.wrap ((i : Int) + 1) = (i : Int) + 1 := by rw [IntKind.wrap_i64]; omega
          go_wp2
          have s0d : w2.drew.cell? ⟨sb, g, none⟩ = some (.int .i64 (sg : Int)) := s0
          go_region_law
            (first | (go_simp; go_at_call 67; refine CCd.out.mono ?_; rintro e w3 ⟨rfl, hd3, ht3'⟩; have ht3 : Touch lo hi w2 w3 := (Touch.of_below (Below.refl _ _).drew).trans ht3'; have f3 := (HKC.out _ ht3).2; have e3 := (HKC.out _ ht3).1) | fail)
          all_goals (
            have hz9 : ((sg : Int) + (kk : Int)) = ((sg + kk : Nat) : Int) := by omega
            have HS4 : Hid (SumI (w3.setCell ⟨sb, g, none⟩ (.int .i64 ((sg : Int) + (kk : Int)))) sb G (fun a => if a < g + 1 then S a + ch a else S a)) := by
              rw [hz9]
              refine ((HS2.out.touch ht3 hsb).set hlt).congr fun a _ => ?_
              by_cases e : a = g
              · subst e
                rw [if_pos rfl, if_pos (Nat.lt_succ_self _), HCH.out, HSG.out]
                simp
              · rw [if_neg e]
                by_cases e2 : a < g
                · rw [if_pos e2, if_pos (by omega)]
                · rw [if_neg e2, if_neg (by omega)]
            have hsl : hi ≤ w3.heap.size := hd3.mp.high
            have HD4 := Lib.hid (hd3.belowHi (by omega) (below_setD (Below.refl hi w3) ⟨sb, g, none⟩ (.int .i64 ((sg : Int) + (kk : Int))) hsb))
            have HB4 : Hid (Below lo w (w3.setCell ⟨sb, g, none⟩ (.int .i64 ((sg : Int) + (kk : Int))))) := below_setD (HB2.out.trans (ht3.below (Nat.le_refl _) (Nat.le_trans hls HB2.out.size))) ⟨sb, g, none⟩ _ (Nat.le_trans (Nat.le_of_lt hlh) hsb)
            have CPx := Lib.hid (CP2.out _ HD4.out)
            have HZ : Hid (w.heap.size ≤ (w3.setCell ⟨sb, g, none⟩ (.int .i64 ((sg : Int) + (kk : Int)))).heap.size) := HB4.out.size
            generalize w3.setCell ⟨sb, g, none⟩ (.int .i64 ((sg : Int) + (kk : Int))) = w4 at *
            clear hz9 hd3 ht3 ht3' e3 f3 s0 s0d f0 CCd HKC HS2 HD2 HB2 CP2 CC HCH HSG
            go_wp2_with fail
            refine CPx.out.mono ?_
            rintro e w5 ⟨rfl, hd5, ht5⟩
            have HD5 := Lib.hid hd5
            have HS5 := Lib.hid (HS4.out.touch ht5 hsb)
            have HB5 : Hid (Below lo w w5) := HB4.out.trans (ht5.below (Nat.le_refl _) (Nat.le_trans hls HZ.out))
            clear hd5 ht5 CPx HD4 HS4 HB4
            go_wp2
            exact ⟨⟨g + 1, by omega, by go_num, HS5, HD5, HB5⟩, by simp [RowKit.intOf]; omega⟩)
      obtain rfl : G = g := by omega
      go_wp2
      refine bodyPost_ret (results_none rfl _ _ _) rfl ?_
      exact ⟨rfl, HD.out, HS.out.congr fun a ha => by rw [if_pos ha], HBr.out⟩
  | succ f IH =>
    intro i t P C S w ht hN h hC hS hB
    have hiN : i < d.N := by omega
    have HIH := Lib.hid IH
    have HH := Lib.hid h
    have HC := Lib.hid hC
    have HS := Lib.hid hS
    have HBB := Lib.hid hB
    have h4 : d.G ≤ 4 := h.caps.2.2.2.2.1
    have h12 : d.N ≤ 12 := h.caps.2.2.2.1
    have hcl6 := (h.club i hiN).2
    have hlh : lo < hi := Nat.lt_of_le_of_lt h.mp.low.1 h.mp.low.2
    have hls : lo ≤ w.heap.size := Nat.le_trans (Nat.le_of_lt hlh) h.mp.high
    have c4 := h.box.2 4 _ rfl
    have HT9 := Lib.hid ht
    have g1 : ((i : Int) == (t : Int)) = false := by simp; omega
    have HCD : Hid (∀ a, chF d (f + 1) P C i a = sumNN (fun g => if fitB d P C i g = true then chF d f (putP d P i g true) (putC d C i g true) (i + 1) a else 0) d.G) := fun a => rfl
    have HSM : Hid (∀ g a, sumNN (fun g => if fitB d P C i g = true then chF d f (putP d P i g true) (putC d C i g true) (i + 1) a else 0) (g + 1) = sumNN (fun g => if fitB d P C i g = true then chF d f (putP d P i g true) (putC d C i g true) (i + 1) a else 0) g + (if fitB d P C i g = true then chF d f (putP d P i g true) (putC d C i g true) (i + 1) a else 0)) := fun g a => rfl
    have HS0 : Hid (∀ a, sumNN (fun g => if fitB d P C i g = true then chF d f (putP d P i g true) (putC d C i g true) (i + 1) a else 0) 0 = 0) := fun a => rfl
    have HLE : Hid (∀ a k, k ≤ d.G → sumNN (fun g => if fitB d P C i g = true then chF d f (putP d P i g true) (putC d C i g true) (i + 1) a else 0) k ≤ sumNN (fun g => if fitB d P C i g = true then chF d f (putP d P i g true) (putC d C i g true) (i + 1) a else 0) d.G) := fun a k hk => sumNN_mono _ hk
    obtain ⟨ch, hch⟩ : ∃ ch, chF d (f + 1) P C i = ch := ⟨_, rfl⟩
    rw [hch] at HBB HCD ⊢
    obtain ⟨SM, hSM⟩ : ∃ SM : Nat → Nat → Nat, SM = fun a => sumNN (fun g => if fitB d P C i g = true then chF d f (putP d P i g true) (putC d C i g true) (i + 1) a else 0) := ⟨_, rfl⟩
    replace HCD : Hid (∀ a, ch a = SM a d.G) := fun a => by rw [hSM]; exact HCD.out a
    replace HSM : Hid (∀ g a, SM a (g + 1) = SM a g + (if fitB d P C i g = true then chF d f (putP d P i g true) (putC d C i g true) (i + 1) a else 0)) := fun g a => by rw [hSM]; exact HSM.out g a
    replace HS0 : Hid (∀ a, SM a 0 = 0) := fun a => by rw [hSM]; exact HS0.out a
    replace HLE : Hid (∀ a k, k ≤ d.G → SM a k ≤ SM a d.G) := fun a k hk => by rw [hSM]; exact HLE.out a k hk
    clear h hC hS hB hch ht hSM IH
    obtain ⟨G, hGG⟩ : ∃ G, d.G = G := ⟨_, rfl⟩
    have HG := Lib.hid hGG
    rw [hGG] at c4 h4 hsc HS HBB HCD ⊢
    clear hGG
    go_enter Try.func74, Try.ntmps74
    go_wp2
    clear c4 g1
    go_loopw [51] (fun gv wr => ∃ (g : Nat), g ≤ G ∧ gv = .int .i64 g ∧ Hid (SumI wr sb G (fun a => S a + SM a g)) ∧ Hid (DrwAt wr lo hi X d P C) ∧ Hid (Below lo w wr)) (fun gv _ => G - (RowKit.intOf gv).toNat)
    case atStart => exact ⟨0, Nat.zero_le _, rfl, HS.out.congr (fun a _ => by rw [HS0.out]; rfl), HH, Below.refl _ _⟩
    case round =>
      clear HS HH
      obtain ⟨g, hg9, rfl, HS, HD, HBr⟩ := hrel
      by_cases hlt : g < G
      · have hj1 : (g : Int) < (G : Int) := by omega
        have hgG : g < d.G := by rw [HG.out]; exact hlt
        have CF := Lib.hid (l12Fits_spec wr lo hi X d P C i g HD.out hiN hgG)
        have HFF : Hid (fitB d P C i g = true → P g (d.pot i) = false) := fun h => (fit_free h).1
        have HCH := Lib.hid (HSM.out g)
        obtain ⟨ft, hft⟩ : ∃ b, fitB d P C i g = b := ⟨_, rfl⟩
        rw [hft] at CF HFF HCH
        clear hft
        go_wp2_with fail
        refine CF.out.mono ?_
        rintro e w1 ⟨rfl, b⟩
        have HD1 := Lib.hid (HD.out.below b)
        have HS1 := Lib.hid (HS.out.below b)
        have HB1 : Hid (Below lo w w1) := HBr.out.trans (b.mono (Nat.le_trans hls HBr.out.size))
        clear b CF HD HS HBr
        cases ft with
        | false =>
          have HSx : Hid (SumI w1 sb G (fun a => S a + SM a (g + 1))) := HS1.out.congr fun a _ => by rw [HCH.out a]; simp
          clear HCH HFF
          go_wp2
          go_roundw
          case rel => exact ⟨g + 1, by omega, by go_num, HSx, HD1, HB1⟩
          case measure => simp [RowKit.intOf]; omega
        | true =>
          have hcb := HC.out g _ hgG hcl6
          have CP := Lib.hid (l12Put_spec w1 lo hi X d P C i g true HD1.out hiN hgG (by omega))
          have HPB : Hid (putP d (putP d P i g true) i g false = P) := putP_back (HFF.out rfl)
          have HCB : Hid (putC d (putC d C i g true) i g false = C) := putC_back
          have HCN := Lib.hid (HC.out.put hgG hcl6)
          clear HFF
          go_wp2_with fail
          refine CP.out.mono ?_
          rintro e w2 ⟨rfl, hd2, ht2⟩
          have HD2 := Lib.hid hd2
          have HS2 := Lib.hid (HS1.out.touch ht2 hsb)
          have HB2 : Hid (Below lo w w2) := HB1.out.trans (ht2.below (Nat.le_refl _) (Nat.le_trans hls HB1.out.size))
          clear hd2 ht2 CP HD1 HS1 HB1
          have CR := Lib.hid (HIH.out (i + 1) t _ _ _ w2 (by have := HT9.out; omega) (by omega) HD2.out HCN.out (by rw [HG.out]; exact HS2.out) (fun a ha => by
            have h1 := HBB.out a (by rw [← HG.out]; exact ha)
            have h2 := HLE.out a (g + 1) hgG
            rw [HCH.out a] at h2
            simp only [if_true] at h2
            rw [HCD.out a, ← HG.out] at h1
            show S a + SM a g + _ ≤ _
            omega))
          have hcn := HCN.out g _ hgG hcl6
          have CP2 := Lib.hid (fun wa ha => l12Put_spec wa lo hi X d (putP d P i g true) (putC d C i g true) i g false ha hiN hgG (by omega))
          rw [HPB.out, HCB.out] at CP2
          rw [HG.out] at CR
          clear HPB HCB hcn
          have HCX : Hid (∀ a, SM a (g + 1) = SM a g + chF d f (putP d P i g true) (putC d C i g true) (i + 1) a) := fun a => by rw [HCH.out a]; simp
          clear HCH
          generalize chF d f (putP d P i g true) (putC d C i g true) (i + 1) = cc at *
          go_wp2_with fail
          refine CR.out.mono ?_
          rintro e w4 ⟨rfl, hd3, hs3, hb3⟩
          have HD4 := Lib.hid hd3
          have HS4 : Hid (SumI w4 sb G (fun a => S a + SM a (g + 1))) := hs3.congr fun a _ => by rw [HCX.out a, Nat.add_assoc]
          have HB4 : Hid (Below lo w w4) := HB2.out.trans hb3
          clear hd3 hs3 hb3 CR HD2 HS2 HB2
          have CPx := Lib.hid (CP2.out _ HD4.out)
          go_wp2_with fail
          refine CPx.out.mono ?_
          rintro e w5 ⟨rfl, hd5, ht5⟩
          have HD5 := Lib.hid hd5
          have HS5 := Lib.hid (HS4.out.touch ht5 hsb)
          have HB5 : Hid (Below lo w w5) := HB4.out.trans (ht5.below (Nat.le_refl _) (Nat.le_trans hls HB4.out.size))
          clear hd5 ht5 CPx HD4 HS4 HB4
          go_wp2
          go_roundw
          case rel => exact ⟨g + 1, by omega, by go_num, HS5, HD5, HB5⟩
          case measure => simp [RowKit.intOf]; omega
      obtain rfl : G = g := by omega
      go_wp2
      refine bodyPost_end (results_none rfl _ _ _) rfl ?_
      exact ⟨rfl, HD.out, HS.out.congr fun a ha => by rw [HCD.out a], HBr.out⟩
end Go.Proofs.Ytmhkkdnopcdibaa
set_option linter.unusedVariables false
namespace Go.Proofs.Ytmhkkdnopcdibaa
open Go.RowKit

def chL (F : Nat → TeamD) (T : List (List Int)) (gr most : Int) (x : Int) : List Int :=
  if 0 ≤ placeI (fun i => ((teamAt T i : Nat) : Int)) x T.flatten.length 0 then (List.range gr.toNat).map fun g => ((chF (drwD F T gr most) (placeI (fun i => ((teamAt T i : Nat) : Int)) x T.flatten.length 0).toNat noP noC 0 g : Nat) : Int) else []
theorem chF_eq {d d' : DrwD} (h : DrwEq d d') : chF d = chF d' := by
  funext f
  induction f with
  | zero =>
    funext P C i a
    show (if fitB d P C i a = true then cntF d (d.N - (i + 1)) (Go.Proofs.Ytmhkkdnopcdibaa.putP d P i a true) (Go.Proofs.Ytmhkkdnopcdibaa.putC d C i a true) (i + 1) else 0) = _
    rw [h.N, h.fit, h.cnt, h.putP, h.putC]
    rfl
  | succ f IH =>
    funext P C i a
    show sumNN (fun g => if fitB d P C i g = true then chF d f (Go.Proofs.Ytmhkkdnopcdibaa.putP d P i g true) (Go.Proofs.Ytmhkkdnopcdibaa.putC d C i g true) (i + 1) a else 0) d.G = _
    rw [h.G, h.fit, h.putP, h.putC, IH]
    rfl
theorem placeI_lt (g : Nat → Int) (x : Int) : ∀ r k, placeI g x r k < (k : Int) + r
  | 0, k => by show (-1 : Int) < _; omega
  | r + 1, k => by
    show (if _ then _ else _) < _
    split
    · omega
    · have := placeI_lt g x r (k + 1); omega
theorem ch_small (d : DrwD) (h4 : d.G ≤ 4) (h12 : d.N ≤ 12) (f : Nat) (hf : f ≤ 12) (P : Nat → Nat → Bool) (C : Nat → Nat → Int) (i g : Nat) : chF d f P C i g ≤ 4611686018427387904 := by
  refine Nat.le_trans (chF_le d h4 h12 f P C i g) ?_
  refine Nat.le_trans (Nat.mul_le_mul_right _ (Nat.pow_le_pow_right (by decide) hf)) ?_
  decide
set_option maxRecDepth 100000 in
set_option maxHeartbeats 8000000 in
theorem chancesOf_spec (vf : Value) (nf : Nat) (F : Nat → TeamD) (vp : Value) (gr most : Int) (T : List (List Int)) (x : Int) (R : List Int) (w : World) (hR : potsP nf F T gr most → R = chL F T gr most x) (hR0 : ¬ potsP nf F T gr most → R = []) (hf : TeamRow w vf nf F) (hs : ∀ i, (F i).nm.size ≤ maxLen) (h : RdA tIntSS w [vp] T) (hw : tIntSS.wt T ≤ 1048576) :
    Calls Try.prog 40 #[vf, .agg #[vp, .int .i64 gr, .int .i64 most], .int .i64 x] w (IntsL w R) := by
  obtain ⟨pa, pc, rfl, hpn⟩ := pots_form h
  obtain ⟨r1, hr1⟩ := boolEx (potsP nf F T gr most)
  obtain ⟨U, hU⟩ : ∃ U, w.alloc (.cells #[.slice pa (List.length (α := List Int) T) pc, .int .i64 gr, .int .i64 most] 26) = U := ⟨_, rfl⟩
  have bU : Below w.heap.size w U := by rw [← hU]; exact (Below.refl _ _).alloc (Nat.le_refl _) _
  have HS : Hid (PotsAt U w.heap.size pa (List.length (α := List Int) T) pc gr most T) := by rw [← hU]; exact PotsAt.made h
  have HB := Lib.hid bU
  have HF : Hid (TeamRow U vf nf F) := hf.below bU (Nat.le_refl _)
  have CF := Lib.hid (potsOk_spec vf nf F (.slice pa (List.length (α := List Int) T) pc) gr most T r1 U hr1 HF.out hs HS.out.2 hw)
  have CN : Hid (∀ wa, TeamRow wa vf nf F → RdA tIntSS wa [.slice pa (List.length (α := List Int) T) pc] T → potsP nf F T gr most → Calls Try.prog 65 #[vf, .agg #[.slice pa (List.length (α := List Int) T) pc, .int .i64 gr, .int .i64 most]] wa (NewM wa (drwD F T gr most))) := fun wa h1 h2 h3 => l12New_spec _ _ _ _ _ _ _ wa h1 h2 hw h3
  have HR1 := Lib.hid hr1
  have HRR := Lib.hid hR
  have HR0 := Lib.hid hR0
  obtain ⟨np, hnp⟩ : ∃ np, List.length (α := List Int) T = np := ⟨_, rfl⟩
  rw [hnp] at hU HS CF CN ⊢
  have c0 := HS.out.1.2 0 _ rfl
  have c1 := HS.out.1.2 1 _ rfl
  have c2 := HS.out.1.2 2 _ rfl
  clear h hf hR hR0 hr1 bU hw hs hnp hpn
  go_enter Try.func40, Try.ntmps40
  go_wp2_with fail
  clear hU c0 c1 c2
  refine CF.out.mono ?_
  rintro e w1 ⟨rfl, b⟩
  have HS1 := Lib.hid (HS.out.below b)
  have HF1 := Lib.hid (HF.out.below b (Nat.le_refl _))
  have HB1 := Lib.hid (HB.out.trans (b.mono HB.out.size))
  clear b HS HB CF HF
  have c0 := HS1.out.1.2 0 _ rfl
  have c1 := HS1.out.1.2 1 _ rfl
  have c2 := HS1.out.1.2 2 _ rfl
  cases r1 with
  | false =>
    obtain rfl : R = [] := HR0.out fun h => by have := HR1.out.2 h; cases this
    go_wp2
    go_ret
    exact ⟨_, rfl, World.ownsRow_nil _ _ _ _, HB1.out⟩
  | true =>
  have HP := Lib.hid (HR1.out.1 rfl)
  have HRE := Lib.hid (HRR.out HP.out)
  have CN1 := Lib.hid (CN.out w1 HF1.out HS1.out.2 HP.out)
  obtain ⟨G, hGr⟩ : ∃ G : Nat, gr = (G : Int) := ⟨gr.toNat, by have := HP.out.2.1; omega⟩
  have HGR := Lib.hid hGr
  clear HR1 HRR HR0 CN hGr
  go_wp2_with fail
  clear c0 c1 c2
  refine CN1.out.mono ?_
  rintro e w2 ⟨lo, hi, X, d, rfl, hq, hdr, b, hlo⟩
  have hGr := HGR.out
  clear HGR
  have HB2 := Lib.hid (HB1.out.trans (b.mono HB1.out.size))
  have HS2 := Lib.hid (HS1.out.below b)
  have HDr := Lib.hid hdr
  have HLO : Hid (w.heap.size ≤ lo) := Nat.le_trans HB1.out.size hlo
  have h4 : d.G ≤ 4 := hdr.caps.2.2.2.2.1
  have h12 : d.N ≤ 12 := hdr.caps.2.2.2.1
  have hhi : hi ≤ w2.heap.size := hdr.mp.high
  have hlh : lo < hi := Nat.lt_of_le_of_lt hdr.mp.low.1 hdr.mp.low.2
  have hdG : d.G = G := by have h9 := hq.G; have h8 : (drwD F T gr most).G = gr.toNat := rfl; omega
  have hN0 : 0 < T.flatten.length := flat_some (by have := HP.out.2.2.2.1; omega) fun i hi => by have := (HP.out.2.2.2.2.1 i hi).1; omega
  have hNT : d.N = T.flatten.length := hq.N
  have hteam : d.team = teamAt T := hq.team
  have hrow : IntRow w2 (.slice (some ⟨d.tb, d.to, none⟩) d.N d.tc) d.N (fun i => ((teamAt T i : Nat) : Int)) := .inr ⟨d.tb, d.to, d.tc, rfl, by omega, by omega, fun i hi => by have := (hdr.team i hi).1; rw [hteam] at this; exact this, hdr.caps.2.1⟩
  have CP := Lib.hid (placeOf_spec _ _ _ x w2 hrow)
  rw [hNT] at CP
  have HPL := Lib.hid (placeI_lt (fun i => ((teamAt T i : Nat) : Int)) x T.flatten.length 0)
  have HRx : Hid (R = if 0 ≤ placeI (fun i => ((teamAt T i : Nat) : Int)) x T.flatten.length 0 then (List.range G).map fun g => ((chF d (placeI (fun i => ((teamAt T i : Nat) : Int)) x T.flatten.length 0).toNat noP noC 0 g : Nat) : Int) else []) := by
    show _ = _
    rw [HRE.out]
    unfold chL
    rw [← chF_eq hq, hGr]
    rfl
  have c2 := hdr.box.2 2 _ rfl
  have c1 := HS2.out.1.2 1 _ rfl
  have c0 := HS2.out.1.2 0 _ rfl
  have c3 := HS2.out.1.2 2 _ rfl
  rw [hNT] at c2
  rw [hGr] at c1
  obtain ⟨N, hNd⟩ : ∃ N, T.flatten.length = N := ⟨_, rfl⟩
  rw [hNd] at CP HPL HRx hNT c2
  generalize placeI (fun i => ((teamAt T i : Nat) : Int)) x N 0 = at9 at *
  clear hdr hq b hlo CN1 HRE hrow hteam hNd hN0
  subst hGr
  go_wp2_with fail
  clear c2
  refine CP.out.mono ?_
  rintro e wx ⟨rfl, rfl⟩
  by_cases hat : 0 ≤ at9
  case neg =>
    have g1 : decide (at9 < 0) = true := decide_eq_true (by omega)
    obtain rfl : R = [] := by rw [HRx.out, if_neg hat]
    go_wp2
    go_ret
    exact ⟨_, rfl, World.ownsRow_nil _ _ _ _, HB2.out⟩
  obtain ⟨f, rfl⟩ : ∃ f : Nat, at9 = f := ⟨at9.toNat, by omega⟩
  have g1 : decide ((f : Int) < 0) = false := decide_eq_false (by omega)
  have HRy : Hid (R = (List.range G).map fun g => ((chF d f noP noC 0 g : Nat) : Int)) := by show _ = _; rw [HRx.out, if_pos hat, Int.toNat_natCast]
  have hfN : 0 + f < d.N := by have := HPL.out; omega
  obtain ⟨W, hW⟩ : ∃ W, w2.alloc (.cells (madeCells #[.int .i64 0] G) 3) = W := ⟨_, rfl⟩
  have hG9 : G ≤ 4 := by omega
  have mk : ∀ w, (Instr.makeSlice 31 (.int .i64 (G : Int)) (.int .i64 (G : Int))).run Try.prog w = .ok (.slice (some ⟨w.heap.size, 0, none⟩) G G) (w.alloc (.cells (madeCells #[.int .i64 0] G) 3)) := fun w => run_make_row' _ _ _ 8 Try.underlying31 Try.infoI rfl .i64 .i64 G (by omega) (by omega) w
  have bW : Below w2.heap.size w2 W := by rw [← hW]; exact (Below.refl _ _).alloc (Nat.le_refl _) _
  have HSI : Hid (SumI W w2.heap.size d.G (fun _ => 0)) := by rw [← hW, hdG]; exact SumI.of (World.rowIs_made w2 (.int .i64 0) G 3)
  have CH := Lib.hid (l12Chances_spec lo hi X w2.heap.size G d hhi (by omega) f 0 f noP noC (fun _ => 0) W (by omega) hfN (HDr.out.below bW) (clubB.none d) HSI.out (fun g _ => by
    rw [Nat.zero_add]
    exact ch_small d h4 h12 f (by omega) noP noC 0 g))
  rw [hdG] at CH
  have HBW : Hid (Below w.heap.size w W) := HB2.out.trans (bW.mono HB2.out.size)
  have hws : w.heap.size ≤ w2.heap.size := HB2.out.size
  clear bW HSI HRx CP HPL
  go_wp2_with fail
  clear c0 c1 c3 mk
  refine CH.out.mono ?_
  rintro e w5 ⟨rfl, _, hs5, hb5⟩
  have HO5 := Lib.hid (hs5.owns hG9 hws)
  have HB5 : Hid (Below w.heap.size w w5) := HBW.out.trans (hb5.mono HLO.out)
  clear hs5 hb5 CH hW
  go_wp2
  go_ret
  have hl : ((List.range G).map fun g => ((chF d f noP noC 0 g : Nat) : Int)).length = G := by simp
  rw [HRy.out]
  refine ⟨_, rfl, ?_, HB5.out⟩
  rw [hl, List.map_map]
  have h9 := HO5.out
  simp only [Nat.zero_add] at h9
  exact h9
end Go.Proofs.Ytmhkkdnopcdibaa
set_option linter.unusedVariables false
namespace Go.Proofs.Ytmhkkdnopcdibaa
open Go.RowKit

theorem pots_rd {w : World} {v : Value} {x y : Int} {d : tPots.D} (h : RdA tPots w [v, .int .i64 x, .int .i64 y] d) : RdA tIntSS w [v] d.1 := (rd_split h).1
theorem pots_wt {d : tPots.D} (h : tPots.wt d ≤ 1048576) : tIntSS.wt d.1 ≤ 1048576 := by
  have e : tPots.wt d = tIntSS.wt d.1 + (tInt.wt d.2.1 + tInt.wt d.2.2) := rfl
  omega
theorem mks_intsD (T : List Int) : tIntS.mks T = 1 * List.length (α := Int) T := sum_const (f := tInt.mks) (fun _ => rfl) _
theorem num_ex (p : Prop) (x y : Int) : ∃ R : Int, (p → R = x) ∧ (¬ p → R = y) := by
  by_cases h : p
  · exact ⟨x, fun _ => rfl, fun h2 => absurd h h2⟩
  · exact ⟨y, fun h2 => absurd h2 h, fun _ => rfl⟩
theorem NthM.owN {w w' : World} {R : Option (List Int)} {e : Ending} (h : NthM w R e w') : ∃ v, e = .returned (.tuple #[v, .bool R.isSome]) ∧ OwN tIntS w' w.heap.size w'.heap.size [v] (R.getD []) ∧ Below w.heap.size w w' := by
  cases R with
  | none =>
    obtain ⟨rfl, b⟩ := h
    have ho : w'.ownsRow w.heap.size 3 1 (.slice none 0 0) ([] : List Int).length (([] : List Int).map (Value.int .i64)) := World.ownsRow_nil _ _ _ _
    exact ⟨_, rfl, own_ints ho (fun q hq => (ho.lt q hq).2) (Nat.le_refl _), b⟩
  | some L =>
    obtain ⟨v, rfl, ho, b⟩ := h
    exact ⟨v, rfl, own_ints ho (fun q hq => (ho.lt q hq).2) (Nat.le_refl _), b⟩
theorem IntsL.owND {w w' : World} {L : List Int} {e : Ending} (h : IntsL w L e w') : ∃ v, e = .returned v ∧ OwN tIntS w' w.heap.size w'.heap.size [v] L ∧ Below w.heap.size w w' := by
  obtain ⟨v, rfl, ho, b⟩ := h
  exact ⟨v, rfl, own_ints ho (fun q hq => (ho.lt q hq).2) (Nat.le_refl _), b⟩
theorem chL_len (F : Nat → TeamD) (T : List (List Int)) (gr most x : Int) : (chL F T gr most x).length ≤ gr.toNat := by
  unfold chL
  split
  · simp
  · exact Nat.zero_le _
theorem marks_nth {F : Nat → TeamD} {T : List (List Int)} {gr most c x : Int} (h : tIntSS.wt T ≤ 1048576) : tIntS.mks ((nthL F T gr most c x).getD []) ≤ 100000000000 := by
  rw [mks_intsD]
  have h2 := flat_wt (T := T)
  unfold nthL
  split
  · show 1 * (atF _ _ _ _ _ _).length ≤ _
    rw [atF_len]
    omega
  · exact Nat.zero_le _
theorem marks_grp {T : List (List Int)} {L : List Int} {g : Int} (h : tIntSS.wt T ≤ 1048576) : tIntS.mks (grpL T.flatten L g T.flatten.length) ≤ 100000000000 := by
  rw [mks_intsD]
  have h1 := grpL_len T.flatten L g T.flatten.length
  have h2 := flat_wt (T := T)
  omega
theorem ch_ex (nf : Nat) (F : Nat → TeamD) (T : List (List Int)) (gr most x : Int) : ∃ R : List Int, (potsP nf F T gr most → R = chL F T gr most x) ∧ (¬ potsP nf F T gr most → R = []) ∧ tIntS.mks R ≤ 100000000000 := by
  by_cases h : potsP nf F T gr most
  · refine ⟨_, fun _ => rfl, fun h2 => absurd h h2, ?_⟩
    rw [mks_intsD]
    have h1 := chL_len F T gr most x
    have h2 := h.2.1
    omega
  · exact ⟨[], fun h2 => absurd h2 h, fun _ => rfl, by rw [mks_intsD]; exact Nat.zero_le _⟩
end Go.Proofs.Ytmhkkdnopcdibaa
set_option linter.unusedVariables false
namespace Go.Proofs.Ytmhkkdnopcdibaa
open Go.RowKit

theorem teamOkI_yes (t : TeamD) (w : World) (hs : t.nm.size ≤ maxLen) (hp : teamP t) :
    Calls Try.prog 81 #[.agg #[.string t.nm, .int .i64 t.club, .int .i64 t.seed]] w fun e w' => e = .returned (.bool true) ∧ Below w.heap.size w w' := by
  obtain ⟨nm, club, seed⟩ := t
  obtain ⟨h1, h2, h3⟩ := hp
  simp only at h1 h2 h3 hs ⊢
  have H1 := Lib.hid h1
  have g1 : decide ((0 : Int) ≤ club) = true := decide_eq_true (by omega)
  have g2 : decide (club < 6) = true := decide_eq_true (by omega)
  have g3 : decide ((1 : Int) ≤ seed) = true := decide_eq_true (by omega)
  have g4 : decide (seed ≤ 8) = true := decide_eq_true (by omega)
  clear h1 h2 h3
  go_enter Try.func81, Try.ntmps81
  go_wp2_with (go_at_call 94; refine (isName_impl _ _ hs).mono ?_; rintro e w' ⟨rfl, bi⟩; obtain ⟨k0, k1, k2⟩ := var3 bi; rw [H1.out])
  go_ret
  exact ⟨rfl, ((Below.refl _ _).alloc (Nat.le_refl _) _).trans (bi.mono (by simp))⟩
theorem teamOkI_no (t : TeamD) (w : World) (hs : t.nm.size ≤ maxLen) (hp : ¬ teamP t) :
    Calls Try.prog 81 #[.agg #[.string t.nm, .int .i64 t.club, .int .i64 t.seed]] w fun e w' => e = .returned (.bool false) ∧ Below w.heap.size w w' := by
  obtain ⟨nm, club, seed⟩ := t
  unfold teamP at hp
  simp only at hp hs ⊢
  by_cases h1 : nameB nm = true
  · have H1 := Lib.hid h1
    have hp : ¬ ((0 ≤ club ∧ club ≤ 5) ∧ 1 ≤ seed ∧ seed ≤ 8) := fun h => hp ⟨h1, h⟩
    clear h1
    by_cases h2 : 0 ≤ club
    · have g1 : decide ((0 : Int) ≤ club) = true := decide_eq_true h2
      by_cases h3 : club < 6
      · have g2 : decide (club < 6) = true := decide_eq_true h3
        by_cases h4 : 1 ≤ seed
        · have g3 : decide ((1 : Int) ≤ seed) = true := decide_eq_true h4
          have g4 : decide (seed ≤ 8) = false := decide_eq_false (by omega)
          clear h2 h3 h4 hp
          go_enter Try.func81, Try.ntmps81
          go_wp2_with (go_at_call 94; refine (isName_impl _ _ hs).mono ?_; rintro e w' ⟨rfl, bi⟩; obtain ⟨k0, k1, k2⟩ := var3 bi; rw [H1.out])
          go_ret
          exact ⟨rfl, ((Below.refl _ _).alloc (Nat.le_refl _) _).trans (bi.mono (by simp))⟩
        · have g3 : decide ((1 : Int) ≤ seed) = false := decide_eq_false h4
          clear h2 h3 h4 hp
          go_enter Try.func81, Try.ntmps81
          go_wp2_with (go_at_call 94; refine (isName_impl _ _ hs).mono ?_; rintro e w' ⟨rfl, bi⟩; obtain ⟨k0, k1, k2⟩ := var3 bi; rw [H1.out])
          go_ret
          exact ⟨rfl, ((Below.refl _ _).alloc (Nat.le_refl _) _).trans (bi.mono (by simp))⟩
      · have g2 : decide (club < 6) = false := decide_eq_false h3
        clear h2 h3 hp
        go_enter Try.func81, Try.ntmps81
        go_wp2_with (go_at_call 94; refine (isName_impl _ _ hs).mono ?_; rintro e w' ⟨rfl, bi⟩; obtain ⟨k0, k1, k2⟩ := var3 bi; rw [H1.out])
        go_ret
        exact ⟨rfl, ((Below.refl _ _).alloc (Nat.le_refl _) _).trans (bi.mono (by simp))⟩
    · have g1 : decide ((0 : Int) ≤ club) = false := decide_eq_false h2
      clear h2 hp
      go_enter Try.func81, Try.ntmps81
      go_wp2_with (go_at_call 94; refine (isName_impl _ _ hs).mono ?_; rintro e w' ⟨rfl, bi⟩; obtain ⟨k0, k1, k2⟩ := var3 bi; rw [H1.out])
      go_ret
      exact ⟨rfl, ((Below.refl _ _).alloc (Nat.le_refl _) _).trans (bi.mono (by simp))⟩
  · have h1' : nameB nm = false := by simpa using h1
    have H1 := Lib.hid h1'
    clear h1 h1' hp
    go_enter Try.func81, Try.ntmps81
    go_wp2_with (go_at_call 94; refine (isName_impl _ _ hs).mono ?_; rintro e w' ⟨rfl, bi⟩; obtain ⟨k0, k1, k2⟩ := var3 bi; rw [H1.out])
    go_ret
    exact ⟨rfl, ((Below.refl _ _).alloc (Nat.le_refl _) _).trans (bi.mono (by simp))⟩
end Go.Proofs.Ytmhkkdnopcdibaa
